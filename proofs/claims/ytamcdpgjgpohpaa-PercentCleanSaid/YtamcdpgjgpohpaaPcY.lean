/-
  The walks of PercentClean and PercentJoins.
-/
import Derived.Test.YtamcdpgjgpohpaaPcW
namespace Go.Proofs.Ytamcdpgjgpohpaa
open Go.RowKit

theorem encS_len (set : Nat) (s : ByteArray) : (encS set s).size = s.size + 2 * cntH set s.data.toList := by
  have := encL_count set s.data.toList
  have e : s.data.toList.length = s.size := by simp
  have e2 : (encS set s).size = (encL set s.data.toList).length := rfl
  omega
theorem encS_has (set : Nat) (s : ByteArray) (k : Nat) (h : k < (encS set s).size) : hasB set (encS set s)[k].toNat = false :=
  encL_clean set s.data.toList _ (List.getElem_mem h)
theorem encS_again (set : Nat) (s : ByteArray) : encS set (encS set s) = encS set s := by
  show (⟨(encL set (encL set s.data.toList)).toArray⟩ : ByteArray) = encS set s
  rw [encL_again]; rfl
theorem cnt_take (set : Nat) (s : ByteArray) (k : Nat) (h : k < s.size) (b : Bool) (hb : hasB set s[k].toNat = b) : cntH set (s.data.toList.take (k + 1)) = cntH set (s.data.toList.take k) + (if b then 1 else 0) := by
  rw [take_snoc s k h]
  cases b
  · rw [cntH_snoc_no hb]; rfl
  · rw [cntH_snoc_yes hb]; rfl

set_option maxHeartbeats 1000000 in
theorem clean_walk (s : ByteArray) (set : Int) (w : World) (hs : s.size ≤ 140737488351232) (hset : (Lit.int .u8 set).wf = true) :
    Calls Try.prog 7 #[.string s, .int .u8 set] w fun e w' => e = .returned (.bool true) ∧ Below w.heap.size w w' := by
  obtain ⟨set, rfl, hset'⟩ := nat_u8 set hset
  clear hset
  by_cases hb : 1048576 < s.size
  · go_enter Try.func7, Try.ntmps7
    go_wp2_with fail
    refine (alive_any _).mono ?_
    rintro e w1 ⟨rfl, b1⟩
    have B1 := Lib.hid b1; clear b1
    go_wp2_with fail
    refine (Beyond1_yes w1.heap.size s.size _ (by unfold maxLen; omega) (by simp) hb).mono ?_
    rintro e w2 ⟨rfl, rfl⟩
    go_wp2_with fail
    refine (alive_any _).mono ?_
    rintro e w3 ⟨rfl, b3⟩
    have B3 := Lib.hid b3; clear b3
    go_wp2
    go_ret
    have h1 := B1.out.size
    exact ⟨rfl, B1.out.trans ((((Below.refl _ _).alloc (Nat.le_refl _) _).trans (B3.out.mono (by simp))).mono h1)⟩
  · obtain ⟨t, HT⟩ : ∃ t, Hid (encS set s = t) := ⟨_, Lib.hid rfl⟩
    have hts : t.size ≤ 3 * s.size := by rw [← HT.out]; exact encS_size set s
    have HTL : Hid (t.size = s.size + 2 * cntH set s.data.toList) := Lib.hid (by rw [← HT.out]; exact encS_len set s)
    have HTH : Hid (∀ k, (h : k < t.size) → hasB set t[k].toNat = false) := Lib.hid (fun k h => by
      have := HT.out; subst this; exact encS_has set s k h)
    have HTA : Hid (encS set t = t) := Lib.hid (by rw [← HT.out]; exact encS_again set s)
    obtain ⟨g, HG⟩ : ∃ g, Hid (g = w.heap.size) := ⟨_, Lib.hid rfl⟩
    rw [← HG.out]
    go_enter Try.func7, Try.ntmps7
    go_wp2_with fail
    refine (alive_any _).mono ?_
    rintro e w1 ⟨rfl, b1⟩
    have B1 := Lib.hid b1; clear b1
    go_wp2_with fail
    refine (Beyond1_no w1.heap.size s.size _ (by simp) (by omega)).mono ?_
    rintro e w2 ⟨rfl, rfl⟩
    go_wp2_with fail
    refine (Encode_any s set _ (by omega) hset').mono ?_
    rw [HT.out]
    rintro e w2 ⟨rfl, b2⟩
    have B2 : Hid (Below g w w2) := Lib.hid (by
      have h1 := B1.out.size
      rw [HG.out]
      exact B1.out.trans ((((Below.refl _ _).alloc (Nat.le_refl _) _).trans (b2.mono (by simp))).mono h1))
    clear b2 B1
    go_wp2
    go_loopw [6, 7] (fun n i wr => ∃ k : Nat, k ≤ s.size ∧ i = .int .i64 k ∧ n = .int .i64 (cntH set (s.data.toList.take k)) ∧ Hid (Below g w wr)) (fun _ i _ => s.size - (intOf i).toNat)
    case atStart => exact ⟨0, Nat.zero_le _, rfl, rfl, B2⟩
    case round =>
      clear B2
      obtain ⟨k, hk, rfl, rfl, HB⟩ := hrel
      by_cases hlt : k < s.size
      · have hby := byte_lt s[k]
        have hby' : s[k].toNat < 256 := by omega
        obtain ⟨N, HN⟩ : ∃ N : Nat, Hid (cntH set (s.data.toList.take k) = N) := ⟨_, Lib.hid rfl⟩
        have hN : N ≤ k := by
          rw [← HN.out]
          have := cntH_le set (s.data.toList.take k)
          rw [List.length_take] at this
          omega
        rw [HN.out]
        cases hh : hasB set s[k].toNat
        · have HH := Lib.hid hh
          have HC := Lib.hid (cnt_take set s k hlt _ hh)
          clear hh
          go_wp2_with fail
          refine (Has_any set _ _ hset' hby').mono ?_
          rw [HH.out]
          rintro e w3 ⟨rfl, b3⟩
          have B3 : Hid (Below g w w3) := Lib.hid (HB.out.trans (b3.mono (by have := HB.out.size; rw [HG.out]; exact this)))
          clear b3
          go_wp2
          go_roundw
          case rel => exact ⟨k + 1, by omega, by go_num, by rw [HC.out, HN.out]; rfl, B3⟩
          case measure => simp [intOf]; omega
        · have HH := Lib.hid hh
          have HC := Lib.hid (cnt_take set s k hlt _ hh)
          clear hh
          go_wp2_with fail
          refine (Has_any set _ _ hset' hby').mono ?_
          rw [HH.out]
          rintro e w3 ⟨rfl, b3⟩
          have B3 : Hid (Below g w w3) := Lib.hid (HB.out.trans (b3.mono (by have := HB.out.size; rw [HG.out]; exact this)))
          clear b3
          go_wp2
          go_roundw
          case rel => exact ⟨k + 1, by omega, by go_num, by rw [HC.out, HN.out]; go_num, B3⟩
          case measure => simp [intOf]; omega
      · obtain ⟨N, HN⟩ : ∃ N : Nat, Hid (cntH set (s.data.toList.take k) = N) := ⟨_, Lib.hid rfl⟩
        rw [HN.out]
        have HTN : Hid (t.size = s.size + 2 * N) := Lib.hid (by
          rw [HTL.out, ← HN.out, List.take_of_length_le (by simp; omega)])
        have hN : N ≤ s.size := by
          rw [← HN.out]
          have := cntH_le set (s.data.toList.take k)
          rw [List.length_take] at this
          omega
        obtain ⟨wo, rfl⟩ : ∃ wo : World, wo = wr := ⟨_, rfl⟩
        go_wp2
        go_loopw [8] (fun i wr => ∃ j : Nat, j ≤ t.size ∧ i = .int .i64 j ∧ Hid (Below g w wr)) (fun i _ => t.size - (intOf i).toNat)
        case atStart => exact ⟨0, Nat.zero_le _, rfl, HB⟩
        case round =>
          clear HB
          obtain ⟨j, hj, rfl, HB⟩ := hrel
          by_cases hlt2 : j < t.size
          · have hby := byte_lt t[j]
            have hby' : t[j].toNat < 256 := by omega
            have HH := Lib.hid (HTH.out j hlt2)
            go_wp2_with fail
            refine (Has_any set _ _ hset' hby').mono ?_
            rw [HH.out]
            rintro e w3 ⟨rfl, b3⟩
            have B3 : Hid (Below g w w3) := Lib.hid (HB.out.trans (b3.mono (by have := HB.out.size; rw [HG.out]; exact this)))
            clear b3
            go_wp2
            go_roundw
            case rel => exact ⟨j + 1, by omega, by go_num, B3⟩
            case measure => simp [intOf]; omega
          · have hE : ((t.size : Int) == (s.size : Int) + 2 * (N : Int)) = true := by rw [HTN.out]; simp
            go_wp2_with fail
            refine (Encode_any t set _ (by omega) hset').mono ?_
            rw [HTA.out]
            rintro e w3 ⟨rfl, b3⟩
            have B3 : Hid (Below g w w3) := Lib.hid (HB.out.trans (b3.mono (by have := HB.out.size; rw [HG.out]; exact this)))
            clear b3
            go_wp2
            go_ret
            exact ⟨rfl, B3.out⟩

theorem app_list (s t : ByteArray) : (s ++ t).data.toList = s.data.toList ++ t.data.toList := by simp
theorem ba_ext {s t : ByteArray} (h : s.data.toList = t.data.toList) : s = t := by
  cases s; cases t
  simp only at h
  rw [Array.toList_inj.1 h]
theorem encS_app (set : Nat) (s t : ByteArray) : encS set (s ++ t) = encS set s ++ encS set t := by
  apply ba_ext
  rw [app_list]
  show encL set (s ++ t).data.toList = encL set s.data.toList ++ encL set t.data.toList
  rw [app_list, encL_append]
theorem decS_app (s t : ByteArray) (h : opn s.data.toList = false) : decS (s ++ t) = decS s ++ decS t := by
  apply ba_ext
  rw [app_list]
  show decL (s ++ t).data.toList = decL s.data.toList ++ decL t.data.toList
  rw [app_list, dec_join _ _ h]
/-- Does a text end within three signs? As the statement asks it. -/
def openB (s : ByteArray) : Bool := opn s.data.toList
theorem openB_0 (s : ByteArray) (h : s.size = 0) : openB s = false := by
  have : s.data.toList = [] := by rw [← List.length_eq_zero_iff]; simpa using h
  rw [openB, this]; rfl
theorem beq37 (c : UInt8) : (c == 37) = (c.toNat == 37) := by
  by_cases h : c = 37
  · subst h; rfl
  · have h' : c.toNat ≠ 37 := fun e => h (UInt8.toNat_inj.1 e)
    rw [beq_eq_false_iff_ne.2 h, beq_eq_false_iff_ne.2 h']
theorem openB_1 (s : ByteArray) (h : s.size = 1) : openB s = (s[0].toNat == 37) := by
  have hl : s.data.toList.length = 1 := by simpa using h
  have g : s.data.toList[0]? = some s[0] := by rw [List.getElem?_eq_getElem (by omega)]; rfl
  match hs : s.data.toList, hl with
  | [c], _ =>
    rw [hs] at g
    have hc : c = s[0] := by simpa using g
    rw [openB, hs, ← hc]
    show (some c == some 37 || false) = (c.toNat == 37)
    rw [Bool.or_false, Option.some_beq_some, beq37]
theorem openB_2 (s : ByteArray) (h : 2 ≤ s.size) : openB s = ((s[s.size - 1].toNat == 37) || (s[s.size - 2].toNat == 37)) := by
  have hl : s.data.toList.length = s.size := by simp
  have g : ∀ j, (hj : j < s.size) → s.data.toList[j]? = some s[j] := fun j hj => by rw [List.getElem?_eq_getElem (by simp; exact hj)]; rfl
  have g1 := g (s.size - 1) (by omega)
  have g2 := g (s.size - 2) (by omega)
  rw [openB, opn, List.getLast?_eq_getElem?, hl, g1, g2, decide_eq_true h, Bool.true_and, Option.some_beq_some, Option.some_beq_some, beq37, beq37]

set_option maxHeartbeats 1000000 in
theorem joins_yes (s t : ByteArray) (set : Nat) (w : World) (hs : s.size + t.size ≤ 281474976702464) (hb : 1048576 < s.size + t.size) :
    Calls Try.prog 9 #[.string s, .string t, .int .u8 set] w fun e w' => e = .returned (.bool true) ∧ Below w.heap.size w w' := by
  go_enter Try.func9, Try.ntmps9
  go_wp2_with fail
  refine (alive_any _).mono ?_
  rintro e w1 ⟨rfl, b1⟩
  have B1 := Lib.hid b1; clear b1
  go_wp2_with fail
  refine (Beyond2_yes w1.heap.size s.size t.size _ (by simp) (by simp) hb (by unfold maxLen; omega)).mono ?_
  rintro e w2 ⟨rfl, rfl⟩
  go_wp2_with fail
  refine (alive_any _).mono ?_
  rintro e w3 ⟨rfl, b3⟩
  have B3 := Lib.hid b3; clear b3
  go_wp2
  go_ret
  have h1 := B1.out.size
  exact ⟨rfl, B1.out.trans ((((Below.refl _ _).alloc (Nat.le_refl _) _).trans (B3.out.mono (by simp))).mono h1)⟩

set_option maxHeartbeats 2000000 in
theorem joins_no (s t : ByteArray) (set : Nat) (w : World) (hset' : set < 256) (hb : s.size + t.size ≤ 1048576) :
    Calls Try.prog 9 #[.string s, .string t, .int .u8 set] w fun e w' => e = .returned (.bool true) ∧ Below w.heap.size w w' := by
  have hcat : (s ++ t).size = s.size + t.size := by simp
  have HE := Lib.hid (encS_app set s t)
  obtain ⟨a, HA⟩ : ∃ a, Hid (encS set s = a) := ⟨_, Lib.hid rfl⟩
  obtain ⟨b, HBb⟩ : ∃ b, Hid (encS set t = b) := ⟨_, Lib.hid rfl⟩
  have has : a.size ≤ 3 * s.size := by rw [← HA.out]; exact encS_size set s
  have hbs : b.size ≤ 3 * t.size := by rw [← HBb.out]; exact encS_size set t
  have HE' : Hid (encS set (s ++ t) = a ++ b) := Lib.hid (by rw [HE.out, HA.out, HBb.out])
  have HCat := Lib.hid hcat
  clear hcat HE
  have hdl : ∀ x : ByteArray, (decS x).size ≤ x.size := fun x => by
    have := decL_len x.data.toList
    have e : x.data.toList.length = x.size := by simp
    have e2 : (decS x).size = (decL x.data.toList).length := rfl
    omega
  obtain ⟨c, HC⟩ : ∃ c, Hid (decS s = c) := ⟨_, Lib.hid rfl⟩
  obtain ⟨d, HDd⟩ : ∃ d, Hid (decS t = d) := ⟨_, Lib.hid rfl⟩
  have hcs : c.size ≤ s.size := by rw [← HC.out]; exact hdl s
  have hds : d.size ≤ t.size := by rw [← HDd.out]; exact hdl t
  clear hdl
  have HDec : Hid (openB s = false → decS (s ++ t) = c ++ d) := Lib.hid (fun h => by rw [← HC.out, ← HDd.out]; exact decS_app s t h)
  obtain ⟨g, HG⟩ : ∃ g, Hid (g = w.heap.size) := ⟨_, Lib.hid rfl⟩
  rw [← HG.out]
  by_cases h0 : s.size = 0
  · have h0' : s.size ≤ 0 := by omega
    have HDec' := Lib.hid (HDec.out (openB_0 s h0))
    clear h0 HDec
    go_enter Try.func9, Try.ntmps9
    go_wp2_with fail
    refine (alive_any _).mono ?_
    rintro e w1 ⟨rfl, b1⟩
    have B1 := Lib.hid b1; clear b1
    go_wp2_with fail
    refine (Beyond2_no w1.heap.size s.size t.size _ (by simp) (by simp) hb).mono ?_
    rintro e w2 ⟨rfl, rfl⟩
    obtain ⟨wo, HW⟩ : ∃ wo, Hid (wo = w1.alloc (.cells #[.int .i64 (s.size : Int), .int .i64 (t.size : Int)] 3)) := ⟨_, Lib.hid rfl⟩
    rw [← HW.out]
    have BO : Hid (Below g w wo) := Lib.hid (by
      rw [HW.out, HG.out]; exact B1.out.alloc B1.out.size _)
    clear HW B1
    go_wp2_with fail
    refine (Encode_any (s ++ t) set _ (by rw [HCat.out]; omega) hset').mono ?_
    rw [HE'.out]
    rintro e w2 ⟨rfl, b2⟩
    have B2 : Hid (Below g w w2) := Lib.hid (BO.out.trans (b2.mono (by have := BO.out.size; rw [HG.out]; exact this)))
    clear b2 BO
    go_wp2_with fail
    refine (Encode_any s set _ (by omega) hset').mono ?_
    rw [HA.out]
    rintro e w3 ⟨rfl, b3⟩
    have B3 : Hid (Below g w w3) := Lib.hid (B2.out.trans (b3.mono (by have := B2.out.size; rw [HG.out]; exact this)))
    clear b3 B2
    go_wp2_with fail
    refine (Encode_any t set _ (by omega) hset').mono ?_
    rw [HBb.out]
    rintro e w4 ⟨rfl, b4⟩
    have B4 : Hid (Below g w w4) := Lib.hid (B3.out.trans (b4.mono (by have := B3.out.size; rw [HG.out]; exact this)))
    clear b4 B3
    go_wp2_with fail
    refine (Decode_any (s ++ t) _ (by rw [HCat.out]; omega)).mono ?_
    rw [HDec'.out]
    rintro e w5 ⟨rfl, b5⟩
    have B5 : Hid (Below g w w5) := Lib.hid (B4.out.trans (b5.mono (by have := B4.out.size; rw [HG.out]; exact this)))
    clear b5 B4
    go_wp2_with fail
    refine (Decode_any s _ (by omega)).mono ?_
    rw [HC.out]
    rintro e w6 ⟨rfl, b6⟩
    have B6 : Hid (Below g w w6) := Lib.hid (B5.out.trans (b6.mono (by have := B5.out.size; rw [HG.out]; exact this)))
    clear b6 B5
    go_wp2_with fail
    refine (Decode_any t _ (by omega)).mono ?_
    rw [HDd.out]
    rintro e w7 ⟨rfl, b7⟩
    have B7 : Hid (Below g w w7) := Lib.hid (B6.out.trans (b7.mono (by have := B6.out.size; rw [HG.out]; exact this)))
    clear b7 B6
    go_wp2
    go_ret
    exact ⟨rfl, B7.out⟩
  · have h0' : 0 < s.size := by omega
    have hp : s.size - 1 < s.size := by omega
    by_cases q1 : s[s.size - 1].toNat = 37
    · have q1I : ((s[s.size - 1].toNat : Int) == 37) = true := by rw [q1]; rfl
      clear q1 HDec h0
      go_enter Try.func9, Try.ntmps9
      go_wp2_with fail
      refine (alive_any _).mono ?_
      rintro e w1 ⟨rfl, b1⟩
      have B1 := Lib.hid b1; clear b1
      go_wp2_with fail
      refine (Beyond2_no w1.heap.size s.size t.size _ (by simp) (by simp) hb).mono ?_
      rintro e w2 ⟨rfl, rfl⟩
      obtain ⟨wo, HW⟩ : ∃ wo, Hid (wo = w1.alloc (.cells #[.int .i64 (s.size : Int), .int .i64 (t.size : Int)] 3)) := ⟨_, Lib.hid rfl⟩
      rw [← HW.out]
      have BO : Hid (Below g w wo) := Lib.hid (by
        rw [HW.out, HG.out]; exact B1.out.alloc B1.out.size _)
      clear HW B1
      go_wp2_with fail
      refine (Encode_any (s ++ t) set _ (by rw [HCat.out]; omega) hset').mono ?_
      rw [HE'.out]
      rintro e w2 ⟨rfl, b2⟩
      have B2 : Hid (Below g w w2) := Lib.hid (BO.out.trans (b2.mono (by have := BO.out.size; rw [HG.out]; exact this)))
      clear b2 BO
      go_wp2_with fail
      refine (Encode_any s set _ (by omega) hset').mono ?_
      rw [HA.out]
      rintro e w3 ⟨rfl, b3⟩
      have B3 : Hid (Below g w w3) := Lib.hid (B2.out.trans (b3.mono (by have := B2.out.size; rw [HG.out]; exact this)))
      clear b3 B2
      go_wp2_with fail
      refine (Encode_any t set _ (by omega) hset').mono ?_
      rw [HBb.out]
      rintro e w4 ⟨rfl, b4⟩
      have B4 : Hid (Below g w w4) := Lib.hid (B3.out.trans (b4.mono (by have := B3.out.size; rw [HG.out]; exact this)))
      clear b4 B3
      go_wp2
      go_ret
      exact ⟨rfl, B4.out⟩
    · have q1I : ((s[s.size - 1].toNat : Int) == 37) = false := beq_eq_false_iff_ne.2 (by omega)
      by_cases h1 : s.size = 1
      · have h1' : s.size ≤ 1 := by omega
        have HDec' := Lib.hid (HDec.out (by
          rw [openB_1 s h1]
          have e : s.size - 1 = 0 := by omega
          have e2 : s[s.size - 1] = s[0] := by simp only [e]
          rw [← e2]
          exact beq_eq_false_iff_ne.2 q1))
        have q0 : s[0].toNat ≠ 37 := by
          have e : s.size - 1 = 0 := by omega
          have e2 : s[s.size - 1] = s[0] := by simp only [e]
          rw [← e2]; exact q1
        have q0I : ((s[0].toNat : Int) == 37) = false := beq_eq_false_iff_ne.2 (by omega)
        clear q0 q1 HDec h0 h1
        go_enter Try.func9, Try.ntmps9
        go_wp2_with fail
        refine (alive_any _).mono ?_
        rintro e w1 ⟨rfl, b1⟩
        have B1 := Lib.hid b1; clear b1
        go_wp2_with fail
        refine (Beyond2_no w1.heap.size s.size t.size _ (by simp) (by simp) hb).mono ?_
        rintro e w2 ⟨rfl, rfl⟩
        obtain ⟨wo, HW⟩ : ∃ wo, Hid (wo = w1.alloc (.cells #[.int .i64 (s.size : Int), .int .i64 (t.size : Int)] 3)) := ⟨_, Lib.hid rfl⟩
        rw [← HW.out]
        have BO : Hid (Below g w wo) := Lib.hid (by
          rw [HW.out, HG.out]; exact B1.out.alloc B1.out.size _)
        clear HW B1
        go_wp2_with fail
        refine (Encode_any (s ++ t) set _ (by rw [HCat.out]; omega) hset').mono ?_
        rw [HE'.out]
        rintro e w2 ⟨rfl, b2⟩
        have B2 : Hid (Below g w w2) := Lib.hid (BO.out.trans (b2.mono (by have := BO.out.size; rw [HG.out]; exact this)))
        clear b2 BO
        go_wp2_with fail
        refine (Encode_any s set _ (by omega) hset').mono ?_
        rw [HA.out]
        rintro e w3 ⟨rfl, b3⟩
        have B3 : Hid (Below g w w3) := Lib.hid (B2.out.trans (b3.mono (by have := B2.out.size; rw [HG.out]; exact this)))
        clear b3 B2
        go_wp2_with fail
        refine (Encode_any t set _ (by omega) hset').mono ?_
        rw [HBb.out]
        rintro e w4 ⟨rfl, b4⟩
        have B4 : Hid (Below g w w4) := Lib.hid (B3.out.trans (b4.mono (by have := B3.out.size; rw [HG.out]; exact this)))
        clear b4 B3
        go_wp2_with fail
        refine (Decode_any (s ++ t) _ (by rw [HCat.out]; omega)).mono ?_
        rw [HDec'.out]
        rintro e w5 ⟨rfl, b5⟩
        have B5 : Hid (Below g w w5) := Lib.hid (B4.out.trans (b5.mono (by have := B4.out.size; rw [HG.out]; exact this)))
        clear b5 B4
        go_wp2_with fail
        refine (Decode_any s _ (by omega)).mono ?_
        rw [HC.out]
        rintro e w6 ⟨rfl, b6⟩
        have B6 : Hid (Below g w w6) := Lib.hid (B5.out.trans (b6.mono (by have := B5.out.size; rw [HG.out]; exact this)))
        clear b6 B5
        go_wp2_with fail
        refine (Decode_any t _ (by omega)).mono ?_
        rw [HDd.out]
        rintro e w7 ⟨rfl, b7⟩
        have B7 : Hid (Below g w w7) := Lib.hid (B6.out.trans (b7.mono (by have := B6.out.size; rw [HG.out]; exact this)))
        clear b7 B6
        go_wp2
        go_ret
        exact ⟨rfl, B7.out⟩
      · have h1' : 1 < s.size := by omega
        have hp2 : s.size - 2 < s.size := by omega
        by_cases q2 : s[s.size - 2].toNat = 37
        · have q2I : ((s[s.size - 2].toNat : Int) == 37) = true := by rw [q2]; rfl
          clear q1 q2 HDec h0 h1
          go_enter Try.func9, Try.ntmps9
          go_wp2_with fail
          refine (alive_any _).mono ?_
          rintro e w1 ⟨rfl, b1⟩
          have B1 := Lib.hid b1; clear b1
          go_wp2_with fail
          refine (Beyond2_no w1.heap.size s.size t.size _ (by simp) (by simp) hb).mono ?_
          rintro e w2 ⟨rfl, rfl⟩
          obtain ⟨wo, HW⟩ : ∃ wo, Hid (wo = w1.alloc (.cells #[.int .i64 (s.size : Int), .int .i64 (t.size : Int)] 3)) := ⟨_, Lib.hid rfl⟩
          rw [← HW.out]
          have BO : Hid (Below g w wo) := Lib.hid (by
            rw [HW.out, HG.out]; exact B1.out.alloc B1.out.size _)
          clear HW B1
          go_wp2_with fail
          refine (Encode_any (s ++ t) set _ (by rw [HCat.out]; omega) hset').mono ?_
          rw [HE'.out]
          rintro e w2 ⟨rfl, b2⟩
          have B2 : Hid (Below g w w2) := Lib.hid (BO.out.trans (b2.mono (by have := BO.out.size; rw [HG.out]; exact this)))
          clear b2 BO
          go_wp2_with fail
          refine (Encode_any s set _ (by omega) hset').mono ?_
          rw [HA.out]
          rintro e w3 ⟨rfl, b3⟩
          have B3 : Hid (Below g w w3) := Lib.hid (B2.out.trans (b3.mono (by have := B2.out.size; rw [HG.out]; exact this)))
          clear b3 B2
          go_wp2_with fail
          refine (Encode_any t set _ (by omega) hset').mono ?_
          rw [HBb.out]
          rintro e w4 ⟨rfl, b4⟩
          have B4 : Hid (Below g w w4) := Lib.hid (B3.out.trans (b4.mono (by have := B3.out.size; rw [HG.out]; exact this)))
          clear b4 B3
          go_wp2
          go_ret
          exact ⟨rfl, B4.out⟩
        · have q2I : ((s[s.size - 2].toNat : Int) == 37) = false := beq_eq_false_iff_ne.2 (by omega)
          have HDec' := Lib.hid (HDec.out (by
            rw [openB_2 s (by omega), beq_eq_false_iff_ne.2 q1, beq_eq_false_iff_ne.2 q2]; rfl))
          clear q1 q2 HDec h0 h1
          go_enter Try.func9, Try.ntmps9
          go_wp2_with fail
          refine (alive_any _).mono ?_
          rintro e w1 ⟨rfl, b1⟩
          have B1 := Lib.hid b1; clear b1
          go_wp2_with fail
          refine (Beyond2_no w1.heap.size s.size t.size _ (by simp) (by simp) hb).mono ?_
          rintro e w2 ⟨rfl, rfl⟩
          obtain ⟨wo, HW⟩ : ∃ wo, Hid (wo = w1.alloc (.cells #[.int .i64 (s.size : Int), .int .i64 (t.size : Int)] 3)) := ⟨_, Lib.hid rfl⟩
          rw [← HW.out]
          have BO : Hid (Below g w wo) := Lib.hid (by
            rw [HW.out, HG.out]; exact B1.out.alloc B1.out.size _)
          clear HW B1
          go_wp2_with fail
          refine (Encode_any (s ++ t) set _ (by rw [HCat.out]; omega) hset').mono ?_
          rw [HE'.out]
          rintro e w2 ⟨rfl, b2⟩
          have B2 : Hid (Below g w w2) := Lib.hid (BO.out.trans (b2.mono (by have := BO.out.size; rw [HG.out]; exact this)))
          clear b2 BO
          go_wp2_with fail
          refine (Encode_any s set _ (by omega) hset').mono ?_
          rw [HA.out]
          rintro e w3 ⟨rfl, b3⟩
          have B3 : Hid (Below g w w3) := Lib.hid (B2.out.trans (b3.mono (by have := B2.out.size; rw [HG.out]; exact this)))
          clear b3 B2
          go_wp2_with fail
          refine (Encode_any t set _ (by omega) hset').mono ?_
          rw [HBb.out]
          rintro e w4 ⟨rfl, b4⟩
          have B4 : Hid (Below g w w4) := Lib.hid (B3.out.trans (b4.mono (by have := B3.out.size; rw [HG.out]; exact this)))
          clear b4 B3
          go_wp2_with fail
          refine (Decode_any (s ++ t) _ (by rw [HCat.out]; omega)).mono ?_
          rw [HDec'.out]
          rintro e w5 ⟨rfl, b5⟩
          have B5 : Hid (Below g w w5) := Lib.hid (B4.out.trans (b5.mono (by have := B4.out.size; rw [HG.out]; exact this)))
          clear b5 B4
          go_wp2_with fail
          refine (Decode_any s _ (by omega)).mono ?_
          rw [HC.out]
          rintro e w6 ⟨rfl, b6⟩
          have B6 : Hid (Below g w w6) := Lib.hid (B5.out.trans (b6.mono (by have := B5.out.size; rw [HG.out]; exact this)))
          clear b6 B5
          go_wp2_with fail
          refine (Decode_any t _ (by omega)).mono ?_
          rw [HDd.out]
          rintro e w7 ⟨rfl, b7⟩
          have B7 : Hid (Below g w w7) := Lib.hid (B6.out.trans (b7.mono (by have := B6.out.size; rw [HG.out]; exact this)))
          clear b7 B6
          go_wp2
          go_ret
          exact ⟨rfl, B7.out⟩

theorem joins_walk (s t : ByteArray) (set : Int) (w : World) (hs : s.size ≤ 140737488351232) (ht : t.size ≤ 140737488351232) (hset : (Lit.int .u8 set).wf = true) :
    Calls Try.prog 9 #[.string s, .string t, .int .u8 set] w fun e w' => e = .returned (.bool true) ∧ Below w.heap.size w w' := by
  obtain ⟨set, rfl, hset'⟩ := nat_u8 set hset
  by_cases hb : 1048576 < s.size + t.size
  · exact joins_yes s t set w (by omega) hb
  · exact joins_no s t set w hset' (by omega)

end Go.Proofs.Ytamcdpgjgpohpaa
