/-
  The walk of PunyBack.
-/
import Derived.Test.YtgmjfnddeogfdaaDoorPbM
import Derived.Test.YtgmjfnddeogfdaaDoorLbM
namespace Go.Proofs.YtgmjfnddeogfdaaDoor
open Go.RowKit

/-- A row of bytes as a text. -/
def tx (l : List UInt8) : ByteArray := ⟨l.toArray⟩
def lo7 (c : UInt8) : Bool := decide (c.toNat < 128)
theorem enc_filter {x : Nat} (hb : badS x = false) : (encN x).filter lo7 = if x < 128 then [UInt8.ofNat x] else [] := by
  by_cases a1 : x < 128
  · rw [enc1 a1, if_pos a1]
    have : lo7 (UInt8.ofNat x) = true := by rw [lo7, decide_eq_true_eq, nat8 (by omega)]; exact a1
    simp [this]
  · rw [if_neg a1]
    have hn : ∀ n, 128 ≤ n → n < 256 → lo7 (UInt8.ofNat n) = false := fun n h1 h2 => by rw [lo7, nat8 h2]; simp; omega
    have hx := (badS_false.1 hb).1
    by_cases a2 : x < 2048
    · rw [enc2 (by omega) a2]
      rw [List.filter_eq_nil_iff]
      intro c hc
      simp only [List.mem_cons, List.not_mem_nil, or_false] at hc
      rcases hc with rfl | rfl <;> (rw [hn _ (by omega) (by omega)]; exact Bool.false_ne_true)
    · by_cases a3 : x < 65536
      · rw [enc3 hb (by omega) a3]
        rw [List.filter_eq_nil_iff]
        intro c hc
        simp only [List.mem_cons, List.not_mem_nil, or_false] at hc
        rcases hc with rfl | rfl | rfl <;> (rw [hn _ (by omega) (by omega)]; exact Bool.false_ne_true)
      · rw [enc4 hb (by omega)]
        rw [List.filter_eq_nil_iff]
        intro c hc
        simp only [List.mem_cons, List.not_mem_nil, or_false] at hc
        rcases hc with rfl | rfl | rfl | rfl <;> (rw [hn _ (by omega) (by omega)]; exact Bool.false_ne_true)
theorem bytes_filter : ∀ L : List Nat, (∀ x ∈ L, badS x = false) → (bytesL L).filter lo7 = plL L
  | [], _ => rfl
  | x :: L, h => by
    have e : bytesL (x :: L) = encN x ++ bytesL L := rfl
    rw [e, List.filter_append, bytes_filter L (fun y hy => h y (List.mem_cons_of_mem _ hy)), enc_filter (h x (by simp))]
    by_cases hx : x < 128 <;> simp [plL, hx]
theorem one_byte (s : ByteArray) (k : Nat) (h : k < s.size) : s.extract k (k + 1) = tx [s[k]] := by
  apply ByteArray.ext
  apply Array.toList_inj.1
  rw [ByteArray.data_extract, Array.toList_extract]
  simp only [List.extract_eq_take_drop, Nat.add_sub_cancel_left]
  rw [drop_at s k h]; rfl
theorem tx_cat (a b : List UInt8) : tx a ++ tx b = tx (a ++ b) := by
  apply ByteArray.ext; simp [tx]

set_option maxRecDepth 100000 in
set_option maxHeartbeats 4000000 in
theorem back_walk (s : ByteArray) (w : World) (hs : s.size ≤ 140737488351232) (hV : Vld w) :
    Calls Tryd.prog 4 #[.string s] w fun e w' => e = .returned (.bool true) ∧ Below w.heap.size w w' := by
  have HV := Lib.hid hV; clear hV
  by_cases h1000 : 1000 < s.size
  · go_enter Tryd.func4, Tryd.ntmps4
    go_wp2_with fail
    refine (alive2_any _ HV.out).mono ?_
    rintro e w1 ⟨rfl, b1⟩
    have Z1 : Hid (Below w.heap.size w w1) := Lib.hid b1
    clear b1
    have hI : (1000 : Int) < (s.size : Int) := by omega
    go_wp2_with fail
    refine (alive2_any _ (HV.out.later Z1.out)).mono ?_
    rintro e w2 ⟨rfl, b2⟩
    have Z2 : Hid (Below w.heap.size w w2) := Lib.hid (Z1.out.trans (b2.mono Z1.out.size))
    clear b2
    go_wp2
    go_ret
    exact ⟨rfl, Z2.out⟩
  have hI : (s.size : Int) ≤ 1000 := by omega
  have hs1 : s.size ≤ 1000 := by omega
  cases hL : sgO s s.size 0 with
  | none =>
    have C1 : Hid (∀ w, Vld w → Calls Tryd.prog 14 #[.string s] w fun e w' => e = .returned (.tuple #[.string ⟨#[]⟩, .int .i64 4]) ∧ Below w.heap.size w w') := Lib.hid (fun w hV => by
      have := Encode_of s w (by unfold maxLen; omega) (hV.here s (by omega))
      rwa [refEncT_none (by omega) hL] at this)
    clear hL h1000
    go_enter Tryd.func4, Tryd.ntmps4
    go_wp2_with fail
    refine (alive2_any _ HV.out).mono ?_
    rintro e w1 ⟨rfl, b1⟩
    have Z1 : Hid (Below w.heap.size w w1) := Lib.hid b1
    clear b1
    go_wp2_with fail
    refine (C1.out _ (HV.out.later Z1.out)).mono ?_
    rintro e w2 ⟨rfl, b2⟩
    have Z2 : Hid (Below w.heap.size w w2) := Lib.hid (Z1.out.trans (b2.mono Z1.out.size))
    clear b2
    go_wp2
    go_ret
    exact ⟨rfl, Z2.out⟩
  | some L =>
    obtain ⟨hb1, hb2, hb3⟩ := enc_back s hs1 L hL
    obtain ⟨hby, hbad⟩ := bytes_sgO s s.size 0 L (by omega) hL
    rw [List.drop_zero] at hby
    obtain ⟨F, HF⟩ : ∃ F : ByteArray, Hid ((⟨(docE L).toArray⟩ : ByteArray) = F) := ⟨_, Lib.hid rfl⟩
    rw [HF.out] at hb1
    have hFs : F.size ≤ 20000 := by rw [← HF.out]; exact hb3
    have HFd : Hid (F.data.toList = docE L) := Lib.hid (by rw [← HF.out])
    have HFp : Hid (∀ k (h : k < F.size), F[k].toNat < 128) := Lib.hid (fun k h => plain_at (by rw [HFd.out]; exact hb2) k h)
    have C1 : Hid (∀ w, Vld w → Calls Tryd.prog 14 #[.string s] w fun e w' => e = .returned (.tuple #[.string F, .int .i64 0]) ∧ Below w.heap.size w w') := Lib.hid (fun w hV => by
      have := Encode_of s w (by unfold maxLen; omega) (hV.here s (by omega))
      rw [refEncT_some (by omega) hL, HF.out] at this
      exact this)
    have C2 : Hid (∀ w, Calls Tryd.prog 15 #[.string F] w fun e w' => e = .returned (.tuple #[.string s, .int .i64 0]) ∧ Below w.heap.size w w') := Lib.hid (fun w => by
      have := Decode_any F w (by unfold maxLen; omega)
      rwa [hb1] at this)
    have HPl : Hid (s.data.toList.filter lo7 = plL L) := Lib.hid (by rw [← hby]; exact bytes_filter L hbad)
    have HFS : Hid (docE L = plL L ++ (if plL L = [] then [] else [45]) ++ docOut (plL L).length L L.length 0 128 (plL L).length 72) := Lib.hid rfl
    clear hL h1000 hb1 hb2 hb3 hby hbad
    go_enter Tryd.func4, Tryd.ntmps4
    go_wp2_with fail
    refine (alive2_any _ HV.out).mono ?_
    rintro e w1 ⟨rfl, b1⟩
    have Z1 : Hid (Below w.heap.size w w1) := Lib.hid b1
    clear b1
    go_wp2_with fail
    refine (C1.out _ (HV.out.later Z1.out)).mono ?_
    rintro e w2 ⟨rfl, b2⟩
    have Z2 : Hid (Below w.heap.size w w2) := Lib.hid (Z1.out.trans (b2.mono Z1.out.size))
    clear b2
    go_wp2
    go_loop [5, 6] (fun p i => ∃ k : Nat, k ≤ s.size ∧ i = .int .i64 k ∧ p = .string (tx ((s.data.toList.take k).filter lo7))) (fun _ i => s.size - (intOf i).toNat)
    case atStart => exact ⟨0, Nat.zero_le _, rfl, rfl⟩
    case round =>
      obtain ⟨k, hk, rfl, rfl⟩ := hrel
      obtain ⟨P, HP⟩ : ∃ P, Hid (tx ((s.data.toList.take k).filter lo7) = P) := ⟨_, Lib.hid rfl⟩
      have hPs : P.size ≤ 1000 := by
        have : P.size = ((s.data.toList.take k).filter lo7).length := by rw [← HP.out]; rfl
        rw [this]
        have h1 := List.length_filter_le lo7 (s.data.toList.take k)
        rw [List.length_take] at h1; omega
      rw [HP.out]
      by_cases hlt : k < s.size
      · have HT := Lib.hid (take_snoc s k hlt)
        by_cases hc : s[k].toNat < 128
        · have hcI : (s[k].toNat : Int) < 128 := by omega
          have HN : Hid (P ++ s.extract k (k + 1) = tx ((s.data.toList.take (k + 1)).filter lo7)) := Lib.hid (by
            rw [HT.out, one_byte s k hlt, ← HP.out, tx_cat, List.filter_append]
            have : lo7 s[k] = true := by rw [lo7, decide_eq_true_eq]; exact hc
            simp [this])
          have hz1 : ¬ 9223372036854775807 < P.size + (min (k + 1) s.size - k) := by omega
          clear hc
          go_wp2
          go_round
          case rel => exact ⟨k + 1, by omega, by go_num, congrArg Value.string HN.out⟩
          case measure => simp [intOf]; omega
        · have hcI : 128 ≤ (s[k].toNat : Int) := by omega
          have HN : Hid (P = tx ((s.data.toList.take (k + 1)).filter lo7)) := Lib.hid (by
            rw [HT.out, ← HP.out, List.filter_append]
            have : lo7 s[k] = false := by rw [lo7, decide_eq_false_iff_not]; exact hc
            simp [this])
          clear hc
          go_wp2
          go_round
          case rel => exact ⟨k + 1, by omega, by go_num, congrArg Value.string HN.out⟩
          case measure => simp [intOf]; omega
      · have HP2 : Hid (P.data.toList = plL L) := Lib.hid (by
          rw [← HP.out, ← HPl.out, List.take_of_length_le (by simp; omega)]; rfl)
        have hkI : (s.size : Int) ≤ (k : Int) := by omega
        clear HP hlt
        go_wp2
        go_loop [7] (fun i => ∃ j : Nat, j ≤ F.size ∧ i = .int .i64 j) (fun i => F.size - (intOf i).toNat)
        case atStart => exact ⟨0, Nat.zero_le _, rfl⟩
        case round =>
          obtain ⟨j, hj, rfl⟩ := hrel
          by_cases hlt : j < F.size
          · have hcI : (F[j].toNat : Int) < 128 := by have := HFp.out j hlt; omega
            go_wp2
            go_round
            case rel => exact ⟨j + 1, by omega, by go_num⟩
            case measure => simp [intOf]; omega
          · have hjI : (F.size : Int) ≤ (j : Int) := by omega
            by_cases he : plL L = []
            · have hem : P.toList.isEmpty = true := by rw [ByteArray.toList_eq, HP2.out, he]; rfl
              have hP0 : P.size = 0 := by have := congrArg List.length HP2.out; rw [he] at this; simpa using this
              have heq : ((F.extract 0 P.size).toList == P.toList) = true := by
                rw [beq_iff_eq, ByteArray.toList_eq, ByteArray.toList_eq, HP2.out, he, hP0]; simp
              have HP0 := Lib.hid hP0
              have hle : P.size ≤ F.size := by omega
              clear he hP0
              go_wp2_with fail
              refine (C2.out _).mono ?_
              rintro e w3 ⟨rfl, b3⟩
              have Z3 : Hid (Below w.heap.size w w3) := Lib.hid (Z2.out.trans (b3.mono Z2.out.size))
              clear b3
              go_wp2
              go_ret
              exact ⟨rfl, Z3.out⟩
            · have hem : P.toList.isEmpty = false := by
                rw [ByteArray.toList_eq, HP2.out, ← Bool.not_eq_true, List.isEmpty_iff]; exact he
              have hFd : F.data.toList = (plL L ++ [45]) ++ docOut (plL L).length L L.length 0 128 (plL L).length 72 := by rw [HFd.out, HFS.out, if_neg he]
              have hPl : (plL L).length = P.size := by have := congrArg List.length HP2.out; simpa using this.symm
              have hle : P.size + 1 ≤ F.size := by
                have := congrArg List.length hFd
                rw [show F.data.toList.length = F.size by simp, List.length_append, List.length_append, hPl] at this
                simp at this; omega
              have heq : ((F.extract 0 (P.size + 1)).toList == (P ++ (⟨#[45]⟩ : ByteArray)).toList) = true := by
                rw [beq_iff_eq, ByteArray.toList_eq, ByteArray.toList_eq, ByteArray.data_append, Array.toList_append, HP2.out]
                show (F.extract 0 (P.size + 1)).data.toList = plL L ++ [45]
                rw [exTake, hFd, List.take_left' (by rw [List.length_append, hPl]; rfl)]
              have hz1 : ¬ 9223372036854775807 < P.size + 1 := by omega
              clear he hFd hPl
              go_wp2_with fail
              refine (C2.out _).mono ?_
              rintro e w3 ⟨rfl, b3⟩
              have Z3 : Hid (Below w.heap.size w w3) := Lib.hid (Z2.out.trans (b3.mono Z2.out.size))
              clear b3
              go_wp2
              go_ret
              exact ⟨rfl, Z3.out⟩

end Go.Proofs.YtgmjfnddeogfdaaDoor
