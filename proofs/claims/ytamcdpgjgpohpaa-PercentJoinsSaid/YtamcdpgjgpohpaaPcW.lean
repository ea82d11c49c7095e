/-
  The walks of PercentHas, PercentEncodes, PercentDecodes, PercentBack.
-/
import Derived.Test.YtamcdpgjgpohpaaPcS
import Derived.Test.YtamcdpgjgpohpaaPcT
import Derived.Test.YtamcdpgjgpohpaaPcV
import Derived.Test.YtamcdpgjgpohpaaBey
namespace Go.Proofs.Ytamcdpgjgpohpaa
open Go.RowKit

theorem nat_u8 (n : Int) (h : (Lit.int .u8 n).wf = true) : ∃ m : Nat, n = (m : Int) ∧ m < 256 := by
  have a1 : IntKind.u8.min = 0 := rfl
  have a2 : IntKind.u8.max = 255 := rfl
  simp only [Lit.wf, Bool.and_eq_true, decide_eq_true_eq] at h
  exact ⟨n.toNat, by omega, by omega⟩

set_option maxHeartbeats 400000 in
theorem has_walk (set c : Int) (w : World) (hset : (Lit.int .u8 set).wf = true) (hc : (Lit.int .u8 c).wf = true) :
    Calls Try.prog 3 #[.int .u8 set, .int .u8 c] w fun e w' => e = .returned (.bool true) ∧ Below w.heap.size w w' := by
  obtain ⟨set, rfl, hset'⟩ := nat_u8 set hset
  obtain ⟨c, rfl, hc'⟩ := nat_u8 c hc
  clear hset hc
  obtain ⟨b, HB⟩ : ∃ b, Hid (hasB set c = b) := ⟨_, Lib.hid rfl⟩
  go_enter Try.func3, Try.ntmps3
  go_wp2_with fail
  refine (Has_any set c _ hset' hc').mono ?_
  rw [HB.out]
  rintro e w1 ⟨rfl, b1⟩
  have B1 := Lib.hid b1; clear b1
  go_wp2_with fail
  refine (RefHas_any set c _ hset' hc').mono ?_
  rw [HB.out]
  rintro e w2 ⟨rfl, rfl⟩
  cases b
  · go_wp2
    go_ret
    exact ⟨rfl, B1.out⟩
  · go_wp2
    go_ret
    exact ⟨rfl, B1.out⟩

set_option maxHeartbeats 400000 in
theorem encodes_walk (s : ByteArray) (set : Int) (w : World) (hs : s.size ≤ 140737488351232) (hset : (Lit.int .u8 set).wf = true) :
    Calls Try.prog 4 #[.string s, .int .u8 set] w fun e w' => e = .returned (.bool true) ∧ Below w.heap.size w w' := by
  obtain ⟨set, rfl, hset'⟩ := nat_u8 set hset
  clear hset
  by_cases hb : 1048576 < s.size
  · go_enter Try.func4, Try.ntmps4
    go_wp2_with fail
    refine (Beyond1_yes w.heap.size s.size _ (by unfold maxLen; omega) (by simp) hb).mono ?_
    rintro e w1 ⟨rfl, rfl⟩
    go_wp2
    go_ret
    exact ⟨rfl, (Below.refl _ _).alloc (Nat.le_refl _) _⟩
  · go_enter Try.func4, Try.ntmps4
    go_wp2_with fail
    refine (Beyond1_no w.heap.size s.size _ (by simp) (by omega)).mono ?_
    rintro e w1 ⟨rfl, rfl⟩
    obtain ⟨t, HT⟩ : ∃ t, Hid (encS set s = t) := ⟨_, Lib.hid rfl⟩
    go_wp2_with fail
    refine (Encode_any s set _ (by omega) hset').mono ?_
    rw [HT.out]
    rintro e w1 ⟨rfl, b1⟩
    have B1 := Lib.hid b1; clear b1
    go_wp2_with fail
    refine (RefEncode_any s set _ (by omega) hset').mono ?_
    rw [HT.out]
    rintro e w2 ⟨rfl, b2⟩
    have B2 := Lib.hid b2; clear b2
    go_wp2
    go_ret
    exact ⟨rfl, ((Below.refl _ _).alloc (Nat.le_refl _) _).trans ((B1.out.trans (B2.out.mono B1.out.size)).mono (by simp))⟩

set_option maxHeartbeats 400000 in
theorem decodes_walk (s : ByteArray) (w : World) (hs : s.size ≤ 140737488351232) :
    Calls Try.prog 5 #[.string s] w fun e w' => e = .returned (.bool true) ∧ Below w.heap.size w w' := by
  by_cases hb : 1048576 < s.size
  · go_enter Try.func5, Try.ntmps5
    go_wp2_with fail
    refine (Beyond1_yes w.heap.size s.size _ (by unfold maxLen; omega) (by simp) hb).mono ?_
    rintro e w1 ⟨rfl, rfl⟩
    go_wp2
    go_ret
    exact ⟨rfl, (Below.refl _ _).alloc (Nat.le_refl _) _⟩
  · go_enter Try.func5, Try.ntmps5
    go_wp2_with fail
    refine (Beyond1_no w.heap.size s.size _ (by simp) (by omega)).mono ?_
    rintro e w1 ⟨rfl, rfl⟩
    obtain ⟨t, HT⟩ : ∃ t, Hid (decS s = t) := ⟨_, Lib.hid rfl⟩
    go_wp2_with fail
    refine (Decode_any s _ (by omega)).mono ?_
    rw [HT.out]
    rintro e w1 ⟨rfl, b1⟩
    have B1 := Lib.hid b1; clear b1
    go_wp2_with fail
    refine (RefDecode_any s _ (by omega)).mono ?_
    rw [HT.out]
    rintro e w2 ⟨rfl, b2⟩
    have B2 := Lib.hid b2; clear b2
    go_wp2
    go_ret
    exact ⟨rfl, ((Below.refl _ _).alloc (Nat.le_refl _) _).trans ((B1.out.trans (B2.out.mono B1.out.size)).mono (by simp))⟩

theorem no37 (s : ByteArray) (h : ∀ k, (hk : k < s.size) → s[k].toNat ≠ 37) : ∀ x ∈ s.data.toList, x ≠ 37 := by
  intro x hx he
  obtain ⟨k, hk, rfl⟩ := List.mem_iff_getElem.1 hx
  have hk' : k < s.size := by simpa using hk
  refine h k hk' ?_
  show (s.data.toList[k]).toNat = 37
  rw [he]; rfl
theorem encS_size (set : Nat) (s : ByteArray) : (encS set s).size ≤ 3 * s.size := by
  have := encL_len set s.data.toList
  have e : s.data.toList.length = s.size := by simp
  have e2 : (encS set s).size = (encL set s.data.toList).length := rfl
  omega
theorem dec_encS (set : Nat) (s : ByteArray) (h : ∀ k, (hk : k < s.size) → s[k].toNat ≠ 37) : decS (encS set s) = s := by
  unfold decS encS
  show (⟨(decL (encL set s.data.toList)).toArray⟩ : ByteArray) = s
  rw [dec_enc set _ (no37 s h)]

set_option maxHeartbeats 1000000 in
theorem back_walk (s : ByteArray) (set : Int) (w : World) (hs : s.size ≤ 140737488351232) (hset : (Lit.int .u8 set).wf = true) :
    Calls Try.prog 6 #[.string s, .int .u8 set] w fun e w' => e = .returned (.bool true) ∧ Below w.heap.size w w' := by
  obtain ⟨set, rfl, hset'⟩ := nat_u8 set hset
  clear hset
  by_cases hb : 1048576 < s.size
  · go_enter Try.func6, Try.ntmps6
    go_wp2_with fail
    refine (alive_any _).mono ?_
    rintro e w1 ⟨rfl, b1⟩
    have B1 := Lib.hid b1; clear b1
    go_wp2_with fail
    refine (Beyond1_yes w1.heap.size s.size _ (by unfold maxLen; omega) (by simp) hb).mono ?_
    rintro e w2 ⟨rfl, rfl⟩
    go_wp2_with fail
    refine (alive_any _).mono ?_
    rintro e w3 ⟨rfl, b3⟩
    have B3 := Lib.hid b3; clear b3
    go_wp2
    go_ret
    have h1 := B1.out.size
    exact ⟨rfl, B1.out.trans ((((Below.refl _ _).alloc (Nat.le_refl _) _).trans (B3.out.mono (by simp))).mono h1)⟩
  · go_enter Try.func6, Try.ntmps6
    go_wp2_with fail
    refine (alive_any _).mono ?_
    rintro e w1 ⟨rfl, b1⟩
    have B1 := Lib.hid b1; clear b1
    go_wp2_with fail
    refine (Beyond1_no w1.heap.size s.size _ (by simp) (by omega)).mono ?_
    rintro e w2 ⟨rfl, rfl⟩
    obtain ⟨wo, HW⟩ : ∃ wo, Hid (wo = w1.alloc (.cells #[.int .i64 (s.size : Int)] 3)) := ⟨_, Lib.hid rfl⟩
    rw [← HW.out]
    have BO : Hid (Below w.heap.size w wo) := Lib.hid (by
      rw [HW.out]; exact B1.out.alloc B1.out.size _)
    go_wp2
    go_loop [5] (fun i => ∃ k : Nat, k ≤ s.size ∧ i = .int .i64 k ∧ Hid (∀ j, (hj : j < s.size) → j < k → s[j].toNat ≠ 37)) (fun i => s.size - (intOf i).toNat)
    case atStart => exact ⟨0, Nat.zero_le _, rfl, Lib.hid (fun j _ h => absurd h (Nat.not_lt_zero _))⟩
    case round =>
      obtain ⟨k, hk, rfl, HN⟩ := hrel
      by_cases hlt : k < s.size
      · have hby := byte_lt s[k]
        by_cases h37 : s[k].toNat = 37
        · have hcI : ((s[k].toNat : Int) == 37) = true := by rw [h37]; rfl
          clear h37
          go_wp2
          go_ret
          exact ⟨rfl, BO.out⟩
        · have hcI : ((s[k].toNat : Int) == 37) = false := beq_eq_false_iff_ne.2 (by omega)
          have HN' : Hid (∀ j, (hj : j < s.size) → j < k + 1 → s[j].toNat ≠ 37) := Lib.hid (fun j hj h => by
            by_cases e : j = k
            · subst e; exact h37
            · exact HN.out j hj (by omega))
          clear h37
          go_wp2
          go_round
          case rel => exact ⟨k + 1, by omega, by go_num, HN'⟩
          case measure => simp [intOf]; omega
      · have HD : Hid (decS (encS set s) = s) := Lib.hid (dec_encS set s (fun j hj => HN.out j hj (by omega)))
        have hsz := encS_size set s
        obtain ⟨t, HT⟩ : ∃ t, Hid (encS set s = t) := ⟨_, Lib.hid rfl⟩
        rw [HT.out] at HD hsz
        go_wp2_with fail
        refine (Encode_any s set _ (by omega) hset').mono ?_
        rw [HT.out]
        rintro e w3 ⟨rfl, b3⟩
        have B3 := Lib.hid b3; clear b3
        go_wp2_with fail
        refine (Decode_any t _ (by omega)).mono ?_
        rw [HD.out]
        rintro e w4 ⟨rfl, b4⟩
        have B4 := Lib.hid b4; clear b4
        go_wp2
        go_ret
        exact ⟨rfl, BO.out.trans ((B3.out.trans (B4.out.mono B3.out.size)).mono BO.out.size)⟩

end Go.Proofs.Ytamcdpgjgpohpaa
