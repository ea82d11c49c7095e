/-
  Contracts of the document's sign and Token.
-/
import Derived.Test.YthffgnlebljkcaaDoorTokA
import Derived.Test.YthffgnlebljkcaaDoorRefA
namespace Go.Proofs.YthffgnlebljkcaaDoor
open Go.RowKit

theorem tokB_all : ∀ c : Fin 256, tokB c.val = (decide (48 ≤ c.val ∧ c.val ≤ 57) || decide (65 ≤ c.val ∧ c.val ≤ 90) || decide (97 ≤ c.val ∧ c.val ≤ 122) || decide (c.val = 33 ∨ c.val = 35 ∨ c.val = 36 ∨ c.val = 37 ∨ c.val = 38 ∨ c.val = 39 ∨ c.val = 42 ∨ c.val = 43 ∨ c.val = 45 ∨ c.val = 46 ∨ c.val = 94 ∨ c.val = 95 ∨ c.val = 96 ∨ c.val = 124 ∨ c.val = 126)) := by decide +kernel
theorem tokB_eq (c : Int) (h0 : 0 ≤ c) (h1 : c < 256) : tokB c.toNat = decide ((48 ≤ c ∧ c ≤ 57) ∨ (65 ≤ c ∧ c ≤ 90) ∨ (97 ≤ c ∧ c ≤ 122) ∨ c = 33 ∨ c = 35 ∨ c = 36 ∨ c = 37 ∨ c = 38 ∨ c = 39 ∨ c = 42 ∨ c = 43 ∨ c = 45 ∨ c = 46 ∨ c = 94 ∨ c = 95 ∨ c = 96 ∨ c = 124 ∨ c = 126) := by
  have h := tokB_all ⟨c.toNat, by omega⟩
  rw [h]
  rw [Bool.eq_iff_iff]
  simp only [Bool.or_eq_true, decide_eq_true_eq]
  omega

theorem sign_yes (c : Int) (w : World) (h0 : 0 ≤ c) (h1 : c < 256) (h : (48 ≤ c ∧ c ≤ 57) ∨ (65 ≤ c ∧ c ≤ 90) ∨ (97 ≤ c ∧ c ≤ 122) ∨ c = 33 ∨ c = 35 ∨ c = 36 ∨ c = 37 ∨ c = 38 ∨ c = 39 ∨ c = 42 ∨ c = 43 ∨ c = 45 ∨ c = 46 ∨ c = 94 ∨ c = 95 ∨ c = 96 ∨ c = 124 ∨ c = 126) :
    Calls Tryd.prog 50 #[.int .u8 c] w fun e w' => e = .returned (.bool true) ∧ w = w' := by
  rcases h with ⟨h2, h3⟩ | ⟨h2, h3⟩ | ⟨h2, h3⟩ | h | h | h | h | h | h | h | h | h | h | h | h | h | h | h
  · have HR : Hid (inR 48 57 c = true) := inR_true.2 ⟨h2, h3⟩
    go_enter Tryd.func50, Tryd.ntmps50
    go_wp2_with (go_at_call 42; refine (Digit_any _ _).mono ?_; rw [HR.out]; rintro e w' ⟨rfl, rfl⟩)
    go_ret
    exact ⟨rfl, rfl⟩
  · have HR : Hid (inR 48 57 c = false) := inR_false.2 (by omega)
    go_enter Tryd.func50, Tryd.ntmps50
    go_wp2_with (go_at_call 42; refine (Digit_any _ _).mono ?_; rw [HR.out]; rintro e w' ⟨rfl, rfl⟩)
    go_ret
    exact ⟨rfl, rfl⟩
  · have HR : Hid (inR 48 57 c = false) := inR_false.2 (by omega)
    go_enter Tryd.func50, Tryd.ntmps50
    go_wp2_with (go_at_call 42; refine (Digit_any _ _).mono ?_; rw [HR.out]; rintro e w' ⟨rfl, rfl⟩)
    go_ret
    exact ⟨rfl, rfl⟩
  all_goals
    subst h
    clear h0 h1
    as_aux_lemma =>
      go_enter Tryd.func50, Tryd.ntmps50
      go_wp2
      go_ret
      exact ⟨rfl, rfl⟩

theorem sign_no (c : Int) (w : World) (h0 : 0 ≤ c) (h1 : c < 256) (h : ¬ ((48 ≤ c ∧ c ≤ 57) ∨ (65 ≤ c ∧ c ≤ 90) ∨ (97 ≤ c ∧ c ≤ 122) ∨ c = 33 ∨ c = 35 ∨ c = 36 ∨ c = 37 ∨ c = 38 ∨ c = 39 ∨ c = 42 ∨ c = 43 ∨ c = 45 ∨ c = 46 ∨ c = 94 ∨ c = 95 ∨ c = 96 ∨ c = 124 ∨ c = 126)) :
    Calls Tryd.prog 50 #[.int .u8 c] w fun e w' => e = .returned (.bool false) ∧ w = w' := by
  have HR : Hid (inR 48 57 c = false) := inR_false.2 (by omega)
  have e1 : (c == 33) = false := beq_eq_false_iff_ne.2 (by omega)
  have e2 : (c == 35) = false := beq_eq_false_iff_ne.2 (by omega)
  have e3 : (c == 36) = false := beq_eq_false_iff_ne.2 (by omega)
  have e4 : (c == 37) = false := beq_eq_false_iff_ne.2 (by omega)
  have e5 : (c == 38) = false := beq_eq_false_iff_ne.2 (by omega)
  have e6 : (c == 39) = false := beq_eq_false_iff_ne.2 (by omega)
  have e7 : (c == 42) = false := beq_eq_false_iff_ne.2 (by omega)
  have e8 : (c == 43) = false := beq_eq_false_iff_ne.2 (by omega)
  have e9 : (c == 45) = false := beq_eq_false_iff_ne.2 (by omega)
  have e10 : (c == 46) = false := beq_eq_false_iff_ne.2 (by omega)
  have e11 : (c == 94) = false := beq_eq_false_iff_ne.2 (by omega)
  have e12 : (c == 95) = false := beq_eq_false_iff_ne.2 (by omega)
  have e13 : (c == 96) = false := beq_eq_false_iff_ne.2 (by omega)
  have e14 : (c == 124) = false := beq_eq_false_iff_ne.2 (by omega)
  have e15 : (c == 126) = false := beq_eq_false_iff_ne.2 (by omega)
  have h2 : c < 65 ∨ (90 < c ∧ c < 97) ∨ 122 < c := by omega
  clear h
  rcases h2 with h2 | ⟨h2, h3⟩ | h2
  all_goals
    as_aux_lemma =>
      go_enter Tryd.func50, Tryd.ntmps50
      go_wp2_with (go_at_call 42; refine (Digit_any _ _).mono ?_; rw [HR.out]; rintro e w' ⟨rfl, rfl⟩)
      go_ret
      exact ⟨rfl, rfl⟩

theorem sign_any (c : UInt8) (w : World) :
    Calls Tryd.prog 50 #[.int .u8 c.toNat] w fun e w' => e = .returned (.bool (tokB c.toNat)) ∧ w = w' := by
  have h := tokB_eq (c.toNat : Int) (by omega) (byte_lt c)
  rw [Int.toNat_natCast] at h
  rw [h]
  have hb := byte_lt c
  have h0 : (0 : Int) ≤ c.toNat := by omega
  generalize (c.toNat : Int) = n at *
  by_cases hn : (48 ≤ n ∧ n ≤ 57) ∨ (65 ≤ n ∧ n ≤ 90) ∨ (97 ≤ n ∧ n ≤ 122) ∨ n = 33 ∨ n = 35 ∨ n = 36 ∨ n = 37 ∨ n = 38 ∨ n = 39 ∨ n = 42 ∨ n = 43 ∨ n = 45 ∨ n = 46 ∨ n = 94 ∨ n = 95 ∨ n = 96 ∨ n = 124 ∨ n = 126
  · rw [decide_eq_true hn]; exact sign_yes n w h0 hb hn
  · rw [decide_eq_false hn]; exact sign_no n w h0 hb hn

set_option maxHeartbeats 400000 in
theorem RefToken_any (s : ByteArray) (w : World) (hs : s.size ≤ maxLen) :
    Calls Tryd.prog 40 #[.string s] w fun e w' => e = .returned (.bool (tokS s.data.toList)) ∧ w = w' := by
  unfold maxLen at hs
  go_enter Tryd.func40, Tryd.ntmps40
  go_wp2
  go_loop [3] (fun i => ∃ k : Nat, k ≤ s.size ∧ i = .int .i64 k ∧ allT (s.data.toList.take k) = true) (fun i => s.size - (intOf i).toNat)
  case atStart => exact ⟨0, Nat.zero_le _, rfl, rfl⟩
  case round =>
    obtain ⟨k, hk, rfl, ha⟩ := hrel
    have HA := Lib.hid ha; clear ha
    by_cases hlt : k < s.size
    · cases hr : tokB s[k].toNat
      · have HR := Lib.hid hr
        clear hr
        have HF := Lib.hid (allT_take_false s k hlt HR.out)
        go_wp2_with (go_at_call 50; refine (sign_any _ _).mono ?_; rw [HR.out]; rintro e w' ⟨rfl, rfl⟩)
        go_ret
        exact ⟨ret_bool (by rw [tokS, HF.out, Bool.and_false]), rfl⟩
      · have HR := Lib.hid hr
        clear hr
        go_wp2_with (go_at_call 50; refine (sign_any _ _).mono ?_; rw [HR.out]; rintro e w' ⟨rfl, rfl⟩)
        go_round
        case rel => exact ⟨k + 1, by omega, by go_num, by rw [take_snoc s k hlt, allT_snoc, HA.out, HR.out]; rfl⟩
        case measure => simp [intOf]; omega
    · have HT := Lib.hid (show allT s.data.toList = true by rw [← HA.out, List.take_of_length_le (by simp; omega)])
      have HE : Hid (s.data.toList.isEmpty = decide (s.size = 0)) := by
        rw [Bool.eq_iff_iff, List.isEmpty_iff, ← List.length_eq_zero_iff, decide_eq_true_eq]; rfl
      go_wp2
      go_ret
      exact ⟨ret_bool (by rw [tokS, HT.out, HE.out, Bool.and_true]; rw [Bool.eq_iff_iff]; simp only [Bool.not_eq_true', decide_eq_true_eq, decide_eq_false_iff_not]; omega), rfl⟩

end Go.Proofs.YthffgnlebljkcaaDoor
