/-
  Contracts of the document's Digit and Number.
-/
import Derived.Test.YtblofndehbagnaaGreatDoorBeyond
import Derived.Test.YtblofndehbagnaaGreatDoorRDg
namespace Go.Proofs.YtblofndehbagnaaGreatDoor
open Go.RowKit

theorem num_take' (s : ByteArray) (k : Nat) (hk : k ≤ 17) (hks : k ≤ s.size) (h : allR 48 57 (s.data.toList.take k) = true) : 0 ≤ num (s.data.toList.take k) ∧ num (s.data.toList.take k) < 100000000000000000 := by
  have hb := num_bd _ h
  have hl : (s.data.toList.take k).length = k := by simp; omega
  rw [hl] at hb
  refine ⟨hb.1, Int.lt_of_lt_of_le hb.2 ?_⟩
  have : (10 : Int) ^ 17 = 100000000000000000 := by decide
  rw [← this]
  exact_mod_cast Nat.pow_le_pow_right (by decide) hk

set_option maxHeartbeats 400000 in
theorem RefNumber_any (s : ByteArray) (most : Int) (w : World) (hs : s.size ≤ maxLen) :
    Calls Tryz.prog 127 #[.string s, .int .i64 most] w fun e w' => e = .returned (.tuple #[.int .i64 (numV s.data.toList most), .bool (numB s.data.toList most)]) ∧ w = w' := by
  unfold maxLen at hs
  have hl : s.data.toList.length = s.size := by simp
  by_cases h0 : s.size < 1
  · have HR := Lib.hid (num_ret_no s.data.toList most (.inl (by omega)))
    clear hl
    go_enter Tryz.func127, Tryz.ntmps127
    go_wp2
    go_ret2
    exact ⟨HR.out, rfl⟩
  · by_cases h1 : 18 < s.size
    · have HR := Lib.hid (num_ret_no s.data.toList most (.inr (.inl (by omega))))
      clear hl
      go_enter Tryz.func127, Tryz.ntmps127
      go_wp2
      go_ret2
      exact ⟨HR.out, rfl⟩
    · have h1' : s.size ≤ 18 := by omega
      have hp : 0 < s.size := by omega
      have HL := Lib.hid hl
      clear h0 h1 hl
      go_enter Tryz.func127, Tryz.ntmps127
      go_wp2
      go_loop [6, 7] (fun n i => ∃ k : Nat, k ≤ s.size ∧ i = .int .i64 k ∧ n = .int .i64 (num (s.data.toList.take k)) ∧ allR 48 57 (s.data.toList.take k) = true) (fun _ i => s.size - (intOf i).toNat)
      case atStart => exact ⟨0, Nat.zero_le _, rfl, rfl, rfl⟩
      case round =>
        obtain ⟨k, hk, rfl, rfl, ha⟩ := hrel
        have HA := Lib.hid ha; clear ha
        by_cases hlt : k < s.size
        · obtain ⟨hb1, hb2⟩ := num_take' s k (by omega) hk HA.out
          cases hr : inR 48 57 s[k].toNat
          · have HR := Lib.hid hr
            clear hr
            have HF := Lib.hid (num_ret_no s.data.toList most (.inr (.inr (.inl (allR_take_false 48 57 s k hlt HR.out)))))
            go_wp2_with (go_at_call 77; refine (Digit_any _ _).mono ?_; rw [HR.out]; rintro e w' ⟨rfl, rfl⟩)
            go_ret2
            exact ⟨HF.out, rfl⟩
          · have HR := Lib.hid hr
            clear hr
            obtain ⟨hd1, hd2⟩ := inR_true.1 HR.out
            have HN : Hid (num (s.data.toList.take (k + 1)) = num (s.data.toList.take k) * 10 + ((s[k].toNat : Int) - 48)) := by rw [take_snoc s k hlt]; exact num_snoc _ _
            go_wp2_with (go_at_call 77; refine (Digit_any _ _).mono ?_; rw [HR.out]; rintro e w' ⟨rfl, rfl⟩)
            go_round
            case rel => exact ⟨k + 1, by omega, by go_num, by rw [HN.out]; congr 1; omega, by rw [take_snoc s k hlt, allR_snoc, HA.out, HR.out]; rfl⟩
            case measure => simp [intOf]; omega
        · have HT : Hid (s.data.toList.take k = s.data.toList) := List.take_of_length_le (by simp; omega)
          rw [HT.out] at HA ⊢
          by_cases hm : most < num s.data.toList
          · have HR := Lib.hid (num_ret_no s.data.toList most (.inr (.inr (.inr hm))))
            go_wp2
            go_ret2
            exact ⟨HR.out, rfl⟩
          · have HR := Lib.hid (num_yes s.data.toList most (by have := HL.out; omega) (by have := HL.out; omega) HA.out (by omega))
            go_wp2
            go_ret2
            exact ⟨ret_pair HR.out.1.symm HR.out.2.symm, rfl⟩

end Go.Proofs.YtblofndehbagnaaGreatDoor
