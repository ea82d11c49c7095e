/-
  Contracts of small functions of package ascii: every over within's closure, Number, and the document's Digit and Number.
-/
import Derived.Test.YtbfnbjffobhllaaDoorAscW
namespace Go.Proofs.YtbfnbjffobhllaaDoor
open Go.RowKit

set_option maxHeartbeats 400000 in
theorem everyW_any (s : ByteArray) (a b : Int) (p q : Nat) (w : World) (hs : s.size ≤ maxLen) (hp : w.cell? ⟨p, 0, none⟩ = some (.int .u8 a)) (hq : w.cell? ⟨q, 0, none⟩ = some (.int .u8 b)) :
    Calls Tryd.prog 95 #[.string s, .func (.func 103) #[] #[.pointer (some ⟨p, 0, none⟩), .pointer (some ⟨q, 0, none⟩)]] w fun e w' => e = .returned (.bool (allR a b s.data.toList)) ∧ w = w' := by
  unfold maxLen at hs
  go_enter Tryd.func95, Tryd.ntmps95
  go_wp2
  go_loop [5, 8] (fun _ i => ∃ k : Nat, k ≤ s.size ∧ i = .int .i64 k ∧ allR a b (s.data.toList.take k) = true) (fun _ i => s.size - (intOf i).toNat)
  case atStart => exact ⟨0, Nat.zero_le _, rfl, rfl⟩
  case round =>
    obtain ⟨k, hk, rfl, ha⟩ := hrel
    have HA := Lib.hid ha; clear ha
    by_cases hlt : k < s.size
    · cases hr : inR a b s[k].toNat
      · have HR := Lib.hid hr
        clear hr
        have HF := Lib.hid (allR_take_false a b s k hlt HR.out)
        go_wp2_with (go_at_call 103; refine (withinC_any _ a b p q _ hp hq).mono ?_; rw [HR.out]; rintro e w' ⟨rfl, rfl⟩)
        go_ret
        exact ⟨ret_bool HF.out.symm, rfl⟩
      · have HR := Lib.hid hr
        clear hr
        go_wp2_with (go_at_call 103; refine (withinC_any _ a b p q _ hp hq).mono ?_; rw [HR.out]; rintro e w' ⟨rfl, rfl⟩)
        go_round
        case rel => exact ⟨k + 1, by omega, by go_num, by rw [take_snoc s k hlt, allR_snoc, HA.out, HR.out]; rfl⟩
        case measure => simp [intOf]; omega
    · go_wp2
      go_ret
      exact ⟨ret_bool (by rw [← HA.out, List.take_of_length_le (by simp; omega)]), rfl⟩

/-- What Number answers. -/
def numV (l : List UInt8) (most : Int) : Int := if l.length = 0 ∨ 18 < l.length ∨ allR 48 57 l = false ∨ most < num l then 0 else num l
def numB (l : List UInt8) (most : Int) : Bool := !(decide (l.length = 0) || decide (18 < l.length) || !allR 48 57 l || decide (most < num l))
theorem num_no (l : List UInt8) (most : Int) (h : l.length = 0 ∨ 18 < l.length ∨ allR 48 57 l = false ∨ most < num l) : numV l most = 0 ∧ numB l most = false := by
  refine ⟨by rw [numV, if_pos h], ?_⟩
  rw [numB]; rcases h with h | h | h | h <;> simp [h]
theorem num_yes (l : List UInt8) (most : Int) (h0 : l.length ≠ 0) (h1 : l.length ≤ 18) (h2 : allR 48 57 l = true) (h3 : num l ≤ most) : numV l most = num l ∧ numB l most = true := by
  refine ⟨by rw [numV, if_neg]; simp [h2]; exact ⟨by simpa using h0, h1, h3⟩, ?_⟩
  simp [numB, h2]; exact ⟨⟨by simpa using h0, h1⟩, h3⟩
theorem ret_pair {k : IntKind} {a b : Int} {c d : Bool} (h : a = b) (h' : c = d) : Ending.returned (.tuple #[.int k a, .bool c]) = .returned (.tuple #[.int k b, .bool d]) := by rw [h, h']
theorem num_ret_no (l : List UInt8) (most : Int) (h : l.length = 0 ∨ 18 < l.length ∨ allR 48 57 l = false ∨ most < num l) : Ending.returned (.tuple #[.int .i64 0, .bool false]) = .returned (.tuple #[.int .i64 (numV l most), .bool (numB l most)]) :=
  ret_pair (num_no l most h).1.symm (num_no l most h).2.symm

theorem below2 (w : World) (o o' : Obj) : Below w.heap.size w ((w.alloc o).alloc o') := ((Below.refl _ _).alloc (Nat.le_refl _) o).alloc (by simp) o'

/-- The loop of Number: all digits, one behind the other. -/
theorem num_take (s : ByteArray) (k : Nat) (hk : k ≤ 17) (hks : k ≤ s.size) (h : allR 48 57 s.data.toList = true) : 0 ≤ num (s.data.toList.take k) ∧ num (s.data.toList.take k) < 100000000000000000 := by
  have ha : allR 48 57 (s.data.toList.take k) = true := by
    rw [allR, List.all_eq_true] at h ⊢
    exact fun c hc => h c (List.mem_of_mem_take hc)
  have hb := num_bd _ ha
  have hl : (s.data.toList.take k).length = k := by simp; omega
  rw [hl] at hb
  refine ⟨hb.1, Int.lt_of_lt_of_le hb.2 ?_⟩
  have : (10 : Int) ^ 17 = 100000000000000000 := by decide
  rw [← this]
  exact_mod_cast Nat.pow_le_pow_right (by decide) hk
theorem dig_of_all (s : ByteArray) (k : Nat) (hk : k < s.size) (h : allR 48 57 s.data.toList = true) : 48 ≤ (s[k].toNat : Int) ∧ (s[k].toNat : Int) ≤ 57 := by
  have hm : s[k] ∈ s.data.toList := by
    have : s[k] = s.data[k]'hk := rfl
    rw [this]; simp
  rw [allR, List.all_eq_true] at h
  exact inR_true.1 (h _ hm)

set_option maxHeartbeats 400000 in
theorem Number_any (s : ByteArray) (most : Int) (w : World) (hs : s.size ≤ maxLen) :
    Calls Tryd.prog 90 #[.string s, .int .i64 most] w fun e w' => e = .returned (.tuple #[.int .i64 (numV s.data.toList most), .bool (numB s.data.toList most)]) ∧ Below w.heap.size w w' := by
  have hl : s.data.toList.length = s.size := by simp
  by_cases h0 : s.size = 0
  · have HR := Lib.hid (num_ret_no s.data.toList most (.inl (by omega)))
    clear hl
    go_enter Tryd.func90, Tryd.ntmps90
    go_wp2
    go_ret2
    exact ⟨HR.out, Below.refl _ _⟩
  · by_cases h1 : 18 < s.size
    · have HR := Lib.hid (num_ret_no s.data.toList most (.inr (.inl (by omega))))
      clear hl
      have h0' : ((s.size : Int) == 0) = false := beq_eq_false_iff_ne.2 (by omega)
      clear h0
      go_enter Tryd.func90, Tryd.ntmps90
      go_wp2
      go_ret2
      exact ⟨HR.out, Below.refl _ _⟩
    · have h1' : s.size ≤ 18 := by omega
      have h0' : ((s.size : Int) == 0) = false := beq_eq_false_iff_ne.2 (by omega)
      have hp : 0 < s.size := by omega
      clear h0 h1
      have hmf := mkf
      cases hall : allR 48 57 s.data.toList
      · have HR := Lib.hid (num_ret_no s.data.toList most (.inr (.inr (.inl hall))))
        have HA := Lib.hid hall
        have HL := Lib.hid hl
        clear hall hl
        go_enter Tryd.func90, Tryd.ntmps90
        go_wp2_with fail
        refine (within_any _ _ _).mono ?_
        rintro e w1 ⟨rfl, rfl⟩
        go_wp2_with fail
        refine (everyW_any s 48 57 _ _ _ hs (by simp) (by simp)).mono ?_
        rw [HA.out]
        rintro e w1 ⟨rfl, rfl⟩
        go_wp2
        go_ret2
        exact ⟨HR.out, below2 _ _ _⟩
      · have HA := Lib.hid hall
        have HL := Lib.hid hl
        clear hall hl
        go_enter Tryd.func90, Tryd.ntmps90
        go_wp2_with fail
        refine (within_any _ _ _).mono ?_
        rintro e w1 ⟨rfl, rfl⟩
        go_wp2_with fail
        refine (everyW_any s 48 57 _ _ _ hs (by simp) (by simp)).mono ?_
        rw [HA.out]
        rintro e w1 ⟨rfl, rfl⟩
        go_wp2
        go_loop [6, 7, 24] (fun n _ i => ∃ k : Nat, k ≤ s.size ∧ i = .int .i64 k ∧ n = .int .i64 (num (s.data.toList.take k))) (fun _ _ i => s.size - (intOf i).toNat)
        case atStart => exact ⟨0, Nat.zero_le _, rfl, rfl⟩
        case round =>
          obtain ⟨k, hk, rfl, rfl⟩ := hrel
          by_cases hlt : k < s.size
          · obtain ⟨hb1, hb2⟩ := num_take s k (by omega) hk HA.out
            obtain ⟨hd1, hd2⟩ := dig_of_all s k hlt HA.out
            have HN : Hid (num (s.data.toList.take (k + 1)) = num (s.data.toList.take k) * 10 + ((s[k].toNat : Int) - 48)) := by rw [take_snoc s k hlt]; exact num_snoc _ _
            go_wp2
            go_round
            case rel => exact ⟨k + 1, by omega, by go_num, by rw [HN.out]⟩
            case measure => simp [intOf]; omega
          · have HT : Hid (s.data.toList.take k = s.data.toList) := List.take_of_length_le (by simp; omega)
            rw [HT.out]
            by_cases hm : most < num s.data.toList
            · have HR := Lib.hid (num_ret_no s.data.toList most (.inr (.inr (.inr hm))))
              go_wp2
              go_ret2
              exact ⟨HR.out, below2 _ _ _⟩
            · have HR := Lib.hid (num_yes s.data.toList most (by have := HL.out; omega) (by have := HL.out; omega) HA.out (by omega))
              go_wp2
              go_ret2
              exact ⟨ret_pair HR.out.1.symm HR.out.2.symm, below2 _ _ _⟩

end Go.Proofs.YtbfnbjffobhllaaDoor
