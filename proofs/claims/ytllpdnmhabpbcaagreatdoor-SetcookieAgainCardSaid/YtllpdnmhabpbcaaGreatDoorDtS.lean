/-
  Contracts: leap years, days of months and days ahead of years, of package dates.
-/
import Derived.Test.YtllpdnmhabpbcaaGreatDoorDtM
import Derived.Test.YtllpdnmhabpbcaaGreatDoorProg
namespace Go.Proofs.YtllpdnmhabpbcaaGreatDoor
open Go.RowKit

set_option maxHeartbeats 1000000 in
theorem dWithin_any (n a b : Int) (w : World) :
    Calls Tryz.prog 62 #[.int .i64 n, .int .i64 a, .int .i64 b] w fun e w' => e = .returned (.bool (inR a b n)) ∧ w = w' := by
  by_cases h1 : a ≤ n
  · by_cases h2 : n ≤ b
    · rw [inR_true.2 ⟨h1, h2⟩]
      go_enter Tryz.func62, Tryz.ntmps62
      go_wp2
      go_ret
      exact ⟨rfl, rfl⟩
    · rw [inR_false.2 (.inr (by omega))]
      go_enter Tryz.func62, Tryz.ntmps62
      go_wp2
      go_ret
      exact ⟨rfl, rfl⟩
  · rw [inR_false.2 (.inl (by omega))]
    go_enter Tryz.func62, Tryz.ntmps62
    go_wp2
    go_ret
    exact ⟨rfl, rfl⟩

theorem mod_facts (y k : Nat) : (((y : Int) % (k : Int) == 0) = true ↔ y % k = 0) ∧ (((y : Int) % (k : Int) == 0) = false ↔ ¬ y % k = 0) ∧ (((y : Int) % (k : Int) != 0) = true ↔ ¬ y % k = 0) ∧ (((y : Int) % (k : Int) != 0) = false ↔ y % k = 0) := by
  have h : (y : Int) % (k : Int) = ((y % k : Nat) : Int) := by omega
  rw [h]
  refine ⟨?_, ?_, ?_, ?_⟩ <;> simp <;> omega
set_option maxHeartbeats 1000000 in
theorem isLeap_any (y : Nat) (hy : y ≤ 100000) (w : World) :
    Calls Tryz.prog 86 #[.int .i64 (y : Int)] w fun e w' => e = .returned (.bool (leapN y)) ∧ w = w' := by
  obtain ⟨a1, a2, _, _⟩ := mod_facts y 4
  obtain ⟨_, _, b1, b2⟩ := mod_facts y 100
  obtain ⟨c1, c2, _, _⟩ := mod_facts y 400
  by_cases h4 : y % 4 = 0
  · have g4 : ((y : Int) % 4 == 0) = true := a1.2 h4
    by_cases h1 : y % 100 = 0
    · have g1 : ((y : Int) % 100 != 0) = false := b2.2 h1
      by_cases h0 : y % 400 = 0
      · have g0 : ((y : Int) % 400 == 0) = true := c1.2 h0
        rw [(leap_iff y).2 ⟨h4, .inr h0⟩]
        clear a1 a2 b1 b2 c1 c2 h4 h1 h0
        go_enter Tryz.func86, Tryz.ntmps86
        go_wp2
        go_ret
        exact ⟨rfl, rfl⟩
      · have g0 : ((y : Int) % 400 == 0) = false := c2.2 h0
        rw [(leap_not y).2 (fun h => by omega)]
        clear a1 a2 b1 b2 c1 c2 h4 h1 h0
        go_enter Tryz.func86, Tryz.ntmps86
        go_wp2
        go_ret
        exact ⟨rfl, rfl⟩
    · have g1 : ((y : Int) % 100 != 0) = true := b1.2 h1
      rw [(leap_iff y).2 ⟨h4, .inl h1⟩]
      clear a1 a2 b1 b2 c1 c2 h4 h1
      go_enter Tryz.func86, Tryz.ntmps86
      go_wp2
      go_ret
      exact ⟨rfl, rfl⟩
  · have g4 : ((y : Int) % 4 == 0) = false := a2.2 h4
    rw [(leap_not y).2 (fun h => h4 h.1)]
    clear a1 a2 b1 b2 c1 c2 h4
    go_enter Tryz.func86, Tryz.ntmps86
    go_wp2
    go_ret
    exact ⟨rfl, rfl⟩

set_option maxHeartbeats 4000000 in
theorem daysOf_any (y m : Nat) (hy : y ≤ 100000) (m1 : 1 ≤ m) (m2 : m ≤ 12) (w : World) :
    Calls Tryz.prog 65 #[.int .i64 (y : Int), .int .i64 (m : Int)] w fun e w' => e = .returned (.int .i64 (daysN y m : Nat)) ∧ w = w' := by
  by_cases h2 : m = 2
  · subst h2
    have hl := isLeap_any y hy w
    cases hb : leapN y with
    | true =>
      rw [hb] at hl
      have hd : daysN y 2 = 29 := by simp [daysN, hb]
      rw [hd]
      go_enter Tryz.func65, Tryz.ntmps65
      go_wp2_with fail
      refine hl.mono ?_
      rintro e w' ⟨rfl, rfl⟩
      go_wp2
      go_ret
      exact ⟨rfl, rfl⟩
    | false =>
      rw [hb] at hl
      have hd : daysN y 2 = 28 := by simp [daysN, hb]
      rw [hd]
      go_enter Tryz.func65, Tryz.ntmps65
      go_wp2_with fail
      refine hl.mono ?_
      rintro e w' ⟨rfl, rfl⟩
      go_wp2
      go_ret
      exact ⟨rfl, rfl⟩
  · have : m = 1 ∨ m = 3 ∨ m = 4 ∨ m = 5 ∨ m = 6 ∨ m = 7 ∨ m = 8 ∨ m = 9 ∨ m = 10 ∨ m = 11 ∨ m = 12 := by omega
    clear h2 m1 m2
    rcases this with rfl | rfl | rfl | rfl | rfl | rfl | rfl | rfl | rfl | rfl | rfl
    all_goals
      go_enter Tryz.func65, Tryz.ntmps65
      go_wp2
      go_ret
      exact ⟨rfl, rfl⟩

set_option maxHeartbeats 1000000 in
theorem daysAhead_any (y : Nat) (y1 : 1 ≤ y) (hy : y ≤ 100000) (w : World) :
    Calls Tryz.prog 64 #[.int .i64 (y : Int)] w fun e w' => e = .returned (.int .i64 (bef y : Nat)) ∧ w = w' := by
  obtain ⟨x, rfl⟩ : ∃ x, y = x + 1 := ⟨y - 1, by omega⟩
  have hx : (x : Int) ≤ 100000 := by omega
  have hb : ((bef (x + 1) : Nat) : Int) = (x : Int) * 365 + (x : Int) / 4 - (x : Int) / 100 + (x : Int) / 400 := by
    unfold bef
    rw [Nat.add_sub_cancel]
    have : x / 100 ≤ x / 4 := by omega
    omega
  rw [hb]
  clear hb
  go_enter Tryz.func64, Tryz.ntmps64
  go_wp2
  go_ret
  exact ⟨rfl, rfl⟩

end Go.Proofs.YtllpdnmhabpbcaaGreatDoor
