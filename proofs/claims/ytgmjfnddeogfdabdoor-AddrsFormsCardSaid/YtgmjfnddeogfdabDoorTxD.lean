/-
  Contract: longestRun.
-/
import Derived.Test.YtgmjfnddeogfdabDoorTxA
namespace Go.Proofs.YtgmjfnddeogfdabDoor
open Go.RowKit

/-- The longest run of noughts, while k pieces are looked at: where the last run begins, from, to. -/
def lrS (P : List Nat) : Nat → Nat × Nat × Nat
  | 0 => (0, 0, 0)
  | k + 1 => if P.getD k 0 ≠ 0 then (k + 1, (lrS P k).2) else if (lrS P k).2.2 - (lrS P k).2.1 < k + 1 - (lrS P k).1 then ((lrS P k).1, (lrS P k).1, k + 1) else lrS P k
theorem lrS_ok (P : List Nat) : ∀ k, (lrS P k).1 ≤ k ∧ (lrS P k).2.1 ≤ (lrS P k).2.2 ∧ (lrS P k).2.2 ≤ k
  | 0 => ⟨Nat.le_refl _, Nat.le_refl _, Nat.le_refl _⟩
  | k + 1 => by
    obtain ⟨h1, h2, h3⟩ := lrS_ok P k
    rw [lrS]
    split
    · exact ⟨Nat.le_refl _, h2, Nat.le_succ_of_le h3⟩
    · split
      · exact ⟨by simp only; omega, by simp only; omega, by simp only; omega⟩
      · exact ⟨by omega, h2, by omega⟩

set_option maxRecDepth 100000 in
set_option maxHeartbeats 1000000 in
theorem longest_any (g cap : Nat) (P : List Nat) (w : World) (h8 : P.length = 8) (hc : ∀ j (hj : j < P.length), w.cell? ⟨g, j, none⟩ = some (.int .i64 (P[j] : Int))) :
    Calls Tryd.prog 19 #[.slice (some ⟨g, 0, none⟩) 8 cap] w fun e w' => e = .returned (.tuple #[.int .i64 ((lrS P 8).2.1 : Int), .int .i64 ((lrS P 8).2.2 : Int)]) ∧ w = w' := by
  have HC := Lib.hid hc
  clear hc
  go_enter Tryd.func19, Tryd.ntmps19
  go_wp2
  go_loop [2, 3, 4, 5, 6, 9] (fun f t b _ _ i => ∃ (k b' f' t' : Nat), k ≤ 8 ∧ i = .int .i64 k ∧ b = .int .i64 b' ∧ f = .int .i64 f' ∧ t = .int .i64 t' ∧ Hid (lrS P k = (b', f', t'))) (fun _ _ _ _ _ i => 8 - (intOf i).toNat)
  case atStart => exact ⟨0, 0, 0, 0, Nat.zero_le _, rfl, rfl, rfl, rfl, Lib.hid rfl⟩
  case round =>
    obtain ⟨k, b, f, t, hk, rfl, rfl, rfl, rfl, HS⟩ := hrel
    have hok := lrS_ok P k
    rw [HS.out] at hok
    obtain ⟨hb, hft, htk⟩ := hok
    simp only at hb hft htk
    by_cases hlt : k < 8
    · have hkl : k < P.length := by omega
      obtain ⟨x, HX⟩ : ∃ x, Hid (P[k] = x) := ⟨_, Lib.hid rfl⟩
      have HXd : Hid (P.getD k 0 = x) := Lib.hid (by rw [List.getD_eq_getElem?_getD, List.getElem?_eq_getElem hkl, HX.out]; rfl)
      have hcell : w.cell? ⟨g, k, none⟩ = some (.int .i64 (x : Int)) := by rw [HC.out k hkl, HX.out]
      by_cases hx : x = 0
      · have hxI : ((x : Int) != 0) = false := by simp [hx]
        by_cases hl : t - f < k + 1 - b
        · have hlI : (t : Int) - (f : Int) < (k : Int) + 1 - (b : Int) := by omega
          have HS1 : Hid (lrS P (k + 1) = (b, b, k + 1)) := Lib.hid (by rw [lrS, HXd.out, if_neg (by simp [hx]), HS.out, if_pos hl])
          clear hx hl
          go_wp2
          exact ⟨⟨k + 1, b, b, k + 1, by omega, by go_num, rfl, rfl, by go_num, HS1⟩, by simp [intOf]; omega⟩
        · have hlI : ¬ (t : Int) - (f : Int) < (k : Int) + 1 - (b : Int) := by omega
          have HS1 : Hid (lrS P (k + 1) = (b, f, t)) := Lib.hid (by rw [lrS, HXd.out, if_neg (by simp [hx]), HS.out, if_neg hl])
          clear hx hl
          go_wp2
          exact ⟨⟨k + 1, b, f, t, by omega, by go_num, rfl, rfl, rfl, HS1⟩, by simp [intOf]; omega⟩
      · have hxI : ((x : Int) != 0) = true := by simp; omega
        have HS1 : Hid (lrS P (k + 1) = (k + 1, f, t)) := Lib.hid (by rw [lrS, HXd.out, if_pos (by simpa using hx), HS.out])
        clear hx
        go_wp2
        exact ⟨⟨k + 1, k + 1, f, t, by omega, by go_num, by go_num, rfl, rfl, HS1⟩, by simp [intOf]; omega⟩
    · obtain rfl : k = 8 := by omega
      go_wp2
      go_ret2
      exact ⟨by rw [HS.out]; rfl, rfl⟩
end Go.Proofs.YtgmjfnddeogfdabDoor
