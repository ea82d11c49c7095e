/-
  The words of a cookie's date in any order (package dates).
-/
import Derived.Test.YtkekidjnedmpjaaDoorDtQ
namespace Go.Proofs.YtkekidjnedmpjaaDoor

/-- Which of four words are left. -/
def subs4 : List (List Nat) := [[0, 1, 2, 3], [0, 1, 2], [0, 1, 3], [0, 2, 3], [1, 2, 3], [0, 1], [0, 2], [0, 3], [1, 2], [1, 3], [2, 3], [0], [1], [2], [3], []]
theorem subs_next : ∀ r ∈ subs4, ∀ j, j < r.length → r.eraseIdx j ∈ subs4 ∧ r.getD j 0 < 4 ∧ r.getD j 0 ∈ r ∧ ∀ y, y < 4 → (y ∈ r.eraseIdx j ↔ y ≠ r.getD j 0 ∧ y ∈ r) := by
  have h : ∀ r ∈ subs4, ∀ j : Fin 4, j.1 < r.length → r.eraseIdx j.1 ∈ subs4 ∧ r.getD j.1 0 < 4 ∧ r.getD j.1 0 ∈ r ∧ ∀ y : Fin 4, (y.1 ∈ r.eraseIdx j.1 ↔ y.1 ≠ r.getD j.1 0 ∧ y.1 ∈ r) := by decide +kernel
  have hl : ∀ r ∈ subs4, r.length ≤ 4 := by decide
  intro r hr j hj
  have h2 := h r hr ⟨j, by have := hl r hr; omega⟩ hj
  exact ⟨h2.1, h2.2.1, h2.2.2.1, fun y hy => h2.2.2.2 ⟨y, hy⟩⟩
/-- What is told when these are left. -/
def stA (t : Int × Int × Int) (d : Int) (M : Nat) (y : Int) (r : List Nat) : Told := ⟨if 0 ∈ r then none else some t, if 1 ∈ r then none else some d, if 2 ∈ r then none else some M, if 3 ∈ r then none else some y⟩
/-- The same where day and year are one text. -/
def stC (t : Int × Int × Int) (d : Int) (M : Nat) (r : List Nat) : Told := ⟨if 0 ∈ r then none else some t, if 1 ∈ r ∧ 3 ∈ r then none else some d, if 2 ∈ r then none else some M, if 1 ∈ r ∨ 3 ∈ r then none else some d⟩
/-- What four words say of themselves. -/
structure Four4 (W : Nat → List UInt8) (t : Int × Int × Int) (d : Int) (M : Nat) (y : Int) : Prop where
  t0 : clockP (W 0) = some t
  d0 : clockP (W 1) = none
  d1 : ∃ r, toldN 1 2 (W 1) = some (d, r)
  m0 : clockP (W 2) = none
  m1 : toldN 1 2 (W 2) = none
  m2 : moP (W 2) = some M
  y0 : clockP (W 3) = none
  y2 : moP (W 3) = none
  y3 : ∃ r, toldN 2 4 (W 3) = some (y, r)

theorem stA_next {W : Nat → List UInt8} {t : Int × Int × Int} {d : Int} {M : Nat} {y : Int} (h : Four4 W t d M y) {r : List Nat} (hr : r ∈ subs4) {j : Nat} (hj : j < r.length) (hY : r.getD j 0 = 3 → toldN 1 2 (W 3) = none ∨ 1 ∉ r) : step (stA t d M y r) (W (r.getD j 0)) = stA t d M y (r.eraseIdx j) := by
  obtain ⟨_, hx4, hx, hm⟩ := subs_next r hr j hj
  have k0 := hm 0 (by omega)
  have k1 := hm 1 (by omega)
  have k2 := hm 2 (by omega)
  have k3 := hm 3 (by omega)
  generalize r.getD j 0 = x at *
  generalize r.eraseIdx j = r' at *
  have hc : x = 0 ∨ x = 1 ∨ x = 2 ∨ x = 3 := by omega
  unfold stA
  rcases hc with rfl | rfl | rfl | rfl
  · rw [if_pos hx, step_tm _ _ _ h.t0, if_neg (show ¬ (0 ∈ r') from fun e => (k0.1 e).1 rfl)]
    simp only [k1, k2, k3]
    simp
  · obtain ⟨q, hq⟩ := h.d1
    rw [if_pos hx, step_dy _ _ _ (.inr h.d0) hq, if_neg (show ¬ (1 ∈ r') from fun e => (k1.1 e).1 rfl)]
    simp only [k0, k2, k3]
    simp
  · rw [if_pos hx, step_mo _ _ _ (.inr h.m0) (.inr h.m1) h.m2, if_neg (show ¬ (2 ∈ r') from fun e => (k2.1 e).1 rfl)]
    simp only [k0, k1, k3]
    simp
  · obtain ⟨q, hq⟩ := h.y3
    rw [if_pos hx, step_yr _ _ _ (.inr h.y0) (by
      rcases hY rfl with h1 | h1
      · exact .inr h1
      · exact .inl (by rw [if_neg h1]; simp)) (.inr h.y2) hq, if_neg (show ¬ (3 ∈ r') from fun e => (k3.1 e).1 rfl)]
    simp only [k0, k1, k2]
    simp

theorem stC_next {W : Nat → List UInt8} {t : Int × Int × Int} {d : Int} {M : Nat} (h : Four4 W t d M d) (h13 : W 3 = W 1) {r : List Nat} (hr : r ∈ subs4) {j : Nat} (hj : j < r.length) : step (stC t d M r) (W (r.getD j 0)) = stC t d M (r.eraseIdx j) := by
  obtain ⟨_, hx4, hx, hm⟩ := subs_next r hr j hj
  have k0 := hm 0 (by omega)
  have k1 := hm 1 (by omega)
  have k2 := hm 2 (by omega)
  have k3 := hm 3 (by omega)
  generalize r.getD j 0 = x at *
  generalize r.eraseIdx j = r' at *
  have hc : x = 0 ∨ x = 1 ∨ x = 2 ∨ x = 3 := by omega
  obtain ⟨q, hq⟩ := h.d1
  obtain ⟨q3, hq3⟩ := h.y3
  rw [h13] at hq3
  have y0 := h.y0
  have y2 := h.y2
  rw [h13] at y0 y2
  unfold stC
  rcases hc with rfl | rfl | rfl | rfl
  · rw [if_pos hx, step_tm _ _ _ h.t0, if_neg (show ¬ (0 ∈ r') from fun e => (k0.1 e).1 rfl)]
    simp only [k1, k2, k3]
    simp
  · have n1 : ¬ 1 ∈ r' := fun e => (k1.1 e).1 rfl
    by_cases h3 : 3 ∈ r
    · rw [if_pos (show 1 ∈ r ∧ 3 ∈ r from ⟨hx, h3⟩), step_dy _ _ _ (.inr h.d0) hq]
      simp only [k0, k2, k3, n1, h3, hx]
      simp
    · rw [if_pos (show 1 ∈ r ∨ 3 ∈ r from .inl hx), step_yr _ _ _ (.inr h.d0) (.inl (by rw [if_neg (fun e => h3 e.2)]; simp)) (.inr y2) hq3]
      simp only [k0, k2, k3, n1, h3]
      simp
  · rw [if_pos hx, step_mo _ _ _ (.inr h.m0) (.inr h.m1) h.m2, if_neg (show ¬ (2 ∈ r') from fun e => (k2.1 e).1 rfl)]
    simp only [k0, k1, k3]
    simp
  · have n3 : ¬ 3 ∈ r' := fun e => (k3.1 e).1 rfl
    rw [h13]
    by_cases h1 : 1 ∈ r
    · rw [if_pos (show 1 ∈ r ∧ 3 ∈ r from ⟨h1, hx⟩), step_dy _ _ _ (.inr h.d0) hq]
      simp only [k0, k2, k1, n3, h1, hx]
      simp
    · rw [if_pos (show 1 ∈ r ∨ 3 ∈ r from .inr hx), step_yr _ _ _ (.inr h.d0) (.inl (by rw [if_neg (fun e => h1 e.1)]; simp)) (.inr y2) hq3]
      simp only [k0, k2, k1, n3, h1]
      simp

end Go.Proofs.YtkekidjnedmpjaaDoor
