/-
  Days, months and years in plain numbers (package dates).
-/
import Derived.Test.YtllpdnmhabpbcaaGreatDoorMath
namespace Go.Proofs.YtllpdnmhabpbcaaGreatDoor
def bef (y : Nat) : Nat := 365 * (y - 1) + (y - 1) / 4 - (y - 1) / 100 + (y - 1) / 400
def leapN (y : Nat) : Bool := y % 4 == 0 && (y % 100 != 0 || y % 400 == 0)
def daysN (y m : Nat) : Nat := if m = 4 ∨ m = 6 ∨ m = 9 ∨ m = 11 then 30 else if m = 2 then (if leapN y then 29 else 28) else 31
def cumN (y : Nat) : Nat → Nat
  | 0 => 0
  | m + 1 => if m = 0 then 0 else cumN y m + daysN y m
theorem cum_one (y : Nat) : cumN y 1 = 0 := rfl
theorem cum_succ (y m : Nat) (h : 1 ≤ m) : cumN y (m + 1) = cumN y m + daysN y m := by
  rw [cumN, if_neg (by omega)]
theorem leap_iff (y : Nat) : leapN y = true ↔ (y % 4 = 0 ∧ (y % 100 ≠ 0 ∨ y % 400 = 0)) := by
  simp [leapN]
theorem leap_not (y : Nat) : leapN y = false ↔ ¬ (y % 4 = 0 ∧ (y % 100 ≠ 0 ∨ y % 400 = 0)) := by
  rw [← leap_iff]; simp
theorem div_up (y k : Nat) (h : 1 ≤ y) : y / k = (y - 1) / k + (if y % k = 0 then 1 else 0) := by
  obtain ⟨x, rfl⟩ : ∃ x, y = x + 1 := ⟨y - 1, by omega⟩
  rw [Nat.add_sub_cancel, Nat.succ_div]
  congr 1
  simp only [Nat.dvd_iff_mod_eq_zero]
theorem bef_succ (y : Nat) (h : 1 ≤ y) : bef (y + 1) = bef y + (if leapN y then 366 else 365) := by
  have e : y + 1 - 1 = y := by omega
  have h1 := div_up y 4 h
  have h2 := div_up y 100 h
  have h3 := div_up y 400 h
  have h4 : (y - 1) / 100 ≤ (y - 1) / 4 := by omega
  have m1 : y % 400 = 0 → y % 100 = 0 := by omega
  have m2 : y % 100 = 0 → y % 4 = 0 := by omega
  unfold bef
  rw [e, h1, h2, h3]
  generalize (y - 1) / 4 = a at *
  generalize (y - 1) / 100 = b at *
  generalize (y - 1) / 400 = c at *
  cases hl : leapN y with
  | true =>
    rw [leap_iff] at hl
    simp only [if_true]
    obtain ⟨l1, l2⟩ := hl
    rw [if_pos l1]
    by_cases g : y % 100 = 0
    · have g4 : y % 400 = 0 := by rcases l2 with l2 | l2; exact absurd g l2; exact l2
      rw [if_pos g, if_pos g4]; omega
    · rw [if_neg g, if_neg (fun x => g (m1 x))]; omega
  | false =>
    rw [leap_not] at hl
    simp only [Bool.false_eq_true, if_false]
    by_cases l1 : y % 4 = 0
    · have g : y % 100 = 0 := Classical.byContradiction fun g => hl ⟨l1, .inl g⟩
      have g4 : ¬ y % 400 = 0 := fun g4 => hl ⟨l1, .inr g4⟩
      rw [if_pos l1, if_pos g, if_neg g4]; omega
    · have g : ¬ y % 100 = 0 := fun g => l1 (m2 g)
      rw [if_neg l1, if_neg g, if_neg (fun x => g (m1 x))]; omega
theorem cum13 (y : Nat) : cumN y 13 = (if leapN y then 366 else 365) := by
  cases h : leapN y <;> simp [cumN, daysN, h]
theorem days_pos (y m : Nat) : 28 ≤ daysN y m ∧ daysN y m ≤ 31 := by
  unfold daysN; split
  · omega
  · split
    · split <;> omega
    · omega
theorem bef_mono (a b : Nat) (h1 : 1 ≤ a) (h : a ≤ b) : bef a + 365 * (b - a) ≤ bef b := by
  induction b with
  | zero => omega
  | succ b ih =>
    by_cases hb : a ≤ b
    · have := ih hb
      rw [bef_succ b (by omega)]
      split <;> omega
    · have : a = b + 1 := by omega
      subst this; omega
theorem bef_lt (a b : Nat) (h1 : 1 ≤ a) (h : a < b) : bef a < bef b := by
  have := bef_mono a b h1 (by omega); omega
theorem bef_up (y : Nat) : bef (y + 1) ≤ 366 * y := by
  induction y with
  | zero => decide
  | succ y ih => rw [bef_succ _ (by omega)]; split <;> omega
theorem cum_mono (y a b : Nat) (h1 : 1 ≤ a) (h : a ≤ b) : cumN y a + 28 * (b - a) ≤ cumN y b := by
  induction b with
  | zero => omega
  | succ b ih =>
    by_cases hb : a ≤ b
    · have := ih hb
      rw [cum_succ y b (by omega)]
      have := (days_pos y b).1
      omega
    · have : a = b + 1 := by omega
      subst this; omega
theorem cum_up (y b : Nat) (h : 1 ≤ b) : cumN y b ≤ 31 * (b - 1) := by
  induction b with
  | zero => omega
  | succ b ih =>
    by_cases hb : 1 ≤ b
    · have := ih hb
      rw [cum_succ y b hb]
      have := (days_pos y b).2
      omega
    · have : b = 0 := by omega
      subst this; exact Nat.zero_le _
theorem bef_last : bef 10000 = 3652059 := by decide
/-- The day of the days since the year 1 began: year, month, day. -/
structure IsDay (D Y M d : Nat) : Prop where
  y1 : 1 ≤ Y
  y2 : Y ≤ 9999
  lo : bef Y ≤ D
  hi : D < bef (Y + 1)
  m1 : 1 ≤ M
  m2 : M ≤ 12
  mlo : bef Y + cumN Y M ≤ D
  mhi : D < bef Y + cumN Y M + daysN Y M
  dd : d = D - bef Y - cumN Y M + 1
theorem year_one {D a b : Nat} (ha : 1 ≤ a) (hb : 1 ≤ b) (h1 : bef a ≤ D) (h2 : D < bef (a + 1)) (h3 : bef b ≤ D) (h4 : D < bef (b + 1)) : a = b := by
  rcases Nat.lt_trichotomy a b with h | h | h
  · have := bef_mono (a + 1) b (by omega) h; omega
  · exact h
  · have := bef_mono (b + 1) a (by omega) h; omega
theorem month_one {y x a b : Nat} (ha : 1 ≤ a) (hb : 1 ≤ b) (h1 : cumN y a ≤ x) (h2 : x < cumN y (a + 1)) (h3 : cumN y b ≤ x) (h4 : x < cumN y (b + 1)) : a = b := by
  rcases Nat.lt_trichotomy a b with h | h | h
  · have := cum_mono y (a + 1) b (by omega) h; omega
  · exact h
  · have := cum_mono y (b + 1) a (by omega) h; omega
theorem IsDay.one {D Y M d Y' M' d' : Nat} (h : IsDay D Y M d) (h' : IsDay D Y' M' d') : Y = Y' ∧ M = M' ∧ d = d' := by
  obtain rfl := year_one h.y1 h'.y1 h.lo h.hi h'.lo h'.hi
  obtain rfl := month_one (y := Y) (x := D - bef Y) h.m1 h'.m1 (by have := h.mlo; omega) (by rw [cum_succ _ _ h.m1]; have := h.mhi; have := h.lo; omega) (by have := h'.mlo; omega) (by rw [cum_succ _ _ h'.m1]; have := h'.mhi; have := h.lo; omega)
  exact ⟨rfl, rfl, by rw [h.dd, h'.dd]⟩
theorem year_some (D n : Nat) (h : D < bef (n + 1)) : ∃ Y, 1 ≤ Y ∧ Y ≤ n ∧ bef Y ≤ D ∧ D < bef (Y + 1) := by
  induction n with
  | zero => exact absurd h (by decide +revert)
  | succ n ih =>
    by_cases hn : D < bef (n + 1)
    · obtain ⟨Y, a, b, c, d⟩ := ih hn
      exact ⟨Y, a, by omega, c, d⟩
    · exact ⟨n + 1, by omega, by omega, by omega, h⟩
theorem month_some (y x n : Nat) (h : x < cumN y (n + 1)) : ∃ m, 1 ≤ m ∧ m ≤ n ∧ cumN y m ≤ x ∧ x < cumN y (m + 1) := by
  induction n with
  | zero => exact absurd h (by rw [cum_one]; omega)
  | succ n ih =>
    by_cases hn : x < cumN y (n + 1)
    · obtain ⟨Y, a, b, c, d⟩ := ih hn
      exact ⟨Y, a, by omega, c, d⟩
    · exact ⟨n + 1, by omega, by omega, by omega, h⟩
theorem isDay_some (D : Nat) (h : D < 3652059) : ∃ Y M d, IsDay D Y M d := by
  obtain ⟨Y, a, b, c, e⟩ := year_some D 9999 (by rw [bef_last]; exact h)
  have e2 := e
  rw [bef_succ Y a, ← cum13] at e2
  obtain ⟨M, p, q, r, s⟩ := month_some Y (D - bef Y) 12 (by show _ < cumN Y 13; omega)
  rw [cum_succ _ _ p] at s
  exact ⟨Y, M, _, a, b, c, e, p, q, by omega, by omega, rfl⟩
theorem IsDay.d1 {D Y M d : Nat} (h : IsDay D Y M d) : 1 ≤ d ∧ d ≤ daysN Y M := by
  have := h.dd; have := h.mlo; have := h.mhi; omega
theorem IsDay.back {D Y M d : Nat} (h : IsDay D Y M d) : bef Y + cumN Y M + d = D + 1 := by
  have := h.dd; have := h.mlo; omega
theorem IsDay.of {D Y M d : Nat} (y1 : 1 ≤ Y) (y2 : Y ≤ 9999) (m1 : 1 ≤ M) (m2 : M ≤ 12) (d1 : 1 ≤ d) (d2 : d ≤ daysN Y M) (hD : D + 1 = bef Y + cumN Y M + d) : IsDay D Y M d := by
  have h1 := cum_mono Y M 13 m1 (by omega)
  have h2 := cum_mono Y (M + 1) 13 (by omega) (by omega)
  rw [cum_succ Y M m1] at h2
  rw [cum13, ] at h1 h2
  have h3 := bef_succ Y y1
  refine ⟨y1, y2, by omega, ?_, m1, m2, by omega, by omega, by omega⟩
  rw [h3]; omega
theorem IsDay.lt {D Y M d : Nat} (h : IsDay D Y M d) : D < 3652059 := by
  have h1 := bef_mono (Y + 1) 10000 (by omega) (by have := h.y2; omega)
  rw [bef_last] at h1
  have := h.hi; omega
end Go.Proofs.YtllpdnmhabpbcaaGreatDoor
