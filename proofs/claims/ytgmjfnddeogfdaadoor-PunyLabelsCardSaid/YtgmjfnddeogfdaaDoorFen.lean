/-
  A tree of sums over places: what each of its numbers counts, what is added up ahead of a place, what one place more turns. Plain, of no program.
-/
import Derived.Test.YtgmjfnddeogfdaaDoorPnM
namespace Go.Proofs.YtgmjfnddeogfdaaDoor
open Go.RowKit

/-- The lowest bit of a number. -/
def lowF : Nat → Nat → Nat
  | 0, _ => 0
  | f + 1, n => if n % 2 = 1 then 1 else 2 * lowF f (n / 2)
def lowB (n : Nat) : Nat := lowF n n
theorem lowF_more : ∀ (f g n : Nat), 0 < n → n ≤ f → n ≤ g → lowF f n = lowF g n
  | 0, _, n, h, hf, _ => by omega
  | _, 0, n, h, _, hg => by omega
  | f + 1, g + 1, n, h, hf, hg => by
    rw [lowF, lowF]
    split
    · rfl
    · rw [lowF_more f g (n / 2) (by omega) (by omega) (by omega)]
theorem low_odd {n : Nat} (h : n % 2 = 1) : lowB n = 1 := by
  obtain ⟨k, rfl⟩ : ∃ k, n = k + 1 := ⟨n - 1, by omega⟩
  rw [lowB, lowF, if_pos h]
theorem low_even {m : Nat} (h : 0 < m) : lowB (2 * m) = 2 * lowB m := by
  obtain ⟨k, hk⟩ : ∃ k, 2 * m = k + 1 := ⟨2 * m - 1, by omega⟩
  rw [lowB, hk, lowF, if_neg (by omega), ← hk, Nat.mul_div_cancel_left _ (by decide), lowB, lowF_more k m m h (by omega) (Nat.le_refl _)]
theorem low_bd : ∀ (f n : Nat), 0 < n → n ≤ f → 0 < lowB n ∧ lowB n ≤ n
  | 0, n, h, hf => by omega
  | f + 1, n, h, hf => by
    rcases Nat.mod_two_eq_zero_or_one n with e | e
    · obtain ⟨m, rfl⟩ : ∃ m, n = 2 * m := ⟨n / 2, by omega⟩
      have := low_bd f m (by omega) (by omega)
      rw [low_even (by omega)]; omega
    · rw [low_odd e]; omega
theorem low_pos {n : Nat} (h : 0 < n) : 0 < lowB n := (low_bd n n h (Nat.le_refl _)).1
theorem low_le {n : Nat} (h : 0 < n) : lowB n ≤ n := (low_bd n n h (Nat.le_refl _)).2
theorem low_up : ∀ (f n : Nat), 0 < n → n ≤ f → 2 * lowB n ≤ lowB (n + lowB n)
  | 0, n, h, hf => by omega
  | f + 1, n, h, hf => by
    rcases Nat.mod_two_eq_zero_or_one n with e | e
    · obtain ⟨m, rfl⟩ : ∃ m, n = 2 * m := ⟨n / 2, by omega⟩
      have hm : 0 < m := by omega
      have := low_up f m hm (by omega)
      have hp := low_pos hm
      rw [low_even hm, show 2 * m + 2 * lowB m = 2 * (m + lowB m) by omega, low_even (by omega)]; omega
    · rw [low_odd e]
      obtain ⟨m, hm⟩ : ∃ m, n + 1 = 2 * m := ⟨(n + 1) / 2, by omega⟩
      rw [hm, low_even (by omega)]
      have := low_pos (show 0 < m by omega)
      omega
theorem low_add : ∀ (f n r : Nat), 0 < n → n ≤ f → 0 < r → r < lowB n → lowB (n + r) = lowB r
  | 0, n, r, h, hf, _, _ => by omega
  | f + 1, n, r, h, hf, h0, hr => by
    rcases Nat.mod_two_eq_zero_or_one n with e | e
    · obtain ⟨m, rfl⟩ : ∃ m, n = 2 * m := ⟨n / 2, by omega⟩
      have hm : 0 < m := by omega
      rw [low_even hm] at hr
      rcases Nat.mod_two_eq_zero_or_one r with e' | e'
      · obtain ⟨q, rfl⟩ : ∃ q, r = 2 * q := ⟨r / 2, by omega⟩
        rw [show 2 * m + 2 * q = 2 * (m + q) by omega, low_even (by omega), low_even (by omega), low_add f m q hm (by omega) (by omega) (by omega)]
      · rw [low_odd e', low_odd (by omega)]
    · rw [low_odd e] at hr; omega
/-- The lowest bit by the bits of a number and of what it lacks. -/
theorem low_and : ∀ (w n : Nat), 0 < n → n < 2 ^ w → n &&& (2 ^ w - n) = lowB n
  | 0, n, h, hw => by simp at hw; omega
  | w + 1, n, h, hw => by
    rw [Nat.pow_succ] at hw ⊢
    apply Nat.eq_of_testBit_eq
    intro i
    rcases Nat.mod_two_eq_zero_or_one n with e | e
    · obtain ⟨m, rfl⟩ : ∃ m, n = 2 * m := ⟨n / 2, by omega⟩
      have ih := low_and w m (by omega) (by omega)
      rw [low_even (by omega), ← ih, show 2 ^ w * 2 - 2 * m = 2 * (2 ^ w - m) by omega]
      cases i with
      | zero => simp [Nat.testBit_zero]
      | succ i =>
        rw [Nat.testBit_and, Nat.testBit_succ, Nat.testBit_succ, Nat.testBit_succ, Nat.mul_div_cancel_left _ (by decide), Nat.mul_div_cancel_left _ (by decide), Nat.mul_div_cancel_left _ (by decide), Nat.testBit_and]
    · rw [low_odd e]
      obtain ⟨m, rfl⟩ : ∃ m, n = 2 * m + 1 := ⟨n / 2, by omega⟩
      cases i with
      | zero =>
        simp [Nat.testBit_zero]; omega
      | succ i =>
        rw [Nat.testBit_and, Nat.testBit_succ, Nat.testBit_succ, Nat.testBit_succ]
        rw [show (2 * m + 1) / 2 = m by omega, show (2 ^ w * 2 - (2 * m + 1)) / 2 = 2 ^ w - (m + 1) by omega]
        rw [Nat.testBit_two_pow_sub_succ (by omega)]
        simp
        cases Nat.testBit m i <;> simp

/-- How many of the places stand ahead of n. -/
def cntLt (ps : List Nat) (n : Nat) : Nat := ps.countP (fun p => decide (p < n))
/-- How many of the places the i-th number counts. -/
def cntAt (ps : List Nat) (i : Nat) : Nat := ps.countP (fun p => decide (i - lowB i ≤ p ∧ p < i))
theorem cnt_split (ps : List Nat) (i : Nat) : cntLt ps i = cntLt ps (i - lowB i) + cntAt ps i := by
  unfold cntLt cntAt
  induction ps with
  | nil => rfl
  | cons p ps ih =>
    rw [List.countP_cons, List.countP_cons, List.countP_cons, ih]
    simp only [decide_eq_true_eq]
    split <;> split <;> split <;> omega
theorem cntLt_le (ps : List Nat) (n : Nat) : cntLt ps n ≤ ps.length := List.countP_le_length
theorem cntLt_zero (ps : List Nat) : cntLt ps 0 = 0 := by simp [cntLt]
theorem cntAt_cons (p : Nat) (ps : List Nat) (i : Nat) : cntAt (p :: ps) i = cntAt ps i + if i - lowB i ≤ p ∧ p < i then 1 else 0 := by
  unfold cntAt
  rw [List.countP_cons]
  simp
/-- While one place more is told: the numbers below i have it. -/
def cntBy (p : Nat) (ps : List Nat) (i j : Nat) : Nat := cntAt ps j + if j < i ∧ (j - lowB j ≤ p ∧ p < j) then 1 else 0
theorem cntBy_start (p : Nat) (ps : List Nat) (j : Nat) : cntBy p ps (p + 1) j = cntAt ps j := by
  rw [cntBy, if_neg (by omega)]; rfl
theorem cntBy_end (p : Nat) (ps : List Nat) (i j : Nat) (h : j < i) : cntBy p ps i j = cntAt (p :: ps) j := by
  rw [cntBy, cntAt_cons]
  simp [h]
theorem cntBy_same (p : Nat) (ps : List Nat) (i : Nat) (h : i - lowB i ≤ p ∧ p < i) : cntBy p ps (i + lowB i) i = cntBy p ps i i + 1 := by
  have := low_pos (show 0 < i by omega)
  rw [cntBy, cntBy, if_pos ⟨by omega, h⟩, if_neg (by omega)]
theorem cntBy_other (p : Nat) (ps : List Nat) (i j : Nat) (h : i - lowB i ≤ p ∧ p < i) (hj : j ≠ i) : cntBy p ps (i + lowB i) j = cntBy p ps i j := by
  rw [cntBy, cntBy]
  congr 1
  by_cases h1 : j < i
  · have := low_pos (show 0 < i by omega)
    simp [h1, show j < i + lowB i by omega]
  · by_cases h2 : j < i + lowB i
    · have h3 := low_add i i (j - i) (by omega) (Nat.le_refl _) (by omega) (by omega)
      rw [show i + (j - i) = j by omega] at h3
      have h4 := low_le (show 0 < j - i by omega)
      rw [if_neg (by omega), if_neg (by omega)]
    · rw [if_neg (by omega), if_neg (by omega)]
theorem cover_up (p i : Nat) (h : i - lowB i ≤ p ∧ p < i) : i + lowB i - lowB (i + lowB i) ≤ p ∧ p < i + lowB i := by
  have h1 := low_up i i (by omega) (Nat.le_refl _)
  omega
theorem cover_start (p : Nat) : (p + 1) - lowB (p + 1) ≤ p ∧ p < p + 1 := by
  have := low_pos (show 0 < p + 1 by omega)
  omega

end Go.Proofs.YtgmjfnddeogfdaaDoor
