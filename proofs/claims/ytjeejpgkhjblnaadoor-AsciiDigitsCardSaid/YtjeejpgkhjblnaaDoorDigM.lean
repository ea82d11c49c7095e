/-
  Plain facts: the digits of a number.
-/
import Derived.Test.YtjeejpgkhjblnaaDoorAscA
namespace Go.Proofs.YtjeejpgkhjblnaaDoor

/-- The digits of a number, the highest ahead. -/
def digL (n : Nat) : List UInt8 := if n < 10 then [UInt8.ofNat (48 + n)] else digL (n / 10) ++ [UInt8.ofNat (48 + n % 10)]
termination_by n
decreasing_by omega
theorem digL_lt (n : Nat) (h : n < 10) : digL n = [UInt8.ofNat (48 + n)] := by rw [digL, if_pos h]
theorem digL_ge (n : Nat) (h : ¬ n < 10) : digL n = digL (n / 10) ++ [UInt8.ofNat (48 + n % 10)] := by rw [digL, if_neg h]
theorem dig_val (k : Nat) (h : k < 10) : (UInt8.ofNat (48 + k)).toNat = 48 + k := by
  rw [UInt8.toNat_ofNat']; omega
theorem num_app (a b : List UInt8) : num (a ++ b) = b.foldl (fun n c => n * 10 + ((c.toNat : Int) - 48)) (num a) := by simp [num]
theorem digL_num (n : Nat) : num (digL n) = n := by
  induction n using Nat.strongRecOn with
  | _ n ih =>
    by_cases h : n < 10
    · rw [digL_lt n h]
      have := dig_val n h
      simp only [num, List.foldl_cons, List.foldl_nil, this]; omega
    · rw [digL_ge n h, num_snoc, ih (n / 10) (by omega), dig_val _ (by omega)]
      omega
theorem digL_all (n : Nat) : allR 48 57 (digL n) = true := by
  induction n using Nat.strongRecOn with
  | _ n ih =>
    by_cases h : n < 10
    · rw [digL_lt n h]
      have := dig_val n h
      simp only [allR, List.all_cons, List.all_nil, Bool.and_true]
      rw [inR_true, this]; omega
    · rw [digL_ge n h, allR_snoc, ih (n / 10) (by omega), Bool.true_and, inR_true, dig_val _ (by omega)]; omega
theorem digL_ne (n : Nat) : (digL n).length ≠ 0 := by
  rw [digL]; split <;> simp
/-- At most twenty of them. -/
theorem digL_len (n : Nat) : ∀ k, n < 10 ^ (k + 1) → (digL n).length ≤ k + 1 := by
  induction n using Nat.strongRecOn with
  | _ n ih =>
    intro k hk
    by_cases h : n < 10
    · rw [digL_lt n h]; simp
    · rw [digL_ge n h, List.length_append]
      cases k with
      | zero => simp at hk; omega
      | succ k =>
        have := ih (n / 10) (by omega) k (by rw [Nat.pow_succ] at hk; omega)
        simp; omega
/-- Noughts ahead of it. -/
def nouL (z : Nat) (l : List UInt8) : List UInt8 := List.replicate z 48 ++ l
theorem nouL_succ (z : Nat) (l : List UInt8) : nouL (z + 1) l = 48 :: nouL z l := by simp [nouL, List.replicate_succ]
theorem num_nought (l : List UInt8) : num (48 :: l) = num l := by simp [num]
theorem nouL_num (z : Nat) (l : List UInt8) : num (nouL z l) = num l := by
  induction z with
  | zero => rfl
  | succ z ih => rw [nouL_succ, num_nought, ih]
theorem nouL_all (z : Nat) (l : List UInt8) (h : allR 48 57 l = true) : allR 48 57 (nouL z l) = true := by
  induction z with
  | zero => exact h
  | succ z ih =>
    rw [nouL_succ]
    simp only [allR, List.all_cons] at ih ⊢
    rw [ih, Bool.and_true, inR_true]; decide
theorem nouL_len (z : Nat) (l : List UInt8) : (nouL z l).length = z + l.length := by simp [nouL]

/-- What is answered for the digits of n, with z noughts ahead. -/
theorem dig_answer (n z : Nat) (most : Int) :
    numB (nouL z (digL n)) most = (decide (z + (digL n).length ≤ 18) && decide ((n : Int) ≤ most)) ∧ numV (nouL z (digL n)) most = if z + (digL n).length ≤ 18 ∧ (n : Int) ≤ most then (n : Int) else 0 := by
  have h1 : num (nouL z (digL n)) = n := by rw [nouL_num, digL_num]
  have h2 := nouL_all z _ (digL_all n)
  have h3 := nouL_len z (digL n)
  have h4 := digL_ne n
  by_cases ha : z + (digL n).length ≤ 18 ∧ (n : Int) ≤ most
  · have := num_yes (nouL z (digL n)) most (by omega) (by omega) h2 (by rw [h1]; exact ha.2)
    rw [this.1, this.2, if_pos ha, h1]
    simp [ha.1, ha.2]
  · have := num_no (nouL z (digL n)) most (by
      by_cases hb : z + (digL n).length ≤ 18
      · exact .inr (.inr (.inr (by rw [h1]; omega)))
      · exact .inr (.inl (by omega)))
    rw [this.1, this.2, if_neg ha]
    refine ⟨?_, rfl⟩
    by_cases hb : z + (digL n).length ≤ 18
    · have hc : ¬ (n : Int) ≤ most := fun h => ha ⟨hb, h⟩
      simp [hb, hc]
    · simp [hb]

end Go.Proofs.YtjeejpgkhjblnaaDoor
