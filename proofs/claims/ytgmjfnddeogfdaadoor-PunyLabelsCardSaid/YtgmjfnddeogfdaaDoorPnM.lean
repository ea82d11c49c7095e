/-
  The words of the chapter on names in few letters, as plain functions of numbers and lists, of no program.
-/
import Derived.Test.YtgmjfnddeogfdaaDoorMath
namespace Go.Proofs.YtgmjfnddeogfdaaDoor
open Go.RowKit

theorem wr64 (n : Int) (h0 : -9223372036854775808 ≤ n) (h1 : n ≤ 9223372036854775807) : wrap64 n = n := by unfold wrap64; omega

theorem exD (t : ByteArray) (a b : Nat) : (t.extract a b).data.toList = (t.data.toList.take b).drop a := by
  rw [ByteArray.data_extract, Array.toList_extract, List.extract_eq_take_drop, List.drop_take]
theorem dLen (t : ByteArray) : t.data.toList.length = t.size := by simp
theorem exS (t : ByteArray) (a b : Nat) (hb : b ≤ t.size) : (t.extract a b).size = b - a := by
  rw [← dLen, exD, List.length_drop, List.length_take, dLen]; omega
theorem exDrop (t : ByteArray) (a : Nat) : (t.extract a t.size).data.toList = t.data.toList.drop a := by rw [exD, List.take_of_length_le (by simp)]
theorem exTake (t : ByteArray) (b : Nat) : (t.extract 0 b).data.toList = t.data.toList.take b := by rw [exD, List.drop_zero]
theorem baE {a b : ByteArray} (h : a.data.toList = b.data.toList) : a = b := by
  cases a; cases b; simp only at h; congr 1; exact Array.toList_inj.1 h
def strZ : Value → Nat
  | .string t => t.size
  | _ => 0

/-- The bound of the digit at k. -/
def stepN (k b : Nat) : Nat := min (max (k - b) 1) 26
theorem stepN_bd (k b : Nat) : 1 ≤ stepN k b ∧ stepN k b ≤ 26 := by unfold stepN; omega

/-- A number, divided, behind which the next bias is reckoned. -/
def halve (n signs : Nat) (first : Bool) : Nat := (if first then n / 700 else n / 2) + (if first then n / 700 else n / 2) / signs
def biasL : Nat → Nat → Nat → Nat
  | 0, n, k => k + 36 * n / (n + 38)
  | f + 1, n, k => if 455 < n then biasL f (n / 35) (k + 36) else k + 36 * n / (n + 38)
theorem biasL_end (f n k : Nat) (h : n ≤ 455) : biasL f n k = k + 36 * n / (n + 38) := by
  cases f with
  | zero => rfl
  | succ f => rw [biasL, if_neg (by omega)]
theorem biasL_step (f n k : Nat) (h : 455 < n) : biasL (f + 1) n k = biasL f (n / 35) (k + 36) := by rw [biasL, if_pos h]
theorem biasE_le (n : Nat) : 36 * n / (n + 38) ≤ 36 := by
  apply Nat.div_le_of_le_mul
  rw [Nat.add_mul]; omega
theorem biasL_bd : ∀ f n k, biasL f n k ≤ k + 36 * f + 36
  | 0, n, k => by have := biasE_le n; rw [biasL]; omega
  | f + 1, n, k => by
    rw [biasL]
    split
    · have := biasL_bd f (n / 35) (k + 36); omega
    · have := biasE_le n; omega
/-- The next bias. -/
def nb (n signs : Nat) (first : Bool) : Nat := biasL 20 (halve n signs first) 0
theorem nb_bd (n signs : Nat) (first : Bool) : nb n signs first ≤ 756 := by
  have := biasL_bd 20 (halve n signs first) 0
  unfold nb; omega
theorem halve_le (n signs : Nat) (first : Bool) : halve n signs first ≤ n := by
  unfold halve
  have h : ∀ m : Nat, m ≤ n / 2 → m + m / signs ≤ n := fun m hm => by
    have := Nat.div_le_self m signs
    omega
  cases first
  · exact h _ (Nat.le_refl _)
  · exact h _ (by simp; omega)

/-- The digit that a byte is. -/
def digV (c : UInt8) : Option Nat :=
  if 97 ≤ c.toNat ∧ c.toNat ≤ 122 then some (c.toNat - 97)
  else if 65 ≤ c.toNat ∧ c.toNat ≤ 90 then some (c.toNat - 65)
  else if 48 ≤ c.toNat ∧ c.toNat ≤ 57 then some (c.toNat - 48 + 26)
  else none
theorem digV_lt {c : UInt8} {d : Nat} (h : digV c = some d) : d < 36 := by
  unfold digV at h
  repeat' split at h
  all_goals simp at h
  all_goals omega

/-- A number that bytes tell, from the i-th digit on, and how many digits it has. -/
def rdN (bias : Nat) : List UInt8 → Nat → Nat → Nat → Option (Nat × Nat)
  | [], _, _, _ => none
  | c :: r, i, w, a => match digV c with
    | none => none
    | some d => if 2147483647 < a + d * w then none else if d < stepN (36 * (i + 1)) bias then some (a + d * w, i + 1) else rdN bias r (i + 1) (w * (36 - stepN (36 * (i + 1)) bias)) (a + d * w)
theorem rdN_none (bias : Nat) (c : UInt8) (r : List UInt8) (i w a : Nat) (h : digV c = none) : rdN bias (c :: r) i w a = none := by rw [rdN, h]
theorem rdN_big (bias : Nat) (c : UInt8) (r : List UInt8) (i w a d : Nat) (h : digV c = some d) (hb : 2147483647 < a + d * w) : rdN bias (c :: r) i w a = none := by rw [rdN, h]; simp [hb]
theorem rdN_end (bias : Nat) (c : UInt8) (r : List UInt8) (i w a d : Nat) (h : digV c = some d) (hb : a + d * w ≤ 2147483647) (hd : d < stepN (36 * (i + 1)) bias) : rdN bias (c :: r) i w a = some (a + d * w, i + 1) := by
  rw [rdN, h]; simp only; rw [if_neg (by omega), if_pos hd]
theorem rdN_on (bias : Nat) (c : UInt8) (r : List UInt8) (i w a d : Nat) (h : digV c = some d) (hb : a + d * w ≤ 2147483647) (hd : ¬ d < stepN (36 * (i + 1)) bias) :
    rdN bias (c :: r) i w a = rdN bias r (i + 1) (w * (36 - stepN (36 * (i + 1)) bias)) (a + d * w) := by
  rw [rdN, h]; simp only; rw [if_neg (by omega), if_neg hd]
theorem drop_at (s : ByteArray) (k : Nat) (h : k < s.size) : s.data.toList.drop k = s[k] :: s.data.toList.drop (k + 1) := by
  rw [List.drop_eq_getElem_cons (by simpa using h)]; rfl
theorem rdN_bd (bias : Nat) : ∀ (l : List UInt8) (i w a n m : Nat), rdN bias l i w a = some (n, m) → n ≤ 2147483647 ∧ a ≤ n ∧ i < m ∧ m ≤ i + l.length
  | [], _, _, _, _, _, h => by simp [rdN] at h
  | c :: r, i, w, a, n, m, h => by
    rw [rdN] at h
    split at h
    · simp at h
    · split at h
      · simp at h
      · split at h
        · simp at h
          obtain ⟨rfl, rfl⟩ := h
          refine ⟨by omega, by omega, by omega, by simp⟩
        · have := rdN_bd bias r _ _ _ n m h
          refine ⟨this.1, ?_, by omega, by simp; omega⟩
          have := this.2.1
          omega

end Go.Proofs.YtgmjfnddeogfdaaDoor
