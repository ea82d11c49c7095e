/-
  Plain facts on bytes, numbers and lists, of no program.
  The words of the chapter on names in few letters, as plain functions of numbers and lists, of no program.
  A tree of sums over places: what each of its numbers counts, what is added up ahead of a place, what one place more turns. Plain, of no program.
  What few letters say, as a plain function of lists, of no program.
-/
import Derived.WalkKit
import Derived.Lib.Hide
namespace Go.Proofs.Ytldddgmhmolohaa
open Go.RowKit

theorem ret_int {k : IntKind} {a b : Int} (h : a = b) : Ending.returned (.int k a) = .returned (.int k b) := by rw [h]
theorem ret_bool {a b : Bool} (h : a = b) : Ending.returned (.bool a) = .returned (.bool b) := by rw [h]
theorem take_snoc (s : ByteArray) (k : Nat) (h : k < s.size) : s.data.toList.take (k + 1) = s.data.toList.take k ++ [s[k]] := by
  rw [List.take_succ_eq_append_getElem (by simpa using h)]; rfl
theorem byte_lt (c : UInt8) : (c.toNat : Int) < 256 := by have := c.toNat_lt; omega

/-- Is a byte from a to b? -/
def inR (a b c : Int) : Bool := decide (a ≤ c) && decide (c ≤ b)
theorem inR_true {a b c : Int} : inR a b c = true ↔ a ≤ c ∧ c ≤ b := by simp [inR]
theorem inR_false {a b c : Int} : inR a b c = false ↔ c < a ∨ b < c := by
  simp [inR]; omega
/-- What digits tell. -/
def num (l : List UInt8) : Int := l.foldl (fun n c => n * 10 + ((c.toNat : Int) - 48)) 0
theorem snocInd {α : Type} {P : List α → Prop} (h0 : P []) (hs : ∀ l c, P l → P (l ++ [c])) (l : List α) : P l := by
  have h : ∀ r : List α, P r.reverse := fun r => by
    induction r with
    | nil => exact h0
    | cons c r ih => rw [List.reverse_cons]; exact hs _ _ ih
  simpa using h l.reverse
end Go.Proofs.Ytldddgmhmolohaa
namespace Go.Proofs.Ytldddgmhmolohaa
open Go.RowKit

/-- The bound of the digit at k. -/
def stepN (k b : Nat) : Nat := min (max (k - b) 1) 26
/-- A number, divided, behind which the next bias is reckoned. -/
def halve (n signs : Nat) (first : Bool) : Nat := (if first then n / 700 else n / 2) + (if first then n / 700 else n / 2) / signs
def biasL : Nat → Nat → Nat → Nat
  | 0, n, k => k + 36 * n / (n + 38)
  | f + 1, n, k => if 455 < n then biasL f (n / 35) (k + 36) else k + 36 * n / (n + 38)
/-- The next bias. -/
def nb (n signs : Nat) (first : Bool) : Nat := biasL 20 (halve n signs first) 0
/-- The digit that a byte is. -/
def digV (c : UInt8) : Option Nat :=
  if 97 ≤ c.toNat ∧ c.toNat ≤ 122 then some (c.toNat - 97)
  else if 65 ≤ c.toNat ∧ c.toNat ≤ 90 then some (c.toNat - 65)
  else if 48 ≤ c.toNat ∧ c.toNat ≤ 57 then some (c.toNat - 48 + 26)
  else none
/-- A number that bytes tell, from the i-th digit on, and how many digits it has. -/
def rdN (bias : Nat) : List UInt8 → Nat → Nat → Nat → Option (Nat × Nat)
  | [], _, _, _ => none
  | c :: r, i, w, a => match digV c with
    | none => none
    | some d => if 2147483647 < a + d * w then none else if d < stepN (36 * (i + 1)) bias then some (a + d * w, i + 1) else rdN bias r (i + 1) (w * (36 - stepN (36 * (i + 1)) bias)) (a + d * w)
end Go.Proofs.Ytldddgmhmolohaa
namespace Go.Proofs.Ytldddgmhmolohaa
open Go.RowKit

/-- The lowest bit of a number. -/
def lowF : Nat → Nat → Nat
  | 0, _ => 0
  | f + 1, n => if n % 2 = 1 then 1 else 2 * lowF f (n / 2)
def lowB (n : Nat) : Nat := lowF n n
/-- How many of the places stand ahead of n. -/
def cntLt (ps : List Nat) (n : Nat) : Nat := ps.countP (fun p => decide (p < n))
/-- How many of the places the i-th number counts. -/
def cntAt (ps : List Nat) (i : Nat) : Nat := ps.countP (fun p => decide (i - lowB i ≤ p ∧ p < i))
end Go.Proofs.Ytldddgmhmolohaa
namespace Go.Proofs.Ytldddgmhmolohaa
open Go.RowKit

/-- No sign: above the last one, or a half of one. -/
def badS (x : Nat) : Bool := decide (1114111 < x) || (decide (55296 ≤ x) && decide (x ≤ 57343))
/-- A sign put among others. -/
def insN (l : List Nat) (i x : Nat) : List Nat := l.take i ++ x :: l.drop i
/-- The signs, with those that digits tell put among them. -/
def decL : Nat → List Nat → List UInt8 → Nat → Nat → Nat → Bool → Option (List Nat)
  | 0, l, r, _, _, _, _ => if r = [] then some l else none
  | f + 1, l, r, place, sign, bias, first =>
    if r = [] then some l else
    match rdN bias r 0 1 0 with
    | none => none
    | some (n, m) =>
      if badS (sign + (place + n) / (l.length + 1)) then none
      else decL f (insN l ((place + n) % (l.length + 1)) (sign + (place + n) / (l.length + 1))) (r.drop m) ((place + n) % (l.length + 1) + 1) (sign + (place + n) / (l.length + 1)) (nb n (l.length + 1) first) false
end Go.Proofs.Ytldddgmhmolohaa
