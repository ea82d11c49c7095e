/-
  What few letters say, as a plain function of lists, of no program.
-/
import Derived.Test.YtgmjfnddeogfdaaDoorPnM
namespace Go.Proofs.YtgmjfnddeogfdaaDoor
open Go.RowKit

/-- No sign: above the last one, or a half of one. -/
def badS (x : Nat) : Bool := decide (1114111 < x) || (decide (55296 ≤ x) && decide (x ≤ 57343))
theorem badS_true {x : Nat} : badS x = true ↔ 1114111 < x ∨ 55296 ≤ x ∧ x ≤ 57343 := by simp [badS]
theorem badS_false {x : Nat} : badS x = false ↔ x ≤ 1114111 ∧ (x < 55296 ∨ 57343 < x) := by
  rw [Bool.eq_false_iff, Ne, badS_true]; omega
/-- A sign put among others. -/
def insN (l : List Nat) (i x : Nat) : List Nat := l.take i ++ x :: l.drop i
theorem insN_length (l : List Nat) (i x : Nat) : (insN l i x).length = l.length + 1 := by simp [insN]; omega
theorem insN_mem {l : List Nat} {i x y : Nat} (h : y ∈ insN l i x) : y = x ∨ y ∈ l := by
  simp [insN] at h
  rcases h with h | h | h
  · exact .inr (List.mem_of_mem_take h)
  · exact .inl h
  · exact .inr (List.mem_of_mem_drop h)

/-- The signs, with those that digits tell put among them. -/
def decL : Nat → List Nat → List UInt8 → Nat → Nat → Nat → Bool → Option (List Nat)
  | 0, l, r, _, _, _, _ => if r = [] then some l else none
  | f + 1, l, r, place, sign, bias, first =>
    if r = [] then some l else
    match rdN bias r 0 1 0 with
    | none => none
    | some (n, m) =>
      if badS (sign + (place + n) / (l.length + 1)) then none
      else decL f (insN l ((place + n) % (l.length + 1)) (sign + (place + n) / (l.length + 1))) (r.drop m) ((place + n) % (l.length + 1) + 1) (sign + (place + n) / (l.length + 1)) (nb n (l.length + 1) first) false
theorem decL_nil (f : Nat) (l : List Nat) (place sign bias : Nat) (first : Bool) : decL f l [] place sign bias first = some l := by
  cases f <;> simp [decL]
theorem decL_none {f : Nat} {l : List Nat} {r : List UInt8} {place sign bias : Nat} {first : Bool} (hr : r ≠ []) (h : rdN bias r 0 1 0 = none) : decL (f + 1) l r place sign bias first = none := by
  rw [decL, if_neg hr, h]
theorem decL_bad {f : Nat} {l : List Nat} {r : List UInt8} {place sign bias n m : Nat} {first : Bool} (hr : r ≠ []) (h : rdN bias r 0 1 0 = some (n, m)) (hb : badS (sign + (place + n) / (l.length + 1)) = true) :
    decL (f + 1) l r place sign bias first = none := by
  rw [decL, if_neg hr, h]; simp [hb]
theorem decL_on {f : Nat} {l : List Nat} {r : List UInt8} {place sign bias n m : Nat} {first : Bool} (hr : r ≠ []) (h : rdN bias r 0 1 0 = some (n, m)) (hb : badS (sign + (place + n) / (l.length + 1)) = false) :
    decL (f + 1) l r place sign bias first = decL f (insN l ((place + n) % (l.length + 1)) (sign + (place + n) / (l.length + 1))) (r.drop m) ((place + n) % (l.length + 1) + 1) (sign + (place + n) / (l.length + 1)) (nb n (l.length + 1) first) false := by
  rw [decL, if_neg hr, h]; simp [hb]

end Go.Proofs.YtgmjfnddeogfdaaDoor
