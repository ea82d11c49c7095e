/-
  Plain facts on bytes, numbers and lists, of no program.
-/
import Derived.WalkKit
import Derived.Lib.Hide
namespace Go.Proofs.YtbfnbjffobhllaaDoor
open Go.RowKit

theorem ret_int {k : IntKind} {a b : Int} (h : a = b) : Ending.returned (.int k a) = .returned (.int k b) := by rw [h]
theorem ret_bool {a b : Bool} (h : a = b) : Ending.returned (.bool a) = .returned (.bool b) := by rw [h]
theorem take_snoc (s : ByteArray) (k : Nat) (h : k < s.size) : s.data.toList.take (k + 1) = s.data.toList.take k ++ [s[k]] := by
  rw [List.take_succ_eq_append_getElem (by simpa using h)]; rfl
theorem byte_lt (c : UInt8) : (c.toNat : Int) < 256 := by have := c.toNat_lt; omega

/-- Is a byte from a to b? -/
def inR (a b c : Int) : Bool := decide (a ≤ c) && decide (c ≤ b)
theorem inR_true {a b c : Int} : inR a b c = true ↔ a ≤ c ∧ c ≤ b := by simp [inR]
theorem inR_false {a b c : Int} : inR a b c = false ↔ c < a ∨ b < c := by
  simp [inR]; omega
def allR (a b : Int) (l : List UInt8) : Bool := l.all fun c => inR a b c.toNat
theorem allR_snoc (a b : Int) (l : List UInt8) (c : UInt8) : allR a b (l ++ [c]) = (allR a b l && inR a b c.toNat) := by simp [allR]
theorem allR_take_false (a b : Int) (s : ByteArray) (k : Nat) (h : k < s.size) (hc : inR a b s[k].toNat = false) : allR a b s.data.toList = false := by
  have hm : s[k] ∈ s.data.toList := by
    have : s[k] = s.data[k]'h := rfl
    rw [this]; simp
  rw [allR, List.all_eq_false]; exact ⟨_, hm, by simp [hc]⟩

/-- What digits tell. -/
def num (l : List UInt8) : Int := l.foldl (fun n c => n * 10 + ((c.toNat : Int) - 48)) 0
theorem num_snoc (l : List UInt8) (c : UInt8) : num (l ++ [c]) = num l * 10 + ((c.toNat : Int) - 48) := by simp [num]
theorem snocInd {α : Type} {P : List α → Prop} (h0 : P []) (hs : ∀ l c, P l → P (l ++ [c])) (l : List α) : P l := by
  have h : ∀ r : List α, P r.reverse := fun r => by
    induction r with
    | nil => exact h0
    | cons c r ih => rw [List.reverse_cons]; exact hs _ _ ih
  simpa using h l.reverse
theorem num_bd (l : List UInt8) (h : allR 48 57 l = true) : 0 ≤ num l ∧ num l < 10 ^ l.length := by
  revert h
  refine snocInd (P := fun l => allR 48 57 l = true → 0 ≤ num l ∧ num l < 10 ^ l.length) (by simp [num]) (fun l c ih h => ?_) l
  rw [allR_snoc, Bool.and_eq_true, inR_true] at h
  have := ih h.1
  rw [num_snoc, List.length_append, List.length_singleton, Int.pow_succ]
  omega

end Go.Proofs.YtbfnbjffobhllaaDoor
