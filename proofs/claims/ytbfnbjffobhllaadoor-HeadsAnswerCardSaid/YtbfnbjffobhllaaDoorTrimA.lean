/-
  Contracts: Trim; and what it answers, as a plain function.
-/
import Derived.Test.YtbfnbjffobhllaaDoorAscA
import Derived.Test.YtbfnbjffobhllaaDoorShelf
namespace Go.Proofs.YtbfnbjffobhllaaDoor
open Go.RowKit

/-- Is a byte a blank? -/
def bl (c : UInt8) : Bool := ([32, 9] : List UInt8).contains c
theorem bl_iff (c : UInt8) : bl c = true ↔ c = 32 ∨ c = 9 := by simp [bl]
/-- A text without the blanks at its ends. -/
def trimL (l : List UInt8) : List UInt8 := Lib.trimS l [32, 9]
def trimA (s : ByteArray) : ByteArray := ⟨(trimL s.data.toList).toArray⟩
def cutL (l : List UInt8) : List UInt8 := l.dropWhile bl
def cutR (l : List UInt8) : List UInt8 := (l.reverse.dropWhile bl).reverse
theorem trimL_eq (l : List UInt8) : trimL l = cutL (cutR l) := rfl
theorem cutR_snoc (l : List UInt8) (c : UInt8) : cutR (l ++ [c]) = if bl c then cutR l else l ++ [c] := by
  simp only [cutR, List.reverse_append, List.reverse_cons, List.reverse_nil, List.nil_append, List.singleton_append, List.dropWhile_cons]
  split <;> simp
theorem cutR_cons (c : UInt8) (l : List UInt8) : cutR (c :: l) = if cutR l = [] then (if bl c then [] else [c]) else c :: cutR l := by
  unfold cutR
  rw [List.reverse_cons, List.dropWhile_append]
  by_cases h : l.reverse.dropWhile bl = []
  · rw [h]; simp [List.dropWhile_cons]; split <;> simp
  · have h1 : (l.reverse.dropWhile bl).isEmpty = false := by simpa using h
    rw [h1]; simp [h]
theorem trimL_cons (c : UInt8) (l : List UInt8) (h : bl c = true) : trimL (c :: l) = trimL l := by
  rw [trimL_eq, trimL_eq, cutR_cons, if_pos h]
  split
  · rename_i e; rw [e]
  · simp [cutL, h]
theorem trimL_snoc (l : List UInt8) (c : UInt8) (h : bl c = true) : trimL (l ++ [c]) = trimL l := by
  rw [trimL_eq, trimL_eq, cutR_snoc, if_pos h]
theorem trimL_nil : trimL [] = [] := rfl
theorem cutL_of {l : List UInt8} (h : ∀ c, l.head? = some c → bl c = false) : cutL l = l := by
  cases l with
  | nil => rfl
  | cons c l => simp [cutL, h c rfl]
theorem cutR_of {l : List UInt8} (h : ∀ c, l.getLast? = some c → bl c = false) : cutR l = l := by
  rw [cutR]
  have : l.reverse.dropWhile bl = l.reverse := cutL_of (l := l.reverse) (fun c hc => h c (by simpa using hc))
  rw [this, List.reverse_reverse]
theorem trimL_of {l : List UInt8} (h1 : ∀ c, l.head? = some c → bl c = false) (h2 : ∀ c, l.getLast? = some c → bl c = false) : trimL l = l := by
  rw [trimL_eq, cutR_of h2, cutL_of h1]
theorem trimL_le (l : List UInt8) : (trimL l).length ≤ l.length := by
  rw [trimL_eq, cutL, cutR]
  have h1 := (List.dropWhile_sublist bl (l := (l.reverse.dropWhile bl).reverse)).length_le
  have h2 := (List.dropWhile_sublist bl (l := l.reverse)).length_le
  simp at h1 h2
  omega
theorem trimA_le (s : ByteArray) : (trimA s).size ≤ s.size := by
  have h := trimL_le s.data.toList
  have e : (trimA s).size = (trimL s.data.toList).length := by simp [trimA, ByteArray.size]
  have e' : s.data.toList.length = s.size := by simp
  omega

set_option maxHeartbeats 400000 in
theorem Trim_any (s : ByteArray) (w : World) (hs : s.size ≤ maxLen) :
    Calls Tryd.prog 98 #[.string s] w fun e w' => e = .returned (.string (trimA s)) ∧ Below w.heap.size w w' := by
  have hcon := Tryd.strings_Trim_blanks s w hs
  change Calls Tryd.prog 105 _ _ (fun e w' => e = .returned (.string (trimA s)) ∧ Below w.heap.size w w') at hcon
  have HC := Lib.hid hcon
  clear hcon
  go_enter Tryd.func98, Tryd.ntmps98
  go_wp2_with (go_at_call 105; refine HC.out.mono ?_; rintro e w' ⟨rfl, hB⟩)
  go_ret
  exact ⟨rfl, hB⟩

end Go.Proofs.YtbfnbjffobhllaaDoor
