/-
  The digits of a number, told one by one: the iterator's contract.
  What a body that holds ranges over functions needs: an append within a fence whose run is known; the marks that it leaves; the digits' function; what the numbers of few letters are.
  The inner loop of the numbers' telling: what lies where between two of its rounds. And how many digits a number has.
  Contract: the document's told.
  The document's Signs, plainly; what it answers.
-/
import Derived.RangeFuncNested
import Derived.RangeFuncBound
import Derived.RangeFuncCalls
import Derived.RangeFuncLeaves
import Derived.Shelf.Abstract
import Derived.Shelf.RegionOpen
import Derived.OwnWalkIn
import Derived.TacticsInMore
import Derived.LoopNIn
import Derived.LoopIn
import Derived.Test.YtldddgmhmolohaaMpD
import Derived.RangeFuncBox
import Derived.Test.YtldddgmhmolohaaMpG
import Derived.Test.YtldddgmhmolohaaMpC
import Derived.Lib.DecodeN
namespace Go.Proofs.Ytldddgmhmolohaa
open Go.RowKit Go.Shelf
attribute [local go_sem] Oper.semAt_some

/-- A number's digits, from k on. -/
def digsL : Nat → Nat → Nat → Nat → List UInt8
  | 0, n, _, _ => [letL n]
  | f + 1, n, k, b => if n < stepN k b then [letL n] else letL (stepN k b + (n - stepN k b) % (36 - stepN k b)) :: digsL f ((n - stepN k b) / (36 - stepN k b)) (k + 36) b
end Go.Proofs.Ytldddgmhmolohaa
namespace Go.Proofs.Ytldddgmhmolohaa
open Go.RowKit Go.Shelf
attribute [local go_sem] Oper.semAt_some

/-- The digits of the numbers that tell the other signs: told: the places of the signs that are told. -/
def fewN (begun : Nat) : List Pr → List Nat → Nat → Nat → Nat → Nat → List UInt8
  | [], _, _, _, _, _ => []
  | (m, p) :: R, told, i, place, last, bias =>
    digsL ((m - last) * (begun + i + 1) + cntLt told p - place) ((m - last) * (begun + i + 1) + cntLt told p - place) 36 bias ++
      fewN begun R (p :: told) (i + 1) (cntLt told p + 1) m (nb ((m - last) * (begun + i + 1) + cntLt told p - place) (begun + i + 1) (i == 0))
/-- Who is told next: no smaller sign; of an equal one, no earlier place. -/
def Nxt (told : List Nat) (place last : Nat) : List Pr → Prop
  | [] => True
  | (m, p) :: _ => last ≤ m ∧ (last = m → place ≤ cntLt told p)
end Go.Proofs.Ytldddgmhmolohaa
namespace Go.Proofs.Ytldddgmhmolohaa
open Go.RowKit Go.Shelf

/-- All that lay, but a box and a value's own row, lies as it lay. -/
structure Keep (Bo : Nat) (v0 : Value) (W0 W : World) : Prop where
  os : W.os = W0.os
  tape : W.tape = W0.tape
  output : W.output = W0.output
  size : W0.heap.size ≤ W.heap.size
  block : ∀ q, q < W0.heap.size → q ≠ Bo → v0.ownBlock ≠ some q → W.heap[q]? = W0.heap[q]?
theorem Keep.refl (Bo : Nat) (v0 : Value) (W : World) : Keep Bo v0 W W := ⟨rfl, rfl, rfl, Nat.le_refl _, fun _ _ _ _ => rfl⟩
theorem Keep.grown {Bo : Nat} {v0 : Value} {W0 W W' : World} {row : Option Nat} (h : Keep Bo v0 W0 W) (hg : W.grownBy W' row) (hr : ∀ k, row = some k → W0.heap.size ≤ k ∨ k = Bo ∨ v0.ownBlock = some k) : Keep Bo v0 W0 W' := by
  refine ⟨hg.os.trans h.os, hg.tape.trans h.tape, hg.output.trans h.output, Nat.le_trans h.size hg.size, fun q hq hne hv => ?_⟩
  have hsz := h.size
  rw [hg.block q (by omega) (fun e => ?_)]
  · exact h.block q hq hne hv
  · rcases hr q e.symm with h1 | h1 | h1
    · omega
    · exact hne h1
    · exact hv h1
end Go.Proofs.Ytldddgmhmolohaa
namespace Go.Proofs.Ytldddgmhmolohaa
open Go.RowKit

end Go.Proofs.Ytldddgmhmolohaa
namespace Go.Proofs.Ytldddgmhmolohaa
open Go.RowKit

/-- A text's signs, if it is one in UTF-8. -/
def sgO (s : ByteArray) : Nat → Nat → Option (List Nat)
  | 0, _ => some []
  | f + 1, p => if p < s.size then (if (Utf8.decode s p).1 = 65533 ∧ (Utf8.decode s p).2 = 1 then none else (sgO s f (p + (Utf8.decode s p).2)).map fun l => (Utf8.decode s p).1 :: l) else some []
end Go.Proofs.Ytldddgmhmolohaa
