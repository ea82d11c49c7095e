/-
  Contract: the reader's six.
  Contract: Six: the document's answer.
  An array or a struct is built out of its cells.
-/
import Derived.Test.YtldddgmhmolohaaMaG
import Derived.Test.YtldddgmhmolohaaMhA
import Derived.Test.YtldddgmhmolohaaMaA
namespace Go.Proofs.Ytldddgmhmolohaa
open Go.RowKit

theorem Kp.then {X : Nat → Prop} {a w w' : World} (h : Kp X a w) (k : Below a.heap.size w w') : Kp X a w' :=
  ⟨k.os.trans h.os, k.tape.trans h.tape, k.output.trans h.output, Nat.le_trans h.size k.size, fun i hi hx => (k.block i hi).trans (h.block i hi hx)⟩
end Go.Proofs.Ytldddgmhmolohaa
namespace Go.Proofs.Ytldddgmhmolohaa
open Go.RowKit

end Go.Proofs.Ytldddgmhmolohaa
namespace Go.Proofs.Ytldddgmhmolohaa
open Go.RowKit

end Go.Proofs.Ytldddgmhmolohaa
