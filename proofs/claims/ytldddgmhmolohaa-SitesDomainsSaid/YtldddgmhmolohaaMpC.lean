/-
  Contracts: the signs with those that digits tell put among them; Decode.
  Contracts: the document's bound, next, digit, number.
-/
import Derived.Test.YtldddgmhmolohaaMpA
import Derived.Test.YtldddgmhmolohaaMpB
import Derived.Laws.Cover4
namespace Go.Proofs.Ytldddgmhmolohaa
open Go.RowKit

/-- A sign as a cell. -/
def rv (n : Nat) : Value := .int .i32 (n : Int)
def utf (l : List Nat) : ByteArray := runesBytes (l.map Int.ofNat)
end Go.Proofs.Ytldddgmhmolohaa
namespace Go.Proofs.Ytldddgmhmolohaa
open Go.RowKit

end Go.Proofs.Ytldddgmhmolohaa
