/-
  Contract: Same.
-/
import Derived.Test.YthffgnlebljkcaaDoorLowC
namespace Go.Proofs.YthffgnlebljkcaaDoor
open Go.RowKit

def sameS (a b : ByteArray) : Bool := (lowS a).toList == (lowS b).toList

end Go.Proofs.YthffgnlebljkcaaDoor
