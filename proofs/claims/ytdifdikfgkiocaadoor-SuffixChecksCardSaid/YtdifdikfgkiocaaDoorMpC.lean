/-
  Contracts: the signs with those that digits tell put among them; Decode.
  Contracts: the document's bound, next, digit, number.
-/
import Derived.Test.YtdifdikfgkiocaaDoorMpA
import Derived.Test.YtdifdikfgkiocaaDoorMpB
import Derived.Laws.Cover4
namespace Go.Proofs.YtdifdikfgkiocaaDoor
open Go.RowKit

def utf (l : List Nat) : ByteArray := runesBytes (l.map Int.ofNat)
end Go.Proofs.YtdifdikfgkiocaaDoor
namespace Go.Proofs.YtdifdikfgkiocaaDoor
open Go.RowKit

end Go.Proofs.YtdifdikfgkiocaaDoor
