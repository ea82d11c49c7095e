/-
  Contracts: the document's Digits.
  Contracts: the document's Text.
  Contracts: the document's Text of sixteen bytes.
  Text of any address: the document's.
-/
import Derived.Test.YtdifdikfgkiocaaDoorMaD
import Derived.IntWalk
import Derived.Test.YtdifdikfgkiocaaDoorMaE
namespace Go.Proofs.YtdifdikfgkiocaaDoor
open Go.RowKit

end Go.Proofs.YtdifdikfgkiocaaDoor
namespace Go.Proofs.YtdifdikfgkiocaaDoor
open Go.RowKit

end Go.Proofs.YtdifdikfgkiocaaDoor
namespace Go.Proofs.YtdifdikfgkiocaaDoor
open Go.RowKit

end Go.Proofs.YtdifdikfgkiocaaDoor
namespace Go.Proofs.YtdifdikfgkiocaaDoor
open Go.RowKit

end Go.Proofs.YtdifdikfgkiocaaDoor
