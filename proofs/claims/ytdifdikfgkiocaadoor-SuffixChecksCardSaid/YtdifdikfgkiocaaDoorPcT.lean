/-
  Contracts: the document's Hex and Decode.
-/
import Derived.Test.YtdifdikfgkiocaaDoorMaG
import Derived.Test.YtdifdikfgkiocaaDoorMrA
namespace Go.Proofs.YtdifdikfgkiocaaDoor
open Go.RowKit

end Go.Proofs.YtdifdikfgkiocaaDoor
