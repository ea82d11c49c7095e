/-
  Contract: the document's Decode.
-/
import Derived.Test.YtdifdikfgkiocaaDoorMpI
import Derived.Test.YtdifdikfgkiocaaDoorPnU
namespace Go.Proofs.YtdifdikfgkiocaaDoor
open Go.RowKit

end Go.Proofs.YtdifdikfgkiocaaDoor
