/-
  Contract: the document's Decode.
  Contracts: the document's Lower, plain, Few; its Label and Show.
-/
import Derived.Test.YtdifdikfgkiocaaDoorPnVa
import Derived.Test.YtdifdikfgkiocaaDoorPnVb
import Derived.Test.YtdifdikfgkiocaaDoorMpJ
import Derived.Test.YtdifdikfgkiocaaDoorEnVX
namespace Go.Proofs.YtdifdikfgkiocaaDoor
open Go.RowKit

end Go.Proofs.YtdifdikfgkiocaaDoor
namespace Go.Proofs.YtdifdikfgkiocaaDoor
open Go.RowKit

end Go.Proofs.YtdifdikfgkiocaaDoor
