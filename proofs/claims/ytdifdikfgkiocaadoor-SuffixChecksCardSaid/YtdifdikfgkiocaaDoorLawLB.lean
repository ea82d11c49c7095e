/-
  Contracts: the document's Label and Show. The walk of PunyLabels.
-/
import Derived.Test.YtdifdikfgkiocaaDoorMrE
import Derived.Test.YtdifdikfgkiocaaDoorEnS
namespace Go.Proofs.YtdifdikfgkiocaaDoor
open Go.RowKit

end Go.Proofs.YtdifdikfgkiocaaDoor
