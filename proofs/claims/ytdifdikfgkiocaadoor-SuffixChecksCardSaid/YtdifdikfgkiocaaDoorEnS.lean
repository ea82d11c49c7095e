/-
  Contract: the document's Signs.
-/
import Derived.Test.YtdifdikfgkiocaaDoorMpH
namespace Go.Proofs.YtdifdikfgkiocaaDoor
open Go.RowKit

end Go.Proofs.YtdifdikfgkiocaaDoor
