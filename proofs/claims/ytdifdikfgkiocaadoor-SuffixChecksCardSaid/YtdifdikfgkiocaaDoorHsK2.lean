/-
  Contract: the document's Machine.
-/
import Derived.Test.YtdifdikfgkiocaaDoorMhK
namespace Go.Proofs.YtdifdikfgkiocaaDoor
open Go.RowKit

end Go.Proofs.YtdifdikfgkiocaaDoor
