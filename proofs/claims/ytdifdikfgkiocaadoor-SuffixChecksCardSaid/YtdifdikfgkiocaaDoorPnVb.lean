/-
  Contract: the document's Decode, where no plain signs stand ahead.
-/
import Derived.Test.YtdifdikfgkiocaaDoorPnV
namespace Go.Proofs.YtdifdikfgkiocaaDoor
open Go.RowKit

end Go.Proofs.YtdifdikfgkiocaaDoor
