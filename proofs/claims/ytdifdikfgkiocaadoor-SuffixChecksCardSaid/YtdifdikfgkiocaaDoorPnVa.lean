/-
  Contract: the document's Decode, where plain signs stand ahead.
-/
import Derived.Test.YtdifdikfgkiocaaDoorPnV
namespace Go.Proofs.YtdifdikfgkiocaaDoor
open Go.RowKit

end Go.Proofs.YtdifdikfgkiocaaDoor
