/-
  Contracts: readerOf, whole, either; the ways that they make; plain: what looks like four bytes.
  Contract: looksLikeFour.
  Contracts: put, fourOf.
  Contract: fourOf.
  Contract: Four: the document's answer.
-/
import Derived.Test.YtdifdikfgkiocaaDoorMaE
import Derived.Test.YtdifdikfgkiocaaDoorMaC
namespace Go.Proofs.YtdifdikfgkiocaaDoor
open Go.RowKit

end Go.Proofs.YtdifdikfgkiocaaDoor
namespace Go.Proofs.YtdifdikfgkiocaaDoor
open Go.RowKit

end Go.Proofs.YtdifdikfgkiocaaDoor
namespace Go.Proofs.YtdifdikfgkiocaaDoor
open Go.RowKit

end Go.Proofs.YtdifdikfgkiocaaDoor
namespace Go.Proofs.YtdifdikfgkiocaaDoor
open Go.RowKit

end Go.Proofs.YtdifdikfgkiocaaDoor
namespace Go.Proofs.YtdifdikfgkiocaaDoor
open Go.RowKit

end Go.Proofs.YtdifdikfgkiocaaDoor
