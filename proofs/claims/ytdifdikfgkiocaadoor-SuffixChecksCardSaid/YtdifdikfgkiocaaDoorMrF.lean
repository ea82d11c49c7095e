/-
  Contracts: the document's count, number, digits.
  Plain words on the document's reading of four bytes: the parts that count, their numbers, the bytes.
  Contract: the document's Four.
-/
import Derived.Test.YtdifdikfgkiocaaDoorMrA
import Derived.Test.YtdifdikfgkiocaaDoorMaC
import Derived.Deep.DeepCutAuto
namespace Go.Proofs.YtdifdikfgkiocaaDoor
open Go.RowKit

end Go.Proofs.YtdifdikfgkiocaaDoor
namespace Go.Proofs.YtdifdikfgkiocaaDoor
open Go.RowKit

end Go.Proofs.YtdifdikfgkiocaaDoor
namespace Go.Proofs.YtdifdikfgkiocaaDoor
open Go.RowKit

end Go.Proofs.YtdifdikfgkiocaaDoor
