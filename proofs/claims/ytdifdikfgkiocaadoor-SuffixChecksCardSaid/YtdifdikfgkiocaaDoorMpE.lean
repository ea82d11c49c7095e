/-
  Contracts: slices.swapRangeCmpFunc and slices.rotateCmpFunc over pairs.
  Contract: slices.symMergeCmpFunc over pairs, where the first row has one.
-/
import Derived.Test.YtdifdikfgkiocaaDoorMpD
namespace Go.Proofs.YtdifdikfgkiocaaDoor
open Go.RowKit Go.Sort

end Go.Proofs.YtdifdikfgkiocaaDoor
namespace Go.Proofs.YtdifdikfgkiocaaDoor
open Go.RowKit Go.Sort

end Go.Proofs.YtdifdikfgkiocaaDoor
