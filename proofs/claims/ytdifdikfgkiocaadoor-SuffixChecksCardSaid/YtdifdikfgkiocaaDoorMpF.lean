/-
  Contract: slices.symMergeCmpFunc over pairs, where the second row has one.
  Contract: slices.symMergeCmpFunc over pairs.
-/
import Derived.Test.YtdifdikfgkiocaaDoorMpE
namespace Go.Proofs.YtdifdikfgkiocaaDoor
open Go.RowKit Go.Sort

end Go.Proofs.YtdifdikfgkiocaaDoor
namespace Go.Proofs.YtdifdikfgkiocaaDoor
open Go.RowKit Go.Sort

end Go.Proofs.YtdifdikfgkiocaaDoor
