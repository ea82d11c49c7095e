/-
  Contract: slices.symMergeCmpFunc over pairs, where the first row is the longer one.
-/
import Derived.Test.YtdifdikfgkiocaaDoorMpF
namespace Go.Proofs.YtdifdikfgkiocaaDoor
open Go.RowKit Go.Sort

end Go.Proofs.YtdifdikfgkiocaaDoor
