/-
  Contracts: slices.swapRangeCmpFunc and slices.rotateCmpFunc over pairs.
  Contract: slices.symMergeCmpFunc over pairs, where the first row has one.
-/
import Derived.Test.YtldddgmhmolohaaMpD
namespace Go.Proofs.Ytldddgmhmolohaa
open Go.RowKit Go.Sort

end Go.Proofs.Ytldddgmhmolohaa
namespace Go.Proofs.Ytldddgmhmolohaa
open Go.RowKit Go.Sort

end Go.Proofs.Ytldddgmhmolohaa
