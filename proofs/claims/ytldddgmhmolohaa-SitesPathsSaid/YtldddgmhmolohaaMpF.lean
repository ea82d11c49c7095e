/-
  Contract: slices.symMergeCmpFunc over pairs, where the second row has one.
  Contract: slices.symMergeCmpFunc over pairs.
-/
import Derived.Test.YtldddgmhmolohaaMpE
namespace Go.Proofs.Ytldddgmhmolohaa
open Go.RowKit Go.Sort

end Go.Proofs.Ytldddgmhmolohaa
namespace Go.Proofs.Ytldddgmhmolohaa
open Go.RowKit Go.Sort

end Go.Proofs.Ytldddgmhmolohaa
