/-
  Contract: slices.symMergeCmpFunc over pairs, where the first row is the longer one.
-/
import Derived.Test.YtldddgmhmolohaaMpF
namespace Go.Proofs.Ytldddgmhmolohaa
open Go.RowKit Go.Sort

end Go.Proofs.Ytldddgmhmolohaa
