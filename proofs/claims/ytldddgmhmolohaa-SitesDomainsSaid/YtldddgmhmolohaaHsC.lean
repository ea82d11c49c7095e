/-
  Contracts: hosts.named, hosts.bracketed, hosts.Parse.
-/
import Derived.Test.YtldddgmhmolohaaMhC
namespace Go.Proofs.Ytldddgmhmolohaa
open Go.RowKit

end Go.Proofs.Ytldddgmhmolohaa
