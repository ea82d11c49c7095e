/-
  Contracts: hosts' steps of a name, one behind the other; Machine; Parse.
  Contracts: hosts' other steps of a name; Machine.
-/
import Derived.Test.YtldddgmhmolohaaMhD
import Derived.Test.YtldddgmhmolohaaMpJ
import Derived.Test.YtldddgmhmolohaaMhB
import Derived.Test.YtldddgmhmolohaaShelfH
namespace Go.Proofs.Ytldddgmhmolohaa
open Go.RowKit

end Go.Proofs.Ytldddgmhmolohaa
namespace Go.Proofs.Ytldddgmhmolohaa
open Go.RowKit

end Go.Proofs.Ytldddgmhmolohaa
