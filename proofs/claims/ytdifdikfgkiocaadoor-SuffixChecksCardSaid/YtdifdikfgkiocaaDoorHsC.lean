/-
  Contracts: hosts.named, hosts.bracketed, hosts.Parse.
-/
import Derived.Test.YtdifdikfgkiocaaDoorMhC
namespace Go.Proofs.YtdifdikfgkiocaaDoor
open Go.RowKit

end Go.Proofs.YtdifdikfgkiocaaDoor
