/-
  Contracts: hosts' steps of a name, one behind the other; Machine; Parse.
  Contracts: hosts' other steps of a name; Machine.
-/
import Derived.Test.YtdifdikfgkiocaaDoorMhD
import Derived.Test.YtdifdikfgkiocaaDoorMpJ
import Derived.Test.YtdifdikfgkiocaaDoorMhB
import Derived.Test.YtdifdikfgkiocaaDoorShelfH
namespace Go.Proofs.YtdifdikfgkiocaaDoor
open Go.RowKit

end Go.Proofs.YtdifdikfgkiocaaDoor
namespace Go.Proofs.YtdifdikfgkiocaaDoor
open Go.RowKit

end Go.Proofs.YtdifdikfgkiocaaDoor
