/-
  Contracts: the document's Parts, Machine, Parse of hosts.
  Contract: the document's Parse of hosts.
  The document's Parse of hosts, whole.
-/
import Derived.Test.YtdifdikfgkiocaaDoorMhC
import Derived.Test.YtdifdikfgkiocaaDoorHsRP
import Derived.Test.YtdifdikfgkiocaaDoorMhA
import Derived.Test.YtdifdikfgkiocaaDoorMaF
import Derived.Test.YtdifdikfgkiocaaDoorMrF
import Derived.Test.YtdifdikfgkiocaaDoorMrC
import Derived.Test.YtdifdikfgkiocaaDoorMrD
import Derived.Test.YtdifdikfgkiocaaDoorPcT
import Derived.Test.YtdifdikfgkiocaaDoorLawLB
import Derived.Test.YtdifdikfgkiocaaDoorHsC
import Derived.Deep.DeepCutAuto
namespace Go.Proofs.YtdifdikfgkiocaaDoor
open Go.RowKit

end Go.Proofs.YtdifdikfgkiocaaDoor
namespace Go.Proofs.YtdifdikfgkiocaaDoor
open Go.RowKit

end Go.Proofs.YtdifdikfgkiocaaDoor
namespace Go.Proofs.YtdifdikfgkiocaaDoor
open Go.RowKit

end Go.Proofs.YtdifdikfgkiocaaDoor
