/-
  Plain words on hosts: below another one; labels.
-/
import Derived.Test.YtdifdikfgkiocaaGreatDoorMhC
namespace Go.Proofs.YtdifdikfgkiocaaGreatDoor
open Go.RowKit

/-- The labels of a host. -/
def labelsL (s : ByteArray) : List ByteArray := if s.size = 0 then [] else if machB s then [s] else rawB 46 s

end Go.Proofs.YtdifdikfgkiocaaGreatDoor
