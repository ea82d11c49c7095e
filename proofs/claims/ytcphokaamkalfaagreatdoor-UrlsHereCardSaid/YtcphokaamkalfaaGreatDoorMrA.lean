/-
  Contract: the document's Hex.
  Contract: the document's Digit.
  Contracts: the document's parts, count, number, digits.
-/
import Derived.Test.YtcphokaamkalfaaGreatDoorRows
import Derived.Test.YtcphokaamkalfaaGreatDoorMaA
import Derived.WalkSpells
import Derived.WalkLawsBesides
import Derived.Deep.QuietTactic
import Derived.BigQuiet
import Derived.Test.YtcphokaamkalfaaGreatDoorMpA
namespace Go.Proofs.YtcphokaamkalfaaGreatDoor
open Go.RowKit

end Go.Proofs.YtcphokaamkalfaaGreatDoor
namespace Go.Proofs.YtcphokaamkalfaaGreatDoor
open Go.RowKit

end Go.Proofs.YtcphokaamkalfaaGreatDoor
namespace Go.Proofs.YtcphokaamkalfaaGreatDoor
open Go.RowKit

theorem rf_infoS : (Tryz.prog.info? 9).map (fun i => (i.zero, i.size, i.bytes)) = some (some (.string ⟨#[]⟩), 1, 16) := by kernel_rfl
end Go.Proofs.YtcphokaamkalfaaGreatDoor
