/-
  Contract: the document's Hex.
  Contract: the document's Digit.
  Contracts: the document's parts, count, number, digits.
-/
import Derived.Test.YtldddgmhmolohaaGreatDoorRows
import Derived.Test.YtldddgmhmolohaaGreatDoorMaA
import Derived.WalkSpells
import Derived.WalkLawsBesides
import Derived.Deep.QuietTactic
import Derived.BigQuiet
import Derived.Test.YtldddgmhmolohaaGreatDoorMpA
namespace Go.Proofs.YtldddgmhmolohaaGreatDoor
open Go.RowKit

end Go.Proofs.YtldddgmhmolohaaGreatDoor
namespace Go.Proofs.YtldddgmhmolohaaGreatDoor
open Go.RowKit

end Go.Proofs.YtldddgmhmolohaaGreatDoor
namespace Go.Proofs.YtldddgmhmolohaaGreatDoor
open Go.RowKit

theorem rf_infoS : (Tryz.prog.info? 9).map (fun i => (i.zero, i.size, i.bytes)) = some (some (.string ⟨#[]⟩), 1, 16) := by kernel_rfl
end Go.Proofs.YtldddgmhmolohaaGreatDoor
