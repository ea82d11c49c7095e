/-
  A region that draws its order, whose operations only read, and whose callees leave all that was there as it was: one walk serves every order.
  Contracts: puny.tellsOthers, puny.Label, puny.Show; how long few letters are.
  Contract: puny.Label.
  Contracts: puny.Show, is; constants.
  alive: some answers that the document fixes, of few letters; all of them hold.
  Plain words on few letters: numbers that are told are read again, and back; signs that are told are put where they were, and back. Of no program.
  Plain words on few letters: what was put among others is told again.
  Plain words on signs as bytes: what is told is read again, and back.
  Plain words: few letters of a text, and back; great and small letters in few letters. Of no program.
  Plain words: what is told in few letters is read again.
  Plain words: what few letters say is told as they were, in small letters; great and small letters say the same.
  Plain words: what few letters say is told as they were, in small letters.
  Plain words on parts of plain signs.
  Plain words: what is asked for is asked for again, and what is shown of it is asked for as it.
  Plain words: what is asked for, again; what is shown of it, asked for.
-/
import Derived.Test.YtldddgmhmolohaaMpA
import Derived.Deep.WholeRow
import Derived.OneCell
import Derived.Deep.QuietTactic
import Derived.BigQuiet
import Derived.Test.YtldddgmhmolohaaRows
import Derived.Test.YtldddgmhmolohaaEnVX
import Derived.Test.YtldddgmhmolohaaMpI
import Derived.Test.YtldddgmhmolohaaShelfP
import Derived.Test.YtldddgmhmolohaaMpH
import Derived.Lib.RuneCount
namespace Go.Proofs.Ytldddgmhmolohaa
open Go.RowKit

/-- A world in which all blocks of W are as they were. -/
structure BW (W : World) where
  w : World
  h : Below W.heap.size W w
instance (W : World) : Inhabited (BW W) := ⟨⟨W, Below.refl _ _⟩⟩
/-- A block that lies in W, cell by cell. -/
theorem BW.cell {W : World} {g : Nat} {C : Array Value} {t : TypeId} (hG : W.heap[g]? = some (.cells C t (0, 0))) (p : BW W) (j : Nat) : p.w.cell? ⟨g, j, none⟩ = C[j]? := by
  rw [p.h.cell (p := ⟨g, j, none⟩) (lt_of_block hG), cell_of_row _ _ _ C _ _ hG]
theorem BW.at {W : World} {g : Nat} {o : Obj} (hG : W.heap[g]? = some o) (p : BW W) : p.w.heap[g]? = some o := (p.h.block g (lt_of_block hG)).trans hG

end Go.Proofs.Ytldddgmhmolohaa
namespace Go.Proofs.Ytldddgmhmolohaa
open Go.RowKit

/-- Does few letters' text tell others? -/
def tellsB (few : ByteArray) : Bool := if (decT few).2 = 0 then if plainL (decT few).1.data.toList then false else if (refEncT (decT few).1).2 = 0 then decide ((refEncT (decT few).1).1 = few) else false else false
end Go.Proofs.Ytldddgmhmolohaa
namespace Go.Proofs.Ytldddgmhmolohaa
open Go.RowKit

def labE (l : ByteArray) : ByteArray × Int := if 63 < l.size then (⟨#[]⟩, 5) else (l, 0)
def cutX (l : ByteArray) : ByteArray := ⟨(Lib.trimPrefix l.data.toList [120, 110, 45, 45]).toArray⟩
def fewT (l : ByteArray) : ByteArray := ⟨(docE ((sgn l l.size 0).map (·.1))).toArray⟩
/-- What Label answers. -/
def labT (s : ByteArray) : ByteArray × Int :=
  if s.size = 0 then (⟨#[]⟩, 5) else if Lib.validD s.data.toList = false then (⟨#[]⟩, 5) else if 63 < Lib.runeCount s then (⟨#[]⟩, 5) else
  if plainL (lowS s).data.toList then
    (if Lib.hasPrefix (lowS s).data.toList [120, 110, 45, 45] then (if tellsB (cutX (lowS s)) then labE (lowS s) else (⟨#[]⟩, 5)) else labE (lowS s))
  else labE ((⟨#[120, 110, 45, 45]⟩ : ByteArray) ++ fewT (lowS s))
end Go.Proofs.Ytldddgmhmolohaa
namespace Go.Proofs.Ytldddgmhmolohaa
open Go.RowKit

end Go.Proofs.Ytldddgmhmolohaa
namespace Go.Proofs.Ytldddgmhmolohaa
open Go.RowKit

end Go.Proofs.Ytldddgmhmolohaa
namespace Go.Proofs.Ytldddgmhmolohaa
open Go.RowKit

end Go.Proofs.Ytldddgmhmolohaa
namespace Go.Proofs.Ytldddgmhmolohaa
open Go.RowKit

end Go.Proofs.Ytldddgmhmolohaa
namespace Go.Proofs.Ytldddgmhmolohaa
open Go.RowKit

end Go.Proofs.Ytldddgmhmolohaa
namespace Go.Proofs.Ytldddgmhmolohaa
open Go.RowKit

end Go.Proofs.Ytldddgmhmolohaa
namespace Go.Proofs.Ytldddgmhmolohaa
open Go.RowKit

end Go.Proofs.Ytldddgmhmolohaa
namespace Go.Proofs.Ytldddgmhmolohaa
open Go.RowKit

end Go.Proofs.Ytldddgmhmolohaa
namespace Go.Proofs.Ytldddgmhmolohaa
open Go.RowKit

theorem lowS_data (s : ByteArray) : (lowS s).data.toList = s.data.toList.map low := rfl
end Go.Proofs.Ytldddgmhmolohaa
namespace Go.Proofs.Ytldddgmhmolohaa
open Go.RowKit

end Go.Proofs.Ytldddgmhmolohaa
namespace Go.Proofs.Ytldddgmhmolohaa
open Go.RowKit

end Go.Proofs.Ytldddgmhmolohaa
