/-
  What few letters say, as the document counts: the same, as long as there are at most a thousand signs.
  Contracts of small functions of package ascii: within, its closure.
  Contracts: moved, its closure, changed over that closure, Lower, Same.
  Contract: Decode.
  Contract: Lower.
-/
import Derived.Test.YtdifdikfgkiocaaDoorMpA
import Derived.Test.YtdifdikfgkiocaaDoorRows
import Derived.WalkSpells
import Derived.WalkLawsBesides
import Derived.Deep.QuietTactic
import Derived.BigQuiet
import Derived.OneCell
import Derived.Laws.IdiomStrings
import Derived.Laws.EntriesVeiled
import Derived.Test.YtdifdikfgkiocaaDoorMpC
namespace Go.Proofs.YtdifdikfgkiocaaDoor
open Go.RowKit

end Go.Proofs.YtdifdikfgkiocaaDoor
namespace Go.Proofs.YtdifdikfgkiocaaDoor
open Go.RowKit

end Go.Proofs.YtdifdikfgkiocaaDoor
namespace Go.Proofs.YtdifdikfgkiocaaDoor
open Go.RowKit

def low (c : UInt8) : UInt8 := if 65 ≤ c.toNat ∧ c.toNat ≤ 90 then c + 32 else c
theorem cell_old {W : World} {a : Addr} {v : Value} (o : Obj) (h : W.cell? a = some v) : (W.alloc o).cell? a = some v := by
  rw [World.cell?_alloc_lt W o a (block_lt_of_cell h)]; exact h
end Go.Proofs.YtdifdikfgkiocaaDoor
namespace Go.Proofs.YtdifdikfgkiocaaDoor
open Go.RowKit

/-- What Decode answers. -/
def decO (s : ByteArray) : Option (List Nat) := decL (pRest s).size ((pSigns s).data.toList.map (·.toNat)) (pRest s).data.toList 0 128 72 true
def decW : Option (List Nat) → ByteArray × Int
  | none => (⟨#[]⟩, 4)
  | some l => (utf l, 0)
def decT (s : ByteArray) : ByteArray × Int :=
  if 65536 < s.size then (⟨#[]⟩, 3) else if plainL s.data.toList = false then (⟨#[]⟩, 4) else
  decW (decO s)
end Go.Proofs.YtdifdikfgkiocaaDoor
namespace Go.Proofs.YtdifdikfgkiocaaDoor
open Go.RowKit

/-- A text in small letters. -/
def lowS (s : ByteArray) : ByteArray := ⟨(s.data.toList.map low).toArray⟩
end Go.Proofs.YtdifdikfgkiocaaDoor
