/-
  Contracts: the bound of a digit, a byte's digit, the next bias, a number that bytes tell.
  Contract: slices.Insert of one rune into a row of runes, at whatever place: the row with that rune there.
  Contracts: whether all bytes are plain; the place of the last border; a text's plain signs and its digits.
-/
import Derived.Test.YtldddgmhmolohaaRows
import Derived.Test.YtldddgmhmolohaaMpA
import Derived.WalkSpells
import Derived.WalkLawsBesides
import Derived.Deep.QuietTactic
import Derived.BigQuiet
import Derived.Shelf.Spec.SlicesInsertGrow
import Derived.ArgAppend
import Derived.Deep.AppendLies
import Derived.OneCell
import Derived.RegionTactic
import Derived.Laws.IdiomStrings
import Derived.Laws.RangeAny
import Derived.Lib.DecodeN
namespace Go.Proofs.Ytldddgmhmolohaa
open Go.RowKit

end Go.Proofs.Ytldddgmhmolohaa
namespace Go.Proofs.Ytldddgmhmolohaa
open Go.RowKit

theorem cellOf (w : World) (g : Nat) (cur : Array Value) (e : TypeId) (h : w.heap[g]? = some (.cells cur e (0, 0))) (j : Nat) : w.cell? ⟨g, j, none⟩ = cur[j]? := cell_of_row w _ _ _ _ _ h
/-- The library's own road where there is no room. -/
def grown (cur : List Value) (n i G : Nat) : List Value := (cur.take n).take i ++ List.replicate (n + 1 - i) (.int .i32 0) ++ List.replicate (G - (n + 1)) (.int .i32 0)
/-- A row of runes of one's own. -/
def RowR (w : World) (base : Nat) (v : Value) (xs : List Value) : Prop :=
  ∃ g cap cur, v = .slice (some ⟨g, 0, none⟩) xs.length cap ∧ base ≤ g ∧ w.heap[g]? = some (.cells cur 21 (0, 0)) ∧ xs.length ≤ cap ∧ cap ≤ maxLen ∧ cur.size = cap ∧ cur.toList.take xs.length = xs
theorem RowR.len {w : World} {base : Nat} {v : Value} {xs : List Value} (h : RowR w base v xs) : xs.length ≤ maxLen := by
  obtain ⟨g, cap, cur, hv, hb, hg, hn, hc, hs, ht⟩ := h
  omega
theorem RowR.ne {w : World} {base : Nat} {v : Value} {xs : List Value} (h : RowR w base v xs) : v ≠ .slice none 0 0 := by
  obtain ⟨g, cap, cur, rfl, _⟩ := h
  intro h; cases h
end Go.Proofs.Ytldddgmhmolohaa
namespace Go.Proofs.Ytldddgmhmolohaa
open Go.RowKit

def plainL (l : List UInt8) : Bool := l.all fun c => decide (c.toNat < 128)
/-- The place of the last border, or -1. -/
def lastR : List UInt8 → Int
  | [] => -1
  | c :: r => if c = 45 then r.length else lastR r
def lastI (l : List UInt8) : Int := lastR l.reverse
/-- The plain signs of few letters, and their digits. -/
def pSigns (s : ByteArray) : ByteArray := if lastI s.data.toList ≤ 0 then ⟨#[]⟩ else s.extract 0 (lastI s.data.toList).toNat
def pRest (s : ByteArray) : ByteArray := if lastI s.data.toList ≤ 0 then s else s.extract ((lastI s.data.toList).toNat + 1) s.size

end Go.Proofs.Ytldddgmhmolohaa
