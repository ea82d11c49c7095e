/-
  Contract: sixOf.
  Plain words: an address's text says it again. Of no program.
  Words and small laws for walks, of no function: a table of 256, cells of new memory, bytes that are put behind a row.
  Contracts: digit, firstByte, Decode.
  Contract: Decode.
-/
import Derived.Test.YtdifdikfgkiocaaDoorMaF
import Derived.Test.YtdifdikfgkiocaaDoorMaE
import Derived.Test.YtdifdikfgkiocaaDoorRows
import Derived.Test.YtdifdikfgkiocaaDoorMpA
import Derived.WalkSpells
import Derived.WalkLawsBesides
import Derived.Deep.QuietTactic
import Derived.BigQuiet
import Derived.OneCell
import Derived.Deep.WholeRow
import Derived.Laws.CopyOwn
import Derived.Laws.IdiomStrings
import Derived.Laws.EntriesVeiled
import Derived.Deep.AppendLies
import Derived.ArgAppend
import Derived.RegionTactic
import Derived.Laws.Cover4
import Derived.Lib.DecodeN
import Derived.Lib.AppendZeros
import Derived.Test.YtdifdikfgkiocaaDoorMaA
namespace Go.Proofs.YtdifdikfgkiocaaDoor
open Go.RowKit

/-- Pieces as bytes. -/
def pb (P : List Nat) : List Nat := P.flatMap (be 2)
end Go.Proofs.YtdifdikfgkiocaaDoor
namespace Go.Proofs.YtdifdikfgkiocaaDoor
open Go.RowKit

theorem decs_ok (P : List Nat) : ∀ q ∈ P.map (numF 10 4), q ≠ [] ∧ ∀ c ∈ q, c ≠ 46 := by
  intro q hq
  obtain ⟨n, _, rfl⟩ := List.mem_map.1 hq
  exact ⟨numF_ne 10 4 n (by omega), fun c hc => (numF_no (by omega) (by omega) 4 n c hc).1⟩
theorem num1_dec (n : Nat) (h : n < 256) : num1 (numF 10 4 n) = some [n] := by
  rw [num1, numD_dec 3 n (by omega) (by omega)]
/-- What begins with a digit and has digits alone looks like four bytes. -/
theorem looks_dec (n : Nat) : looksQ (numF 10 4 n) = true := by
  have h1 := numF_all (b := 10) (by omega) (by omega) 4 n
  have h2 := numF_ne 10 4 n (by omega)
  rw [looksQ, h1]
  cases h : numF 10 4 n with
  | nil => contradiction
  | cons x y => rfl
theorem trimP_id {l : List UInt8} (h : l.getLast? ≠ some 46) : trimP l = l := by rw [trimP, if_neg h]
theorem four_back (a b c d : Nat) (r : List Nat) (ha : a < 256) (hb : b < 256) (hc : c < 256) (hd : d < 256) : fourD (four1T (a :: b :: c :: d :: r)) = (true, some [a, b, c, d]) := by
  have h1 := decs_ok [a, b, c, d]
  have hl := join_last 46 _ _ h1
  have hp := pts_join 46 _ _ (fun q hq => (h1 q hq).2)
  have ht : trimP (four1T (a :: b :: c :: d :: r)) = four1T (a :: b :: c :: d :: r) := trimP_id hl.2
  have hp' : pts 46 (four1T (a :: b :: c :: d :: r)) = [a, b, c, d].map (numF 10 4) := hp
  have he : evs num1 num1 ([a, b, c, d].map (numF 10 4)) = some [a, b, c, d] := evs_mapG _ _ _ a [b, c, d] (fun m hm => by
    have : m < 256 := by
      simp at hm
      rcases hm with rfl | rfl | rfl | rfl <;> assumption
    exact ⟨num1_dec m this, num1_dec m this⟩)
  have hk : looksQ (lastQ ([a, b, c, d].map (numF 10 4))) = true := looks_dec d
  rw [fourD, ht, hp', hk, he]
  simp only [if_true]
  rw [if_neg (by simp)]
  have : lay4 4 [a, b, c, d] = some [a, b, c, d] := by
    simp only [lay4, ha, hb, hc]
    simp [be, hd]
  rw [this]
end Go.Proofs.YtdifdikfgkiocaaDoor
namespace Go.Proofs.YtdifdikfgkiocaaDoor
open Go.RowKit

end Go.Proofs.YtdifdikfgkiocaaDoor
namespace Go.Proofs.YtdifdikfgkiocaaDoor
open Go.RowKit

end Go.Proofs.YtdifdikfgkiocaaDoor
namespace Go.Proofs.YtdifdikfgkiocaaDoor
open Go.RowKit

end Go.Proofs.YtdifdikfgkiocaaDoor
