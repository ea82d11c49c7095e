/-
  Text of any address: the program's; addresses cell by cell.
-/
import Derived.Test.YtgmjfnddeogfdabDoorTxF
namespace Go.Proofs.YtgmjfnddeogfdabDoor
open Go.RowKit

/-- The text of an address. -/
def textD (six : Bool) (l : List Nat) : List UInt8 := if six then sixT l else four1T l
theorem Text_any (six : Bool) (l : List Nat) (w : World) (hl : l.length = 16) (hb : ∀ x ∈ l, x < 256) (h10 : Fmt 10 256 w) (h16 : Fmt 16 65536 w) :
    Calls Tryd.prog 9 #[.agg (cellsA six l)] w fun e w' => e = .returned (.string (asB (textD six l))) ∧ Below w.heap.size w w' := by
  cases six
  · exact Text4_any l w hl hb h10
  · exact Text6_any l w hl hb h16
/-- The cells of an address, one by one. -/
def lit16 (six : Bool) (a0 a1 a2 a3 a4 a5 a6 a7 a8 a9 b0 b1 b2 b3 b4 b5 : Nat) : Array Value := cellsA six [a0, a1, a2, a3, a4, a5, a6, a7, a8, a9, b0, b1, b2, b3, b4, b5]
theorem list16 {l : List Nat} (h : l.length = 16) : ∃ a0 a1 a2 a3 a4 a5 a6 a7 a8 a9 b0 b1 b2 b3 b4 b5, l = [a0, a1, a2, a3, a4, a5, a6, a7, a8, a9, b0, b1, b2, b3, b4, b5] := by
  match l, h with
  | [a0, a1, a2, a3, a4, a5, a6, a7, a8, a9, b0, b1, b2, b3, b4, b5], _ => exact ⟨a0, a1, a2, a3, a4, a5, a6, a7, a8, a9, b0, b1, b2, b3, b4, b5, rfl⟩
/-- A block is read cell by cell, in every later world. -/
theorem cells_later {W : World} {g : Nat} {C : Array Value} {t : TypeId} (hG : W.heap[g]? = some (.cells C t (0, 0))) (w' : World) (hb : Below W.heap.size W w') (j : Nat) : w'.cell? ⟨g, j, none⟩ = C[j]? := by
  rw [hb.cell (p := ⟨g, j, none⟩) (lt_of_block hG), cell_of_row _ _ _ C _ _ hG]

end Go.Proofs.YtgmjfnddeogfdabDoor
