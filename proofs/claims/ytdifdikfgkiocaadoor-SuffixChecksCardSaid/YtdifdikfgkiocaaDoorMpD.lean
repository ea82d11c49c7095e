/-
  Contracts: a digit's letter, the comparison of two signs, what a tree of sums counts ahead of a place, one place more.
  Pairs in order: what it is to put one into a row, plainly, of no program.
  Pairs in memory, and the comparison by which they are sorted.
  Contract: slices.insertionSortCmpFunc over pairs.
-/
import Derived.Test.YtdifdikfgkiocaaDoorMpA
import Derived.Test.YtdifdikfgkiocaaDoorPnU
import Derived.Shelf.SlSortCmp.QuietGrown
import Derived.Shelf.SlSortCmp.InsertionK
namespace Go.Proofs.YtdifdikfgkiocaaDoor
open Go.RowKit

/-- The letter of a digit. -/
def letL (d : Nat) : UInt8 := UInt8.ofNat (if d < 26 then 97 + d else 48 + d - 26)
/-- A tree of sums in memory. -/
def Fen (w : World) (g n : Nat) (f : Nat → Nat) : Prop := ∃ cs : Array Value, w.heap[g]? = some (.cells cs 3 (0, 0)) ∧ cs.size = n ∧ ∀ j, 0 < j → j < n → cs[j]? = some (iv (f j))
theorem Fen.cell {w : World} {g n : Nat} {f : Nat → Nat} (h : Fen w g n f) (j : Nat) (h0 : 0 < j) (hj : j < n) : w.cell? ⟨g, j, none⟩ = some (.int .i64 (f j : Int)) := by
  obtain ⟨cs, h1, h2, h3⟩ := h
  rw [cellOf w g cs _ h1, h3 j h0 hj]; rfl
theorem Fen.congr {w : World} {g n : Nat} {f f' : Nat → Nat} (h : Fen w g n f) (he : ∀ j, 0 < j → j < n → f j = f' j) : Fen w g n f' := by
  obtain ⟨cs, h1, h2, h3⟩ := h
  exact ⟨cs, h1, h2, fun j h0 hj => by rw [h3 j h0 hj, he j h0 hj]⟩
/-- All is as it was but one block. -/
structure But (g : Nat) (w w' : World) : Prop where
  os : w'.os = w.os
  tape : w'.tape = w.tape
  output : w'.output = w.output
  size : w'.heap.size = w.heap.size
  block : ∀ i, i ≠ g → w'.heap[i]? = w.heap[i]?
theorem But.refl (g : Nat) (w : World) : But g w w := ⟨rfl, rfl, rfl, rfl, fun _ _ => rfl⟩
theorem But.trans {g : Nat} {a b c : World} (h : But g a b) (h' : But g b c) : But g a c := ⟨h'.os.trans h.os, h'.tape.trans h.tape, h'.output.trans h.output, h'.size.trans h.size, fun i hi => (h'.block i hi).trans (h.block i hi)⟩
end Go.Proofs.YtdifdikfgkiocaaDoor
namespace Go.Proofs.YtdifdikfgkiocaaDoor

abbrev Pr := Nat × Nat
end Go.Proofs.YtdifdikfgkiocaaDoor
namespace Go.Proofs.YtdifdikfgkiocaaDoor
open Go.RowKit Go.Sort

/-- A pair's cells: a sign, and where it stands. -/
def flat : List Pr → List Value
  | [] => []
  | p :: l => .int .i32 (p.1 : Int) :: .int .i64 (p.2 : Int) :: flat l
theorem flat_append : ∀ a b : List Pr, flat (a ++ b) = flat a ++ flat b
  | [], _ => rfl
  | p :: a, b => by simp [flat, flat_append a b]
theorem flat_at : ∀ (l : List Pr) (j : Nat) (h : j < l.length), (flat l)[2 * j]? = some (.int .i32 (l[j].1 : Int)) ∧ (flat l)[2 * j + 1]? = some (.int .i64 (l[j].2 : Int))
  | [], j, h => by simp at h
  | p :: l, 0, h => by simp [flat]
  | p :: l, j + 1, h => by
    have := flat_at l j (by simpa using h)
    rw [show 2 * (j + 1) = 2 * j + 2 by omega]
    simpa [flat] using this
/-- All is as it was but one block, and blocks may be laid behind. -/
structure Gro (g : Nat) (w w' : World) : Prop where
  os : w'.os = w.os
  tape : w'.tape = w.tape
  output : w'.output = w.output
  size : w.heap.size ≤ w'.heap.size
  block : ∀ i, i < w.heap.size → i ≠ g → w'.heap[i]? = w.heap[i]?
theorem Gro.refl (g : Nat) (w : World) : Gro g w w := ⟨rfl, rfl, rfl, Nat.le_refl _, fun _ _ _ => rfl⟩
theorem Gro.trans {g : Nat} {a b c : World} (h : Gro g a b) (h' : Gro g b c) : Gro g a c :=
  ⟨h'.os.trans h.os, h'.tape.trans h.tape, h'.output.trans h.output, Nat.le_trans h.size h'.size, fun i hi hg => (h'.block i (Nat.lt_of_lt_of_le hi h.size) hg).trans (h.block i hi hg)⟩
theorem Gro.grow {g : Nat} {a b : World} (h : Gro g a b) (n : Nat) (os : Array Obj) : Gro g a (Sort.grow (b.drewN n) os) := by
  refine ⟨h.os, h.tape, h.output, ?_, fun j hj hg => ?_⟩
  · rw [size_grow]; exact Nat.le_trans h.size (Nat.le_add_right _ _)
  · rw [← h.block j hj hg]
    exact heap_grow_old (b.drewN n) os (Nat.lt_of_lt_of_le hj h.size)
end Go.Proofs.YtdifdikfgkiocaaDoor
namespace Go.Proofs.YtdifdikfgkiocaaDoor
open Go.RowKit Go.Sort

end Go.Proofs.YtdifdikfgkiocaaDoor
