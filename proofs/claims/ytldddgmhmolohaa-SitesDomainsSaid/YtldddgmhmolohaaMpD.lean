/-
  Contracts: a digit's letter, the comparison of two signs, what a tree of sums counts ahead of a place, one place more.
  Pairs in order: what it is to put one into a row, plainly, of no program.
  Pairs in memory, and the comparison by which they are sorted.
  Contract: slices.insertionSortCmpFunc over pairs.
-/
import Derived.Test.YtldddgmhmolohaaMpA
import Derived.Test.YtldddgmhmolohaaPnU
import Derived.Shelf.SlSortCmp.QuietGrown
import Derived.Shelf.SlSortCmp.InsertionK
namespace Go.Proofs.Ytldddgmhmolohaa
open Go.RowKit

/-- The letter of a digit. -/
def letL (d : Nat) : UInt8 := UInt8.ofNat (if d < 26 then 97 + d else 48 + d - 26)
/-- A tree of sums in memory. -/
def Fen (w : World) (g n : Nat) (f : Nat → Nat) : Prop := ∃ cs : Array Value, w.heap[g]? = some (.cells cs 3 (0, 0)) ∧ cs.size = n ∧ ∀ j, 0 < j → j < n → cs[j]? = some (iv (f j))
theorem Fen.cell {w : World} {g n : Nat} {f : Nat → Nat} (h : Fen w g n f) (j : Nat) (h0 : 0 < j) (hj : j < n) : w.cell? ⟨g, j, none⟩ = some (.int .i64 (f j : Int)) := by
  obtain ⟨cs, h1, h2, h3⟩ := h
  rw [cellOf w g cs _ h1, h3 j h0 hj]; rfl
theorem Fen.congr {w : World} {g n : Nat} {f f' : Nat → Nat} (h : Fen w g n f) (he : ∀ j, 0 < j → j < n → f j = f' j) : Fen w g n f' := by
  obtain ⟨cs, h1, h2, h3⟩ := h
  exact ⟨cs, h1, h2, fun j h0 hj => by rw [h3 j h0 hj, he j h0 hj]⟩
theorem Fen.set {w : World} {g n : Nat} {f : Nat → Nat} (h : Fen w g n f) (i v : Nat) (f' : Nat → Nat) (hi : i < n) (he : f' i = v) (ho : ∀ j, j ≠ i → f' j = f j) : Fen (w.setCell ⟨g, i, none⟩ (.int .i64 (v : Int))) g n f' := by
  obtain ⟨cs, h1, h2, h3⟩ := h
  refine ⟨_, heap_setCell_same w g i cs 3 _ h1, by simpa using h2, fun j h0 hj => ?_⟩
  rw [Array.getElem?_setIfInBounds]
  by_cases e : i = j
  · subst e
    rw [if_pos rfl, if_pos (by omega), he]; rfl
  · rw [if_neg e, h3 j h0 hj, ho j (fun h => e h.symm)]

/-- All is as it was but one block. -/
structure But (g : Nat) (w w' : World) : Prop where
  os : w'.os = w.os
  tape : w'.tape = w.tape
  output : w'.output = w.output
  size : w'.heap.size = w.heap.size
  block : ∀ i, i ≠ g → w'.heap[i]? = w.heap[i]?
theorem But.refl (g : Nat) (w : World) : But g w w := ⟨rfl, rfl, rfl, rfl, fun _ _ => rfl⟩
theorem But.trans {g : Nat} {a b c : World} (h : But g a b) (h' : But g b c) : But g a c := ⟨h'.os.trans h.os, h'.tape.trans h.tape, h'.output.trans h.output, h'.size.trans h.size, fun i hi => (h'.block i hi).trans (h.block i hi)⟩
theorem But.setCell (w : World) (g i : Nat) (v : Value) : But g w (w.setCell ⟨g, i, none⟩ v) := by
  refine ⟨rfl, rfl, rfl, by simp [World.setCell], fun j hj => ?_⟩
  simp only [World.setCell, Array.getElem?_modify]
  rw [if_neg (fun e => hj e.symm)]
theorem But.below {g B : Nat} {a b c : World} (h : But g b c) (hb : Below B a b) (hB : B ≤ g) : Below B a c :=
  ⟨h.os.trans hb.os, h.tape.trans hb.tape, h.output.trans hb.output, by rw [h.size]; exact hb.size, fun i hi => (h.block i (by omega)).trans (hb.block i hi)⟩

end Go.Proofs.Ytldddgmhmolohaa
namespace Go.Proofs.Ytldddgmhmolohaa

abbrev Pr := Nat × Nat
end Go.Proofs.Ytldddgmhmolohaa
namespace Go.Proofs.Ytldddgmhmolohaa
open Go.RowKit Go.Sort

/-- A pair's cells: a sign, and where it stands. -/
def flat : List Pr → List Value
  | [] => []
  | p :: l => .int .i32 (p.1 : Int) :: .int .i64 (p.2 : Int) :: flat l
theorem flat_append : ∀ a b : List Pr, flat (a ++ b) = flat a ++ flat b
  | [], _ => rfl
  | p :: a, b => by simp [flat, flat_append a b]
theorem flat_at : ∀ (l : List Pr) (j : Nat) (h : j < l.length), (flat l)[2 * j]? = some (.int .i32 (l[j].1 : Int)) ∧ (flat l)[2 * j + 1]? = some (.int .i64 (l[j].2 : Int))
  | [], j, h => by simp at h
  | p :: l, 0, h => by simp [flat]
  | p :: l, j + 1, h => by
    have := flat_at l j (by simpa using h)
    rw [show 2 * (j + 1) = 2 * j + 2 by omega]
    simpa [flat] using this
theorem flat_set : ∀ (l : List Pr) (j : Nat) (p : Pr), ((flat l).set (2 * j) (.int .i32 (p.1 : Int))).set (2 * j + 1) (.int .i64 (p.2 : Int)) = flat (l.set j p)
  | [], j, p => by simp [flat]
  | q :: l, 0, p => by simp [flat]
  | q :: l, j + 1, p => by
    have := flat_set l j p
    rw [show 2 * (j + 1) = 2 * j + 2 by omega]
    simpa [flat] using this

/-- All is as it was but one block, and blocks may be laid behind. -/
structure Gro (g : Nat) (w w' : World) : Prop where
  os : w'.os = w.os
  tape : w'.tape = w.tape
  output : w'.output = w.output
  size : w.heap.size ≤ w'.heap.size
  block : ∀ i, i < w.heap.size → i ≠ g → w'.heap[i]? = w.heap[i]?
theorem Gro.refl (g : Nat) (w : World) : Gro g w w := ⟨rfl, rfl, rfl, Nat.le_refl _, fun _ _ _ => rfl⟩
theorem Gro.trans {g : Nat} {a b c : World} (h : Gro g a b) (h' : Gro g b c) : Gro g a c :=
  ⟨h'.os.trans h.os, h'.tape.trans h.tape, h'.output.trans h.output, Nat.le_trans h.size h'.size, fun i hi hg => (h'.block i (Nat.lt_of_lt_of_le hi h.size) hg).trans (h.block i hi hg)⟩
theorem Gro.setCell {g : Nat} {a b : World} (h : Gro g a b) (i : Nat) (v : Value) : Gro g a (b.setCell ⟨g, i, none⟩ v) := by
  have k := But.setCell b g i v
  exact ⟨k.os.trans h.os, k.tape.trans h.tape, k.output.trans h.output, by rw [k.size]; exact h.size, fun j hj hg => (k.block j hg).trans (h.block j hj hg)⟩
theorem Gro.grow {g : Nat} {a b : World} (h : Gro g a b) (n : Nat) (os : Array Obj) : Gro g a (Sort.grow (b.drewN n) os) := by
  refine ⟨h.os, h.tape, h.output, ?_, fun j hj hg => ?_⟩
  · rw [size_grow]; exact Nat.le_trans h.size (Nat.le_add_right _ _)
  · rw [← h.block j hj hg]
    exact heap_grow_old (b.drewN n) os (Nat.lt_of_lt_of_le hj h.size)
theorem Gro.drew {g : Nat} {a b : World} (h : Gro g a b) : Gro g a b.drew := ⟨h.os, h.tape, h.output, h.size, h.block⟩
theorem Gro.below {g B : Nat} {a b : World} (h : Gro g a b) (hB : B ≤ g) (hs : B ≤ a.heap.size) : Below B a b :=
  ⟨h.os, h.tape, h.output, h.size, fun i hi => h.block i (by omega) (by omega)⟩

end Go.Proofs.Ytldddgmhmolohaa
namespace Go.Proofs.Ytldddgmhmolohaa
open Go.RowKit Go.Sort

end Go.Proofs.Ytldddgmhmolohaa
