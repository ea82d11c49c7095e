/-
  Pairs in memory, and the comparison by which they are sorted.
-/
import Derived.Test.YtgmjfnddeogfdaaDoorEnA
import Derived.Test.YtgmjfnddeogfdaaDoorSoM
import Derived.Shelf.SlSortCmp.QuietGrown
namespace Go.Proofs.YtgmjfnddeogfdaaDoor
open Go.RowKit Go.Sort

/-- A pair's cells: a sign, and where it stands. -/
def flat : List Pr → List Value
  | [] => []
  | p :: l => .int .i32 (p.1 : Int) :: .int .i64 (p.2 : Int) :: flat l
theorem flat_length : ∀ l : List Pr, (flat l).length = 2 * l.length
  | [] => rfl
  | p :: l => by simp [flat, flat_length l]; omega
theorem flat_append : ∀ a b : List Pr, flat (a ++ b) = flat a ++ flat b
  | [], _ => rfl
  | p :: a, b => by simp [flat, flat_append a b]
theorem flat_at : ∀ (l : List Pr) (j : Nat) (h : j < l.length), (flat l)[2 * j]? = some (.int .i32 (l[j].1 : Int)) ∧ (flat l)[2 * j + 1]? = some (.int .i64 (l[j].2 : Int))
  | [], j, h => by simp at h
  | p :: l, 0, h => by simp [flat]
  | p :: l, j + 1, h => by
    have := flat_at l j (by simpa using h)
    rw [show 2 * (j + 1) = 2 * j + 2 by omega]
    simpa [flat] using this
theorem flat_set : ∀ (l : List Pr) (j : Nat) (p : Pr), ((flat l).set (2 * j) (.int .i32 (p.1 : Int))).set (2 * j + 1) (.int .i64 (p.2 : Int)) = flat (l.set j p)
  | [], j, p => by simp [flat]
  | q :: l, 0, p => by simp [flat]
  | q :: l, j + 1, p => by
    have := flat_set l j p
    rw [show 2 * (j + 1) = 2 * j + 2 by omega]
    simpa [flat] using this

/-- A row of pairs in memory. -/
def Row2 (w : World) (g cap : Nat) (l : List Pr) : Prop := ∃ cur : Array Value, w.heap[g]? = some (.cells cur 54 (0, 0)) ∧ cur.size = 2 * cap ∧ l.length ≤ cap ∧ cur.toList.take (2 * l.length) = flat l
theorem Row2.lt {w : World} {g cap : Nat} {l : List Pr} (h : Row2 w g cap l) : g < w.heap.size := by
  obtain ⟨cur, h1, _⟩ := h
  exact (Array.getElem?_eq_some_iff.1 h1).1
theorem Row2.cells {w : World} {g cap : Nat} {l : List Pr} (h : Row2 w g cap l) (j : Nat) (hj : j < l.length) :
    w.cell? ⟨g, 2 * j, none⟩ = some (.int .i32 (l[j].1 : Int)) ∧ w.cell? ⟨g, 2 * j + 1, none⟩ = some (.int .i64 (l[j].2 : Int)) := by
  obtain ⟨cur, h1, h2, h3, h4⟩ := h
  have := flat_at l j hj
  rw [← h4] at this
  rw [List.getElem?_take_of_lt (by omega), List.getElem?_take_of_lt (by omega), Array.getElem?_toList, Array.getElem?_toList] at this
  rw [cellOf w g cur _ h1, cellOf w g cur _ h1]
  exact this
theorem Row2.frozen {w : World} {g cap : Nat} {l : List Pr} (h : Row2 w g cap l) (j : Nat) : w.frozen? ⟨g, j, none⟩ = false := by
  obtain ⟨cur, h1, _⟩ := h
  exact frozenOf w g cur _ h1 j
theorem Row2.old {w w' : World} {g cap : Nat} {l : List Pr} (h : Row2 w g cap l) (hb : w'.heap[g]? = w.heap[g]?) : Row2 w' g cap l := by
  obtain ⟨cur, h1, h2⟩ := h
  exact ⟨cur, hb.trans h1, h2⟩
theorem Row2.set {w : World} {g cap : Nat} {l : List Pr} (h : Row2 w g cap l) (j : Nat) (p : Pr) (_hj : j < l.length) :
    Row2 ((w.setCell ⟨g, 2 * j, none⟩ (.int .i32 (p.1 : Int))).setCell ⟨g, 2 * j + 1, none⟩ (.int .i64 (p.2 : Int))) g cap (l.set j p) := by
  obtain ⟨cur, h1, h2, h3, h4⟩ := h
  refine ⟨_, heap_setCell_same _ g _ _ 54 _ (heap_setCell_same w g _ cur 54 _ h1), by simpa using h2, by simpa using h3, ?_⟩
  rw [Array.toList_setIfInBounds, Array.toList_setIfInBounds, List.length_set, List.take_set, List.take_set, h4, flat_set]

theorem Row2.cells' {w : World} {g cap : Nat} {l : List Pr} (h : Row2 w g cap l) (j : Nat) (p : Pr) (hp : l[j]? = some p) :
    w.cell? ⟨g, j * 2, none⟩ = some (.int .i32 (p.1 : Int)) ∧ w.cell? ⟨g, j * 2 + 1, none⟩ = some (.int .i64 (p.2 : Int)) := by
  obtain ⟨hj, rfl⟩ := List.getElem?_eq_some_iff.1 hp
  rw [Nat.mul_comm]
  exact h.cells j hj
theorem Row2.set' {w : World} {g cap : Nat} {l : List Pr} (h : Row2 w g cap l) (j : Nat) (p : Pr) (hj : j < l.length) :
    Row2 ((w.setCell ⟨g, j * 2, none⟩ (.int .i32 (p.1 : Int))).setCell ⟨g, j * 2 + 1, none⟩ (.int .i64 (p.2 : Int))) g cap (l.set j p) := by
  rw [Nat.mul_comm]
  exact h.set j p hj
theorem Row2.grown {w : World} {g cap : Nat} {l : List Pr} (h : Row2 w g cap l) (n : Nat) (os : Array Obj) : Row2 (Sort.grow (w.drewN n) os) g cap l :=
  h.old (heap_grow_old (w.drewN n) os h.lt)

/-- All is as it was but one block, and blocks may be laid behind. -/
structure Gro (g : Nat) (w w' : World) : Prop where
  os : w'.os = w.os
  tape : w'.tape = w.tape
  output : w'.output = w.output
  size : w.heap.size ≤ w'.heap.size
  block : ∀ i, i < w.heap.size → i ≠ g → w'.heap[i]? = w.heap[i]?
theorem Gro.refl (g : Nat) (w : World) : Gro g w w := ⟨rfl, rfl, rfl, Nat.le_refl _, fun _ _ _ => rfl⟩
theorem Gro.trans {g : Nat} {a b c : World} (h : Gro g a b) (h' : Gro g b c) : Gro g a c :=
  ⟨h'.os.trans h.os, h'.tape.trans h.tape, h'.output.trans h.output, Nat.le_trans h.size h'.size, fun i hi hg => (h'.block i (Nat.lt_of_lt_of_le hi h.size) hg).trans (h.block i hi hg)⟩
theorem Gro.setCell {g : Nat} {a b : World} (h : Gro g a b) (i : Nat) (v : Value) : Gro g a (b.setCell ⟨g, i, none⟩ v) := by
  have k := But.setCell b g i v
  exact ⟨k.os.trans h.os, k.tape.trans h.tape, k.output.trans h.output, by rw [k.size]; exact h.size, fun j hj hg => (k.block j hg).trans (h.block j hj hg)⟩
theorem Gro.grow {g : Nat} {a b : World} (h : Gro g a b) (n : Nat) (os : Array Obj) : Gro g a (Sort.grow (b.drewN n) os) := by
  refine ⟨h.os, h.tape, h.output, ?_, fun j hj hg => ?_⟩
  · rw [size_grow]; exact Nat.le_trans h.size (Nat.le_add_right _ _)
  · rw [← h.block j hj hg]
    exact heap_grow_old (b.drewN n) os (Nat.lt_of_lt_of_le hj h.size)
theorem Gro.drew {g : Nat} {a b : World} (h : Gro g a b) : Gro g a b.drew := ⟨h.os, h.tape, h.output, h.size, h.block⟩
theorem Gro.below {g B : Nat} {a b : World} (h : Gro g a b) (hB : B ≤ g) (hs : B ≤ a.heap.size) : Below B a b :=
  ⟨h.os, h.tape, h.output, h.size, fun i hi => h.block i (by omega) (by omega)⟩

set_option maxHeartbeats 400000 in
theorem cmp_any (p q : Pr) (w : World) :
    Calls Tryd.prog 51 #[.agg #[.int .i32 (p.1 : Int), .int .i64 (p.2 : Int)], .agg #[.int .i32 (q.1 : Int), .int .i64 (q.2 : Int)]] w fun e w' => e = .returned (.int .i64 (cmpN p.1 q.1)) ∧ ∃ n os, w' = Sort.grow (w.drewN n) os := by
  go_enter Tryd.func51, Tryd.ntmps51
  go_wp2_with (go_at_call 52; refine (Compare_any _ _ _).mono ?_; rintro e w' ⟨rfl, rfl⟩)
  go_ret
  refine ⟨rfl, 0, #[.cells #[.int .i32 (p.1 : Int), .int .i64 (p.2 : Int)] 54, .cells #[.int .i32 (q.1 : Int), .int .i64 (q.2 : Int)] 54], ?_⟩
  rw [alloc_eq_grow, alloc_eq_grow, grow_grow]
  rfl

end Go.Proofs.YtgmjfnddeogfdaaDoor
