/-
  What puny.sorted begins with: a tree of sums of noughts, an iterator at the first byte, two empty rows.
-/
import Derived.Test.YtgmjfnddeogfdaaDoorEnD
import Derived.Laws.MakeOwn
namespace Go.Proofs.YtgmjfnddeogfdaaDoor
open Go.RowKit

theorem make_tally (n : Nat) (w : World) (hn : n ≤ 10000000) : (Instr.makeSlice 50 (.int .i64 (n : Int)) (.int .i64 (n : Int))).run Tryd.prog w = .ok (.slice (some ⟨w.heap.size, 0, none⟩) n n) (w.alloc (.cells (madeCells (Value.int .i64 0).cells n) 3)) := by
  obtain ⟨i0, hi, hz0, hz1, hz2⟩ := info_parts infoI
  have h := run_make w 50 3 i0 (.int .i64 0) Tryd.underlying50 hi hz0 .i64 .i64 (n : Int) (n : Int) (by omega) (Int.le_refl _) (by rw [hz2]; omega) (by omega)
  rw [hz1, Nat.mul_one] at h
  simpa using h
theorem fen_made (n : Nat) (w : World) : Fen (w.alloc (.cells (madeCells (Value.int .i64 0).cells n) 3)) w.heap.size n (cntAt []) := by
  refine ⟨_, heap_alloc_new _ _, ?_, fun j h0 hj => ?_⟩
  · simp [madeCells, Value.cells]
  · have : cntAt [] j = 0 := rfl
    rw [this]
    simp [madeCells, Value.cells, iv]
    exact ⟨j, by rw [Array.getElem?_eq_getElem (by simpa using hj)]; simp, by rw [Nat.mod_one]; rfl⟩
theorem rune_bd (s : ByteArray) (p : Nat) : (Utf8.decode s p).1 ≤ 1114111 := by
  rw [Lib.decode_at]
  have := (s.get! p).toNat_lt
  generalize (s.get! p).toNat = b0 at *
  unfold Lib.decodeN
  repeat' split
  all_goals simp only
  all_goals omega

theorem iterPos_of {w : World} {k p : Nat} {s : ByteArray} (h : w.heap[k]? = some (.stringIter s p)) : w.iterPos k = p := by simp [World.iterPos, h]

theorem gth_start (s : ByteArray) (w : World) : Gth s w w.heap.size (w.heap.size + 1) (w.heap.size + 2) 0 (.slice none 0 0) (.slice none 0 0) [] ((w.alloc (.cells (madeCells (Value.int .i64 0).cells (s.size + 1)) 3)).iter s 0) := by
  have hz : (w.alloc (.cells (madeCells (Value.int .i64 0).cells (s.size + 1)) 3)).heap.size = w.heap.size + 1 := by simp
  refine ⟨?_, ?_, World.ownsRow_nil _ _ _ _, World.ownsRow_nil _ _ _ _, fun q hq => (by cases hq), ((Below.refl _ _).alloc (Nat.le_refl _) _).alloc (by simp) _, by omega, by omega, by omega, ?_⟩
  · rw [← hz]; exact World.iter_heap _ s 0
  · exact (fen_made (s.size + 1) w).old (by
      show ((w.alloc _).heap.push _)[w.heap.size]? = _
      rw [Array.getElem?_push_lt (by rw [hz]; omega)]; simp)
  · show _ ≤ ((w.alloc _).heap.push _).size
    rw [Array.size_push, hz]; omega

end Go.Proofs.YtgmjfnddeogfdaaDoor
