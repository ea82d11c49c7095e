/-
  Words and small laws for walks, of no function: a table of 256, cells of new memory, bytes that are put behind a row.
-/
import Derived.Test.YtbfnbjffobhllaaDoorRows
import Derived.Test.YtbfnbjffobhllaaDoorMath
import Derived.WalkSpells
import Derived.WalkLawsBesides
import Derived.Deep.QuietTactic
import Derived.BigQuiet
import Derived.OneCell
import Derived.Deep.WholeRow
import Derived.Laws.CopyOwn
import Derived.Laws.IdiomStrings
import Derived.Laws.EntriesVeiled
import Derived.Deep.AppendLies
import Derived.ArgAppend
import Derived.RegionTactic
import Derived.Laws.Cover4
import Derived.Lib.DecodeN
import Derived.Lib.AppendZeros
namespace Go.Proofs.YtbfnbjffobhllaaDoor
open Go.RowKit

theorem pc_mkf (fn : Fn) (first cap : Array Value) (w : World) : (Instr.makeFunc fn first cap).run Tryd.prog w = .ok (.func fn first cap) w := rfl
theorem pc_below2 (w : World) (o o' : Obj) : Below w.heap.size w ((w.alloc o).alloc o') := ((Below.refl _ _).alloc (Nat.le_refl _) o).alloc (by simp) o'
theorem pc_ret_pair {k : IntKind} {a b : Int} {c d : Bool} (h : a = b) (h' : c = d) : Ending.returned (.tuple #[.int k a, .bool c]) = .returned (.tuple #[.int k b, .bool d]) := by rw [h, h']
theorem pc_cell_old {W : World} {a : Addr} {v : Value} (o : Obj) (h : W.cell? a = some v) : (W.alloc o).cell? a = some v := by
  rw [World.cell?_alloc_lt W o a (block_lt_of_cell h)]; exact h
theorem pc_cell_new (W : World) (n : Nat) (v : Value) (t : TypeId) (hn : n = W.heap.size) : (W.alloc (.cells #[v] t)).cell? ⟨n, 0, none⟩ = some v := by
  rw [World.cell?_alloc_at _ _ _ _ hn]; rfl

def pc_bv (c : UInt8) : Value := .int .u8 (c.toNat : Int)
theorem pc_bvN {n : Nat} (h : n < 256) : pc_bv (UInt8.ofNat n) = .int .u8 (n : Int) := by
  simp [pc_bv, Nat.mod_eq_of_lt h]
theorem pc_infoB : (Tryd.prog.info? 5).map (fun i => (i.zero, i.size, i.bytes)) = some (some (.int .u8 0), 1, 1) := by kernel_rfl

/-- Bytes that lie in a block of their own are put behind a row. -/
theorem pc_appB (base : Nat) (v : Value) (D : List Value) (cs : Array Value) (w w0 : World) (hown : w.ownsRow base 5 1 v D.length D) (hD : D.length + cs.size ≤ 10000000) (h1 : ∀ u ∈ cs.toList, u.oneCell' = true) (hb : base ≤ w.heap.size) (hB : Below base w0 w) :
    ∃ v' w1, (Builtin.append_ #[24, 24] 24 #[v, .slice (some ⟨w.heap.size, 0, none⟩) cs.size cs.size]).run Tryd.prog (w.alloc (.cells cs 5)) = .ok v' w1 ∧ w1.ownsRow base 5 1 v' (D ++ cs.toList).length (D ++ cs.toList) ∧ Below base w0 w1 := by
  obtain ⟨i0, hi, hz0, hz1, hz2⟩ := info_parts pc_infoB
  have hnews : ∀ j u, cs.toList[j]? = some u → (w.alloc (.cells cs 5)).cell? ((⟨w.heap.size, 0, none⟩ : Addr).add j) = some u :=
    World.news_of_block (cs := cs) (t := 5) (fr := (0, 0)) (heap_alloc_new w _)
  obtain ⟨v', w1, hrun, hown', hgrow, _⟩ := run_append_own (P := Tryd.prog) (w.alloc (.cells cs 5)) base 24 24 5 i0 (.int .u8 0) 1 1 Tryd.underlying24 hi hz0 hz1 hz2 rfl (by decide)
    v D.length D (hown.alloc _) ⟨w.heap.size, 0, none⟩ cs.size cs.size cs.toList (by simp) hnews h1 (by unfold maxLen; omega) (by omega) (by simp; omega)
  refine ⟨v', w1, hrun, ?_, (hB.alloc hb _).grown hgrow (by simp; omega) (fun q hq => (hown.lt q hq).1)⟩
  rw [List.length_append, Array.length_toList]; exact hown'

/-- The same, wherever the bytes lie. -/
theorem appG (base q : Nat) (v : Value) (D : List Value) (cs : Array Value) (w w0 : World) (hown : w.ownsRow base 5 1 v D.length D) (hq : w.heap[q]? = some (.cells cs 5 (0, 0))) (hD : D.length + cs.size ≤ 10000000) (h1 : ∀ u ∈ cs.toList, u.oneCell' = true) (hb : base ≤ w.heap.size) (hB : Below base w0 w) :
    ∃ v' w1, (Builtin.append_ #[24, 24] 24 #[v, .slice (some ⟨q, 0, none⟩) cs.size cs.size]).run Tryd.prog w = .ok v' w1 ∧ w1.ownsRow base 5 1 v' (D ++ cs.toList).length (D ++ cs.toList) ∧ Below base w0 w1 := by
  obtain ⟨i0, hi, hz0, hz1, hz2⟩ := info_parts pc_infoB
  have hnews : ∀ j u, cs.toList[j]? = some u → w.cell? ((⟨q, 0, none⟩ : Addr).add j) = some u :=
    World.news_of_block (cs := cs) (t := 5) (fr := (0, 0)) hq
  obtain ⟨v', w1, hrun, hown', hgrow, _⟩ := run_append_own (P := Tryd.prog) w base 24 24 5 i0 (.int .u8 0) 1 1 Tryd.underlying24 hi hz0 hz1 hz2 rfl (by decide)
    v D.length D hown ⟨q, 0, none⟩ cs.size cs.size cs.toList (by simp) hnews h1 (by unfold maxLen; omega) (by omega) hb
  refine ⟨v', w1, hrun, ?_, hB.grown hgrow hb (fun q hq => (hown.lt q hq).1)⟩
  rw [List.length_append, Array.length_toList]; exact hown'

/-- At a step of a region that draws its order: an append whose run is known. -/
theorem step_append_run {P : Program} (w : World) {ops : Array Oper} {o : Oper} {a : Act} {K : Act → World → Prop} {Q : Exit → Act → World → Prop} {E : Prop} (hgd : o.guard = none) (s x : Operand) (t tn : TypeId)
    (ho : o.op = .call { callee := .builtin .append, args := #[s, x], argTypes := #[t, tn] }) (vs vx : Value) (hs : a.eval s = vs) (hx : a.eval x = vx)
    (v' : Value) (w' : World) (hr : (Builtin.append_ #[t, tn] o.type #[vs, vx]).run P w = .ok v' w') (h : K (a.put o.dst v') w') :
    if Region.wanted o (yielded ops a.tmps) = true then Oper.wp P o a w K Q else E := by
  have hw : Region.wanted o (yielded ops a.tmps) = true := by simp [Region.wanted, hgd]
  rw [if_pos hw]
  exact Lib.wp_append_run w s x t tn ho vs vx hs hx v' w' hr h

theorem pc_bytes_back (base : Nat) (v : Value) (l : List UInt8) (w : World) (hown : w.ownsRow base 5 1 v l.length (l.map pc_bv)) : (convert 24 9 v).run Tryd.prog w = .ok (.string ⟨l.toArray⟩) w := by
  rcases hown.2 with ⟨rfl, hn⟩ | ⟨g, cap, cur, rfl, hgb, hg, hnc, hcm, hcs, hct⟩
  · obtain rfl : l = [] := List.eq_nil_of_length_eq_zero hn
    simp [convert, run_underlying Tryd.underlying24, run_underlying Tryd.underlying9, run_underlying Tryd.underlying5]
    rfl
  · refine run_convert_bytes_back (P := Tryd.prog) w 24 9 5 ⟨g, 0, none⟩ cap l Tryd.underlying24 Tryd.underlying5 Tryd.underlying9 (fun j hj => ?_)
    have h := hown.cellAt j (by omega)
    rw [Addr.add_lit, Nat.zero_add, h, List.getElem?_map, List.getElem?_eq_getElem hj]; rfl

/-- A table of 256 with true at the places of a list. -/
def pc_tabOf (l : List Nat) : Array Value := l.foldl (fun a i => a.setIfInBounds i (.bool true)) (Array.replicate 256 (.bool false))
theorem pc_tabOf_snoc (l : List Nat) (i : Nat) : pc_tabOf (l ++ [i]) = (pc_tabOf l).setIfInBounds i (.bool true) := by simp [pc_tabOf]
theorem pc_tabOf_size (l : List Nat) : (pc_tabOf l).size = 256 := by
  refine snocInd (P := fun l => (pc_tabOf l).size = 256) (by simp [pc_tabOf]) (fun l i h => ?_) l
  rw [pc_tabOf_snoc]; simpa using h
theorem pc_tabOf_at (l : List Nat) (i : Nat) (h : i < 256) : (pc_tabOf l)[i]? = some (.bool (decide (i ∈ l))) := by
  refine snocInd (P := fun l => (pc_tabOf l)[i]? = some (.bool (decide (i ∈ l)))) (by simp [pc_tabOf, h]) (fun l j hj => ?_) l
  have hs := pc_tabOf_size l
  rw [pc_tabOf_snoc, Array.getElem?_setIfInBounds]
  by_cases e : j = i
  · subst e; simp [hs, h]
  · rw [if_neg e, hj]; simp [Ne.symm e]

end Go.Proofs.YtbfnbjffobhllaaDoor
