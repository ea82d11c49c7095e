/-
  Frames: all that was there is as it was but for named blocks; a block of one text; rows of ints that are put behind a row.
-/
import Derived.Test.YtbfnbjffobhllaaDoorRows
import Derived.Test.YtbfnbjffobhllaaDoorMath
import Derived.WalkSpells
import Derived.WalkLawsBesides
import Derived.OneCell
import Derived.Deep.WholeRow
import Derived.Laws.CopyOwn
import Derived.Deep.QuietTactic
import Derived.BigQuiet
import Derived.Deep.AppendLies
import Derived.ArgAppend
import Derived.RegionTactic
import Derived.Lib.DecodeN
import Derived.Lib.AppendZeros
namespace Go.Proofs.YtbfnbjffobhllaaDoor
open Go.RowKit

/-- All blocks that were there are as they were, but those of X. -/
structure Kp (X : Nat → Prop) (w w' : World) : Prop where
  os : w'.os = w.os
  tape : w'.tape = w.tape
  output : w'.output = w.output
  size : w.heap.size ≤ w'.heap.size
  block : ∀ k, k < w.heap.size → ¬ X k → w'.heap[k]? = w.heap[k]?
theorem Kp.refl (X : Nat → Prop) (w : World) : Kp X w w := ⟨rfl, rfl, rfl, Nat.le_refl _, fun _ _ _ => rfl⟩
theorem Kp.trans {X : Nat → Prop} {a b c : World} (h : Kp X a b) (k : Kp X b c) : Kp X a c :=
  ⟨k.os.trans h.os, k.tape.trans h.tape, k.output.trans h.output, Nat.le_trans h.size k.size, fun i hi hx => (k.block i (Nat.lt_of_lt_of_le hi h.size) hx).trans (h.block i hi hx)⟩
theorem Kp.of_below {X : Nat → Prop} {a b : World} (h : Below a.heap.size a b) : Kp X a b := ⟨h.os, h.tape, h.output, h.size, fun k hk _ => h.block k hk⟩
theorem Kp.alloc {X : Nat → Prop} {a w : World} (h : Kp X a w) (o : Obj) : Kp X a (w.alloc o) := h.trans (.of_below ((Below.refl _ _).alloc (Nat.le_refl _) o))
theorem Kp.drewN {X : Nat → Prop} {a w : World} (h : Kp X a w) (n : Nat) : Kp X a (w.drewN n) := ⟨h.os, h.tape, h.output, h.size, h.block⟩
theorem Kp.drew {X : Nat → Prop} {a w : World} (h : Kp X a w) : Kp X a w.drew := ⟨h.os, h.tape, h.output, h.size, h.block⟩
theorem Kp.setCell {X : Nat → Prop} {a w : World} (h : Kp X a w) {p : Addr} (hp : X p.block) (u : Value) : Kp X a (w.setCell p u) :=
  h.trans ⟨rfl, rfl, rfl, by simp [World.setCell], fun k _ hx => Below.heap_setCell _ _ _ _ (fun e => hx (e ▸ hp))⟩
theorem Kp.setNew {X : Nat → Prop} {a w : World} (h : Kp X a w) {p : Addr} (hp : a.heap.size ≤ p.block) (u : Value) : Kp X a (w.setCell p u) :=
  ⟨h.os, h.tape, h.output, by simpa [World.setCell] using h.size, fun k hk hx => by
    rw [Below.heap_setCell _ _ _ _ (by omega)]; exact h.block k hk hx⟩
theorem Kp.mono {X Y : Nat → Prop} {a w : World} (h : Kp X a w) (hxy : ∀ k, X k → Y k) : Kp Y a w := ⟨h.os, h.tape, h.output, h.size, fun k hk hy => h.block k hk (fun hx => hy (hxy k hx))⟩
/-- A frame over new blocks alone. -/
theorem Kp.below {X : Nat → Prop} {a w : World} (h : Kp X a w) {B : Nat} (hB : B ≤ a.heap.size) (hX : ∀ k, X k → B ≤ k) : Below B a w := ⟨h.os, h.tape, h.output, h.size, fun k hk => h.block k (by omega) (fun hx => by have := hX k hx; omega)⟩
theorem Kp.cell {X : Nat → Prop} {a w : World} (h : Kp X a w) {p : Addr} {v : Value} (hc : a.cell? p = some v) (hx : ¬ X p.block) : w.cell? p = some v :=
  (World.cell?_of_block (w := a) (h.block p.block (block_lt_of_cell hc) hx)).trans hc
theorem Kp.at {X : Nat → Prop} {a w : World} (h : Kp X a w) {k : Nat} {o : Obj} (hc : a.heap[k]? = some o) (hx : ¬ X k) : w.heap[k]? = some o :=
  (h.block k (lt_of_block hc) hx).trans hc
theorem Kp.grown {X : Nat → Prop} {a w w' : World} {row : Option Nat} (h : Kp X a w) (hg : w.grownBy w' row) (hr : ∀ q, row = some q → a.heap.size ≤ q) : Kp X a w' :=
  ⟨hg.os.trans h.os, hg.tape.trans h.tape, hg.output.trans h.output, Nat.le_trans h.size hg.size, fun k hk hx => (hg.block k (Nat.lt_of_lt_of_le hk h.size) (fun e => by have := hr k e.symm; omega)).trans (h.block k hk hx)⟩
theorem own_kept {X : Nat → Prop} {w w' : World} {base : Nat} {e : TypeId} {size : Nat} {v : Value} {n : Nat} {xs : List Value} (h : w.ownsRow base e size v n xs) (k : Kp X w w') (hX : ∀ q, base ≤ q → ¬ X q) : w'.ownsRow base e size v n xs := by
  obtain ⟨h1, h2⟩ := h
  refine ⟨h1, ?_⟩
  rcases h2 with h2 | ⟨g, cap, cur, rfl, hg, hh, r⟩
  · exact .inl h2
  · exact .inr ⟨g, cap, cur, rfl, hg, k.at hh (hX g hg), r⟩

/-- One block alone. -/
def Only (b : Nat) : Nat → Prop := fun k => k = b
/-- A block that holds one value. -/
def Holds1 (w : World) (b : Nat) (t : TypeId) (v : Value) : Prop := w.heap[b]? = some (.cells #[v] t (0, 0))
theorem Holds1.cell {w : World} {b : Nat} {t : TypeId} {v : Value} (h : Holds1 w b t v) : w.cell? ⟨b, 0, none⟩ = some v := cell_of_one h
theorem Holds1.free {w : World} {b : Nat} {t : TypeId} {v : Value} (h : Holds1 w b t v) : w.frozen? ⟨b, 0, none⟩ = false := free_of_one h
theorem Holds1.lt {w : World} {b : Nat} {t : TypeId} {v : Value} (h : Holds1 w b t v) : b < w.heap.size := lt_of_block h
theorem Holds1.set {w : World} {b : Nat} {t : TypeId} {v : Value} (h : Holds1 w b t v) (u : Value) : Holds1 (w.setCell ⟨b, 0, none⟩ u) b t u := one_setCell h
theorem Holds1.kept {X : Nat → Prop} {w w' : World} {b : Nat} {t : TypeId} {v : Value} (h : Holds1 w b t v) (k : Kp X w w') (hx : ¬ X b) : Holds1 w' b t v := k.at h hx
theorem Holds1.alloc {w : World} {b : Nat} {t : TypeId} {v : Value} (h : Holds1 w b t v) (o : Obj) : Holds1 (w.alloc o) b t v := h.kept (X := fun _ => False) ((Kp.refl _ _).alloc o) id
theorem Holds1.new (w : World) (t : TypeId) (v : Value) : Holds1 (w.alloc (.cells #[v] t)) w.heap.size t v := heap_alloc_new w _
theorem Holds1.grown {w w' : World} {row : Option Nat} {b : Nat} {t : TypeId} {v : Value} (h : Holds1 w b t v) (hg : w.grownBy w' row) (hne : row ≠ some b) : Holds1 w' b t v :=
  (hg.block b h.lt (fun e => hne e.symm)).trans h

theorem wpL_store_row {P : Program} {ops : Array Oper} {rest : List Oper} {o : Oper} {a : Act} {w : World} {Q : Exit → Act → World → Prop} (hgd : o.guard = none) (ty : TypeId) (x y : Operand) (ho : o.op = .store ty x y)
    (g : Nat) (cells : Array Value) (hx : a.eval x = .pointer (some ⟨g, 0, none⟩)) (hy : a.eval y = .agg cells)
    (t : TypeId) (old : Array Value) (hg : w.heap[g]? = some (.cells old t (0, 0))) (hi : (P.info? ty).map (·.size) = some cells.size)
    (hold : old.size = cells.size) (h1 : cells.all (·.oneCell') = true)
    (h : wpList P ops Q rest (a.put o.dst undef) (w.setRow g cells)) : wpList P ops Q (o :: rest) a w :=
  wpList_plain hgd fun _ hK => wp_store_row ty x y ho g cells hx hy t old hg hi hold h1 (hK _ _ h)
theorem mkfK (fn : Fn) (first cap : Array Value) (w : World) : (Instr.makeFunc fn first cap).run Tryd.prog w = .ok (.func fn first cap) w := rfl
def k_iv (n : Nat) : Value := .int .i64 (n : Int)
theorem k_infoI : (Tryd.prog.info? 3).map (fun i => (i.zero, i.size, i.bytes)) = some (some (.int .i64 0), 1, 8) := by kernel_rfl

/-- Ints that lie in a block are put behind a row. -/
theorem k_appI (base q : Nat) (v : Value) (D : List Value) (cs : Array Value) (w : World) (hown : w.ownsRow base 3 1 v D.length D) (hq : w.heap[q]? = some (.cells cs 3 (0, 0))) (hD : D.length + cs.size ≤ 10000000) (h1 : ∀ u ∈ cs.toList, u.oneCell' = true) (hb : base ≤ w.heap.size) :
    ∃ v' w1, (Builtin.append_ #[66, 66] 66 #[v, .slice (some ⟨q, 0, none⟩) cs.size cs.size]).run Tryd.prog w = .ok v' w1 ∧ w1.ownsRow base 3 1 v' (D ++ cs.toList).length (D ++ cs.toList) ∧ w.grownBy w1 v.ownBlock := by
  obtain ⟨i0, hi, hz0, hz1, hz2⟩ := info_parts k_infoI
  have hnews : ∀ j u, cs.toList[j]? = some u → w.cell? ((⟨q, 0, none⟩ : Addr).add j) = some u :=
    World.news_of_block (cs := cs) (t := 3) (fr := (0, 0)) hq
  obtain ⟨v', w1, hrun, hown', hgrow, _⟩ := run_append_own (P := Tryd.prog) w base 66 66 3 i0 (.int .i64 0) 1 8 Tryd.underlying66 hi hz0 hz1 hz2 rfl (by decide)
    v D.length D hown ⟨q, 0, none⟩ cs.size cs.size cs.toList (by simp) hnews h1 (by unfold maxLen; omega) (by omega) hb
  refine ⟨v', w1, hrun, ?_, hgrow⟩
  rw [List.length_append, Array.length_toList]; exact hown'

end Go.Proofs.YtbfnbjffobhllaaDoor
