/-
  Contracts: growText.
-/
import Derived.Test.YtjeejpgkhjblnaaDoorBookF
import Derived.ArgAppend
namespace Go.Proofs.YtjeejpgkhjblnaaDoor
open Go.RowKit

theorem infoG : (Tryd.prog.info? 9).map (fun i => (i.zero, i.size, i.bytes)) = some (some (.string ⟨#[]⟩), 1, 16) := by kernel_rfl
/-- An append of which the run is known. -/
theorem append_ran {P : Program} {ops : Array Oper} {Q : Exit → Act → World → Prop} {a : Act} {w : World} {rest : List Oper} {o : Oper} (hw : Region.wanted o (yielded ops a.tmps) = true)
    (s x : Operand) (t : TypeId) (hop : o.op = Op.call { callee := Callee.builtin Builtin.append, args := #[s, x], argTypes := #[t, t] }) (vs vx v' : Value) (w' : World) (hs : a.eval s = vs) (hx : a.eval x = vx)
    (hrun : (Builtin.append_ #[t, t] o.type #[vs, vx]).run P w = .ok v' w') (h : wpList P ops Q rest (a.put o.dst v') w') : wpList P ops Q (o :: rest) a w := by
  refine wpList_step fun K hK' => ?_
  rw [if_pos hw]
  unfold Oper.wp
  simp [execOp, hop, resolve, invoke, builtin, hs, hx, hrun, Result.andThen]
  exact hK' _ _ h

/-- The first k lists have their longer copies. -/
def Lists.grown (L : Lists) (k : Nat) (d cp : Nat → Nat) : Lists :=
  { L with la := fun i => if i < k then some ⟨d i, 0, none⟩ else L.la i, ln := fun i => if i < k then L.n i + 40 else L.ln i, lc := fun i => if i < k then cp i else L.lc i }
theorem Lists.grown_zero (L : Lists) (d cp : Nat → Nat) : L.grown 0 d cp = L := by
  unfold Lists.grown; simp
/-- Each copy holds its mark all over. -/
def Marks (L : Lists) (k : Nat) (d : Nat → Nat) (w : World) : Prop := ∀ i, i < k → d i < w.heap.size ∧ d i ≠ L.gT ∧ ∀ q, q < L.n i + 40 → w.cell? ⟨d i, q, none⟩ = some (.string (wordS (L.id i)))
/-- The longer copy while it grows. -/
def Long (base : Nat) (g n id j : Nat) (v : Value) (w : World) : Prop :=
  (j = 0 ∧ v = .slice (some ⟨g, 0, none⟩) n n) ∨ (0 < j ∧ w.ownsRow base 9 1 v (n + j) (List.replicate (n + j) (.string (wordS id))))
/-- One more mark behind it. -/
theorem long_step (base g n id j : Nat) (v : Value) (w : World) (hn : n ≤ 4294967296) (hj : j < 40) (hb : base ≤ w.heap.size)
    (hrow : w.heap[g]? = some (.cells (Array.replicate n (.string (wordS id))) 9 (0, 0))) (h : Long base g n id j v w) :
    ∃ v' w1, (Builtin.append_ #[25, 25] 25 #[v, .slice (some ⟨w.heap.size, 0, none⟩) 1 1]).run Tryd.prog (w.alloc (.cells #[.string (wordS id)] 9)) = .ok v' w1 ∧ Long base g n id (j + 1) v' w1 ∧ (∀ q, q < base → w1.heap[q]? = w.heap[q]?) ∧ w.heap.size ≤ w1.heap.size ∧ w1.os = w.os ∧ w1.tape = w.tape ∧ w1.output = w.output := by
  obtain ⟨i0, hi, hz0, hz1, hz2⟩ := info_parts infoG
  have hnews : ∀ j u, ([.string (wordS id)] : List Value)[j]? = some u → (w.alloc (.cells #[.string (wordS id)] 9)).cell? ((⟨w.heap.size, 0, none⟩ : Addr).add j) = some u :=
    World.news_of_block (cs := #[.string (wordS id)]) (t := 9) (fr := (0, 0)) (heap_alloc_new w _)
  rcases h with ⟨rfl, rfl⟩ | ⟨hj0, hown⟩
  · obtain ⟨v', w1, hrun, hown, hgrow⟩ := run_append_arg_grows (P := Tryd.prog) (w.alloc (.cells #[.string (wordS id)] 9)) 25 25 9 i0 (.string ⟨#[]⟩) 1 16 Tryd.underlying25 hi hz0 hz1 hz2 rfl (by decide)
      ⟨g, 0, none⟩ n n (List.replicate n (.string (wordS id))) (by simp) (fun j u hu => by
        have e : (⟨g, 0, none⟩ : Addr).add j = ⟨g, j, none⟩ := by unfold Addr.add; split <;> simp_all
        have hlt : g < w.heap.size := lt_of_block hrow
        rw [e, World.cell?_alloc_past _ _ _ hlt, cell_of_row w g _ _ _ _ hrow]
        rw [← Array.getElem?_toList, Array.toList_replicate]; exact hu)
      ⟨w.heap.size, 0, none⟩ 1 1 [.string (wordS id)] (by simp) hnews (by omega) (by unfold maxLen; omega) (by omega)
    refine ⟨v', w1, hrun, .inr ⟨by omega, ?_⟩, fun q hq => ?_, Nat.le_trans (by simp) hgrow.size, hgrow.os, hgrow.tape, hgrow.output⟩
    · have e : List.replicate (n + 1) (Value.string (wordS id)) = List.replicate n (.string (wordS id)) ++ [.string (wordS id)] := by rw [List.replicate_succ']
      rw [e]
      obtain ⟨h1, h2⟩ := hown
      refine ⟨h1, ?_⟩
      rcases h2 with h2 | ⟨g', cap, cur, hv, hg', r⟩
      · exact .inl h2
      · exact .inr ⟨g', cap, cur, hv, by simp at hg'; omega, r⟩
    · rw [hgrow.block q (by show q < (w.alloc _).heap.size; simp; omega) (by simp)]; exact Below.heap_alloc _ _ _ (by omega)
  · obtain ⟨v', w1, hrun, hown', hgrow, _⟩ := run_append_own (P := Tryd.prog) (w.alloc (.cells #[.string (wordS id)] 9)) base 25 25 9 i0 (.string ⟨#[]⟩) 1 16 Tryd.underlying25 hi hz0 hz1 hz2 rfl (by decide)
      v (n + j) (List.replicate (n + j) (.string (wordS id))) (hown.alloc _) ⟨w.heap.size, 0, none⟩ 1 1 [.string (wordS id)] (by simp) hnews (by simp [Value.oneCell']) (by unfold maxLen; omega) (by omega) (by simp; omega)
    refine ⟨v', w1, hrun, .inr ⟨by omega, ?_⟩, fun q hq => ?_, Nat.le_trans (by simp) hgrow.size, hgrow.os, hgrow.tape, hgrow.output⟩
    · have e : List.replicate (n + (j + 1)) (Value.string (wordS id)) = List.replicate (n + j) (.string (wordS id)) ++ [.string (wordS id)] := by rw [← Nat.add_assoc, List.replicate_succ']
      rw [e]; exact hown'
    · have hne : some q ≠ v.ownBlock := fun e => by
        have := (hown.lt q e.symm).1
        omega
      rw [hgrow.block q (by show q < (w.alloc _).heap.size; simp; omega) hne]; exact Below.heap_alloc _ _ _ (by omega)

end Go.Proofs.YtjeejpgkhjblnaaDoor
