/-
  The inner loop of the numbers' telling: what lies where between two of its rounds. And how many digits a number has.
-/
import Derived.Test.YtgmjfnddeogfdaaDoorEnG
namespace Go.Proofs.YtgmjfnddeogfdaaDoor
open Go.RowKit Go.Shelf

theorem digs_len (b : Nat) : ∀ (j f n k : Nat), n < 10 ^ j → (digsL f n k b).length ≤ j + 1
  | 0, f, n, k, h => by
    have hb := stepN_bd k b
    rw [digsL_end (by simp at h; omega)]; simp
  | j + 1, f, n, k, h => by
    have hb := stepN_bd k b
    by_cases hlt : n < stepN k b
    · rw [digsL_end hlt]; simp
    · cases f with
      | zero => simp [digsL]
      | succ f =>
        rw [digsL_on hlt, List.length_cons]
        have hd : (n - stepN k b) / (36 - stepN k b) < 10 ^ j := by
          have h1 : (n - stepN k b) / (36 - stepN k b) ≤ (n - stepN k b) / 10 := Nat.div_le_div_left (by omega) (by decide)
          have h2 : n - stepN k b < 10 ^ j * 10 := by rw [← Nat.pow_succ]; omega
          have h3 := Nat.div_lt_of_lt_mul (m := n - stepN k b) (n := 10) (k := 10 ^ j) (by rw [Nat.mul_comm]; exact h2)
          omega
        have := digs_len b j f _ (k + 36) hd
        omega

/-- All that lay, but a box and a value's own row, lies as it lay. -/
structure Keep (Bo : Nat) (v0 : Value) (W0 W : World) : Prop where
  os : W.os = W0.os
  tape : W.tape = W0.tape
  output : W.output = W0.output
  size : W0.heap.size ≤ W.heap.size
  block : ∀ q, q < W0.heap.size → q ≠ Bo → v0.ownBlock ≠ some q → W.heap[q]? = W0.heap[q]?
theorem Keep.refl (Bo : Nat) (v0 : Value) (W : World) : Keep Bo v0 W W := ⟨rfl, rfl, rfl, Nat.le_refl _, fun _ _ _ _ => rfl⟩
theorem Keep.grown {Bo : Nat} {v0 : Value} {W0 W W' : World} {row : Option Nat} (h : Keep Bo v0 W0 W) (hg : W.grownBy W' row) (hr : ∀ k, row = some k → W0.heap.size ≤ k ∨ k = Bo ∨ v0.ownBlock = some k) : Keep Bo v0 W0 W' := by
  refine ⟨hg.os.trans h.os, hg.tape.trans h.tape, hg.output.trans h.output, Nat.le_trans h.size hg.size, fun q hq hne hv => ?_⟩
  have hsz := h.size
  rw [hg.block q (by omega) (fun e => ?_)]
  · exact h.block q hq hne hv
  · rcases hr q e.symm with h1 | h1 | h1
    · omega
    · exact hne h1
    · exact hv h1
theorem keep_own {β : Type} (Bo : Nat) (v0 : Value) (W0 : World) : OwnFrom W0.heap.size (fun (_ : β) W => Keep Bo v0 W0 W) := fun _ _ _ _ hs hg hr =>
  hs.grown hg (fun k e => .inl (hr k e).1)

/-- Between two rounds: the box holds a row of one's own with what has been told. -/
def InSt (n₀ Bo : Nat) (v0 : Value) (W0 : World) (L pre : List UInt8) (W : World) : Prop :=
  (∃ v, Boxed W Bo 48 v ∧ W.ownsRow n₀ 5 1 v (L ++ pre).length ((L ++ pre).map bv) ∧ (v.ownBlock = v0.ownBlock ∨ ∀ q, v.ownBlock = some q → W0.heap.size ≤ q)) ∧ Keep Bo v0 W0 W
theorem inst_own (n₀ Bo : Nat) (v0 : Value) (W0 : World) (L : List UInt8) : OwnFrom W0.heap.size (fun pre W => InSt n₀ Bo v0 W0 L pre W) :=
  OwnFrom.and (Own.from (holdsRow_own n₀ Bo 48 5 1 (fun pre => (L ++ pre).length) (fun pre => (L ++ pre).map bv) (fun _ v => v.ownBlock = v0.ownBlock ∨ ∀ q, v.ownBlock = some q → W0.heap.size ≤ q)) _) (keep_own Bo v0 W0)
theorem inst_start (n₀ Bo : Nat) (v0 : Value) (W0 : World) (L : List UInt8) (hb : Boxed W0 Bo 48 v0) (hr : W0.ownsRow n₀ 5 1 v0 L.length (L.map bv)) : InSt n₀ Bo v0 W0 L [] W0 :=
  ⟨⟨v0, hb, by rw [List.append_nil]; exact hr, .inl rfl⟩, Keep.refl _ _ _⟩

/-- One digit more. -/
theorem inst_step (n₀ Bo : Nat) (v0 : Value) (W0 : World) (L pre : List UInt8) (x : UInt8) (W : World) (h : InSt n₀ Bo v0 W0 L pre W) (hn : n₀ ≤ Bo) (hBo : Bo < W0.heap.size) (_hv0 : ∀ q, v0.ownBlock = some q → q < W0.heap.size) (hl : (L ++ pre).length ≤ 100000000) :
    ∃ v g cap w1, W.cell? ⟨Bo, 0, none⟩ = some v ∧ (Builtin.append_ #[48, 48] 48 #[v, .slice (some ⟨W.heap.size, 0, none⟩) 1 1]).run Tryd.prog (W.alloc (.cells #[.int .u8 (x.toNat : Int)] 5)) = .ok (.slice (some ⟨g, 0, none⟩) ((L ++ pre).length + 1) cap) w1 ∧
      w1.cell? ⟨Bo, 0, none⟩ = some v ∧ w1.frozen? ⟨Bo, 0, none⟩ = false ∧
      InSt n₀ Bo v0 W0 L (pre ++ [x]) (w1.setCell ⟨Bo, 0, none⟩ (.slice (some ⟨g, 0, none⟩) ((L ++ pre).length + 1) cap)) ∧
      KeepsOthers W (w1.setCell ⟨Bo, 0, none⟩ (.slice (some ⟨g, 0, none⟩) ((L ++ pre).length + 1) cap)) ∧
      (∀ q, q < W0.heap.size → q ≠ Bo → v0.ownBlock ≠ some q → (w1.setCell ⟨Bo, 0, none⟩ (.slice (some ⟨g, 0, none⟩) ((L ++ pre).length + 1) cap)).heap[q]? = W.heap[q]?) := by
  obtain ⟨⟨v, hb, hr, hv⟩, hk⟩ := h
  have hsz := hk.size
  obtain ⟨i0, hi, hz0, hz1, hz2⟩ := info_parts infoB
  obtain ⟨v', w1, hrun, hown, hg, hblk⟩ := app_own2 (P := Tryd.prog) (W.alloc (.cells #[.int .u8 (x.toNat : Int)] 5)) n₀ 48 48 5 i0 (.int .u8 0) 1 1 Tryd.underlying48 hi hz0 hz1 hz2 rfl (by decide)
    v (L ++ pre).length ((L ++ pre).map bv) (hr.alloc _) ⟨W.heap.size, 0, none⟩ 1 1 [.int .u8 (x.toNat : Int)] (by simp) (World.news_of_block (cs := #[.int .u8 (x.toNat : Int)]) (t := 5) (fr := (0, 0)) (heap_alloc_new W _)) (by simp [Value.oneCell']) (by unfold maxLen; omega) (by omega) (by simp; omega)
  obtain ⟨g, cap, rfl⟩ := ownsRow_succ hown
  have hn₀ : n₀ ≤ W.heap.size := by omega
  obtain ⟨q1, q2, q3, q4, q5⟩ := hb.appended (n₀ := n₀) (e := 5) (by decide) hr hn₀ hn hown hg
  have hgall : Keep Bo v0 W0 (w1.setCell ⟨Bo, 0, none⟩ (.slice (some ⟨g, 0, none⟩) ((L ++ pre).length + 1) cap)) := by
    refine ((hk.grown (World.grownBy_alloc W _ none) (fun k e => by cases e)).grown hg (fun k e => ?_)).grown (grownBy_setCell' w1 Bo _) (fun k e => by cases e; exact .inr (.inl rfl))
    rcases hv with h1 | h1
    · exact .inr (.inr (by rw [← h1]; exact e))
    · exact .inl (h1 k e)
  refine ⟨v, g, cap, w1, hb.cell, hrun, q1.cell, q1.frozen, ⟨⟨_, q2, ?_, ?_⟩, hgall⟩, q4, fun q hq hne hvq => (hgall.block q hq hne hvq).trans (hk.block q hq hne hvq).symm⟩
  · have e1 : (L ++ (pre ++ [x])).length = (L ++ pre).length + 1 := by simp; omega
    have e2 : (L ++ (pre ++ [x])).map bv = (L ++ pre).map bv ++ [.int .u8 (x.toNat : Int)] := by simp [bv]
    rw [e1, e2]; exact q3
  · rcases hblk with h1 | h1
    · rcases hv with h2 | h2
      · exact .inl (h1.trans h2)
      · exact .inr (fun q hq => h2 q (h1 ▸ hq))
    · exact .inr (fun q hq => by have := h1 q hq; simp at this; omega)

end Go.Proofs.YtgmjfnddeogfdaaDoor
