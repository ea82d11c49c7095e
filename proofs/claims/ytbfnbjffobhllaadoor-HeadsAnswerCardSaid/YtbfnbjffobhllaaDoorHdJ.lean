/-
  Package heads: message.
-/
import Derived.Test.YtbfnbjffobhllaaDoorHdI
import Derived.RangeFuncNested
namespace Go.Proofs.YtbfnbjffobhllaaDoor
open Go.RowKit Go.Shelf
attribute [local go_sem] Oper.semAt_some

theorem hdIn_store_row {F : Fence} {n : Nat} {P : Program} {ops : Array Oper} {rest : List Oper} {o : Oper} {a : Act} {w : World} {Q : Exit → Act → World → Prop} (hgd : o.guard = none) (ty : TypeId) (x y : Operand) (ho : o.op = .store ty x y)
    (g : Nat) (cells : Array Value) (hx : a.eval x = .pointer (some ⟨g, 0, none⟩)) (hy : a.eval y = .agg cells)
    (t : TypeId) (old : Array Value) (hg : w.heap[g]? = some (.cells old t (0, 0))) (hi : (P.info? ty).map (·.size) = some cells.size)
    (hold : old.size = cells.size) (h1 : cells.all (·.oneCell') = true)
    (h : wpListIn F n P ops Q rest (a.put o.dst undef) (w.setRow g cells)) : wpListIn F n P ops Q (o :: rest) a w := by
  refine wpListIn_plain hgd fun K hK' => ?_
  unfold Oper.wpIn
  refine ⟨by simp [Oper.about, ho], ?_⟩
  rw [Oper.semAt_plain F _ _ (by rw [ho]; intro c hc'; cases hc')]
  simp only [execOp, ho, hx, hy, Instr.storeAt, Instr.sureAddr, Sem.run_bind, Sem.run_pure, Result.andThen_ok, run_storeVar_row w g t ty old cells hg hi hold h1]
  exact hK' _ _ h
theorem hdIn_load_row {F : Fence} {n : Nat} {P : Program} {ops : Array Oper} {rest : List Oper} {o : Oper} {a : Act} {w : World} {Q : Exit → Act → World → Prop} (hw : Region.wanted o (yielded ops a.tmps) = true) (ty : TypeId) (x : Operand) (ho : o.op = .load ty x)
    (g : Nat) (hx : a.eval x = .pointer (some ⟨g, 0, none⟩)) (t : TypeId) (cs : Array Value) (fr : Nat × Nat) (d : TypeDesc) (hg : w.heap[g]? = some (.cells cs t fr))
    (hu : P.underlying ty = some d) (hd : (match d with | .struct _ | .array _ _ => true | _ => false) = true) (hi : (P.info? ty).map (·.size) = some cs.size)
    (h : wpListIn F n P ops Q rest (a.put o.dst (.agg cs)) w) : wpListIn F n P ops Q (o :: rest) a w := by
  refine wpListIn_step fun K hK' => ?_
  simp only [hw, if_true]
  unfold Oper.wpIn
  refine ⟨by simp [Oper.about, ho], ?_⟩
  rw [Oper.semAt_plain F _ _ (by rw [ho]; intro c hc'; cases hc')]
  simp only [execOp, ho, hx, Instr.loadAt, Instr.sureAddr, Sem.run_bind, Sem.run_pure, Result.andThen_ok, run_loadVar_row w g t ty cs fr d hg hu hd hi]
  exact hK' _ _ h
theorem infoMs : (Tryd.prog.info? 26).map (·.size) = some 5 := by kernel_rfl
theorem lin_stops (n : Nat) (hn : 1 ≤ n) (Bp n₀ : Nat) (hd : ByteArray) (D : List UInt8) (m : Int) (w : World) (hD : D.length ≤ 70000)
    (HT : Hid (∀ w, Calls Tryd.prog 113 #[.string hd, .string ⟨#[13, 10]⟩] w fun e w' => e = .returned (.string (asB D)) ∧ w = w'))
    (hBp : w.cell? ⟨Bp, 0, none⟩ = some (.string hd)) (hm : MxAt m w) (hm0 : 0 < n₀) :
    SeqStopsK Fence.wide n Tryd.prog 112 #[.pointer (some ⟨Bp, 0, none⟩)] encL (KpB n₀ Bp) (fun ys => lnL ys = linT D) (fun pre => lnL pre <+: linT D) (linT D).length w :=
  fun l J Jx W hW hJ _ hY h0 => lines1_in n hn l Bp n₀ hd D m J Jx W hJ hD HT hY ((hW.cell (block_lt_of_cell hBp)).trans hBp) (hm.later hW) hm0 h0
theorem linT_count : ∀ (n : Nat) (l : List UInt8), l.length ≤ n → (linT l).length ≤ n
  | 0, l, h => by
    have : l = [] := List.length_eq_zero_iff.1 (by omega)
    rw [this, linT_nil]; exact Nat.le_refl _
  | n + 1, l, h => by
    by_cases h0 : l = []
    · rw [h0, linT_nil]; exact Nat.zero_le _
    · rw [linT_eq h0, List.length_cons]
      have h1 := cut_lt h0 crlf_ne
      have := linT_count n (Lib.cut l crlf).2.1 (by omega)
      omega
/-- What lines tell, one more. -/
def stepD (rd : List UInt8 → Option Fst12) (pre : List (List UInt8)) (mm : Msg12) (l : List UInt8) : Option Msg12 :=
  if pre = [] then (rd l).map fun x => (x, []) else (fldD l).map fun f => (mm.1, mm.2 ++ [f])
theorem gath_snoc : ∀ (L : List (List UInt8)) (G : List Fld) (l : List UInt8), gath (L ++ [l]) G = (gath L G).bind fun F => (fldD l).map fun f => F ++ [f]
  | [], G, l => by
    rw [List.nil_append]
    unfold gath
    cases fldD l <;> simp [gath]
  | k :: L, G, l => by
    rw [List.cons_append]
    unfold gath
    cases h : fldD k with
    | none => rfl
    | some f => exact gath_snoc L (G ++ [f]) l
theorem msgD_snoc (rd : List UInt8 → Option Fst12) (pre : List (List UInt8)) (l : List UInt8) : msgD rd (pre ++ [l]) = (msgD rd pre).bind fun mm => stepD rd pre mm l := by
  cases pre with
  | nil =>
    rw [List.nil_append, msgD_cons]
    show _ = stepD rd [] msg0 l
    unfold stepD
    rw [if_pos rfl]
    cases h : rd l <;> simp [gath]
  | cons k pre =>
    rw [List.cons_append, msgD_cons, msgD_cons, gath_snoc]
    cases h : rd k with
    | none => rfl
    | some x =>
      simp only [Option.bind_some]
      cases h2 : gath pre [] with
      | none => rfl
      | some F =>
        simp only [Option.map_some, Option.bind_some]
        unfold stepD
        rw [if_neg (by simp)]
        cases h3 : fldD l <;> rfl
theorem msgD_none (rd : List UInt8 → Option Fst12) : ∀ (post pre : List (List UInt8)), msgD rd pre = none → msgD rd (pre ++ post) = none
  | [], pre, h => by rw [List.append_nil]; exact h
  | l :: post, pre, h => by
    rw [show pre ++ l :: post = (pre ++ [l]) ++ post by simp]
    exact msgD_none rd post _ (by rw [msgD_snoc, h]; rfl)
/-- What message leaves. -/
def MsgR (w : World) (o : Option Msg12) (e : Ending) (w' : World) : Prop :=
  (match o with
    | none => e = .returned (.tuple #[.agg (msC fst0 (.slice none 0 0)), .bool false])
    | some mm => ∃ v F, flL F = mm.2 ∧ e = .returned (.tuple #[.agg (msC mm.1 v), .bool true]) ∧ OwnF w.heap.size v F w') ∧ Below w.heap.size w w'
/-- Between two lines. -/
structure MsI (rd : List UInt8 → Option Fst12) (g : Nat) (w : World) (A : Nat) (pre : List (List UInt8)) (W : World) : Prop where
  st : ∃ (mm : Msg12) (v : Value) (F : List BF), msgD rd pre = some mm ∧ flL F = mm.2 ∧ F.length ≤ pre.length ∧ MsAt W (A + 3) mm.1 v ∧ OwnF (A + 6) v F W ∧ (pre = [] → v = .slice none 0 0)
  fn : Boxed W (A + 4) 71 (.func (.func (if pre = [] then g else 102)) #[] #[])
  r1 : W.heap[A + 1]? = some (.cells (msC fst0 (.slice none 0 0)) 26 (0, 0))
  r2 : Boxed W (A + 2) 4 (.bool false)
  sz : A + 6 ≤ W.heap.size
  be : Below A w W
structure MsX (rd : List UInt8 → Option Fst12) (w : World) (A : Nat) (c : Code) (pre : List (List UInt8)) (W : World) : Prop where
  c : c = .ret
  no : msgD rd pre = none
  r1 : W.heap[A + 1]? = some (.cells (msC fst0 (.slice none 0 0)) 26 (0, 0))
  r2 : Boxed W (A + 2) 4 (.bool false)
  be : Below A w W
theorem at_grown {W W' : World} {row : Option Nat} {k : Nat} {cs : Array Value} {t : TypeId} (h : W.heap[k]? = some (.cells cs t (0, 0))) (hg : W.grownBy W' row) (hr : ∀ r, row = some r → ∃ o : Obj, W.heap[r]? = some o ∧ o.isCells = false) : W'.heap[k]? = some (.cells cs t (0, 0)) :=
  (hg.block k (lt_of_block h) fun e => by
    obtain ⟨o, ho, hc⟩ := hr k e.symm
    rw [h] at ho; cases ho; cases hc).trans h
theorem ownF_grown {W W' : World} {row : Option Nat} {base : Nat} {v : Value} {F : List BF} (h : OwnF base v F W) (hg : W.grownBy W' row) (hr : ∀ r, row = some r → ∃ o : Obj, W.heap[r]? = some o ∧ o.isCells = false) : OwnF base v F W' := by
  refine ⟨h.h.kept hg ?_⟩
  cases hv : v.ownBlock with
  | none => exact .inl rfl
  | some q =>
    refine .inr fun e => ?_
    obtain ⟨o, ho, hc⟩ := hr q e.symm
    obtain ⟨_, h2 | ⟨g, cap, cur, rfl, hb, hh, _⟩⟩ := h.h
    · rw [h2.1] at hv; cases hv
    · cases hv
      rw [hh] at ho; cases ho; cases hc
theorem below_grown12 {A : Nat} {w W W' : World} {row : Option Nat} (h : Below A w W) (hA : A ≤ w.heap.size) {B : Nat} (hB : A ≤ B) (hg : W.grownBy W' row) (hr : ∀ r, row = some r → B ≤ r) : Below A w W' :=
  ⟨hg.os.trans h.os, hg.tape.trans h.tape, hg.output.trans h.output, Nat.le_trans h.size hg.size, fun k hk => (hg.block k (Nat.lt_of_lt_of_le hk (Nat.le_trans hA h.size)) fun e => by have := hr k e.symm; omega).trans (h.block k hk)⟩
theorem msI_own (rd : List UInt8 → Option Fst12) (g : Nat) (w : World) (A B : Nat) (h1 : A ≤ w.heap.size) (h2 : A ≤ B) : OwnFrom B (MsI rd g w A) := fun s X Y row hs hg hr => by
  have hr2 : ∀ r, row = some r → ∃ o : Obj, X.heap[r]? = some o ∧ o.isCells = false := fun r e => (hr r e).2
  obtain ⟨mm, v, F, a1, a2, a3, a4, a5, a6⟩ := hs.st
  exact ⟨⟨mm, v, F, a1, a2, a3, at_grown a4 hg hr2, ownF_grown a5 hg hr2, a6⟩, at_grown hs.fn hg hr2, at_grown hs.r1 hg hr2, at_grown hs.r2 hg hr2, Nat.le_trans hs.sz hg.size, below_grown12 hs.be h1 h2 hg fun r e => (hr r e).1⟩
theorem msX_own (rd : List UInt8 → Option Fst12) (w : World) (A B : Nat) (h1 : A ≤ w.heap.size) (h2 : A ≤ B) (c : Code) : OwnFrom B (MsX rd w A c) := fun s X Y row hs hg hr => by
  have hr2 : ∀ r, row = some r → ∃ o : Obj, X.heap[r]? = some o ∧ o.isCells = false := fun r e => (hr r e).2
  exact ⟨hs.c, hs.no, at_grown hs.r1 hg hr2, at_grown hs.r2 hg hr2, below_grown12 hs.be h1 h2 hg fun r e => (hr r e).1⟩
theorem hd_boolV (w : World) (g : Nat) (v : Value) (h : w.cell? ⟨g, 0, none⟩ = some v) : (loadVar 4 ⟨g, 0, none⟩).run Tryd.prog w = .ok v w := by
  simp [loadVar, Sem.run_bind, go_sem, h]
theorem hd_cells2 {fn : Func} {p u : Tmp} (h : fn.results = #[.cell p 26, .cell u 4]) (tmps : Array Value) (w : World) (g k : Nat) (cs : Array Value) (c : Bool) (hs : cs.size = 5)
    (hp : tmps.getD p undef = .pointer (some ⟨g, 0, none⟩)) (hk : tmps.getD u undef = .pointer (some ⟨k, 0, none⟩)) (hg : w.heap[g]? = some (.cells cs 26 (0, 0))) (hc : w.heap[k]? = some (.cells #[.bool c] 4 (0, 0))) :
    (results fn tmps).run Tryd.prog w = .ok (.tuple #[.agg cs, .bool c]) w := by
  have hp' : tmps[p]?.getD undef = .pointer (some ⟨g, 0, none⟩) := by simpa using hp
  have hk' : tmps[u]?.getD undef = .pointer (some ⟨k, 0, none⟩) := by simpa using hk
  have h1 := run_loadVar_row (P := Tryd.prog) w g 26 26 cs (0, 0) _ hg Tryd.underlying26 rfl (by rw [hs]; exact infoMs)
  have h2 := hd_boolV w k _ (cell_of_one hc)
  simp [results, h, hp', hk', asAddr, Sem.run_bind, h1, h2]

end Go.Proofs.YtbfnbjffobhllaaDoor
