/-
  Package heads: Put.
-/
import Derived.Test.YtbfnbjffobhllaaDoorHdT
import Derived.Test.YtbfnbjffobhllaaDoorHdQ
import Derived.OwnWalkIn
namespace Go.Proofs.YtbfnbjffobhllaaDoor
open Go.RowKit Go.Shelf
attribute [local go_sem] Oper.semAt_some

theorem hdIn_ran {F : Fence} {n : Nat} {P : Program} {ops : Array Oper} {rest : List Oper} {o : Oper} {a : Act} {w : World} {Q : Exit → Act → World → Prop} (hg : o.guard = none) (s x : Operand) (t u : TypeId)
    (hop : o.op = Op.call { callee := Callee.builtin Builtin.append, args := #[s, x], argTypes := #[t, u] }) (vs vx v' : Value) (w' : World) (hs : a.eval s = vs) (hx : a.eval x = vx)
    (hrun : (Builtin.append_ #[t, u] o.type #[vs, vx]).run P w = .ok v' w') (h : wpListIn F n P ops Q rest (a.put o.dst v') w') : wpListIn F n P ops Q (o :: rest) a w := by
  refine wpListIn_plain hg fun K hK' => ?_
  unfold Oper.wpIn
  refine ⟨?_, ?_⟩
  · simp [Oper.about, hop, resolve, Target.leads, Sem.run_pure]
  · rw [Oper.semAt_plain F _ _ (by rw [hop]; intro c hc'; cases hc')]
    simp [execOp, hop, resolve, invoke, builtin, hs, hx, hrun, Result.andThen]
    exact hK' _ _ h
theorem put_stops (n : Nat) (hn : 1 ≤ n) (Bm n₀ : Nat) (me ta : ByteArray) (st : Int) (aF : Option Addr) (cF b o : Nat) (F : List BF) (vB : Value) (w : World)
    (hme : me.size ≤ 250000) (hta : ta.size ≤ 250000) (hs : ∀ f ∈ F, f.1.size ≤ 250000 ∧ f.2.size ≤ 250000) (hFn : F.length ≤ 1000000)
    (hBm : w.heap[Bm]? = some (.cells (msgC me ta st (.slice aF F.length cF) vB) 26 (0, 0))) (hF : FxAt F aF b o w) (hb : 0 < F.length → b < n₀) (hn0 : n₀ ≤ w.heap.size) :
    SeqStopsK Fence.wide n Tryd.prog 84 #[.pointer (some ⟨Bm, 0, none⟩)] encP (KpB n₀ Bm) (fun ys => lpL ys = linesP me.data.toList ta.data.toList (flL F)) (fun pre => lpL pre <+: linesP me.data.toList ta.data.toList (flL F)) (F.length + 2) w :=
  fun l J Jx W hW hJ _ hY h0 => written1_in n hn l Bm n₀ me ta st aF cF b o F vB J Jx W hJ hme hta hs hFn hY ((hW.block _ (lt_of_block hBm)).trans hBm) (hF.later hW) hb (Nat.le_trans hn0 hW.size) h0
/-- What Put leaves. -/
def PutR (w : World) (l : List UInt8) (c : Int) (e : Ending) (w' : World) : Prop := ∃ v, e = .returned (.tuple #[v, .int .i64 c]) ∧ OwnB w.heap.size v l w' ∧ Below w.heap.size w w'
theorem hd_sliceV (w : World) (g : Nat) (v : Value) (h : w.cell? ⟨g, 0, none⟩ = some v) : (loadVar 24 ⟨g, 0, none⟩).run Tryd.prog w = .ok v w := by
  simp [loadVar, Sem.run_bind, go_sem, h]
theorem hd_errV (w : World) (g : Nat) (v : Value) (h : w.cell? ⟨g, 0, none⟩ = some v) : (loadVar 48 ⟨g, 0, none⟩).run Tryd.prog w = .ok v w := by
  simp [loadVar, Sem.run_bind, go_sem, h]
theorem hd_cellsP {fn : Func} {p u : Tmp} (h : fn.results = #[.cell p 24, .cell u 48]) (tmps : Array Value) (w : World) (g k : Nat) (v : Value) (c : Int)
    (hp : tmps.getD p undef = .pointer (some ⟨g, 0, none⟩)) (hk : tmps.getD u undef = .pointer (some ⟨k, 0, none⟩)) (hg : w.heap[g]? = some (.cells #[v] 24 (0, 0))) (hc : w.heap[k]? = some (.cells #[.int .i64 c] 48 (0, 0))) :
    (results fn tmps).run Tryd.prog w = .ok (.tuple #[v, .int .i64 c]) w := by
  have hp' : tmps[p]?.getD undef = .pointer (some ⟨g, 0, none⟩) := by simpa using hp
  have hk' : tmps[u]?.getD undef = .pointer (some ⟨k, 0, none⟩) := by simpa using hk
  have h1 := hd_sliceV w g _ (cell_of_one hg)
  have h2 := hd_errV w k _ (cell_of_one hc)
  simp [results, h, hp', hk', asAddr, Sem.run_bind, h1, h2]
/-- Between two lines that are written. -/
structure PtI (w : World) (A H : Nat) (pre : List (List UInt8)) (W : World) : Prop where
  st : ∃ v, Boxed W H 24 v ∧ OwnB (H + 2) v (joinP pre) W
  le : (joinP pre).length ≤ 65536
  r1 : Boxed W (A + 1) 24 (.slice none 0 0)
  r2 : Boxed W (A + 2) 48 (.int .i64 0)
  sz : H + 2 ≤ W.heap.size
  be : Below A w W
structure PtX (w : World) (A : Nat) (c : Code) (pre : List (List UInt8)) (W : World) : Prop where
  c : c = .ret
  gt : 65536 < (joinP pre).length
  r1 : Boxed W (A + 1) 24 (.slice none 0 0)
  r2 : Boxed W (A + 2) 48 (.int .i64 3)
  be : Below A w W
theorem ptI_own (w : World) (A H B : Nat) (h1 : A ≤ w.heap.size) (h2 : A ≤ B) : OwnFrom B (PtI w A H) := fun s X Y row hs hg hr => by
  have hr2 : ∀ r, row = some r → ∃ o : Obj, X.heap[r]? = some o ∧ o.isCells = false := fun r e => (hr r e).2
  obtain ⟨v, a1, a2⟩ := hs.st
  exact ⟨⟨v, at_grown a1 hg hr2, ownB_grown a2 hg hr2⟩, hs.le, at_grown hs.r1 hg hr2, at_grown hs.r2 hg hr2, Nat.le_trans hs.sz hg.size, below_grown12 hs.be h1 h2 hg fun r e => (hr r e).1⟩
theorem ptX_own (w : World) (A B : Nat) (h1 : A ≤ w.heap.size) (h2 : A ≤ B) (c : Code) : OwnFrom B (PtX w A c) := fun s X Y row hs hg hr => by
  have hr2 : ∀ r, row = some r → ∃ o : Obj, X.heap[r]? = some o ∧ o.isCells = false := fun r e => (hr r e).2
  exact ⟨hs.c, hs.gt, at_grown hs.r1 hg hr2, at_grown hs.r2 hg hr2, below_grown12 hs.be h1 h2 hg fun r e => (hr r e).1⟩
theorem joinP_mono {pre all : List (List UInt8)} (h : pre <+: all) : (joinP pre).length ≤ (joinP all).length := by
  obtain ⟨T, rfl⟩ := h
  rw [joinP_app, List.length_append]; omega
theorem joinP_snoc (pre : List (List UInt8)) (l : List UInt8) : joinP (pre ++ [l]) = joinP pre ++ l ++ crlf := by
  rw [joinP_app]; simp [joinP]
theorem keeps_grown {W W' : World} {row : Option Nat} (hg : W.grownBy W' row) (hx : ∀ q, row = some q → ∀ o : Obj, W.heap[q]? = some o → o.isCells = true) : KeepsOthers W W' :=
  ⟨hg.size, fun q o hq hc => (hg.block q (lt_of_block hq) fun e => by rw [hx q e.symm o hq] at hc; cases hc).trans hq⟩
theorem ownB_shape {base : Nat} {v : Value} {l : List UInt8} {w : World} (h : OwnB base v l w) : ∃ p n c, v = .slice p n c := by
  obtain ⟨p, c, e, _⟩ := ownB_form h
  exact ⟨p, _, c, e⟩
theorem two_set {w : World} {i j : Nat} {t u : TypeId} {a b : Value} (hi : w.heap[i]? = some (.cells #[a] t (0, 0))) (hj : w.heap[j]? = some (.cells #[b] u (0, 0))) (hij : i ≠ j) (x y : Value) :
    ((w.setCell ⟨i, 0, none⟩ x).setCell ⟨j, 0, none⟩ y).heap[i]? = some (.cells #[x] t (0, 0)) ∧ ((w.setCell ⟨i, 0, none⟩ x).setCell ⟨j, 0, none⟩ y).heap[j]? = some (.cells #[y] u (0, 0)) :=
  ⟨(Below.heap_setCell _ _ _ _ hij).trans (one_setCell hi), one_setCell ((Below.heap_setCell _ _ _ _ (Ne.symm hij)).trans hj)⟩
set_option maxHeartbeats 4000000 in
set_option maxRecDepth 1000000 in
theorem Put_any (me ta : ByteArray) (st : Int) (aF : Option Addr) (cF b o : Nat) (F : List BF) (vB : Value) (w : World) (hF : FxAt F aF b o w)
    (hme : me.size ≤ 250000) (hta : ta.size ≤ 250000) (hs : ∀ f ∈ F, f.1.size ≤ 250000 ∧ f.2.size ≤ 250000) (hFn : F.length ≤ 1000000) :
    Calls Tryd.prog 21 #[.agg (msgC me ta st (.slice aF F.length cF) vB)] w (PutR w (putT me.data.toList ta.data.toList (flL F)) (putE me.data.toList ta.data.toList (flL F))) := by
  have HMb := Lib.hid fun w (hF : FxAt F aF b o w) => (callsIn_wide (n := 3 - 1)).2 (mayBePut_any me ta st aF cF b o F vB w hF (by unfold maxLen; omega) (by unfold maxLen; omega) (fun f hf => ⟨by have := (hs f hf).1; unfold maxLen; omega, by have := (hs f hf).2; unfold maxLen; omega⟩) (by unfold maxLen; omega))
  have HWr := Lib.hid fun w => (callsIn_wide (n := 3 - 1)).2 (written_any me ta st (.slice aF F.length cF) vB w)
  have HFx := Lib.hid hF
  have HS := Lib.hid hs
  have HE : Hid (putE me.data.toList ta.data.toList (flL F) = if putOk me.data.toList ta.data.toList (flL F) = false then 1 else if 256 < (flL F).length then 3 else if 65536 < (headP me.data.toList ta.data.toList (flL F)).length then 3 else 0) := Lib.hid rfl
  have HT : Hid (putT me.data.toList ta.data.toList (flL F) = if putE me.data.toList ta.data.toList (flL F) = 0 then headP me.data.toList ta.data.toList (flL F) else []) := Lib.hid rfl
  rw [flL_len] at HE
  obtain ⟨R, HR⟩ : ∃ R, Hid (putE me.data.toList ta.data.toList (flL F) = R) := ⟨_, Lib.hid rfl⟩
  obtain ⟨T, HTt⟩ : ∃ R, Hid (putT me.data.toList ta.data.toList (flL F) = R) := ⟨_, Lib.hid rfl⟩
  obtain ⟨ok, Hok⟩ : ∃ R, Hid (putOk me.data.toList ta.data.toList (flL F) = R) := ⟨_, Lib.hid rfl⟩
  obtain ⟨Hp, HHp⟩ : ∃ R, Hid (headP me.data.toList ta.data.toList (flL F) = R) := ⟨_, Lib.hid rfl⟩
  rw [HR.out, HTt.out]
  rw [HR.out, Hok.out, HHp.out] at HE
  rw [HR.out, HTt.out, HHp.out] at HT
  rw [Hok.out] at HMb
  obtain ⟨C, HC⟩ : ∃ C, Hid (msgC me ta st (.slice aF F.length cF) vB = C) := ⟨_, Lib.hid rfl⟩
  have HC3 : Hid (C[3]? = some (.slice aF F.length cF)) := Lib.hid (by rw [← HC.out]; rfl)
  have HCs : Hid ((Tryd.prog.info? 26).map (·.size) = some C.size) := Lib.hid (by rw [← HC.out]; exact infoMs)
  have HMb2 : Hid (∀ w, FxAt F aF b o w → CallsIn Fence.wide (3 - 1) Tryd.prog 56 #[.agg C] w fun e w' => e = .returned (.bool ok) ∧ Below w.heap.size w w') := Lib.hid (by rw [← HC.out]; exact HMb.out)
  have HWr2 : Hid (∀ w, CallsIn Fence.wide (3 - 1) Tryd.prog 57 #[.agg C] w fun e w' => e = .returned (.func (.func 84) #[] #[.pointer (some ⟨w.heap.size, 0, none⟩)]) ∧ w.alloc (.cells C 26) = w') := Lib.hid (by rw [← HC.out]; exact HWr.out)
  obtain ⟨nF, HN⟩ : ∃ n, Hid (F.length = n) := ⟨_, Lib.hid rfl⟩
  rw [HN.out] at HE HC3
  rw [HC.out]
  obtain ⟨A, HA⟩ : ∃ A, Hid (w.heap.size = A) := ⟨_, Lib.hid rfl⟩
  obtain ⟨W0, HW0⟩ : ∃ W, Hid (((w.alloc (.cells C 26)).alloc (.cells #[.slice none 0 0] 24)).alloc (.cells #[.int .i64 0] 48) = W) := ⟨_, Lib.hid rfl⟩
  have HB0 : Hid (Below A w W0) := Lib.hid (by rw [← HW0.out, ← HA.out]; exact (((Below.refl _ _).alloc (Nat.le_refl _) _).alloc (by simp) _).alloc (by simp; omega) _)
  have HG0 : Hid (W0.heap[A]? = some (.cells C 26 (0, 0))) := Lib.hid (by rw [← HW0.out, ← HA.out]; exact at_old (at_old (at_new _ _ _ rfl) _) _)
  have HG1 : Hid (W0.heap[A + 1]? = some (.cells #[.slice none 0 0] 24 (0, 0))) := Lib.hid (by rw [← HW0.out, ← HA.out]; exact at_old (at_new _ _ _ (by simp)) _)
  have HG2 : Hid (W0.heap[A + 2]? = some (.cells #[.int .i64 0] 48 (0, 0))) := Lib.hid (by rw [← HW0.out, ← HA.out]; exact at_new _ _ _ (by simp))
  clear HMb HWr hF hs
  refine (callsIn_wide (n := 3)).1 ?_
  refine callsIn_of_wp_marks Tryd.func21 rfl trivial ?_ rfl
  simp only [Tryd.ntmps21, List.size_toArray, List.length_cons, List.length_nil, Nat.reduceAdd, Nat.reduceSub, Array.replicate_succ, Array.replicate_zero, List.push_toArray, List.append_toArray, List.nil_append, List.cons_append]
  have HGw : Hid (W0.heap[w.heap.size]? = some (.cells C 26 (0, 0))) := Lib.hid (by rw [HA.out]; exact HG0.out)
  gi_wp2_with (refine hdIn_load_row rfl 26 _ rfl w.heap.size ?_ 26 C (0, 0) _ ?_ Tryd.underlying26 rfl HCs.out ?_; (exact rfl); (rw [HW0.out]; exact HGw.out))
  refine ⟨trivial, ?_⟩
  rw [HW0.out, HA.out]
  refine (HMb2.out W0 (HFx.out.later (by rw [HA.out]; exact HB0.out))).mono ?_
  rintro e w1 ⟨rfl, b1⟩
  have HB1 : Hid (Below A w w1) := Lib.hid (HB0.out.trans (b1.mono (by have := lt_of_block HG0.out; omega)))
  have HG01 : Hid (w1.heap[A]? = some (.cells C 26 (0, 0))) := Lib.hid ((b1.block _ (lt_of_block HG0.out)).trans HG0.out)
  have HG11 : Hid (w1.heap[A + 1]? = some (.cells #[.slice none 0 0] 24 (0, 0))) := Lib.hid ((b1.block _ (lt_of_block HG1.out)).trans HG1.out)
  have HG21 : Hid (w1.heap[A + 1 + 1]? = some (.cells #[.int .i64 0] 48 (0, 0))) := Lib.hid ((b1.block _ (lt_of_block HG2.out)).trans HG2.out)
  have c1 := cell_of_one HG11.out
  have f1 := free_of_one HG11.out
  have c2 := cell_of_one HG21.out
  have f2 := free_of_one HG21.out
  have hAw : A ≤ w.heap.size := by rw [HA.out]; exact Nat.le_refl _
  have HAw := Lib.hid hAw
  clear b1 hAw
  cases ok with
  | false =>
    have HRR : Hid (R = 1) := Lib.hid (by rw [HE.out, if_pos rfl])
    have HTT : Hid (T = []) := Lib.hid (by rw [HT.out, if_neg (by rw [HRR.out]; decide)])
    gi_wp2
    refine ⟨_, hd_cellsP rfl _ _ (A + 1) (A + 1 + 1) (.slice none 0 0) 1 rfl rfl (two_set HG11.out HG21.out (by omega) (.slice none 0 0) (.int .i64 1)).1 (two_set HG11.out HG21.out (by omega) (.slice none 0 0) (.int .i64 1)).2, ?_⟩
    rw [HRR.out, HTT.out]
    exact ⟨.slice none 0 0, rfl, OwnB.nil _ _, by rw [HA.out]; exact (HB1.out.setCell (p := ⟨A + 1, 0, none⟩) (by show A ≤ A + 1; omega) _).setCell (p := ⟨A + 1 + 1, 0, none⟩) (by show A ≤ A + 1 + 1; omega) _⟩
  | true =>
    have c03 : w1.cell? ⟨A, 3, none⟩ = some (.slice aF nF cF) := by rw [cell_of_row w1 A 3 _ _ _ HG01.out]; exact HC3.out
    have HE2 : Hid (R = if 256 < nF then 3 else if 65536 < Hp.length then 3 else 0) := Lib.hid (by rw [HE.out, if_neg (by simp)])
    by_cases hbig : 256 < nF
    · have HRR : Hid (R = 3) := Lib.hid (by rw [HE2.out, if_pos hbig])
      have HTT : Hid (T = []) := Lib.hid (by rw [HT.out, if_neg (by rw [HRR.out]; decide)])
      have hbI : (256 : Int) < (nF : Int) := by omega
      gi_wp2
      refine ⟨_, hd_cellsP rfl _ _ (A + 1) (A + 1 + 1) (.slice none 0 0) 3 rfl rfl (two_set HG11.out HG21.out (by omega) (.slice none 0 0) (.int .i64 3)).1 (two_set HG11.out HG21.out (by omega) (.slice none 0 0) (.int .i64 3)).2, ?_⟩
      rw [HRR.out, HTT.out]
      exact ⟨.slice none 0 0, rfl, OwnB.nil _ _, by rw [HA.out]; exact (HB1.out.setCell (p := ⟨A + 1, 0, none⟩) (by show A ≤ A + 1; omega) _).setCell (p := ⟨A + 1 + 1, 0, none⟩) (by show A ≤ A + 1 + 1; omega) _⟩
    · have HE3 : Hid (R = if 65536 < Hp.length then 3 else 0) := Lib.hid (by rw [HE2.out, if_neg hbig])
      have hbI : ¬ (256 : Int) < (nF : Int) := by omega
      have hbd : decide ((256 : Int) < (nF : Int)) = false := decide_eq_false hbI
      obtain ⟨H, HH⟩ : ∃ H, Hid (w1.heap.size = H) := ⟨_, Lib.hid rfl⟩
      obtain ⟨W2, HW2⟩ : ∃ W, Hid (w1.alloc (.cells #[.slice none 0 0] 24) = W) := ⟨_, Lib.hid rfl⟩
      have HG02 : Hid (W2.heap[A]? = some (.cells C 26 (0, 0))) := Lib.hid (by rw [← HW2.out]; exact at_old HG01.out _)
      have HAH : Hid (A + 3 ≤ H) := Lib.hid (by have := lt_of_block HG21.out; have := HH.out; omega)
      gi_wp2_with (refine hdIn_load_row rfl 26 _ rfl A ?_ 26 C (0, 0) _ ?_ Tryd.underlying26 rfl HCs.out ?_; (exact rfl); (rw [HW2.out]; exact HG02.out))
      refine ⟨trivial, ?_⟩
      refine (HWr2.out _).mono ?_
      rintro e W3 ⟨rfl, hw3⟩
      have h3z : W3.heap.size = H + 2 := by rw [← hw3, ← HH.out]; simp
      have h3b : W3.heap[H + 1]? = some (.cells (msgC me ta st (.slice aF F.length cF) vB) 26 (0, 0)) := by rw [← hw3, HC.out, ← HH.out]; exact at_new _ _ _ (by simp)
      have h3h : Boxed W3 H 24 (.slice none 0 0) := by rw [← hw3, ← HH.out]; exact at_old (at_new _ _ _ rfl) _
      have h31 : Boxed W3 (A + 1) 24 (.slice none 0 0) := by rw [← hw3]; exact at_old (at_old HG11.out _) _
      have h32 : Boxed W3 (A + 2) 48 (.int .i64 0) := by rw [← hw3]; exact at_old (at_old HG21.out _) _
      have hB3 : Below A w W3 := by rw [← hw3]; exact (HB1.out.alloc (by have := lt_of_block HG01.out; omega) _).alloc (by have := lt_of_block HG01.out; simp; omega) _
      have hF3 : FxAt F aF b o W3 := HFx.out.later (by rw [HA.out]; exact hB3)
      have hbA : 0 < F.length → b < A := fun h => by rw [← HA.out]; exact HFx.out.lt h
      have hAH := HAH.out
      have hstops := put_stops (3 - 1) (by omega) (H + 1) A me ta st aF cF b o F vB W3 hme hta HS.out hFn h3b hF3 hbA (by omega)
      simp only [World.size_alloc]
      rw [HH.out]
      clear hw3 hF3 h3b hbig
      gi_wp2
      refine wpIn_rangeFunc_ownH rfl (by omega) (gf := 84) (lb := #[.pointer (some ⟨H + 1, 0, none⟩)]) rfl trivial (enters_of Tryd.func84 (by kernel_rfl) rfl)
        hstops (fun h k => kpB_t h k) (kpB_b (by omega) (by omega)) (Below.refl _ _) (fun _ => rfl)
        (fun pre => PtI w A H (lpL pre)) (fun c pre => PtX w A c (lpL pre)) (fun s => ptI_own w A H _ HAw.out (by omega) (lpL s)) (fun c s => ptX_own w A _ HAw.out (by omega) c (lpL s))
        ⟨⟨.slice none 0 0, h3h, OwnB.nil _ _⟩, Nat.zero_le _, h31, h32, by omega, hB3⟩
        (fun x a' W => a' = { tmps := #[.agg C, .pointer (some ⟨A, 0, none⟩), .pointer (some ⟨A + 1, 0, none⟩), .pointer (some ⟨A + 1 + 1, 0, none⟩), .pointer (some ⟨H, 0, none⟩), .string (asB x.1), .agg C, .bool true, .bool false, .pointer (some ⟨A, 3, none⟩), .slice aF nF cF, .int .i64 (nF : Int), .bool false, .agg C, .func (.func 84) #[] #[.pointer (some ⟨H + 1, 0, none⟩)], .string (asB x.1), undef, undef, undef, undef, undef, undef, undef, undef, undef, undef, undef, undef], defers := [] })
        (fun x a' => fun s X Y row hs hg hr => hs) ?assign ?body ?done ?stop
      case assign =>
        rintro l pre x W K hI hK
        dsimp only [encP]
        gi_wp2
        exact hK _ _ (KeepsFrom.refl _ _) ⟨Below.refl _ _, rfl⟩ hI rfl
      case body =>
        rintro l pre ⟨x, hx⟩ a' W hl _ hI rfl hlt
        obtain ⟨P, HP⟩ : ∃ P, Hid (lpL pre = P) := ⟨_, Lib.hid rfl⟩
        have hI2 : PtI w A H P W := by rw [← HP.out]; exact hI
        have HX : Hid (∀ W', PtI w A H (P ++ [x]) W' → PtI w A H (lpL (pre ++ [⟨x, hx⟩])) W') := Lib.hid fun W' h => by rw [lpL_app, HP.out]; exact h
        have HX2 : Hid (∀ W', PtX w A .ret (P ++ [x]) W' → PtX w A .ret (lpL (pre ++ [⟨x, hx⟩])) W') := Lib.hid fun W' h => by rw [lpL_app, HP.out]; exact h
        have HI := Lib.hid hI2
        obtain ⟨v, hv, ho⟩ := hI2.st
        have hle := hI2.le
        obtain ⟨vp, vc, rfl, -⟩ := ownB_form ho
        have HO := Lib.hid ho
        have HV := Lib.hid hv
        have hJ : (joinP (P ++ [x])).length = (joinP P).length + x.length + 2 := by rw [joinP_snoc, List.length_append, List.length_append]; rfl
        obtain ⟨N, HNn⟩ : ∃ N, Hid ((joinP P).length = N) := ⟨_, Lib.hid rfl⟩
        have HJ := Lib.hid hJ
        rw [HNn.out] at hle HJ
        have cH : W.cell? ⟨H, 0, none⟩ = some (.slice vp N vc) := by rw [← HNn.out]; exact hv.cell
        have fH : W.frozen? ⟨H, 0, none⟩ = false := hv.frozen
        have hXs : (asB x).size = x.length := asB_size x
        obtain ⟨X, HXx⟩ : ∃ X, Hid (asB x = X) := ⟨_, Lib.hid rfl⟩
        rw [HXx.out] at hXs
        have hxl : X.size ≤ 1000000 := by omega
        have d1 := HI.out.r1.cell
        have e1 := HI.out.r1.frozen
        have d2 : W.cell? ⟨A + 1 + 1, 0, none⟩ = some (.int .i64 0) := HI.out.r2.cell
        have e2 : W.frozen? ⟨A + 1 + 1, 0, none⟩ = false := HI.out.r2.frozen
        have HXs := Lib.hid hXs
        rw [HXx.out]
        clear hI hI2 hv ho hJ hXs hlt c1 f1 c2 f2 c03
        by_cases hbig2 : 65536 < N + X.size + 2
        · have hbJ : (65536 : Int) < (N : Int) + (X.size : Int) + 2 := by omega
          have HG : Hid (65536 < (joinP (P ++ [x])).length) := Lib.hid (by rw [HJ.out]; have := HXs.out; omega)
          gi_wp2
          exact ⟨((KeepsOthers.setCell _ _ _).trans (KeepsOthers.setCell _ _ _)).from _, HX2.out _ ⟨rfl, HG.out, (two_set HI.out.r1 HI.out.r2 (by omega) (.slice none 0 0) (.int .i64 3)).1, (two_set HI.out.r1 HI.out.r2 (by omega) (.slice none 0 0) (.int .i64 3)).2, (HI.out.be.setCell (p := ⟨A + 1, 0, none⟩) (by show A ≤ A + 1; omega) _).setCell (p := ⟨A + 1 + 1, 0, none⟩) (by show A ≤ A + 1 + 1; omega) _⟩⟩
        · have hbJ : ¬ (65536 : Int) < (N : Int) + (X.size : Int) + 2 := by omega
          have HG : Hid ((joinP (P ++ [x])).length ≤ 65536) := Lib.hid (by rw [HJ.out]; have := HXs.out; omega)
          obtain ⟨v1, W5, hrun1, ho1, hg1⟩ := HO.out.step X (by have := HNn.out; omega) HI.out.sz
          obtain ⟨v2, W6, hrun2, ho2, hg2⟩ := ho1.step ⟨#[13, 10]⟩ (by have := HNn.out; rw [List.length_append, lenB]; show _ + 2 ≤ _; omega) (Nat.le_trans HI.out.sz hg1.size)
          obtain ⟨p2, n2, q2, rfl⟩ := ownB_shape ho2
          have hv1 : ∀ q, (Value.slice vp (joinP P).length vc).ownBlock = some q → H + 2 ≤ q := fun q e => (HO.out.h.lt q e).1
          have hv2 : ∀ q, v1.ownBlock = some q → H + 2 ≤ q := fun q e => (ho1.h.lt q e).1
          have hnH : ∀ q, q < H + 2 → q < W.heap.size → W6.heap[q]? = W.heap[q]? := fun q h1 h2 => by
            rw [hg2.block q (Nat.lt_of_lt_of_le h2 hg1.size) (fun e => by have := hv2 q e.symm; omega), hg1.block q h2 (fun e => by have := hv1 q e.symm; omega)]
          have HNH := Lib.hid hnH
          have HRun1 : Hid ((Builtin.append_ #[24, 9] 24 #[.slice vp N vc, .string X]).run Tryd.prog W = .ok v1 W5) := Lib.hid (by rw [← HNn.out]; exact hrun1)
          have HRun2 := Lib.hid hrun2
          have HO2 : Hid (OwnB (H + 2) (.slice p2 n2 q2) (joinP (P ++ [x])) W6) := Lib.hid (by
            have e : joinP (P ++ [x]) = joinP P ++ X.data.toList ++ (⟨#[13, 10]⟩ : ByteArray).data.toList := by rw [joinP_snoc, ← HXx.out]; rfl
            rw [e]; exact ho2)
          have HB5 : Hid (Below A w W5) := Lib.hid (below_grown12 HI.out.be HAw.out (B := H + 2) (by omega) hg1 hv1)
          have HB6 : Hid (Below A w W6) := Lib.hid (below_grown12 HB5.out HAw.out (B := H + 2) (by omega) hg2 hv2)
          have HKO : Hid (KeepsOthers W W6) := Lib.hid ((keeps_grown hg1 fun q e o ho => ownB_cells HO.out e ho).trans (keeps_grown hg2 fun q e o ho => ownB_cells ho1 e ho))
          have HBW : Hid (Below A W W6) := Lib.hid ⟨hg2.os.trans hg1.os, hg2.tape.trans hg1.tape, hg2.output.trans hg1.output, Nat.le_trans hg1.size hg2.size, fun k hk => by
            by_cases hkW : k < W.heap.size
            · exact HNH.out k (by omega) hkW
            · exact absurd (Nat.lt_of_lt_of_le (show k < H + 2 by omega) HI.out.sz) hkW⟩
          have hH6 : Boxed W6 H 24 (.slice vp N vc) := by
            have h1 := HNH.out H (by omega) HV.out.lt
            have h2 : W.heap[H]? = some (.cells #[.slice vp N vc] 24 (0, 0)) := by rw [← HNn.out]; exact HV.out
            exact h1.trans h2
          have HH6 := Lib.hid hH6
          have g6 := hH6.cell
          have k6 := hH6.frozen
          have HR16 : Hid (Boxed W6 (A + 1) 24 (.slice none 0 0)) := Lib.hid ((HNH.out (A + 1) (by omega) HI.out.r1.lt).trans HI.out.r1)
          have HR26 : Hid (Boxed W6 (A + 2) 48 (.int .i64 0)) := Lib.hid ((HNH.out (A + 2) (by omega) HI.out.r2.lt).trans HI.out.r2)
          have HP1 : Hid (W6.heap[H + 1]? = W.heap[H + 1]?) := Lib.hid (HNH.out (H + 1) (by omega) (by have := HI.out.sz; omega))
          have HSz : Hid (H + 2 ≤ W6.heap.size) := Lib.hid (Nat.le_trans HI.out.sz HBW.out.size)
          clear hrun1 hrun2 hg1 hg2 ho1 ho2 hnH hH6 d1 e1 d2 e2 hv1 hv2
          gi_wp2_with (first
            | (refine hdIn_ran rfl _ _ 24 9 rfl (.slice vp N vc) (.string X) v1 W5 ?_ ?_ HRun1.out ?_; (exact rfl); (exact rfl))
            | (refine hdIn_ran rfl _ _ 24 9 rfl v1 (.string ⟨#[13, 10]⟩) (.slice p2 n2 q2) W6 ?_ ?_ HRun2.out ?_; (exact rfl); (exact rfl)))
          refine ⟨(HKO.out.trans (KeepsOthers.setCell _ _ _)).from _, ⟨HBW.out.setCell (p := ⟨H, 0, none⟩) (by show A ≤ H; omega) _, (Below.heap_setCell _ _ _ _ (by show H + 1 ≠ H; omega)).trans HP1.out⟩, HX.out _ ⟨⟨_, one_setCell HH6.out, HO2.out.setCell (by omega) _⟩, HG.out, HR16.out.other (by omega) _, HR26.out.other (by omega) _, ?_, HB6.out.setCell (p := ⟨H, 0, none⟩) (by show A ≤ H; omega) _⟩⟩
          simpa [World.setCell] using HSz.out
      case done =>
        rintro Dd ys W hDd hS hI hK
        obtain ⟨v, hv, ho⟩ := hI.st
        obtain ⟨vp, vn, vc, hvv⟩ := ownB_shape ho
        have hle := hI.le
        have hHp : joinP (lpL ys) = Hp := by rw [hS, ← HHp.out]; rfl
        rw [hHp] at ho hle
        have HRR : Hid (R = 0) := Lib.hid (by rw [HE3.out, if_neg (by omega)])
        have HTT : Hid (T = Hp) := Lib.hid (by rw [HT.out, if_pos HRR.out])
        subst hvv
        have cH := hv.cell
        have HO := Lib.hid ho
        have HI := Lib.hid hI
        have d1 := hI.r1.cell
        have e1 := hI.r1.frozen
        have d2 : W.cell? ⟨A + 1 + 1, 0, none⟩ = some (.int .i64 0) := hI.r2.cell
        have e2 : W.frozen? ⟨A + 1 + 1, 0, none⟩ = false := hI.r2.frozen
        obtain ⟨v, Hv⟩ : ∃ v, Hid (Value.slice vp vn vc = v) := ⟨_, Lib.hid rfl⟩
        have HK := Lib.hid hK
        clear hI hle hS hHp c1 f1 c2 f2 c03 ho hv hK
        gi_wp2
        rw [Hv.out]
        rw [Hv.out] at HO
        have hK7 : ((W.setCell ⟨A + 1, 0, none⟩ v).setCell ⟨A + 1 + 1, 0, none⟩ (.int .i64 0)).heap[Dd]? = some (.deferred (some [])) := ((KeepsOthers.setCell W ⟨A + 1, 0, none⟩ v).trans (KeepsOthers.setCell _ ⟨A + 1 + 1, 0, none⟩ (.int .i64 0))).same Dd _ HK.out rfl
        have hg := grownBy_putObj' ((W.setCell ⟨A + 1, 0, none⟩ v).setCell ⟨A + 1 + 1, 0, none⟩ (.int .i64 0)) Dd (.deferred none)
        have hrr : ∀ r, some Dd = some r → ∃ o : Obj, ((W.setCell ⟨A + 1, 0, none⟩ v).setCell ⟨A + 1 + 1, 0, none⟩ (.int .i64 0)).heap[r]? = some o ∧ o.isCells = false := fun r e => by cases e; exact ⟨_, hK7, rfl⟩
        have h12 := two_set HI.out.r1 HI.out.r2 (by omega) v (.int .i64 0)
        refine ⟨by simp, .inl ⟨_, _, rfl, run_takeDeferred hK7, ?_⟩⟩
        refine ⟨_, hd_cellsP rfl _ _ (A + 1) (A + 1 + 1) v 0 rfl rfl (at_grown h12.1 hg hrr) (at_grown h12.2 hg hrr), ?_⟩
        rw [HRR.out, HTT.out]
        refine ⟨v, rfl, ?_, ?_⟩
        · rw [HA.out]
          exact (ownB_grown ((HO.out.setCell (b := A + 1) (k := 0) (by omega) v).setCell (b := A + 1 + 1) (k := 0) (by omega) (.int .i64 0)) hg hrr).mono (by omega)
        · rw [HA.out]
          exact ((HI.out.be.setCell (p := ⟨A + 1, 0, none⟩) (by show A ≤ A + 1; omega) v).setCell (p := ⟨A + 1 + 1, 0, none⟩) (by show A ≤ A + 1 + 1; omega) _).trans (belowK_b (w := W3) (by omega) _ Dd _ _ hDd hK7 rfl rfl)
      case stop =>
        rintro Dd c pre W hDd hSp ⟨rfl, hgt, hr1, hr2, hbe⟩ hK
        have hHp : 65536 < Hp.length := by
          have := joinP_mono hSp
          have e : joinP (linesP me.data.toList ta.data.toList (flL F)) = Hp := HHp.out
          rw [e] at this
          omega
        have HRR : Hid (R = 3) := Lib.hid (by rw [HE3.out, if_pos hHp])
        have HTT : Hid (T = []) := Lib.hid (by rw [HT.out, if_neg (by rw [HRR.out]; decide)])
        have hg := grownBy_putObj' W Dd (.deferred none)
        have hrr : ∀ r, some Dd = some r → ∃ o : Obj, W.heap[r]? = some o ∧ o.isCells = false := fun r e => by cases e; exact ⟨_, hK, rfl⟩
        clear c1 f1 c2 f2 c03
        gi_wp2
        refine ⟨by simp, .inl ⟨_, _, rfl, run_takeDeferred hK, ?_⟩⟩
        refine ⟨_, hd_cellsP rfl _ _ (A + 1) (A + 1 + 1) (.slice none 0 0) 3 rfl rfl (at_grown hr1 hg hrr) (at_grown hr2 hg hrr), ?_⟩
        rw [HRR.out, HTT.out]
        refine ⟨.slice none 0 0, rfl, OwnB.nil _ _, ?_⟩
        rw [HA.out]
        exact hbe.trans (belowK_b (w := W3) (by omega) W Dd _ _ hDd hK rfl rfl)

end Go.Proofs.YtbfnbjffobhllaaDoor
