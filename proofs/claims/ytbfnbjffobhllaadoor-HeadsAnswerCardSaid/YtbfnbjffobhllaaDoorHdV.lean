/-
  Statements of heads: great, SameFields, fields compared.
-/
import Derived.Test.YtbfnbjffobhllaaDoorHdO
import Derived.Test.YtbfnbjffobhllaaDoorHdU
import Derived.Test.YtbfnbjffobhllaaDoorHdR
import Derived.Laws.StructEq
namespace Go.Proofs.YtbfnbjffobhllaaDoor
open Go.RowKit

/-- Fields compared. -/
theorem hd_part {t : TypeId} {xs : Array Value} {i : Nat} {v : Value} (w : World) (ha : (isAgg t).run Tryd.prog w = .ok false w) (hv : xs[i]? = some v) : (part t xs i).run Tryd.prog w = .ok v w := by
  simp [part, Sem.run_bind, ha, Result.andThen, hv]
theorem fieldsFd : (Tryd.prog.fieldsOf 57).toList.map (fun f => (f.name == "_", f.type, f.offset)) = [(false, 9, 0), (false, 9, 1)] := by kernel_rfl
theorem hd_eqcons (d : Nat) (xs ys : Array Value) (w : World) (f : Field) (fs : List Field) (hn : (f.name == "_") = false) (ha : (isAgg f.type).run Tryd.prog w = .ok false w) (x y : Value) (hx : xs[f.offset]? = some x) (hy : ys[f.offset]? = some y) (b : Bool) (he : (Op.equalIn d f.type x y).run Tryd.prog w = .ok b w) :
    (Op.eqFields d xs ys (f :: fs)).run Tryd.prog w = if b then (Op.eqFields d xs ys fs).run Tryd.prog w else .ok false w := by
  have h1 := hd_part w ha hx
  have h2 := hd_part w ha hy
  have hn' : f.name ≠ "_" := by simpa using hn
  cases b <;> simp [Op.eqFields, hn', Sem.run_bind, h1, h2, he, Result.andThen]
theorem hd_eqlist (d : Nat) (xs ys : Array Value) (w : World) (e : Nat → Bool) : ∀ (S : List (TypeId × Nat)) (fs : List Field), fs.map (fun f => (f.name == "_", f.type, f.offset)) = S.map (fun p => (false, p.1, p.2)) →
    (∀ q ∈ S, (isAgg q.1).run Tryd.prog w = .ok false w ∧ ∃ x y, xs[q.2]? = some x ∧ ys[q.2]? = some y ∧ (Op.equalIn d q.1 x y).run Tryd.prog w = .ok (e q.2) w) →
    (Op.eqFields d xs ys fs).run Tryd.prog w = .ok (S.all fun p => e p.2) w
  | [], fs, h, _ => by
    obtain rfl : fs = [] := by simpa using h
    simp [Op.eqFields]
  | q :: S, [], h, _ => by cases h
  | q :: S, f :: fs, h, hq => by
    simp only [List.map_cons, List.cons.injEq, Prod.mk.injEq] at h
    obtain ⟨⟨h1, h2, h3⟩, h4⟩ := h
    obtain ⟨ha, x, y, hx, hy, he⟩ := hq q List.mem_cons_self
    rw [hd_eqcons d xs ys w f fs h1 (by rw [h2]; exact ha) x y (by rw [h3]; exact hx) (by rw [h3]; exact hy) (e q.2) (by rw [h2]; exact he), hd_eqlist d xs ys w e S fs h4 (fun p hp => hq p (List.mem_cons_of_mem _ hp))]
    rw [List.all_cons]
    cases e q.2 <;> rfl
def fdN (a b c d : ByteArray) : Nat → Bool
  | 0 => a.toList == c.toList
  | _ => b.toList == d.toList
theorem eqInFd (a b c d : ByteArray) (w : World) : (Op.equalIn 10000 57 (.agg #[.string a, .string b]) (.agg #[.string c, .string d])).run Tryd.prog w = .ok (a.toList == c.toList && b.toList == d.toList) w := by
  have hS : Tryd.prog.underlying 57 = some (.struct (Tryd.prog.fieldsOf 57)) := by kernel_rfl
  have hp : Tryd.prog.stoodInHeld 57 = false := by kernel_rfl
  have hi : (isAgg 9).run Tryd.prog w = .ok false w := by go_simp
  rw [show (10000 : Nat) = 9998 + 1 + 1 from rfl, run_equalIn_struct w (9998 + 1) 57 _ _ hS hp]
  rw [hd_eqlist (9998 + 1) _ _ w (fdN a b c d) [(9, 0), (9, 1)] _ fieldsFd (fun q hq => by
    simp only [List.mem_cons, List.not_mem_nil, or_false] at hq
    rcases hq with rfl | rfl
    · exact ⟨hi, _, _, rfl, rfl, run_equalIn_string w 9998 9 _ _ Tryd.underlying9⟩
    · exact ⟨hi, _, _, rfl, rfl, run_equalIn_string w 9998 9 _ _ Tryd.underlying9⟩)]
  simp only [List.all_cons, List.all_nil, Bool.and_true, fdN]
theorem eqFd (a b c d : ByteArray) (w : World) : (binOp .eql 57 (.agg #[.string a, .string b]) (.agg #[.string c, .string d])).run Tryd.prog w = .ok (.bool (a.toList == c.toList && b.toList == d.toList)) w := by
  rw [run_eql_struct, eqInFd]; rfl
theorem neFd (a b c d : ByteArray) (w : World) : (binOp .neq 57 (.agg #[.string a, .string b]) (.agg #[.string c, .string d])).run Tryd.prog w = .ok (.bool (!(a.toList == c.toList && b.toList == d.toList))) w := by
  rw [run_neq_struct, eqInFd]; rfl
theorem neFd_same (a b : ByteArray) (w : World) : (binOp .neq 57 (.agg #[.string a, .string b]) (.agg #[.string a, .string b])).run Tryd.prog w = .ok (.bool false) w := by
  rw [neFd]; simp
theorem gd_Fd (op : BinOp) (x y : Operand) (xs ys : Array Value) (w : World) : (eqGuard op 57 x y (.agg xs) (.agg ys)).run Tryd.prog w = .ok () w := run_eqGuard_agg _ _ _ _ _ _ _ (by kernel_rfl)
/-- A struct out of the middle of a block is read, in a region that draws its order. -/
theorem bq_load_mid {P : Program} {ops : Array Oper} {C : World → Prop} {Q : Act → Prop} {a : Act} {o : Oper} {rest : List Oper} (hw : Region.wanted o (yielded ops a.tmps) = true) (ty : TypeId) (x : Operand) (ho : o.op = .load ty x)
    (g off : Nat) (cs : List Value) (hx : a.eval x = .pointer (some ⟨g, off, none⟩)) (d : TypeDesc) (hg : ∀ w, C w → w.rangeAt g off cs)
    (hu : P.underlying ty = some d) (hd : d.isRow = true) (hi : (P.info? ty).map (·.size) = some cs.length)
    (h : wpQuiet P ops C Q rest (a.put o.dst (.agg cs.toArray))) : wpQuiet P ops C Q (o :: rest) a := by
  refine wpQuiet_step fun K hK => ?_
  rw [if_pos hw]
  refine ⟨_, fun w hC => ?_, hK _ h⟩
  unfold Oper.quietAt execOp
  simp only [ho, hx, Instr.loadAt, Instr.sureAddr, Sem.run_bind, Sem.run_pure, Result.andThen_ok, run_loadVar_mid w g off ty cs d (hg w hC) hu hd hi]
  exact ⟨rfl, rfl⟩
theorem bq_bin {P : Program} {ops : Array Oper} {C : World → Prop} {Q : Act → Prop} {a : Act} {o : Oper} {rest : List Oper} (hw : Region.wanted o (yielded ops a.tmps) = true) (b : BinOp) (t t2 : TypeId) (x y : Operand) (ho : o.op = .binOp b t x y t2) (v : Value)
    (hg : ∀ w, (eqGuard b t x y (a.eval x) (a.eval y)).run P w = .ok () w) (hr : ∀ w, (binOp b t (a.eval x) (a.eval y)).run P w = .ok v w)
    (h : wpQuiet P ops C Q rest (a.put o.dst v)) : wpQuiet P ops C Q (o :: rest) a := by
  refine wpQuiet_step fun K hK => ?_
  rw [if_pos hw]
  refine ⟨_, fun w hC => ?_, hK _ h⟩
  unfold Oper.quietAt execOp
  simp only [ho, hg w, hr w, Sem.run_bind, Sem.run_pure, Result.andThen_ok]
  exact ⟨rfl, rfl⟩
/-- How great fields are. -/
def grN (n : Nat) (F : List BF) : Nat := F.foldl (fun n f => n + 2 + f.1.size + f.2.size) n
theorem grN_ge : ∀ (F : List BF) (n : Nat), n + 2 * F.length ≤ grN n F
  | [], n => by simp [grN]
  | f :: F, n => by
    have := grN_ge F (n + 2 + f.1.size + f.2.size)
    show _ ≤ grN (n + 2 + f.1.size + f.2.size) F
    rw [List.length_cons]; omega
theorem grN_mem : ∀ (F : List BF) (n : Nat) (f : BF), f ∈ F → f.1.size + f.2.size ≤ grN n F
  | g :: F, n, f, h => by
    show _ ≤ grN (n + 2 + g.1.size + g.2.size) F
    rcases List.mem_cons.1 h with rfl | h
    · have := grN_ge F (n + 2 + f.1.size + f.2.size); omega
    · exact grN_mem F _ f h
theorem grN_snoc (F : List BF) (n : Nat) (f : BF) : grN n (F ++ [f]) = grN n F + 2 + f.1.size + f.2.size := by simp [grN]
theorem grN_take (F : List BF) (n k : Nat) : grN n (F.take k) ≤ grN n F := by
  have : ∀ (G H : List BF), grN n G ≤ grN n (G ++ H) := fun G H => by
    have h := grN_ge H (grN n G)
    have e : grN n (G ++ H) = grN (grN n G) H := by simp [grN]
    omega
  have h := this (F.take k) (F.drop k)
  rwa [List.take_append_drop] at h
set_option maxRecDepth 100000 in
set_option maxHeartbeats 4000000 in
theorem great12_any (me ta : ByteArray) (st : Int) (aF : Option Addr) (cF b o : Nat) (F : List BF) (aB : Option Addr) (lB cB : Nat) (w : World) (hF : FxAt F aF b o w) (hm : me.size ≤ 140737488355328) (ht : ta.size ≤ 140737488355328) (hl : lB ≤ 140737488355328)
    (hs : ∀ f ∈ F, f.1.size ≤ 140737488355328 ∧ f.2.size ≤ 140737488355328) (hn : F.length ≤ 140737488355328) :
    Calls Tryd.prog 10 #[.agg #[.string me, .string ta, .int .i64 st, .slice aF F.length cF, .slice aB lB cB]] w fun e w' => e = .returned (.bool (decide (200000 < grN (me.size + ta.size + lB) F))) ∧ Below w.heap.size w w' := by
  have HFx := Lib.hid hF
  have HS := Lib.hid hs
  obtain ⟨n0, Hn0⟩ : ∃ n, Hid (me.size + ta.size + lB = n) := ⟨_, Lib.hid rfl⟩
  rw [Hn0.out]
  have h0 : n0 ≤ 422212465065984 := by have := Hn0.out; omega
  have h0i : (me.size : Int) + (ta.size : Int) + (lB : Int) = (n0 : Int) := by have := Hn0.out; omega
  obtain ⟨nF, HN⟩ : ∃ n, Hid (F.length = n) := ⟨_, Lib.hid rfl⟩
  rw [HN.out] at hn ⊢
  obtain ⟨W, HW⟩ : ∃ W, Hid (w.alloc (.cells #[.string me, .string ta, .int .i64 st, .slice aF nF cF, .slice aB lB cB] 26) = W) := ⟨_, Lib.hid rfl⟩
  have HB : Hid (Below w.heap.size w W) := Lib.hid (by rw [← HW.out]; exact (Below.refl _ _).alloc (Nat.le_refl _) _)
  have HG : Hid (W.heap[w.heap.size]? = some (.cells #[.string me, .string ta, .int .i64 st, .slice aF nF cF, .slice aB lB cB] 26 (0, 0))) := Lib.hid (by rw [← HW.out]; exact heap_alloc_new w _)
  have HF2 := Lib.hid (HFx.out.later HB.out)
  obtain ⟨R, HR⟩ : ∃ R, Hid (decide (200000 < grN n0 F) = R) := ⟨_, Lib.hid rfl⟩
  rw [HR.out]
  clear hF hs
  go_enter Tryd.func10, Tryd.ntmps10
  go_upto_region 1 with (fail)
  rw [HW.out]
  have c0 : W.cell? ⟨w.heap.size, 0, none⟩ = some (.string me) := by rw [cell_of_row W _ 0 _ _ _ HG.out]; rfl
  have c1 : W.cell? ⟨w.heap.size, 1, none⟩ = some (.string ta) := by rw [cell_of_row W _ 1 _ _ _ HG.out]; rfl
  have c3 : W.cell? ⟨w.heap.size, 3, none⟩ = some (.slice aF nF cF) := by rw [cell_of_row W _ 3 _ _ _ HG.out]; rfl
  have c4 : W.cell? ⟨w.heap.size, 4, none⟩ = some (.slice aB lB cB) := by rw [cell_of_row W _ 4 _ _ _ HG.out]; rfl
  go_wp2
  clear h0i hm ht hl
  go_loopw [3, 4] (fun n i wr => ∃ (k N : Nat), k ≤ nF ∧ i = .int .i64 (k : Int) ∧ n = .int .i64 (N : Int) ∧ Hid (grN n0 (F.take k) = N) ∧ N ≤ 1000000000000000 ∧ ∃ q, wr = W.drewN q) (fun _ i _ => nF - (intOf i).toNat)
  case atStart => exact ⟨0, n0, Nat.zero_le _, rfl, rfl, Lib.hid rfl, by omega, 0, rfl⟩
  case round =>
    obtain ⟨k, N, hk, rfl, rfl, HE, hNb, q, rfl⟩ := hrel
    by_cases hlt : k < nF
    · have hltI : (k : Int) < (nF : Int) := by omega
      have hlb : decide ((k : Int) < (nF : Int)) = true := decide_eq_true hltI
      by_cases hN : N ≤ 200000
      · have hNI : (N : Int) ≤ 200000 := by omega
        have hkF : k < F.length := by rw [HN.out]; exact hlt
        obtain ⟨x, y, hx⟩ := nx_of HF2.out hkF
        have HX := Lib.hid hx
        obtain rfl := HF2.out.at0 (by omega)
        obtain ⟨hxs, hys⟩ := HS.out _ (List.mem_of_getElem? HX.out.e)
        have hxs : x.size ≤ 140737488355328 := hxs
        have hys : y.size ≤ 140737488355328 := hys
        have d0 : W.cell? ⟨b, o + k * 2, none⟩ = some (.string x) := HX.out.r 0 _ rfl
        have d1 : W.cell? ⟨b, o + k * 2 + 1, none⟩ = some (.string y) := HX.out.r 1 _ rfl
        have HE2 : Hid (grN n0 (F.take (k + 1)) = N + 2 + x.size + y.size) := Lib.hid (by
          rw [List.take_add_one, HX.out.e, Option.toList_some, grN_snoc, HE.out])
        clear hx hkF
        go_wp2
        go_quiet (fail)
        go_wp2
        go_roundw
        case rel => exact ⟨k + 1, N + 2 + x.size + y.size, by omega, by go_num, by go_num, HE2, by omega, _, rfl⟩
        case measure => simp [intOf]; omega
      · have hNI : ¬ (N : Int) ≤ 200000 := by omega
        have hgt : (200000 : Int) < (N : Int) := by omega
        have HRR : Hid (R = true) := Lib.hid (by
          rw [← HR.out]
          have := grN_take F n0 k
          rw [HE.out] at this
          exact decide_eq_true (by omega))
        go_wp2
        go_ret
        exact ⟨ret_bool HRR.out.symm, HB.out.trans ⟨rfl, rfl, rfl, Nat.le_refl _, fun _ _ => rfl⟩⟩
    · have hge : ¬ (k : Int) < (nF : Int) := by omega
      have hlb : decide ((k : Int) < (nF : Int)) = false := decide_eq_false hge
      have HE3 : Hid (grN n0 F = N) := Lib.hid (by rw [← HE.out, List.take_of_length_le (by rw [HN.out]; omega)])
      obtain ⟨r, Hr⟩ : ∃ r, Hid (decide ((200000 : Int) < (N : Int)) = r) := ⟨_, Lib.hid rfl⟩
      have HRR : Hid (R = r) := Lib.hid (by
        rw [← HR.out, ← Hr.out, HE3.out]
        by_cases h : 200000 < N
        · rw [decide_eq_true h, decide_eq_true (by omega)]
        · rw [decide_eq_false h, decide_eq_false (by omega)])
      go_wp2
      go_ret
      rw [HRR.out, Hr.out]
      exact ⟨rfl, HB.out.trans ⟨rfl, rfl, rfl, Nat.le_refl _, fun _ _ => rfl⟩⟩

end Go.Proofs.YtbfnbjffobhllaaDoor
