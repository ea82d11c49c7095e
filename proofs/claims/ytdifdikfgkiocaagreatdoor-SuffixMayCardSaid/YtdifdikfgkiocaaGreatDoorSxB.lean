/-
  Contracts: suffix.endsWith, ruleOf, fitting: the rules that fit, one by one.
-/
import Derived.RangeFuncNested
import Derived.RangeFuncBound
import Derived.RangeFuncCalls
import Derived.RangeFuncLeaves
import Derived.Shelf.Abstract
import Derived.Shelf.RegionOpen
import Derived.OwnWalkIn
import Derived.TacticsInMore
import Derived.LoopNIn
import Derived.LoopIn
import Derived.RangeFuncBox
import Derived.Test.YtdifdikfgkiocaaGreatDoorSxA
namespace Go.Proofs.YtdifdikfgkiocaaGreatDoor
open Go.RowKit Go.Shelf
attribute [local go_sem] Oper.semAt_some

set_option maxRecDepth 100000 in
set_option maxHeartbeats 1000000 in
theorem endsWith_any (P H : List ByteArray) (gH cH gP cP : Nat) (w : World) (hn : P.length ≤ 1000000) (hnH : H.length ≤ 1000000)
    (hH : ∀ j (h : j < H.length), w.cell? ⟨gH, j, none⟩ = some (.string H[j])) (hP : ∀ j (h : j < P.length), w.cell? ⟨gP, j, none⟩ = some (.string P[j])) :
    Calls Tryz.prog 102 #[.slice (some ⟨gH, 0, none⟩) H.length cH, .slice (some ⟨gP, 0, none⟩) P.length cP, .string ⟨#[42]⟩] w fun e w' => e = .returned (.bool (fitsB P H)) ∧ w = w' := by
  have HH := Lib.hid hH; clear hH
  have HP := Lib.hid hP; clear hP
  obtain ⟨n, HN⟩ : ∃ n, Hid (P.length = n) := ⟨_, Lib.hid rfl⟩
  obtain ⟨m, HM⟩ : ∃ m, Hid (H.length = m) := ⟨_, Lib.hid rfl⟩
  rw [HN.out] at hn ⊢
  rw [HM.out] at hnH ⊢
  by_cases hlong : m < n
  · have HR : Hid (fitsB P H = false) := Lib.hid (fits_long (by rw [HN.out, HM.out]; exact hlong))
    go_enter Tryz.func102, Tryz.ntmps102
    go_wp2
    go_ret
    exact ⟨ret_bool (by rw [HR.out]), rfl⟩
  obtain ⟨d, hd⟩ : ∃ d : Nat, (m : Int) - (n : Int) = (d : Int) := ⟨m - n, by omega⟩
  have hdn : d + n = m := by omega
  have Hd := Lib.hid hd
  have hd0 : (n : Int) ≤ (m : Int) := by omega
  go_enter Tryz.func102, Tryz.ntmps102
  go_wp2
  go_loop [8, 9, 19] (fun _ _ i => ∃ k : Nat, k ≤ n ∧ i = .int .i64 k ∧ Hid (∀ j, j < k → P[j]? = some ⟨#[42]⟩ ∨ P[j]? = H[d + j]?)) (fun _ _ i => n - (intOf i).toNat)
  case atStart => exact ⟨0, Nat.zero_le _, rfl, Lib.hid (fun _ h => absurd h (Nat.not_lt_zero _))⟩
  case round =>
    obtain ⟨k, hk, rfl, HOk⟩ := hrel
    by_cases hlt : k < n
    · have hkP : k < P.length := by rw [HN.out]; exact hlt
      have hkH : d + k < H.length := by rw [HM.out]; omega
      obtain ⟨p, Hp⟩ : ∃ p, Hid (P[k] = p) := ⟨_, Lib.hid rfl⟩
      obtain ⟨x, Hx⟩ : ∃ x, Hid (H[d + k] = x) := ⟨_, Lib.hid rfl⟩
      have hc : w.cell? ⟨gP, k, none⟩ = some (.string p) := by rw [← Hp.out]; exact HP.out k hkP
      have hx : w.cell? ⟨gH, d + k, none⟩ = some (.string x) := by rw [← Hx.out]; exact HH.out (d + k) hkH
      have hPk : P[k]? = some p := by rw [List.getElem?_eq_getElem hkP, Hp.out]
      have hHk : H[d + k]? = some x := by rw [List.getElem?_eq_getElem hkH, Hx.out]
      have HPk := Lib.hid hPk
      have HHk := Lib.hid hHk
      clear hPk hHk
      by_cases h1 : p = ⟨#[42]⟩
      · have e1 : p.toList = [42] := by rw [h1, ByteArray.toList_eq]
        have HOk2 : Hid (∀ j, j < k + 1 → P[j]? = some ⟨#[42]⟩ ∨ P[j]? = H[d + j]?) := Lib.hid (fun j hj => by
          by_cases e : j = k
          · subst e; rw [HPk.out, h1]; exact .inl rfl
          · exact HOk.out j (by omega))
        clear h1 hx
        go_wp2
        go_round
        case rel => exact ⟨k + 1, by omega, by go_num, HOk2⟩
        case measure => simp [intOf]; omega
      · have e1 : ¬ p.toList = [42] := fun e => h1 (ba_of (by rw [ByteArray.toList_eq] at e; exact e))
        have e1b : (p.toList == [42]) = false := beq_eq_false_iff_ne.2 e1
        by_cases h2 : p = x
        · have HOk2 : Hid (∀ j, j < k + 1 → P[j]? = some ⟨#[42]⟩ ∨ P[j]? = H[d + j]?) := Lib.hid (fun j hj => by
            by_cases e : j = k
            · subst e; rw [HPk.out, HHk.out, h2]; exact .inr rfl
            · exact HOk.out j (by omega))
          subst h2
          clear h1
          go_wp2
          go_round
          case rel => exact ⟨k + 1, by omega, by go_num, HOk2⟩
          case measure => simp [intOf]; omega
        · have e2 : ¬ p.toList = x.toList := fun e => h2 (ba_of (by rw [ByteArray.toList_eq, ByteArray.toList_eq] at e; exact e))
          have e2b : (p.toList == x.toList) = false := beq_eq_false_iff_ne.2 e2
          have HR : Hid (fitsB P H = false) := Lib.hid (fits_no hkP HPk.out (by rw [HM.out, HN.out, show m - n + k = d + k by omega]; exact HHk.out) h1 h2)
          clear h1 h2
          go_wp2
          go_ret
          exact ⟨ret_bool (by rw [HR.out]), rfl⟩
    · have HR : Hid (fitsB P H = true) := Lib.hid (fits_yes (by rw [HM.out, HN.out]; omega) (fun j hj => by
        rw [HM.out, HN.out, show m - n = d by omega]
        exact HOk.out j (by rw [HN.out] at hj; omega)))
      go_wp2
      go_ret
      exact ⟨ret_bool (by rw [HR.out]), rfl⟩

/-- A rule as it lies: its parts, whether it excepts. -/
def ruleV (g n : Nat) (x : Bool) : Array Value := #[.slice (some ⟨g, 0, none⟩) n n, .bool x]
theorem ruleV_one (g n : Nat) (x : Bool) : (ruleV g n x).all (·.oneCell') = true := by simp [ruleV, Value.oneCell']
def rule0 : Array Value := #[.slice none 0 0, .bool false]
theorem sx_infoR : (Tryz.prog.info? 75).map (·.size) = some 2 := by kernel_rfl
set_option maxRecDepth 100000 in
set_option maxHeartbeats 1000000 in
theorem ruleOf_any (s : ByteArray) (m : Int) (w : World) (hs : s.size ≤ 1000000) (hm : w.cell? ⟨0, 0, none⟩ = some (.int .i64 m)) :
    Calls Tryz.prog 101 #[.string s] w fun e w' => ∃ g, e = .returned (.agg (ruleV g (bareL s).length (exB s))) ∧ w'.heap[g]? = some (.cells ((bareL s).map Value.string).toArray 9 (0, 0)) ∧ Below w.heap.size w w' := by
  have HM := Lib.hid hm; clear hm
  obtain ⟨x, Hx⟩ : ∃ x, Hid (exB s = x) := ⟨_, Lib.hid rfl⟩
  obtain ⟨D, HD⟩ : ∃ D, Hid (bareS s = D) := ⟨_, Lib.hid rfl⟩
  obtain ⟨P, HP⟩ : ∃ P, Hid (bareL s = P) := ⟨_, Lib.hid rfl⟩
  obtain ⟨n, HN⟩ : ∃ n, Hid (P.length = n) := ⟨_, Lib.hid rfl⟩
  have hDs : D.size ≤ 1000000 := by rw [← HD.out]; have := bareS_size s; omega
  have HPD : Hid (rawB 46 D = P) := Lib.hid (by rw [← HD.out]; exact HP.out)
  rw [HP.out, Hx.out, HN.out]
  have HC : Hid (∀ w, Calls Tryz.prog 34 #[.string s, .string ⟨#[33]⟩] w fun e w' => e = .returned (.tuple #[.string D, .bool x]) ∧ w = w') := Lib.hid (fun w => by
    have := Tryz.strings_CutPrefix s ⟨#[33]⟩ w
    rw [show Lib.hasPrefix s.data.toList (⟨#[33]⟩ : ByteArray).data.toList = x from Hx.out, show (⟨(Lib.trimPrefix s.data.toList (⟨#[33]⟩ : ByteArray).data.toList).toArray⟩ : ByteArray) = D from HD.out] at this
    exact this.mono fun e w' ⟨h1, h2⟩ => ⟨h1, h2.symm⟩)
  have HS : Hid (∀ w, w.cell? ⟨0, 0, none⟩ = some (.int .i64 m) → Calls Tryz.prog 33 #[.string D, .string ⟨#[46]⟩] w fun e w' => e = .returned (.slice (some ⟨w.heap.size, 0, none⟩) n n) ∧ w.alloc (.cells (P.map Value.string).toArray 9) = w') := Lib.hid (fun w hm => by
    have := Tryz.strings_Split D ⟨#[46]⟩ m w (by omega) hm (Nat.le_refl 1)
    rw [show Lib.splitB ⟨#[46]⟩ 0 (Lib.countB D ⟨#[46]⟩) D = P from HPD.out, show Lib.countB D ⟨#[46]⟩ + 1 = n by rw [← rawB_len, HPD.out, HN.out]] at this
    exact this.mono fun e w' ⟨h1, h2⟩ => ⟨h1, h2.symm⟩)
  go_enter Tryz.func101, Tryz.ntmps101
  go_wp2_with fail
  refine (HC.out _).mono ?_
  rintro e w1 ⟨rfl, rfl⟩
  go_wp2_with fail
  refine (HS.out _ (cell_old _ HM.out)).mono ?_
  rintro e w1 ⟨rfl, hw1⟩
  have hz0 : (w.alloc (.cells rule0 75)).heap.size = w.heap.size + 1 := by simp
  have HR0 : Hid (w1.heap[w.heap.size]? = some (.cells rule0 75 (0, 0))) := Lib.hid (by rw [← hw1]; exact (Below.heap_alloc _ _ _ (by simp)).trans (heap_alloc_new w _))
  have HR1 : Hid (w1.heap[w.heap.size + 1]? = some (.cells (P.map Value.string).toArray 9 (0, 0))) := Lib.hid (by rw [← hw1]; have := heap_alloc_new (w.alloc (.cells rule0 75)) (.cells (P.map Value.string).toArray 9); rwa [hz0] at this)
  have HB : Hid (Below w.heap.size w w1) := Lib.hid (by rw [← hw1]; exact ((Below.refl _ _).alloc (Nat.le_refl _) _).alloc (by simp) _)
  clear hw1 hz0
  go_wp2_with (refine wpL_store_row rfl 75 _ _ rfl w.heap.size (ruleV (w.heap.size + 1) n x) ?_ ?_ 75 rule0 ?_ ?_ ?_ ?_ ?_; exact rfl; exact rfl; exact HR0.out; exact sx_infoR; exact rfl; exact ruleV_one _ _ _)
  refine bodyPost_ret (results_cell_row rfl _ _ w.heap.size 75 (ruleV (w.heap.size + 1) n x) (0, 0) _ rfl (setRow_heap _ _ _ _ _ _ HR0.out) Tryz.underlying75 rfl sx_infoR) rfl ?_
  exact ⟨w.heap.size + 1, rfl, (setRow_other _ _ _ _ (by omega)).trans HR1.out, below_setRow HB.out (Nat.le_refl _) _⟩

set_option maxHeartbeats 400000 in
theorem fitting_any (a0 a1 : Option Addr) (n m c d : Nat) (w : World) :
    Calls Tryz.prog 66 #[.slice a0 n c, .slice a1 m d] w fun e w' => e = .returned (.func (.func 100) #[] #[.pointer (some ⟨w.heap.size, 0, none⟩), .pointer (some ⟨w.heap.size + 1, 0, none⟩)]) ∧ (w.alloc (.cells #[.slice a0 n c] 22)).alloc (.cells #[.slice a1 m d] 22) = w' := by
  have hmf := mkfK
  go_enter Tryz.func66, Tryz.ntmps66
  go_wp2
  go_ret
  exact ⟨rfl, rfl⟩

/- A struct stored whole, and read whole, within a fence. -/
theorem wpListIn_store_row {F : Fence} {n : Nat} {P : Program} {ops : Array Oper} {rest : List Oper} {o : Oper} {a : Act} {w : World} {Q : Exit → Act → World → Prop} (hgd : o.guard = none) (ty : TypeId) (x y : Operand) (ho : o.op = .store ty x y)
    (g : Nat) (cells : Array Value) (hx : a.eval x = .pointer (some ⟨g, 0, none⟩)) (hy : a.eval y = .agg cells)
    (t : TypeId) (old : Array Value) (hg : w.heap[g]? = some (.cells old t (0, 0))) (hi : (P.info? ty).map (·.size) = some cells.size)
    (hold : old.size = cells.size) (h1 : cells.all (·.oneCell') = true)
    (h : wpListIn F n P ops Q rest (a.put o.dst undef) (w.setRow g cells)) : wpListIn F n P ops Q (o :: rest) a w := by
  refine wpListIn_plain hgd fun K hK' => ?_
  unfold Oper.wpIn
  refine ⟨by simp [Oper.about, ho], ?_⟩
  rw [Oper.semAt_plain F _ _ (by rw [ho]; intro c hc'; cases hc')]
  simp only [execOp, ho, hx, hy, Instr.storeAt, Instr.sureAddr, Sem.run_bind, Sem.run_pure, Result.andThen_ok, run_storeVar_row w g t ty old cells hg hi hold h1]
  exact hK' _ _ h
theorem wpListIn_load_row {F : Fence} {n : Nat} {P : Program} {ops : Array Oper} {rest : List Oper} {o : Oper} {a : Act} {w : World} {Q : Exit → Act → World → Prop} (hw : Region.wanted o (yielded ops a.tmps) = true) (ty : TypeId) (x : Operand) (ho : o.op = .load ty x)
    (g : Nat) (hx : a.eval x = .pointer (some ⟨g, 0, none⟩)) (t : TypeId) (cs : Array Value) (fr : Nat × Nat) (d : TypeDesc) (hg : w.heap[g]? = some (.cells cs t fr))
    (hu : P.underlying ty = some d) (hd : (match d with | .struct _ | .array _ _ => true | _ => false) = true) (hi : (P.info? ty).map (·.size) = some cs.size)
    (h : wpListIn F n P ops Q rest (a.put o.dst (.agg cs)) w) : wpListIn F n P ops Q (o :: rest) a w := by
  refine wpListIn_step fun K hK' => ?_
  simp only [hw, if_true]
  unfold Oper.wpIn
  refine ⟨by simp [Oper.about, ho], ?_⟩
  rw [Oper.semAt_plain F _ _ (by rw [ho]; intro c hc'; cases hc')]
  simp only [execOp, ho, hx, Instr.loadAt, Instr.sureAddr, Sem.run_bind, Sem.run_pure, Result.andThen_ok, run_loadVar_row w g t ty cs fr d hg hu hd hi]
  exact hK' _ _ h

abbrev Fit := { x : Nat × Nat × Bool // x.2.1 ≤ 60000 }
def fitR (x : Fit) : Nat × Bool := x.1.2
def encF (x : Fit) : Array Value := #[.agg (ruleV x.1.1 x.1.2.1 x.1.2.2)]
/-- What a round that goes on keeps. -/
def KpF (n₀ Bp : Nat) (W W' : World) : Prop := Below n₀ W W' ∧ W'.heap[Bp]? = W.heap[Bp]?
theorem below_grown {W W' : World} (h : Below W.heap.size W W') : W.grownBy W' none := ⟨h.os, h.tape, h.output, h.size, fun k hk _ => h.block k hk⟩

set_option maxHeartbeats 2000000 in
set_option maxRecDepth 1000000 in
theorem fit1_in (n : Nat) (_hn : 1 ≤ n) (l Br Bp n₀ : Nat) (R H : List ByteArray) (ar : Option Addr) (br ofr cr gH cH : Nat) (m : Int) (J Jx : List Fit → World → Prop) (W : World)
    (hJ : AbidesFrom W.heap.size J) (hRl : R.length ≤ 2000) (hRs : ∀ r ∈ R, r.size ≤ 50000) (hHl : H.length ≤ 1000000)
    (hY : ∀ pre x W1, J pre W1 → pre.length < R.length → YieldAt Fence.wide (n - 1) Tryz.prog l (encF x) W1 fun e W' =>
      (e = .returned (.bool true) ∧ J (pre ++ [x]) W' ∧ KpF n₀ Bp W1 W') ∨ (e = .returned (.bool false) ∧ Jx (pre ++ [x]) W'))
    (hBr : W.cell? ⟨Br, 0, none⟩ = some (.slice ar R.length cr)) (hBp : W.cell? ⟨Bp, 0, none⟩ = some (.slice (some ⟨gH, 0, none⟩) H.length cH))
    (hT : TxAt R ar br ofr W) (hb : 0 < R.length → br < n₀) (hH : ∀ j (h : j < H.length), W.cell? ⟨gH, j, none⟩ = some (.string H[j])) (hg : gH < n₀) (hn0 : n₀ ≤ W.heap.size)
    (hm : W.cell? ⟨0, 0, none⟩ = some (.int .i64 m)) (hm0 : 0 < n₀) (h0 : J [] W) :
    CallsIn Fence.wide n Tryz.prog 100 #[.func (.yield l) #[] #[], .pointer (some ⟨Br, 0, none⟩), .pointer (some ⟨Bp, 0, none⟩)] W fun e W' => (∃ v, e = .returned v) ∧
      ((∃ ys : List Fit, ys.map fitR = fitL R H ∧ J ys W') ∨ (∃ pre : List Fit, pre.map fitR <+: fitL R H ∧ Jx pre W')) := by
  have HTx := Lib.hid hT; clear hT
  have HH := Lib.hid hH; clear hH
  have HRs := Lib.hid hRs; clear hRs
  have HM := Lib.hid hm; clear hm
  have HBp := Lib.hid hBp
  have hBpl : Bp < W.heap.size := block_lt_of_cell hBp
  clear hBp
  obtain ⟨nR, HN⟩ : ∃ n, Hid (R.length = n) := ⟨_, Lib.hid rfl⟩
  rw [HN.out] at hRl hb hBr hY
  refine callsIn_of_wp Tryz.func100 rfl trivial ?_ rfl
  simp only [Tryz.ntmps100, List.size_toArray, List.length_cons, List.length_nil, Nat.reduceAdd, Nat.reduceSub, Array.replicate_succ, Array.replicate_zero, List.push_toArray, List.append_toArray, List.nil_append, List.cons_append]
  gi_wp2
  gi_loopw [5, 6, 9] (fun _ _ i wr => ∃ (k : Nat) (pre : List Fit), k ≤ nR ∧ i = .int .i64 k ∧ pre.length ≤ k ∧ Hid (pre.map fitR = fitL (R.take k) H) ∧ Hid (J pre wr) ∧ Hid (KpF n₀ Bp W wr)) (fun _ _ i _ => nR - (intOf i).toNat)
  case atStart => exact ⟨0, [], Nat.zero_le _, rfl, Nat.le_refl _, Lib.hid rfl, Lib.hid h0, Lib.hid ⟨Below.refl _ _, rfl⟩⟩
  case round =>
    obtain ⟨k, pre, hk, rfl, hpk, HE, HJ, HK⟩ := hrel
    by_cases hlt : k < nR
    · have hkP : k < R.length := by rw [HN.out]; exact hlt
      obtain ⟨p, Hp⟩ : ∃ p, Hid (R[k] = p) := ⟨_, Lib.hid rfl⟩
      have hps : p.size ≤ 50000 := by rw [← Hp.out]; exact HRs.out _ (List.getElem_mem hkP)
      have hc : wr.cell? ⟨br, ofr + k, none⟩ = some (.string p) := by rw [← Hp.out]; exact (HK.out.1.cell (p := ⟨br, ofr + k, none⟩) (hb (by omega))).trans (HTx.out.cell k hkP)
      have ha : ar = some ⟨br, ofr, none⟩ := HTx.out.at0 (by omega)
      subst ha
      have HMr : Hid (wr.cell? ⟨0, 0, none⟩ = some (.int .i64 m)) := Lib.hid ((HK.out.1.cell (p := ⟨0, 0, none⟩) hm0).trans HM.out)
      have HRule := Lib.hid (fun w hm => (callsIn_wide (n := n - 1)).2 (ruleOf_any p m w (by omega) hm))
      obtain ⟨x, Hx⟩ : ∃ x, Hid (exB p = x) := ⟨_, Lib.hid rfl⟩
      obtain ⟨P, HP⟩ : ∃ P, Hid (bareL p = P) := ⟨_, Lib.hid rfl⟩
      obtain ⟨q, HQ⟩ : ∃ n, Hid (P.length = n) := ⟨_, Lib.hid rfl⟩
      have hq : q ≤ 50001 := by rw [← HQ.out, ← HP.out]; have := rawB_count 46 (bareS p); have := bareS_size p; show (rawB 46 (bareS p)).length ≤ _; omega
      obtain ⟨f, Hf⟩ : ∃ f, Hid (fitsB P H = f) := ⟨_, Lib.hid rfl⟩
      have HE2 : Hid (fitL (R.take (k + 1)) H = fitL (R.take k) H ++ if f then [(q, x)] else []) := Lib.hid (by
        rw [fitL_take R H k hkP, Hp.out, fit1, HP.out, Hx.out, HQ.out, Hf.out])
      rw [HP.out, Hx.out, HQ.out] at HRule
      gi_wp2_with fail
      refine ⟨trivial, ?_⟩
      refine (HRule.out _ HMr.out).mono ?_
      rintro e w2 ⟨g, rfl, hrow, b2⟩
      obtain ⟨W3, HW3⟩ : ∃ W3, Hid (w2.alloc (.cells (ruleV g q x) 75) = W3) := ⟨_, Lib.hid rfl⟩
      have hgl : g < w2.heap.size := lt_of_block hrow
      have hrow3 : W3.heap[g]? = some (.cells (P.map Value.string).toArray 9 (0, 0)) := by rw [← HW3.out, Below.heap_alloc _ _ _ hgl]; exact hrow
      have hst3 : W3.heap[w2.heap.size]? = some (.cells (ruleV g q x) 75 (0, 0)) := by rw [← HW3.out]; exact heap_alloc_new _ _
      have hc3 : W3.cell? ⟨w2.heap.size, 0, none⟩ = some (.slice (some ⟨g, 0, none⟩) q q) := by rw [cell_of_row _ _ _ _ _ _ hst3]; rfl
      have b3 : Below wr.heap.size wr W3 := by rw [← HW3.out]; exact b2.alloc b2.size _
      have hnw : n₀ ≤ wr.heap.size := Nat.le_trans hn0 HK.out.1.size
      have HK3 : Hid (KpF n₀ Bp W W3) := Lib.hid ⟨HK.out.1.trans (b3.mono hnw), (b3.block Bp (Nat.lt_of_lt_of_le hBpl HK.out.1.size)).trans HK.out.2⟩
      have HJ3 : Hid (J pre W3) := Lib.hid (hJ pre wr W3 none HJ.out (below_grown b3) (fun r e => by cases e))
      have hcB : W3.cell? ⟨Bp, 0, none⟩ = some (.slice (some ⟨gH, 0, none⟩) H.length cH) := (World.cell?_of_block (a := ⟨Bp, 0, none⟩) HK3.out.2).trans HBp.out
      have CE : Hid (CallsIn Fence.wide (n - 1) Tryz.prog 102 #[.slice (some ⟨gH, 0, none⟩) H.length cH, .slice (some ⟨g, 0, none⟩) q q, .string ⟨#[42]⟩] W3 fun e w' => e = .returned (.bool f) ∧ W3 = w') := Lib.hid (by
        have := endsWith_any P H gH cH g q W3 (by rw [HQ.out]; omega) hHl (fun j h => (HK3.out.1.cell (p := ⟨gH, j, none⟩) hg).trans (HH.out j h)) (fun j h => by
          rw [cell_of_row _ _ _ _ _ _ hrow3, List.getElem?_toArray, List.getElem?_map, List.getElem?_eq_getElem h]; rfl)
        rw [HQ.out, Hf.out] at this
        exact callsIn_wide.2 this)
      have HS3 := Lib.hid hst3
      clear hrow hrow3 b2 b3 hst3 hc
      cases f
      · gi_wp2_with (first | (refine wpListIn_store_row rfl 75 _ _ rfl w2.heap.size (ruleV g q x) ?_ ?_ 75 rule0 ?_ ?_ ?_ ?_ ?_; exact rfl; exact rfl; exact heap_alloc_new w2 _; exact sx_infoR; exact rfl; exact ruleV_one _ _ _; rw [World.setRow_alloc_new, HW3.out]) | (refine ⟨trivial, ?_⟩; gi_at_call 102; refine CE.out.mono ?_; rintro e w' ⟨rfl, rfl⟩))
        refine ⟨fun _ h => (by cases h), ?_⟩
        gi_wp2
        go_roundw
        case rel => exact ⟨k + 1, pre, by omega, by go_num, by omega, Lib.hid (by rw [HE.out, HE2.out]; simp), HJ3, HK3⟩
        case measure => simp [intOf]; omega
      · have hqF : ((g, q, x) : Nat × Nat × Bool).2.1 ≤ 60000 := by show q ≤ 60000; omega
        have HE4 : Hid ((pre ++ [(⟨(g, q, x), hqF⟩ : Fit)]).map fitR = fitL (R.take (k + 1)) H) := Lib.hid (by rw [List.map_append, HE.out, HE2.out]; rfl)
        obtain ⟨fn, tmps, assign, body, hy, hR⟩ := hY pre (⟨(g, q, x), hqF⟩ : Fit) W3 HJ3.out (by omega)
        dsimp only [encF] at hy
        gi_wp2_with (first | (refine wpListIn_store_row rfl 75 _ _ rfl w2.heap.size (ruleV g q x) ?_ ?_ 75 rule0 ?_ ?_ ?_ ?_ ?_; exact rfl; exact rfl; exact heap_alloc_new w2 _; exact sx_infoR; exact rfl; exact ruleV_one _ _ _; rw [World.setRow_alloc_new, HW3.out]) | (refine ⟨trivial, ?_⟩; gi_at_call 102; refine CE.out.mono ?_; rintro e w' ⟨rfl, rfl⟩) | (refine wpListIn_load_row (by rfl) 75 _ rfl w2.heap.size ?_ 75 (ruleV g q x) (0, 0) _ ?_ Tryz.underlying75 rfl sx_infoR ?_; exact rfl; exact HS3.out))
        refine hR.mono ?_
        rintro e W4 (⟨rfl, hJ4, hk4⟩ | ⟨rfl, hJx4⟩)
        · have HJ4 := Lib.hid hJ4
          have HK4 : Hid (KpF n₀ Bp W W4) := Lib.hid ⟨HK3.out.1.trans hk4.1, hk4.2.trans HK3.out.2⟩
          clear hJ4 hk4
          gi_wp2
          go_roundw
          case rel => exact ⟨k + 1, pre ++ [(⟨(g, q, x), hqF⟩ : Fit)], by omega, by go_num, by simp; omega, HE4, HJ4, HK4⟩
          case measure => simp [intOf]; omega
        · have HJ4 := Lib.hid hJx4
          clear hJx4
          gi_wp2
          refine bodyPost_ret (results_none rfl _ _ _) rfl ?_
          exact ⟨⟨_, rfl⟩, .inr ⟨_, by rw [HE4.out]; exact fitL_pre R H (k + 1), HJ4.out⟩⟩
    · have HE3 : Hid (pre.map fitR = fitL R H) := Lib.hid (by rw [HE.out, List.take_of_length_le (by rw [HN.out]; omega)])
      gi_wp2
      go_end0
      exact ⟨⟨_, rfl⟩, .inl ⟨_, HE3.out, HJ.out⟩⟩

theorem fit_stops (n : Nat) (hn : 1 ≤ n) (Br Bp n₀ : Nat) (R H : List ByteArray) (ar : Option Addr) (br ofr cr gH cH : Nat) (m : Int) (w : World)
    (hRl : R.length ≤ 2000) (hRs : ∀ r ∈ R, r.size ≤ 50000) (hHl : H.length ≤ 1000000)
    (hBr : w.cell? ⟨Br, 0, none⟩ = some (.slice ar R.length cr)) (hBp : w.cell? ⟨Bp, 0, none⟩ = some (.slice (some ⟨gH, 0, none⟩) H.length cH))
    (hT : TxAt R ar br ofr w) (hb : 0 < R.length → br < n₀) (hH : ∀ j (h : j < H.length), w.cell? ⟨gH, j, none⟩ = some (.string H[j])) (hg : gH < n₀) (hn0 : n₀ ≤ w.heap.size)
    (hm : w.cell? ⟨0, 0, none⟩ = some (.int .i64 m)) (hm0 : 0 < n₀) :
    SeqStopsK Fence.wide n Tryz.prog 100 #[.pointer (some ⟨Br, 0, none⟩), .pointer (some ⟨Bp, 0, none⟩)] encF (KpF n₀ Bp) (fun ys => ys.map fitR = fitL R H) (fun pre => pre.map fitR <+: fitL R H) R.length w :=
  fun l J Jx W hW hJ _ hY h0 => fit1_in n hn l Br Bp n₀ R H ar br ofr cr gH cH m J Jx W hJ hRl hRs hHl hY ((hW.cell (block_lt_of_cell hBr)).trans hBr) ((hW.cell (block_lt_of_cell hBp)).trans hBp)
    (hT.later hW) hb (fun j h => (hW.cell (p := ⟨gH, j, none⟩) (Nat.lt_of_lt_of_le hg hn0)).trans (hH j h)) hg (Nat.le_trans hn0 hW.size) ((hW.cell (block_lt_of_cell hm)).trans hm) hm0 h0

theorem kpF_t {n₀ Bp : Nat} {A B C : World} (h : KpF n₀ Bp A B) (k : KpF n₀ Bp B C) : KpF n₀ Bp A C := ⟨h.1.trans k.1, k.2.trans h.2⟩
theorem kpF_b {n₀ Bp : Nat} {w : World} (hn : n₀ ≤ w.heap.size) (hp : Bp < w.heap.size) (W : World) (l : Nat) (o o' : Obj) (hl : w.heap.size ≤ l) (h : W.heap[l]? = some o) (h1 : o.isCells = false) (h2 : o.isWalk = false) : KpF n₀ Bp W (W.putObj l o') :=
  ⟨belowK_b hn W l o o' hl h h1 h2, World.putObj_heap_other (by omega)⟩
theorem own_row2 {β : Type} (B : Nat) (c : Array Value) (t : TypeId) (lo : Nat) (f : Nat → Act → Prop) (a' : Act) : OwnFrom B (fun (_ : β) W => ∃ Bx, lo ≤ Bx ∧ W.heap[Bx]? = some (.cells c t (0, 0)) ∧ f Bx a') := fun s X Y row hs hg hr => by
  obtain ⟨Bx, h1, h2, h3⟩ := hs
  refine ⟨Bx, h1, (hg.block Bx (lt_of_block h2) (fun e => ?_)).trans h2, h3⟩
  obtain ⟨_, o, ho, hc⟩ := hr Bx e.symm
  rw [h2] at ho; cases ho; cases hc
def NoEx (pre : List Fit) : Prop := ∀ x ∈ pre, (fitR x).2 = false
theorem NoEx.map {pre : List Fit} (h : NoEx pre) : ∀ x ∈ pre.map fitR, x.2 = false := fun x hx => by
  obtain ⟨y, hy, rfl⟩ := List.mem_map.1 hx
  exact h y hy
theorem NoEx.more {pre : List Fit} (h : NoEx pre) {x : Fit} (hx : (fitR x).2 = false) : NoEx (pre ++ [x]) := fun y hy => by
  rcases List.mem_append.1 hy with h1 | h1
  · exact h y h1
  · obtain rfl := List.mem_singleton.1 h1
    exact hx
/-- Between two rounds, and behind the last one. -/
def IF (w : World) (A : Nat) (pre : List Fit) (W : World) : Prop := (NoEx pre ∧ Boxed W (A + 1) 3 (.int .i64 (sufN (pre.map fitR) 1)) ∧ Boxed W A 3 (.int .i64 0) ∧ A + 4 ≤ W.heap.size) ∧ Below A w W
def IxF (w : World) (A : Nat) (c : Code) (pre : List Fit) (W : World) : Prop := (c = .ret ∧ ∃ pre' x, pre = pre' ++ [x] ∧ NoEx pre' ∧ (fitR x).2 = true ∧ Boxed W A 3 (.int .i64 ((fitR x).1 - 1))) ∧ Below A w W
theorem if_own (w : World) (A B : Nat) (h1 : A ≤ w.heap.size) (h2 : A ≤ B) : OwnFrom B (IF w A) :=
  OwnFrom.and (Own.from (fun s X Y row hs hg hr => ⟨hs.1, boxed_own (A + 1) _ (fun _ => _) s X Y row hs.2.1 hg hr, boxed_own A _ (fun _ => _) s X Y row hs.2.2.1 hg hr, Nat.le_trans hs.2.2.2 hg.size⟩) _) (ownFrom_below h1 h2)
theorem ixf_own (w : World) (A B : Nat) (h1 : A ≤ w.heap.size) (h2 : A ≤ B) (c : Code) : OwnFrom B (IxF w A c) :=
  OwnFrom.and (Own.from (fun s X Y row hs hg hr => by
      obtain ⟨h1, pre', x, h2, h3, h4, h5⟩ := hs
      exact ⟨h1, pre', x, h2, h3, h4, boxed_own A _ (fun _ => _) s X Y row h5 hg hr⟩) _) (ownFrom_below h1 h2)
theorem if_more {w : World} {A : Nat} {pre : List Fit} {W : World} (h : IF w A pre W) {x : Fit} (hx : (fitR x).2 = false) : IF w A (pre ++ [x]) (W.setCell ⟨A + 1, 0, none⟩ (.int .i64 (max ((sufN (pre.map fitR) 1 : Nat) : Int) ((fitR x).1 : Int)))) := by
  obtain ⟨⟨h1, h2, h3, h5⟩, h4⟩ := h
  refine ⟨⟨h1.more hx, ?_, h3.other (by omega) _, by simpa using h5⟩, h4.setCell (p := ⟨A + 1, 0, none⟩) (by show A ≤ A + 1; omega) _⟩
  have e : (pre ++ [x]).map fitR = pre.map fitR ++ [((fitR x).1, false)] := by
    rw [List.map_append, List.map_cons, List.map_nil]
    congr 2
    exact Prod.ext rfl hx
  rw [e, sufN_one _ _ _ h1.map, show ((max (sufN (pre.map fitR) 1) (fitR x).1 : Nat) : Int) = max ((sufN (pre.map fitR) 1 : Nat) : Int) ((fitR x).1 : Int) by omega]
  exact one_setCell h2
theorem ixf_stop {w : World} {A : Nat} {pre : List Fit} {W : World} (h : IF w A pre W) {x : Fit} (hx : (fitR x).2 = true) : IxF w A .ret (pre ++ [x]) (W.setCell ⟨A, 0, none⟩ (.int .i64 (((fitR x).1 : Int) - 1))) := by
  obtain ⟨⟨h1, h2, h3, -⟩, h4⟩ := h
  exact ⟨⟨rfl, pre, x, rfl, h1, hx, one_setCell h3⟩, h4.setCell (p := ⟨A, 0, none⟩) (Nat.le_refl _) _⟩
set_option maxHeartbeats 2000000 in
set_option maxRecDepth 1000000 in
theorem suffixLength_any (R H : List ByteArray) (ar : Option Addr) (br ofr cr gH cH : Nat) (m : Int) (w : World) (hR : rulesB R = true)
    (hRl : R.length ≤ 2000) (hRs : ∀ r ∈ R, r.size ≤ 50000) (hHl : H.length ≤ 1000000) (hT : TxAt R ar br ofr w) (hH : ∀ j (h : j < H.length), w.cell? ⟨gH, j, none⟩ = some (.string H[j])) (hg : gH < w.heap.size)
    (hm : w.cell? ⟨0, 0, none⟩ = some (.int .i64 m)) :
    Calls Tryz.prog 41 #[.slice ar R.length cr, .slice (some ⟨gH, 0, none⟩) H.length cH] w fun e w' => e = .returned (.int .i64 (manyN R H)) ∧ Below w.heap.size w w' := by
  have HF := Lib.hid (fun w => (callsIn_wide (n := 3 - 1)).2 (fitting_any ar (some ⟨gH, 0, none⟩) R.length H.length cr cH w))
  refine (callsIn_wide (n := 3)).1 ?_
  refine callsIn_of_wp_marks Tryz.func41 rfl trivial ?_ rfl
  simp only [Tryz.ntmps41, List.size_toArray, List.length_cons, List.length_nil, Nat.reduceAdd, Nat.reduceSub, Array.replicate_succ, Array.replicate_zero, List.push_toArray, List.append_toArray, List.nil_append, List.cons_append]
  gi_wp2_with fail
  refine ⟨trivial, ?_⟩
  refine (HF.out _).mono ?_
  rintro e W0 ⟨rfl, hw1⟩
  simp only [World.size_alloc]
  obtain ⟨A, HA⟩ : ∃ A, Hid (w.heap.size = A) := ⟨_, Lib.hid rfl⟩
  have hz : W0.heap.size = A + 4 := by rw [← hw1, ← HA.out]; simp
  have hb0 : Boxed W0 A 3 (.int .i64 0) := by
    rw [← hw1, ← HA.out]; exact (((Boxed.new w _ _).alloc _).alloc _).alloc _
  have hb1 : Boxed W0 (A + 1) 3 (.int .i64 1) := by
    rw [← hw1, ← HA.out]
    have := Boxed.new (w.alloc (.cells #[.int .i64 0] 3)) 3 (.int .i64 1)
    rw [World.size_alloc] at this
    exact (this.alloc _).alloc _
  have hb2 : Boxed W0 (A + 1 + 1) 22 (.slice ar R.length cr) := by
    rw [← hw1, ← HA.out]
    have := Boxed.new ((w.alloc (.cells #[.int .i64 0] 3)).alloc (.cells #[.int .i64 1] 3)) 22 (.slice ar R.length cr)
    simp only [World.size_alloc] at this
    exact this.alloc _
  have hb3 : Boxed W0 (A + 1 + 1 + 1) 22 (.slice (some ⟨gH, 0, none⟩) H.length cH) := by
    rw [← hw1, ← HA.out]
    have := Boxed.new (((w.alloc (.cells #[.int .i64 0] 3)).alloc (.cells #[.int .i64 1] 3)).alloc (.cells #[.slice ar R.length cr] 22)) 22 (.slice (some ⟨gH, 0, none⟩) H.length cH)
    simp only [World.size_alloc] at this
    exact this
  have hB0 : Below A w W0 := by
    rw [← hw1, ← HA.out]
    exact ((((Below.refl _ w).alloc (Nat.le_refl _) _).alloc (by simp) _).alloc (by simp; omega) _).alloc (by simp; omega) _
  have hbr : 0 < R.length → br < A := fun h => by rw [← HA.out]; exact block_lt_of_cell (hT.cell 0 h)
  have hgA : gH < A := by rw [← HA.out]; exact hg
  have hmA : 0 < A := by rw [← HA.out]; exact block_lt_of_cell hm
  have hcell : ∀ {q : Addr} {v : Value}, w.cell? q = some v → W0.cell? q = some v := fun {q v} h => (hB0.cell (p := q) (by rw [← HA.out]; exact block_lt_of_cell h)).trans h
  have hT0 : TxAt R ar br ofr W0 := ⟨hT.at0, fun j h => hcell (hT.cell j h)⟩
  have hstops := fit_stops (3 - 1) (by omega) (A + 1 + 1) (A + 1 + 1 + 1) A R H ar br ofr cr gH cH m W0 hRl hRs hHl hb2.cell hb3.cell hT0 hbr (fun j h => hcell (hH j h)) hgA (by omega) (hcell hm) hmA
  have hpos : ∀ x ∈ fitL R H, x.2 = true → 2 ≤ x.1 := fun x hx hb => by
    obtain ⟨r, hr, hf, rfl⟩ := fitL_mem hx
    have h := hR
    rw [rulesB, Bool.and_eq_true, List.all_eq_true] at h
    have h2 := h.2 r hr
    have hb' : exB r = true := hb
    rw [ruleB, hb', if_pos rfl, Bool.and_eq_true] at h2
    exact (raw_two _).2 h2.2
  rw [HA.out]
  clear hw1 hT hH hm hcell hT0 hb2
  gi_wp2
  refine wpIn_rangeFunc_ownH rfl (by omega) (gf := 100) (lb := #[.pointer (some ⟨A + 1 + 1, 0, none⟩), .pointer (some ⟨A + 1 + 1 + 1, 0, none⟩)]) rfl trivial (enters_of Tryz.func100 (by kernel_rfl) rfl)
    hstops (fun h k => kpF_t h k) (kpF_b (by omega) (by omega)) (Below.refl _ _) (fun _ => rfl)
    (IF w A) (IxF w A) (if_own w A _ (by rw [HA.out]; exact Nat.le_refl _) (by omega)) (ixf_own w A _ (by rw [HA.out]; exact Nat.le_refl _) (by omega))
    ⟨⟨fun x hx => (by cases hx), hb1, hb0, by omega⟩, hB0⟩
    (fun x a' W => ∃ Bx, A + 4 ≤ Bx ∧ W.heap[Bx]? = some (.cells (ruleV x.1.1 x.1.2.1 x.1.2.2) 75 (0, 0)) ∧ a' = { tmps := #[.slice ar R.length cr, .slice (some ⟨gH, 0, none⟩) H.length cH, undef, undef, .pointer (some ⟨A, 0, none⟩), .pointer (some ⟨A + 1, 0, none⟩), .pointer (some ⟨Bx, 0, none⟩), .slice ar R.length cr, .slice (some ⟨gH, 0, none⟩) H.length cH, .func (.func 100) #[] #[.pointer (some ⟨A + 1 + 1, 0, none⟩), .pointer (some ⟨A + 1 + 1 + 1, 0, none⟩)], .agg (ruleV x.1.1 x.1.2.1 x.1.2.2), undef, undef, undef, undef, undef, undef, undef, undef, undef, undef, undef, undef], defers := [] })
    (fun x a' => own_row2 _ _ _ (A + 4) (fun Bx a' => a' = _) a') ?assign ?body ?done ?stop
  case assign =>
    rintro l pre ⟨⟨g, q, e⟩, hq⟩ W K hI hK
    have hAW : A + 4 ≤ W.heap.size := hI.1.2.2.2
    dsimp only [encF]
    gi_wp2_with (refine wpListIn_store_row rfl 75 _ _ rfl W.heap.size (ruleV g q e) ?_ ?_ 75 rule0 ?_ ?_ ?_ ?_ ?_; exact rfl; exact rfl; exact heap_alloc_new W _; exact sx_infoR; exact rfl; exact ruleV_one _ _ _; rw [World.setRow_alloc_new])
    have hb : Below A W (W.alloc (.cells (ruleV g q e) 75)) := (Below.refl A W).alloc (by omega) _
    obtain ⟨⟨i1, i2, i3, i4⟩, i5⟩ := hI
    exact hK _ _ ((KeepsOthers.alloc _ _).from _) ⟨hb, Below.heap_alloc _ _ _ (by omega)⟩ ⟨⟨i1, i2.alloc _, i3.alloc _, by simp; omega⟩, i5.trans hb⟩ ⟨W.heap.size, hAW, heap_alloc_new _ _, rfl⟩
  case body =>
    rintro l pre ⟨⟨g, q, e⟩, hq⟩ a' W hl ⟨r, hr⟩ hI ⟨Bx, hBx, hX, rfl⟩ hlt
    have hq' : q ≤ 60000 := hq
    obtain ⟨M, HM⟩ : ∃ M, Hid (sufN (pre.map fitR) 1 = M) := ⟨_, Lib.hid rfl⟩
    have h1 := hI.1.2.1
    rw [HM.out] at h1
    have c0 : W.cell? ⟨Bx, 0, none⟩ = some (.slice (some ⟨g, 0, none⟩) q q) := by rw [cell_of_row _ _ _ _ _ _ hX]; rfl
    have c1 : W.cell? ⟨Bx, 1, none⟩ = some (.bool e) := by rw [cell_of_row _ _ _ _ _ _ hX]; rfl
    have cm := h1.cell
    have fm := h1.frozen
    have ca := hI.1.2.2.1.cell
    have fa := hI.1.2.2.1.frozen
    have HI := Lib.hid hI
    clear h1 hI
    cases e
    · gi_wp2
      refine ⟨(KeepsOthers.setCell _ _ _).from _, ⟨(Below.refl A W).setCell (p := ⟨A + 1, 0, none⟩) (by show A ≤ A + 1; omega) _, Below.heap_setCell _ _ _ _ (by show A + 1 + 1 + 1 ≠ A + 1; omega)⟩, ?_⟩
      have := if_more HI.out (x := ⟨(g, q, false), hq⟩) rfl
      rw [HM.out] at this
      exact this
    · gi_wp2
      exact ⟨(KeepsOthers.setCell _ _ _).from _, ixf_stop HI.out (x := ⟨(g, q, true), hq⟩) rfl⟩
  case done =>
    rintro D ys W hD hS ⟨⟨hex, h1, h0, -⟩, hB⟩ hK
    have HM : Hid (sufN (ys.map fitR) 1 = manyN R H) := Lib.hid (by rw [hS]; rfl)
    rw [HM.out] at h1
    have cm := h1.cell
    have ca := h0.cell
    have fa := h0.frozen
    gi_wp2
    have hK' := (KeepsOthers.setCell W ⟨A, 0, none⟩ (.int .i64 (manyN R H))).same D _ hK rfl
    refine ⟨by simp, .inl ⟨_, _, rfl, run_takeDeferred hK', ?_⟩⟩
    have hc5 := cell_kept (cell_of_one (show (W.setCell ⟨A, 0, none⟩ (.int .i64 (manyN R H))).heap[A]? = some (.cells #[.int .i64 (manyN R H)] 3 (0, 0)) from one_setCell h0)) (grownBy_putObj' _ D (.deferred none)) (fun r e => by cases e; exact ⟨_, hK', rfl⟩)
    refine ⟨.int .i64 (manyN R H), ?_, rfl, ?_⟩
    · simp [results, Tryz.f41, go_sem, hc5]
    · rw [HA.out]
      exact (hB.setCell (p := ⟨A, 0, none⟩) (Nat.le_refl _) _).trans (belowK_b (w := W0) (by omega) _ D _ _ hD hK' rfl rfl)
  case stop =>
    rintro D c pre W hD hSp ⟨⟨rfl, pre', x, rfl, hex, hx, hb⟩, hB⟩ hK
    have HM : Hid (((fitR x).1 : Int) - 1 = (manyN R H : Int)) := Lib.hid (by
      have e : (pre' ++ [x]).map fitR = pre'.map fitR ++ [((fitR x).1, true)] := by
        rw [List.map_append, List.map_cons, List.map_nil]
        congr 2
        exact Prod.ext rfl hx
      obtain ⟨T, hTl⟩ := hSp
      rw [e, List.append_assoc, List.singleton_append] at hTl
      have h1 : 2 ≤ (fitR x).1 := hpos ((fitR x).1, true) (by rw [← hTl]; simp) rfl
      have h2 : manyN R H = (fitR x).1 - 1 := by rw [manyN, ← hTl, sufN_stop _ _ _ _ hex.map]
      omega)
    rw [HM.out] at hb
    gi_wp2
    refine ⟨by simp, .inl ⟨_, _, rfl, run_takeDeferred hK, ?_⟩⟩
    have hc5 := cell_kept hb.cell (grownBy_putObj' _ D (.deferred none)) (fun r e => by cases e; exact ⟨_, hK, rfl⟩)
    refine ⟨.int .i64 (manyN R H), ?_, rfl, ?_⟩
    · simp [results, Tryz.f41, go_sem, hc5]
    · rw [HA.out]
      exact hB.trans (belowK_b (w := W0) (by omega) W D _ _ hD hK rfl rfl)

end Go.Proofs.YtdifdikfgkiocaaGreatDoor
