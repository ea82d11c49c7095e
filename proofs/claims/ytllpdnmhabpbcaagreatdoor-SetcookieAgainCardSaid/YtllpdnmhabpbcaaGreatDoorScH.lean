/-
  Package setcookie: Text; what is told compared.
-/
import Derived.Test.YtllpdnmhabpbcaaGreatDoorScG
import Derived.Laws.StructEq
namespace Go.Proofs.YtllpdnmhabpbcaaGreatDoor
open Go.RowKit

theorem sc_part {t : TypeId} {xs : Array Value} {i : Nat} {v : Value} (w : World) (ha : (isAgg t).run Tryz.prog w = .ok false w) (hv : xs[i]? = some v) : (part t xs i).run Tryz.prog w = .ok v w := by
  simp [part, Sem.run_bind, ha, Result.andThen, hv]
theorem fieldsT : (Tryz.prog.fieldsOf 26).toList.map (fun f => (f.name == "_", f.type, f.offset)) = [(false, 9, 0), (false, 9, 1), (false, 9, 2), (false, 9, 3), (false, 3, 4), (false, 4, 5), (false, 3, 6), (false, 4, 7), (false, 4, 8), (false, 4, 9), (false, 24, 10)] := by kernel_rfl
theorem sc_eqcons (d : Nat) (xs ys : Array Value) (w : World) (f : Field) (fs : List Field) (hn : (f.name == "_") = false) (ha : (isAgg f.type).run Tryz.prog w = .ok false w) (x y : Value) (hx : xs[f.offset]? = some x) (hy : ys[f.offset]? = some y) (b : Bool) (he : (Op.equalIn d f.type x y).run Tryz.prog w = .ok b w) :
    (Op.eqFields d xs ys (f :: fs)).run Tryz.prog w = if b then (Op.eqFields d xs ys fs).run Tryz.prog w else .ok false w := by
  have h1 := sc_part w ha hx
  have h2 := sc_part w ha hy
  have hn' : f.name ≠ "_" := by simpa using hn
  cases b <;> simp [Op.eqFields, hn', Sem.run_bind, h1, h2, he, Result.andThen]
theorem sc_eqlist (d : Nat) (xs ys : Array Value) (w : World) (e : Nat → Bool) : ∀ (S : List (TypeId × Nat)) (fs : List Field), fs.map (fun f => (f.name == "_", f.type, f.offset)) = S.map (fun p => (false, p.1, p.2)) →
    (∀ q ∈ S, (isAgg q.1).run Tryz.prog w = .ok false w ∧ ∃ x y, xs[q.2]? = some x ∧ ys[q.2]? = some y ∧ (Op.equalIn d q.1 x y).run Tryz.prog w = .ok (e q.2) w) →
    (Op.eqFields d xs ys fs).run Tryz.prog w = .ok (S.all fun p => e p.2) w
  | [], fs, h, _ => by
    obtain rfl : fs = [] := by simpa using h
    simp [Op.eqFields]
  | q :: S, [], h, _ => by cases h
  | q :: S, f :: fs, h, hq => by
    simp only [List.map_cons, List.cons.injEq, Prod.mk.injEq] at h
    obtain ⟨⟨h1, h2, h3⟩, h4⟩ := h
    obtain ⟨ha, x, y, hx, hy, he⟩ := hq q List.mem_cons_self
    rw [sc_eqcons d xs ys w f fs h1 (by rw [h2]; exact ha) x y (by rw [h3]; exact hx) (by rw [h3]; exact hy) (e q.2) (by rw [h2]; exact he), sc_eqlist d xs ys w e S fs h4 (fun p hp => hq p (List.mem_cons_of_mem _ hp))]
    rw [List.all_cons]
    cases e q.2 <;> rfl
theorem scW_step {P : Program} {ops : Array Oper} {Q : Exit → Act → World → Prop} {a : Act} {w : World} {rest : List Oper} {o : Oper} (hw : Region.wanted o (yielded ops a.tmps) = true)
    (h : ∀ K : Act → World → Prop, (∀ a w, wpList P ops Q rest a w → K a w) → o.wp P a w K Q) : wpList P ops Q (o :: rest) a w :=
  wpList_step fun K hK => by rw [if_pos hw]; exact h K hK
/-- A row is read, guarded or not. -/
theorem scW_load {P : Program} {ops : Array Oper} {rest : List Oper} {o : Oper} {a : Act} {w : World} {Q : Exit → Act → World → Prop} (hw : Region.wanted o (yielded ops a.tmps) = true) (ty : TypeId) (x : Operand) (ho : o.op = .load ty x)
    (g : Nat) (hx : a.eval x = .pointer (some ⟨g, 0, none⟩)) (t : TypeId) (cs : Array Value) (fr : Nat × Nat) (d : TypeDesc) (hg : w.heap[g]? = some (.cells cs t fr))
    (hu : P.underlying ty = some d) (hd : (match d with | .struct _ | .array _ _ => true | _ => false) = true) (hi : (P.info? ty).map (·.size) = some cs.size)
    (h : wpList P ops Q rest (a.put o.dst (.agg cs)) w) : wpList P ops Q (o :: rest) a w :=
  scW_step hw fun _ hK => wp_load_row ty x ho g hx t cs fr d hg hu hd hi (hK _ _ h)
/-- An operation on two values, guarded or not. -/
theorem scW_bin {P : Program} {ops : Array Oper} {rest : List Oper} {o : Oper} {a : Act} {w : World} {Q : Exit → Act → World → Prop} (hw : Region.wanted o (yielded ops a.tmps) = true) (b : BinOp) (t t2 : TypeId) (x y : Operand) (ho : o.op = .binOp b t x y t2) (v : Value)
    (hg : (eqGuard b t x y (a.eval x) (a.eval y)).run P w = .ok () w) (hr : (binOp b t (a.eval x) (a.eval y)).run P w = .ok v w) (h : wpList P ops Q rest (a.put o.dst v) w) : wpList P ops Q (o :: rest) a w :=
  scW_step hw fun _ hK => by
    unfold Oper.wp
    have e : (execOp a.eval o).run P w = .ok (.value v) w := by
      simp [execOp, ho, hg, hr, Result.andThen]
    rw [e, Oper.upon_value]
    exact hK _ _ h
def ckN (u v : Cki) (n : Nat) : Bool := match n with
  | 0 => u.nm.toList == v.nm.toList
  | 1 => u.vl.toList == v.vl.toList
  | 2 => u.dm.toList == v.dm.toList
  | 3 => u.pa.toList == v.pa.toList
  | 4 => u.ex == v.ex
  | 5 => u.hx == v.hx
  | 6 => u.ag == v.ag
  | 7 => u.ha == v.ha
  | 8 => u.se == v.se
  | 9 => u.hi == v.hi
  | _ => u.si == v.si
def ckEq (u v : Cki) : Bool := ckN u v 0 && (ckN u v 1 && (ckN u v 2 && (ckN u v 3 && (ckN u v 4 && (ckN u v 5 && (ckN u v 6 && (ckN u v 7 && (ckN u v 8 && (ckN u v 9 && ckN u v 10)))))))))
theorem sc_list {a b : ByteArray} (h : a.toList = b.toList) : a = b := by
  rw [ByteArray.toList_eq, ByteArray.toList_eq] at h; exact ba_list h
theorem ckEq_iff (u v : Cki) : ckEq u v = true ↔ u = v := by
  constructor
  · intro h
    unfold ckEq ckN at h
    simp only [Bool.and_eq_true, beq_iff_eq] at h
    obtain ⟨h0, h1, h2, h3, h4, h5, h6, h7, h8, h9, h10⟩ := h
    obtain ⟨nm, vl, dm, pa, ex, hx, ag, ha, se, hi, si⟩ := u
    obtain ⟨nm', vl', dm', pa', ex', hx', ag', ha', se', hi', si'⟩ := v
    simp only at h0 h1 h2 h3 h4 h5 h6 h7 h8 h9 h10
    rw [sc_list h0, sc_list h1, sc_list h2, sc_list h3, h4, h5, h6, h7, h8, h9, h10]
  · rintro rfl
    simp [ckEq, ckN]
theorem gd_T (op : BinOp) (x y : Operand) (xs ys : Array Value) (w : World) : (eqGuard op 26 x y (.agg xs) (.agg ys)).run Tryz.prog w = .ok () w := run_eqGuard_agg _ _ _ _ _ _ _ (by kernel_rfl)
theorem eqInT (u v : Cki) (w : World) : (Op.equalIn 10000 26 (.agg (ckR u)) (.agg (ckR v))).run Tryz.prog w = .ok (ckEq u v) w := by
  have hS : Tryz.prog.underlying 26 = some (.struct (Tryz.prog.fieldsOf 26)) := by kernel_rfl
  have hp : Tryz.prog.stoodInHeld 26 = false := by kernel_rfl
  have hs : (isAgg 9).run Tryz.prog w = .ok false w := by go_simp
  have hi : (isAgg 3).run Tryz.prog w = .ok false w := by go_simp
  have hb : (isAgg 4).run Tryz.prog w = .ok false w := by go_simp
  have hu : (isAgg 24).run Tryz.prog w = .ok false w := by go_simp
  rw [show (10000 : Nat) = 9998 + 1 + 1 from rfl, run_equalIn_struct w (9998 + 1) 26 _ _ hS hp]
  rw [sc_eqlist (9998 + 1) (ckR u) (ckR v) w (ckN u v) [(9, 0), (9, 1), (9, 2), (9, 3), (3, 4), (4, 5), (3, 6), (4, 7), (4, 8), (4, 9), (24, 10)] _ fieldsT (fun q hq => by
    simp only [List.mem_cons, List.not_mem_nil, or_false] at hq
    rcases hq with rfl | rfl | rfl | rfl | rfl | rfl | rfl | rfl | rfl | rfl | rfl
    · exact ⟨hs, _, _, rfl, rfl, run_equalIn_string w 9998 9 _ _ Tryz.underlying9⟩
    · exact ⟨hs, _, _, rfl, rfl, run_equalIn_string w 9998 9 _ _ Tryz.underlying9⟩
    · exact ⟨hs, _, _, rfl, rfl, run_equalIn_string w 9998 9 _ _ Tryz.underlying9⟩
    · exact ⟨hs, _, _, rfl, rfl, run_equalIn_string w 9998 9 _ _ Tryz.underlying9⟩
    · exact ⟨hi, _, _, rfl, rfl, run_equalIn_int w 9998 3 .i64 .i64 _ _ Tryz.underlying3⟩
    · exact ⟨hb, _, _, rfl, rfl, run_equalIn_bool w 9998 4 _ _ Tryz.underlying4⟩
    · exact ⟨hi, _, _, rfl, rfl, run_equalIn_int w 9998 3 .i64 .i64 _ _ Tryz.underlying3⟩
    · exact ⟨hb, _, _, rfl, rfl, run_equalIn_bool w 9998 4 _ _ Tryz.underlying4⟩
    · exact ⟨hb, _, _, rfl, rfl, run_equalIn_bool w 9998 4 _ _ Tryz.underlying4⟩
    · exact ⟨hb, _, _, rfl, rfl, run_equalIn_bool w 9998 4 _ _ Tryz.underlying4⟩
    · exact ⟨hu, _, _, rfl, rfl, run_equalIn_int w 9998 24 .u8 .u8 _ _ Tryz.underlying24⟩)]
  simp only [List.all_cons, List.all_nil, Bool.and_true, ckEq]
theorem eqT (u v : Cki) (w : World) : (binOp .eql 26 (.agg (ckR u)) (.agg (ckR v))).run Tryz.prog w = .ok (.bool (ckEq u v)) w := by
  rw [run_eql_struct, eqInT]; rfl
theorem neT (u v : Cki) (w : World) : (binOp .neq 26 (.agg (ckR u)) (.agg (ckR v))).run Tryz.prog w = .ok (.bool (!ckEq u v)) w := by
  rw [run_neq_struct, eqInT]; rfl
/-- What Text answers. -/
def okT (t : Cki) (D : List UInt8) : Bool := (prsC (txtC t D)).2 == 0 && ckEq (prsC (txtC t D)).1 t
def txtR (t : Cki) (D : List UInt8) : Value := if okT t D then .tuple #[.string (txtC t D), .int .i64 0] else .tuple #[.string noB, .int .i64 1]


set_option maxHeartbeats 4000000 in
set_option maxRecDepth 100000 in
theorem CkText_any (t : Cki) (D : List UInt8) (hD : DateOf t.ex D) (hsz : t.nm.size + t.vl.size + t.dm.size + t.pa.size ≤ 2000000) (h0 : -9223372036854775808 ≤ t.ag) (h1 : t.ag ≤ 9223372036854775807) (m : Int) (w : World) (hw : DtG m w) :
    Calls Tryz.prog 7 #[.agg (ckR t)] w fun e w' => e = .returned (txtR t D) ∧ Below w.heap.size w w' := by
  have HTo := Lib.hid fun w hw => textOf_any t D hD hsz h0 h1 m w hw
  have HPa := Lib.hid fun w hw => Parse_any (txtC t D) m w hw
  have HNe := Lib.hid fun w => neT (prsC (txtC t D)).1 t w
  have HG := Lib.hid hw
  obtain ⟨R, HR⟩ : ∃ R, Hid (txtR t D = R) := ⟨_, Lib.hid rfl⟩
  have HR2 : Hid (R = if ((prsC (txtC t D)).2 == 0 && ckEq (prsC (txtC t D)).1 t) = true then .tuple #[.string (txtC t D), .int .i64 0] else .tuple #[.string noB, .int .i64 1]) := Lib.hid (by rw [← HR.out]; rfl)
  rw [HR.out]
  obtain ⟨X, HX⟩ : ∃ X, Hid (txtC t D = X) := ⟨_, Lib.hid rfl⟩
  rw [HX.out] at HTo HPa HNe HR2
  obtain ⟨U, c, HU⟩ : ∃ U c, Hid (prsC X = (U, c)) := ⟨_, _, Lib.hid rfl⟩
  rw [HU.out] at HPa HNe HR2
  dsimp only at HPa HNe HR2
  obtain ⟨C, HC, HCs, HC1⟩ : ∃ C, Hid (ckR t = C) ∧ Hid (C.size = 11) ∧ Hid (C.all (·.oneCell') = true) := ⟨_, Lib.hid rfl, Lib.hid rfl, Lib.hid (ckR_one _)⟩
  obtain ⟨V, HV, HVs, HV1⟩ : ∃ V, Hid (ckR U = V) ∧ Hid (V.size = 11) ∧ Hid (V.all (·.oneCell') = true) := ⟨_, Lib.hid rfl, Lib.hid rfl, Lib.hid (ckR_one _)⟩
  rw [HC.out] at HTo HNe ⊢
  rw [HV.out] at HPa HNe
  obtain ⟨B, HB⟩ : ∃ B, Hid (ckEq U t = B) := ⟨_, Lib.hid rfl⟩
  rw [HB.out] at HNe HR2
  clear hw hD hsz h0 h1
  have HA0 : Hid ((w.alloc (.cells C 26)).heap[w.heap.size]? = some (.cells C 26 (0, 0))) := Lib.hid (heap_alloc_new w _)
  have HB0 : Hid (Below w.heap.size w (w.alloc (.cells C 26))) := Lib.hid ((Below.refl _ _).alloc (Nat.le_refl _) _)
  go_enter Tryz.func7, Tryz.ntmps7
  go_wp2_with (first
    | (refine scW_load rfl 26 _ rfl w.heap.size ?_ 26 C (0, 0) _ ?_ Tryz.underlying26 rfl ?_ ?_; (exact rfl); (exact HA0.out); (rw [HCs.out]; exact infoTo)))
  refine (HTo.out _ (HG.out.below HB0.out)).mono ?_
  rintro e w1 ⟨rfl, b1⟩
  have HB1 := Lib.hid (HB0.out.trans (b1.mono HB0.out.size))
  have HA1 : Hid (w1.heap[w.heap.size]? = some (.cells C 26 (0, 0))) := Lib.hid ((b1.block _ (lt_of_block HA0.out)).trans HA0.out)
  clear b1
  go_wp2_with fail
  refine (HPa.out _ (HG.out.below HB1.out).c0).mono ?_
  rintro e w2 ⟨rfl, b2⟩
  have HB2 := Lib.hid (HB1.out.trans (b2.mono HB1.out.size))
  have HA2 : Hid (w2.heap[w.heap.size]? = some (.cells C 26 (0, 0))) := Lib.hid ((b2.block _ (lt_of_block HA1.out)).trans HA1.out)
  clear b2
  obtain ⟨W3, HW3⟩ : ∃ W, W = w2.alloc (.cells (ckR ck0) 26) := ⟨_, rfl⟩
  have HB3 : Hid (Below w.heap.size w W3) := Lib.hid (by rw [HW3]; exact HB2.out.alloc HB2.out.size _)
  have HA3 : Hid ((w2.alloc (.cells (ckR ck0) 26)).heap[w2.heap.size]? = some (.cells (ckR ck0) 26 (0, 0))) := Lib.hid (heap_alloc_new w2 _)
  have hlt : w.heap.size < w2.heap.size := lt_of_block HA2.out
  obtain ⟨W4, HW4⟩ : ∃ W, Hid ((w2.alloc (.cells #[.string ⟨#[]⟩, .string ⟨#[]⟩, .string ⟨#[]⟩, .string ⟨#[]⟩, .int .i64 0, .bool false, .int .i64 0, .bool false, .bool false, .bool false, .int .u8 0] 26)).setRow w2.heap.size V = W) := ⟨_, Lib.hid rfl⟩
  have HA4 : Hid (W4.heap[w2.heap.size]? = some (.cells V 26 (0, 0))) := Lib.hid (by rw [← HW4.out]; exact setRow_heap _ _ _ _ _ _ (HA3.out))
  have HC4 : Hid (W4.heap[w.heap.size]? = some (.cells C 26 (0, 0))) := Lib.hid (by rw [← HW4.out, setRow_other _ _ _ _ (by omega)]; exact (Below.heap_alloc _ _ _ hlt).trans HA2.out)
  have HB4 : Hid (Below w.heap.size w W4) := Lib.hid (by rw [← HW4.out]; exact sc_below (HB2.out.alloc HB2.out.size _) _ _ (by omega))
  have HNe4 := Lib.hid (HNe.out W4)
  clear HB3 hlt HW3
  by_cases hc : c = 0
  · subst hc
    cases B with
    | true =>
      have HRR : Hid (R = .tuple #[.string X, .int .i64 0]) := HR2
      go_upto_region 3 with (refine wpL_store_row rfl 26 _ _ rfl w2.heap.size V ?_ ?_ 26 (ckR ck0) ?_ ?_ ?_ ?_ ?_; exact rfl; exact rfl; (exact HA3.out); (rw [HVs.out]; exact infoTo); (rw [HVs.out]; rfl); exact HV1.out; rw [HW4.out])
      go_wp2_with (first
        | (refine scW_load rfl 26 _ rfl w2.heap.size ?_ 26 V (0, 0) _ ?_ Tryz.underlying26 rfl ?_ ?_; (exact rfl); (exact HA4.out); (rw [HVs.out]; exact infoTo))
        | (refine scW_load rfl 26 _ rfl w.heap.size ?_ 26 C (0, 0) _ ?_ Tryz.underlying26 rfl ?_ ?_; (exact rfl); (exact HC4.out); (rw [HCs.out]; exact infoTo); refine scW_bin rfl .neq 26 26 (.tmp 17) (.tmp 18) rfl _ (gd_T .neq (.tmp 17) (.tmp 18) V C _) HNe4.out ?_))
      go_ret2
      exact ⟨by rw [HRR.out]; rfl, HB4.out⟩
    | false =>
      have HRR : Hid (R = .tuple #[.string noB, .int .i64 1]) := HR2
      go_upto_region 3 with (refine wpL_store_row rfl 26 _ _ rfl w2.heap.size V ?_ ?_ 26 (ckR ck0) ?_ ?_ ?_ ?_ ?_; exact rfl; exact rfl; (exact HA3.out); (rw [HVs.out]; exact infoTo); (rw [HVs.out]; rfl); exact HV1.out; rw [HW4.out])
      go_wp2_with (first
        | (refine scW_load rfl 26 _ rfl w2.heap.size ?_ 26 V (0, 0) _ ?_ Tryz.underlying26 rfl ?_ ?_; (exact rfl); (exact HA4.out); (rw [HVs.out]; exact infoTo))
        | (refine scW_load rfl 26 _ rfl w.heap.size ?_ 26 C (0, 0) _ ?_ Tryz.underlying26 rfl ?_ ?_; (exact rfl); (exact HC4.out); (rw [HCs.out]; exact infoTo); refine scW_bin rfl .neq 26 26 (.tmp 17) (.tmp 18) rfl _ (gd_T .neq (.tmp 17) (.tmp 18) V C _) HNe4.out ?_))
      go_ret2
      exact ⟨by rw [HRR.out]; rfl, HB4.out⟩
  · have hcb : (c != 0) = true := bne_iff_ne.2 hc
    have hce : (c == 0) = false := beq_eq_false_iff_ne.2 hc
    have HRR : Hid (R = .tuple #[.string noB, .int .i64 1]) := Lib.hid (by rw [HR2.out, hce]; rfl)
    clear hc hce
    go_wp2_with (refine wpL_store_row rfl 26 _ _ rfl w2.heap.size V ?_ ?_ 26 (ckR ck0) ?_ ?_ ?_ ?_ ?_; exact rfl; exact rfl; (exact HA3.out); (rw [HVs.out]; exact infoTo); (rw [HVs.out]; rfl); exact HV1.out; rw [HW4.out])
    go_ret2
    exact ⟨by rw [HRR.out]; rfl, HB4.out⟩

end Go.Proofs.YtllpdnmhabpbcaaGreatDoor
