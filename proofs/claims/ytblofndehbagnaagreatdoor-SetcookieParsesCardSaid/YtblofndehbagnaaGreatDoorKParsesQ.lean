/-
  footmanlaw10.SetcookieParses returns true for every input: its tied card, under the card's own conditions and no other.
-/
import Derived.Test.YtblofndehbagnaaGreatDoorScV
import Derived.Test.YtblofndehbagnaaGreatDoorScE
import Derived.Laws.StructEq
import Derived.Test.YtblofndehbagnaaGreatDoorDoorK
import Derived.Test.YtblofndehbagnaaGreatDoorCards
import Derived.Test.YtblofndehbagnaaGreatDoorTie
namespace Go.Proofs.YtblofndehbagnaaGreatDoor
open Go.RowKit

theorem sc_part {t : TypeId} {xs : Array Value} {i : Nat} {v : Value} (w : World) (ha : (isAgg t).run Tryz.prog w = .ok false w) (hv : xs[i]? = some v) : (part t xs i).run Tryz.prog w = .ok v w := by
  simp [part, Sem.run_bind, ha, Result.andThen, hv]
theorem fieldsT : (Tryz.prog.fieldsOf 24).toList.map (fun f => (f.name == "_", f.type, f.offset)) = [(false, 9, 0), (false, 9, 1), (false, 9, 2), (false, 9, 3), (false, 3, 4), (false, 4, 5), (false, 3, 6), (false, 4, 7), (false, 4, 8), (false, 4, 9), (false, 22, 10)] := by kernel_rfl
theorem sc_eqcons (d : Nat) (xs ys : Array Value) (w : World) (f : Field) (fs : List Field) (hn : (f.name == "_") = false) (ha : (isAgg f.type).run Tryz.prog w = .ok false w) (x y : Value) (hx : xs[f.offset]? = some x) (hy : ys[f.offset]? = some y) (b : Bool) (he : (Op.equalIn d f.type x y).run Tryz.prog w = .ok b w) :
    (Op.eqFields d xs ys (f :: fs)).run Tryz.prog w = if b then (Op.eqFields d xs ys fs).run Tryz.prog w else .ok false w := by
  have h1 := sc_part w ha hx
  have h2 := sc_part w ha hy
  have hn' : f.name ≠ "_" := by simpa using hn
  cases b <;> simp [Op.eqFields, hn', Sem.run_bind, h1, h2, he, Result.andThen]
theorem sc_eqlist (d : Nat) (xs ys : Array Value) (w : World) (e : Nat → Bool) : ∀ (S : List (TypeId × Nat)) (fs : List Field), fs.map (fun f => (f.name == "_", f.type, f.offset)) = S.map (fun p => (false, p.1, p.2)) →
    (∀ q ∈ S, (isAgg q.1).run Tryz.prog w = .ok false w ∧ ∃ x y, xs[q.2]? = some x ∧ ys[q.2]? = some y ∧ (Op.equalIn d q.1 x y).run Tryz.prog w = .ok (e q.2) w) →
    (Op.eqFields d xs ys fs).run Tryz.prog w = .ok (S.all fun p => e p.2) w
  | [], fs, h, _ => by
    obtain rfl : fs = [] := by simpa using h
    simp [Op.eqFields]
  | q :: S, [], h, _ => by cases h
  | q :: S, f :: fs, h, hq => by
    simp only [List.map_cons, List.cons.injEq, Prod.mk.injEq] at h
    obtain ⟨⟨h1, h2, h3⟩, h4⟩ := h
    obtain ⟨ha, x, y, hx, hy, he⟩ := hq q List.mem_cons_self
    rw [sc_eqcons d xs ys w f fs h1 (by rw [h2]; exact ha) x y (by rw [h3]; exact hx) (by rw [h3]; exact hy) (e q.2) (by rw [h2]; exact he), sc_eqlist d xs ys w e S fs h4 (fun p hp => hq p (List.mem_cons_of_mem _ hp))]
    rw [List.all_cons]
    cases e q.2 <;> rfl
theorem scW_step {P : Program} {ops : Array Oper} {Q : Exit → Act → World → Prop} {a : Act} {w : World} {rest : List Oper} {o : Oper} (hw : Region.wanted o (yielded ops a.tmps) = true)
    (h : ∀ K : Act → World → Prop, (∀ a w, wpList P ops Q rest a w → K a w) → o.wp P a w K Q) : wpList P ops Q (o :: rest) a w :=
  wpList_step fun K hK => by rw [if_pos hw]; exact h K hK
/-- A row is read, guarded or not. -/
theorem scW_load {P : Program} {ops : Array Oper} {rest : List Oper} {o : Oper} {a : Act} {w : World} {Q : Exit → Act → World → Prop} (hw : Region.wanted o (yielded ops a.tmps) = true) (ty : TypeId) (x : Operand) (ho : o.op = .load ty x)
    (g : Nat) (hx : a.eval x = .pointer (some ⟨g, 0, none⟩)) (t : TypeId) (cs : Array Value) (fr : Nat × Nat) (d : TypeDesc) (hg : w.heap[g]? = some (.cells cs t fr))
    (hu : P.underlying ty = some d) (hd : (match d with | .struct _ | .array _ _ => true | _ => false) = true) (hi : (P.info? ty).map (·.size) = some cs.size)
    (h : wpList P ops Q rest (a.put o.dst (.agg cs)) w) : wpList P ops Q (o :: rest) a w :=
  scW_step hw fun _ hK => wp_load_row ty x ho g hx t cs fr d hg hu hd hi (hK _ _ h)
/-- An operation on two values, guarded or not. -/
theorem scW_bin {P : Program} {ops : Array Oper} {rest : List Oper} {o : Oper} {a : Act} {w : World} {Q : Exit → Act → World → Prop} (hw : Region.wanted o (yielded ops a.tmps) = true) (b : BinOp) (t t2 : TypeId) (x y : Operand) (ho : o.op = .binOp b t x y t2) (v : Value)
    (hg : (eqGuard b t x y (a.eval x) (a.eval y)).run P w = .ok () w) (hr : (binOp b t (a.eval x) (a.eval y)).run P w = .ok v w) (h : wpList P ops Q rest (a.put o.dst v) w) : wpList P ops Q (o :: rest) a w :=
  scW_step hw fun _ hK => by
    unfold Oper.wp
    have e : (execOp a.eval o).run P w = .ok (.value v) w := by
      simp [execOp, ho, hg, hr, Result.andThen]
    rw [e, Oper.upon_value]
    exact hK _ _ h
def ckN (u v : Cki) (n : Nat) : Bool := match n with
  | 0 => u.nm.toList == v.nm.toList
  | 1 => u.vl.toList == v.vl.toList
  | 2 => u.dm.toList == v.dm.toList
  | 3 => u.pa.toList == v.pa.toList
  | 4 => u.ex == v.ex
  | 5 => u.hx == v.hx
  | 6 => u.ag == v.ag
  | 7 => u.ha == v.ha
  | 8 => u.se == v.se
  | 9 => u.hi == v.hi
  | _ => u.si == v.si
def ckEq (u v : Cki) : Bool := ckN u v 0 && (ckN u v 1 && (ckN u v 2 && (ckN u v 3 && (ckN u v 4 && (ckN u v 5 && (ckN u v 6 && (ckN u v 7 && (ckN u v 8 && (ckN u v 9 && ckN u v 10)))))))))
theorem sc_list {a b : ByteArray} (h : a.toList = b.toList) : a = b := by
  rw [ByteArray.toList_eq, ByteArray.toList_eq] at h; exact ba_list h
theorem ckEq_iff (u v : Cki) : ckEq u v = true ↔ u = v := by
  constructor
  · intro h
    unfold ckEq ckN at h
    simp only [Bool.and_eq_true, beq_iff_eq] at h
    obtain ⟨h0, h1, h2, h3, h4, h5, h6, h7, h8, h9, h10⟩ := h
    obtain ⟨nm, vl, dm, pa, ex, hx, ag, ha, se, hi, si⟩ := u
    obtain ⟨nm', vl', dm', pa', ex', hx', ag', ha', se', hi', si'⟩ := v
    simp only at h0 h1 h2 h3 h4 h5 h6 h7 h8 h9 h10
    rw [sc_list h0, sc_list h1, sc_list h2, sc_list h3, h4, h5, h6, h7, h8, h9, h10]
  · rintro rfl
    simp [ckEq, ckN]
theorem gd_T (op : BinOp) (x y : Operand) (xs ys : Array Value) (w : World) : (eqGuard op 24 x y (.agg xs) (.agg ys)).run Tryz.prog w = .ok () w := run_eqGuard_agg _ _ _ _ _ _ _ (by kernel_rfl)
theorem eqInT (u v : Cki) (w : World) : (Op.equalIn 10000 24 (.agg (ckR u)) (.agg (ckR v))).run Tryz.prog w = .ok (ckEq u v) w := by
  have hS : Tryz.prog.underlying 24 = some (.struct (Tryz.prog.fieldsOf 24)) := by kernel_rfl
  have hp : Tryz.prog.stoodInHeld 24 = false := by kernel_rfl
  have hs : (isAgg 9).run Tryz.prog w = .ok false w := by go_simp
  have hi : (isAgg 3).run Tryz.prog w = .ok false w := by go_simp
  have hb : (isAgg 4).run Tryz.prog w = .ok false w := by go_simp
  have hu : (isAgg 22).run Tryz.prog w = .ok false w := by go_simp
  rw [show (10000 : Nat) = 9998 + 1 + 1 from rfl, run_equalIn_struct w (9998 + 1) 24 _ _ hS hp]
  rw [sc_eqlist (9998 + 1) (ckR u) (ckR v) w (ckN u v) [(9, 0), (9, 1), (9, 2), (9, 3), (3, 4), (4, 5), (3, 6), (4, 7), (4, 8), (4, 9), (22, 10)] _ fieldsT (fun q hq => by
    simp only [List.mem_cons, List.not_mem_nil, or_false] at hq
    rcases hq with rfl | rfl | rfl | rfl | rfl | rfl | rfl | rfl | rfl | rfl | rfl
    · exact ⟨hs, _, _, rfl, rfl, run_equalIn_string w 9998 9 _ _ Tryz.underlying9⟩
    · exact ⟨hs, _, _, rfl, rfl, run_equalIn_string w 9998 9 _ _ Tryz.underlying9⟩
    · exact ⟨hs, _, _, rfl, rfl, run_equalIn_string w 9998 9 _ _ Tryz.underlying9⟩
    · exact ⟨hs, _, _, rfl, rfl, run_equalIn_string w 9998 9 _ _ Tryz.underlying9⟩
    · exact ⟨hi, _, _, rfl, rfl, run_equalIn_int w 9998 3 .i64 .i64 _ _ Tryz.underlying3⟩
    · exact ⟨hb, _, _, rfl, rfl, run_equalIn_bool w 9998 4 _ _ Tryz.underlying4⟩
    · exact ⟨hi, _, _, rfl, rfl, run_equalIn_int w 9998 3 .i64 .i64 _ _ Tryz.underlying3⟩
    · exact ⟨hb, _, _, rfl, rfl, run_equalIn_bool w 9998 4 _ _ Tryz.underlying4⟩
    · exact ⟨hb, _, _, rfl, rfl, run_equalIn_bool w 9998 4 _ _ Tryz.underlying4⟩
    · exact ⟨hb, _, _, rfl, rfl, run_equalIn_bool w 9998 4 _ _ Tryz.underlying4⟩
    · exact ⟨hu, _, _, rfl, rfl, run_equalIn_int w 9998 22 .u8 .u8 _ _ Tryz.underlying22⟩)]
  simp only [List.all_cons, List.all_nil, Bool.and_true, ckEq]
theorem eqT (u v : Cki) (w : World) : (binOp .eql 24 (.agg (ckR u)) (.agg (ckR v))).run Tryz.prog w = .ok (.bool (ckEq u v)) w := by
  rw [run_eql_struct, eqInT]; rfl
theorem neT (u v : Cki) (w : World) : (binOp .neq 24 (.agg (ckR u)) (.agg (ckR v))).run Tryz.prog w = .ok (.bool (!ckEq u v)) w := by
  rw [run_neq_struct, eqInT]; rfl
set_option maxHeartbeats 4000000 in
set_option maxRecDepth 100000 in
theorem kparses_walk (s : ByteArray) (hs : s.size ≤ 140737488355328) (m : Int) (w : World) (hw : DtC0 m w) :
    Calls Tryz.prog 3 #[.string s] w fun e w' => e = .returned (.bool true) ∧ Below w.heap.size w w' := by
  by_cases hbig : 200000 < s.size
  · have hI : (200000 : Int) < (s.size : Int) := by omega
    clear hw hbig
    go_enter Tryz.func3, Tryz.ntmps3
    go_wp2
    go_ret
    exact ⟨rfl, Below.refl _ _⟩
  have hI : ¬ (200000 : Int) < (s.size : Int) := by omega
  have HW := Lib.hid hw
  obtain ⟨C, HC, HCs, HC1⟩ : ∃ C, Hid (ckR (prsC s).1 = C) ∧ Hid (C.size = 11) ∧ Hid (C.all (·.oneCell') = true) := ⟨_, Lib.hid rfl, Lib.hid rfl, Lib.hid (ckR_one _)⟩
  obtain ⟨E, HE⟩ : ∃ E, Hid ((prsC s).2 = E) := ⟨_, Lib.hid rfl⟩
  have HP1 : Hid (∀ w', DtC0 m w' → Calls Tryz.prog 11 #[.string s] w' fun e w'' => e = .returned (.tuple #[.agg C, .int .i64 E]) ∧ Below w'.heap.size w' w'') := Lib.hid fun w' h => by
    rw [← HC.out, ← HE.out]; exact Parse_any s m w' h
  have HP2 : Hid (∀ w', Calls Tryz.prog 12 #[.string s] w' fun e w'' => e = .returned (.tuple #[.agg C, .int .i64 E]) ∧ Below w'.heap.size w' w'') := Lib.hid fun w' => by
    rw [← HC.out, ← HE.out]; exact RefParse10_any s w'
  obtain ⟨X, HX⟩ : ∃ X, Hid (Value.agg C = X) := ⟨_, Lib.hid rfl⟩
  have HEq : Hid (∀ w', (binOp .eql 24 X X).run Tryz.prog w' = .ok (.bool true) w') := Lib.hid fun w' => by
    rw [← HX.out, ← HC.out, eqT, (ckEq_iff _ _).2 rfl]
  have HGd : Hid (∀ x y w', (eqGuard .eql 24 x y X X).run Tryz.prog w' = .ok () w') := Lib.hid fun x y w' => by
    rw [← HX.out]; exact gd_T _ _ _ _ _ _
  clear hw hbig
  go_enter Tryz.func3, Tryz.ntmps3
  go_wp2_with fail
  refine (HP1.out _ HW.out).mono ?_
  rintro e w6 ⟨rfl, b6⟩
  have HB6 := Lib.hid b6
  clear b6
  have HA7 : Hid ((w6.alloc (.cells (ckR ck0) 24)).heap[w6.heap.size]? = some (.cells (ckR ck0) 24 (0, 0))) := Lib.hid (heap_alloc_new w6 _)
  obtain ⟨W7, HW7⟩ : ∃ W, Hid ((w6.alloc (.cells #[.string ⟨#[]⟩, .string ⟨#[]⟩, .string ⟨#[]⟩, .string ⟨#[]⟩, .int .i64 0, .bool false, .int .i64 0, .bool false, .bool false, .bool false, .int .u8 0] 24)).setRow w6.heap.size C = W) := ⟨_, Lib.hid rfl⟩
  have HD7 : Hid (W7.heap[w6.heap.size]? = some (.cells C 24 (0, 0))) := Lib.hid (by rw [← HW7.out]; exact setRow_heap _ _ _ _ _ _ HA7.out)
  have HB7 : Hid (Below w.heap.size w W7) := Lib.hid (by rw [← HW7.out]; exact sc_below (HB6.out.alloc HB6.out.size _) _ _ HB6.out.size)
  go_wp2_with (refine wpL_store_row rfl 24 _ _ rfl w6.heap.size C ?_ ?_ 24 (ckR ck0) ?_ ?_ ?_ ?_ ?_; exact rfl; exact rfl; (exact HA7.out); (rw [HCs.out]; exact infoTo); (rw [HCs.out]; rfl); exact HC1.out; rw [HW7.out])
  refine (HP2.out _).mono ?_
  rintro e w8 ⟨rfl, b8⟩
  have HB8 := Lib.hid (HB7.out.trans (b8.mono HB7.out.size))
  have HD8 : Hid (w8.heap[w6.heap.size]? = some (.cells C 24 (0, 0))) := Lib.hid ((b8.block _ (lt_of_block HD7.out)).trans HD7.out)
  clear b8
  have HA9 : Hid ((w8.alloc (.cells (ckR ck0) 24)).heap[w8.heap.size]? = some (.cells (ckR ck0) 24 (0, 0))) := Lib.hid (heap_alloc_new w8 _)
  have hlt8 : w6.heap.size < w8.heap.size := lt_of_block HD8.out
  obtain ⟨W9, HW9⟩ : ∃ W, Hid ((w8.alloc (.cells #[.string ⟨#[]⟩, .string ⟨#[]⟩, .string ⟨#[]⟩, .string ⟨#[]⟩, .int .i64 0, .bool false, .int .i64 0, .bool false, .bool false, .bool false, .int .u8 0] 24)).setRow w8.heap.size C = W) := ⟨_, Lib.hid rfl⟩
  have HE9 : Hid (W9.heap[w8.heap.size]? = some (.cells C 24 (0, 0))) := Lib.hid (by rw [← HW9.out]; exact setRow_heap _ _ _ _ _ _ HA9.out)
  have HD9 : Hid (W9.heap[w6.heap.size]? = some (.cells C 24 (0, 0))) := Lib.hid (by rw [← HW9.out, setRow_other _ _ _ _ (by omega)]; exact (Below.heap_alloc _ _ _ hlt8).trans HD8.out)
  have HB9 : Hid (Below w.heap.size w W9) := Lib.hid (by rw [← HW9.out]; exact sc_below (HB8.out.alloc HB8.out.size _) _ _ HB8.out.size)
  clear hlt8
  go_wp2_with (first
    | (refine wpL_store_row rfl 24 _ _ rfl w8.heap.size C ?_ ?_ 24 (ckR ck0) ?_ ?_ ?_ ?_ ?_; exact rfl; exact rfl; (exact HA9.out); (rw [HCs.out]; exact infoTo); (rw [HCs.out]; rfl); exact HC1.out; rw [HW9.out])
    | (refine scW_load rfl 24 _ rfl w6.heap.size ?_ 24 C (0, 0) _ ?_ Tryz.underlying24 rfl ?_ ?_; (exact rfl); (exact HD9.out); (rw [HCs.out]; exact infoTo); rw [HX.out])
    | (refine scW_load rfl 24 _ rfl w8.heap.size ?_ 24 C (0, 0) _ ?_ Tryz.underlying24 rfl ?_ ?_; (exact rfl); (exact HE9.out); (rw [HCs.out]; exact infoTo); rw [HX.out])
    | (refine scW_bin rfl .eql 24 24 _ _ rfl (.bool true) ?_ ?_ ?_; exact HGd.out _ _ _; exact HEq.out _))
  go_ret
  exact ⟨rfl, HB9.out⟩

end Go.Proofs.YtblofndehbagnaaGreatDoor
namespace Go.Proofs.YtblofndehbagnaaGreatDoor
open Go.ChangeShapes Go.WideShapes Go.ChangeAt Go.RowKit
open Go.ChangeMaps (open_string shut_string)

set_option maxRecDepth 100000 in
theorem kparses_lifted (os : Os) (started : os.Started) (H : Type) (enc : TypeId × Value → H) :
    ReturnsInHanded {} Tryz.checked os 3 .any (fun w args => (Rows.setcookieParsesSpec.pre enc Tryz.prog Tryz.f3 [] false w args ∧ laidMetH Tryz.prog Rows.setcookieParsesRow.laid w) ∧ sizedMet enc Tryz.prog Tryz.f3 (OpenSpec.ofChange Rows.setcookieParsesSpec) false w args)
      (Rows.setcookieParsesSpec.post enc Tryz.prog Tryz.f3 false true false false) := by
  refine ret_allX (C := Tryz.checked) (X := fun w _ => laidMetH Tryz.prog Rows.setcookieParsesRow.laid w) ownD started (by kernel_rfl) Tryz.func3
    (ChangeSpec.witness_at (enc := enc) (C := Tryz.checked) (os := os) (X := fun w _ => laidMetH Tryz.prog Rows.setcookieParsesRow.laid w) false (laidWorld os) #[.string ⟨#[]⟩] 8 rfl (by kernel_rfl) (by kernel_rfl) (by kernel_rfl) (by kernel_rfl) (by kernel_rfl) (laid_metC os _)) ?_
  intro W base args ds gs before hval0 hW hsz0 hsh hX
  have hval : ∀ (j : Nat) t v, Tryz.f3.params[j]? = some t → args[j]? = some v → Value.okWide Tryz.prog W .any base t v := hval0
  have hsz : (DataW.weightsEach Tryz.prog (Tryz.f3.params.toList ++ Rows.setcookieParsesSpec.plain.varTypes Tryz.prog) (ds ++ gs)).all (· ≤ reachBytes) = true := hsz0
  have hW' := hW
  obtain ⟨p, q, hA0, hV, rfl, hfz, hnd⟩ := hW
  have hA : DataW.TrodAll enc Tryz.prog W 0 (fun _ => true) true Tryz.f3.params.toList args.toList ds p := hA0
  rw [Tryz.params3] at hA hval hsz
  obtain ⟨v0, d0, rfl, rfl, h0⟩ := trodAll_one hA
  obtain ⟨rfl, rfl⟩ := trodVars_none hV
  obtain ⟨s, rfl, rfl, rfl, hs⟩ := open_string Tryz.underlying9 (hval 0 9 v0 rfl rfl) h0
  have rs : s.size ≤ 140737488351232 := by
    have := sized_string hsz (j := 0) (t := 9) rfl rfl
    unfold reachBytes at this
    have e : s.data.toList.length = s.size := by simp
    omega
  obtain ⟨m, hT⟩ := dtc_of hX hsh
  clear hA0 hval0 hsz0
  refine (kparses_walk s (by omega) m W hT).mono fun e W' ⟨he, bel⟩ => ?_
  subst he
  exact ⟨_, rfl, _, _, _, [], _, [], hW', trodAll_mk1 (shut_bool Tryz.underlying4 _), trodAll_mk1 (shut_string Tryz.underlying9 hs), rfl, bel.frame _, fun h => by cases h⟩

theorem kparses_row : Rows.SetcookieParsesSaid :=
  OpenClaim.holds_of_wide 3 Tryz.f3 rfl rfl rfl rfl rfl rfl rfl ⟨rfl, rfl, rfl, rfl, rfl⟩ rfl rfl rfl rfl rfl (by kernel_rfl) Tryz.func3 (by kernel_rfl)
    (of_decide_eq_true (by kernel_rfl)) (by unfold Func.isWrapper; first | (rw [if_pos (by decide +kernel)]; kernel_rfl) | (rw [if_neg (by decide +kernel)]; exact ⟨rfl, rfl⟩))
    (fun os started H enc _ => kparses_lifted os started H enc)

theorem kparses_card : Rows.SetcookieParsesCardSaid :=
  Claim7.holds_tied_plain_at .later [] Rows.setcookieParsesCard.laidKinds true Rows.setcookieParsesCard.stood.harness Rows.setcookieParsesCard.stood.looks
    kparses_row (fun _ h => by cases h) (by kernel_rfl) (fun _ h => by cases h) setcookieParses_row_tie rfl ⟨rfl, rfl⟩ (by kernel_rfl) rfl
    (fun f fn hf hfn => by
      obtain rfl : f = 3 := Option.some.inj ((show Tryz.prog.funcNamed Rows.setcookieParsesRow.func = some 3 by kernel_rfl).symm.trans hf) |>.symm
      obtain rfl : fn = Tryz.f3 := (Option.some.inj (Tryz.func3.symm.trans hfn)).symm
      exact ⟨by kernel_rfl, fun j t ht => by
        rw [Tryz.params3] at ht
        have hm : t ∈ [9] := by
          have := Array.mem_of_getElem? ht
          revert this
          simp
        have hall : ([9].all fun u => !Tryz.prog.wantsStandIn u) = true := by kernel_rfl
        exact (show Tryz.prog.wantsStandIn t = false by simpa using List.all_eq_true.1 hall t hm)⟩)
    (by kernel_rfl)

#print axioms kparses_card
end Go.Proofs.YtblofndehbagnaaGreatDoor
