/-
  Package sts: the map of what is told; a directive.
-/
import Derived.Test.YthffgnlebljkcaaDoorTsB
import Derived.Test.YthffgnlebljkcaaDoorInv
import Derived.Deep.WholeRow
import Derived.Deep.Cut
import Derived.Orders
namespace Go.Proofs.YthffgnlebljkcaaDoor
open Go.RowKit

def sayV (x : Bool × List UInt8) : Value := .agg #[.string (asB x.2), .bool x.1]
/-- What the map holds. -/
def MapAt (w : World) (m : Nat) (T : List TsE) : Prop :=
  ∃ es c, w.heap[m]? = some (.map es c) ∧ es.toList.map (fun x => (x.key, x.val)) = T.map fun x => (Value.string (asB x.1), sayV x.2)
/-- Each name stands once. -/
def UniqT (T : List TsE) : Prop := ∀ x ∈ T, sayT x.1 T = some x.2
theorem sayT_app (n : List UInt8) (x : TsE) : ∀ T : List TsE, sayT n (T ++ [x]) = match sayT n T with
    | some y => some y
    | none => if x.1 = n then some x.2 else none
  | [] => rfl
  | y :: T => by
    have ih := sayT_app n x T
    rw [List.cons_append]
    unfold sayT
    by_cases h : y.1 = n
    · rw [if_pos h, if_pos h]
    · rw [if_neg h, if_neg h]; exact ih
theorem twice_say (n : List UInt8) : ∀ T : List TsE, twiceB n T = (sayT n T).isSome
  | [] => rfl
  | y :: T => by
    have ih := twice_say n T
    unfold twiceB at ih ⊢
    rw [List.any_cons, ih]
    conv => { rhs; unfold sayT }
    by_cases h : y.1 = n
    · rw [if_pos h, decide_eq_true h]; rfl
    · rw [if_neg h, decide_eq_false h]; rfl
theorem UniqT.add {T : List TsE} (h : UniqT T) {x : TsE} (hx : twiceB x.1 T = false) : UniqT (T ++ [x]) := by
  intro y hy
  rw [sayT_app]
  rcases List.mem_append.1 hy with hy | hy
  · rw [h y hy]
  · obtain rfl := List.mem_singleton.1 hy
    have : sayT y.1 T = none := by
      rw [twice_say] at hx
      cases hs : sayT y.1 T with
      | none => rfl
      | some z => rw [hs] at hx; cases hx
    rw [this]; simp
theorem say_mem {n : List UInt8} {v : Bool × List UInt8} : ∀ {T : List TsE}, sayT n T = some v → (n, v) ∈ T
  | [], h => by cases h
  | y :: T, h => by
    unfold sayT at h
    by_cases e : y.1 = n
    · rw [if_pos e] at h
      injection h with h
      rw [← e, ← h]
      exact List.mem_cons_self ..
    · rw [if_neg e] at h
      exact List.mem_cons_of_mem _ (say_mem h)
theorem say_none {n : List UInt8} : ∀ {T : List TsE}, sayT n T = none → ∀ x ∈ T, x.1 ≠ n
  | [], _, x, hx => by cases hx
  | y :: T, h, x, hx => by
    unfold sayT at h
    by_cases e : y.1 = n
    · rw [if_pos e] at h; cases h
    · rw [if_neg e] at h
      rcases List.mem_cons.1 hx with rfl | hx
      · exact e
      · exact say_none h x hx
theorem asB_inj {a b : List UInt8} (h : asB a = asB b) : a = b := by
  have := congrArg (fun t : ByteArray => t.data.toList) h
  exact this
theorem kv_of {es : Array MapEntry} {T : List TsE} (h : es.toList.map (fun x => (x.key, x.val)) = T.map fun x => (Value.string (asB x.1), sayV x.2)) {x : MapEntry} (hx : x ∈ es.toList) : ∃ y ∈ T, x.key = .string (asB y.1) ∧ x.val = sayV y.2 := by
  have h1 : (x.key, x.val) ∈ es.toList.map (fun x => (x.key, x.val)) := List.mem_map.2 ⟨x, hx, rfl⟩
  rw [h] at h1
  obtain ⟨y, hy, e⟩ := List.mem_map.1 h1
  injection e with e1 e2
  exact ⟨y, hy, e1.symm, e2.symm⟩
theorem kv_to {es : Array MapEntry} {T : List TsE} (h : es.toList.map (fun x => (x.key, x.val)) = T.map fun x => (Value.string (asB x.1), sayV x.2)) {y : TsE} (hy : y ∈ T) : ∃ x ∈ es.toList, x.key = .string (asB y.1) ∧ x.val = sayV y.2 := by
  have h1 : (Value.string (asB y.1), sayV y.2) ∈ T.map fun x => (Value.string (asB x.1), sayV x.2) := List.mem_map.2 ⟨y, hy, rfl⟩
  rw [← h] at h1
  obtain ⟨x, hx, e⟩ := List.mem_map.1 h1
  injection e with e1 e2
  exact ⟨x, hx, e1, e2⟩
theorem MapAt.yes {w : World} {m : Nat} {T : List TsE} (h : MapAt w m T) (hu : UniqT T) {n : List UInt8} {v : Bool × List UInt8} (hs : sayT n T = some v) :
    (Instr.lookup 42 (.map (some m)) (.string (asB n)) true).run Tryd.prog w = .ok (.tuple #[sayV v, .bool true]) w := by
  obtain ⟨es, c, hb, hk⟩ := h
  refine run_get_ok Tryd.underlying42 Tryd.underlying9 hb (fun x hx => ?_) (fun x hx hkx => ?_) ?_
  · obtain ⟨y, _, e, _⟩ := kv_of hk hx
    exact ⟨_, e⟩
  · obtain ⟨y, hy, e, e2⟩ := kv_of hk hx
    rw [e] at hkx
    injection hkx with hkx
    have e3 := hu y hy
    rw [asB_inj hkx, hs] at e3
    injection e3 with e3
    rw [e2, e3]
  · obtain ⟨x, hx, e1, _⟩ := kv_to hk (say_mem hs)
    exact ⟨x, hx, e1⟩
theorem MapAt.no {w : World} {m : Nat} {T : List TsE} (h : MapAt w m T) {n : List UInt8} (hs : sayT n T = none) :
    (Instr.lookup 42 (.map (some m)) (.string (asB n)) true).run Tryd.prog w = .ok (.tuple #[sayV (false, []), .bool false]) w := by
  obtain ⟨es, c, hb, hk⟩ := h
  refine run_get_no Tryd.underlying42 Tryd.underlying9 (by kernel_rfl) hb fun x hx => ?_
  obtain ⟨y, hy, e, _⟩ := kv_of hk hx
  exact ⟨_, e, fun e' => say_none hs y hy (asB_inj e')⟩
theorem MapAt.get {w : World} {m : Nat} {T : List TsE} (h : MapAt w m T) (hu : UniqT T) (n : List UInt8) :
    (Instr.lookup 42 (.map (some m)) (.string (asB n)) true).run Tryd.prog w = .ok (.tuple #[sayV ((sayT n T).getD (false, [])), .bool (sayT n T).isSome]) w := by
  cases hs : sayT n T with
  | none => exact h.no hs
  | some v => exact h.yes hu hs
theorem MapAt.lt {w : World} {m : Nat} {T : List TsE} (h : MapAt w m T) : m < w.heap.size := by
  obtain ⟨es, c, hb, _⟩ := h
  rcases Nat.lt_or_ge m w.heap.size with h' | h'
  · exact h'
  · rw [Array.getElem?_eq_none h'] at hb; cases hb
theorem MapAt.of {w w' : World} {m : Nat} {T : List TsE} (h : MapAt w m T) (e : w'.heap[m]? = w.heap[m]?) : MapAt w' m T := by
  obtain ⟨es, c, hb, hk⟩ := h
  exact ⟨es, c, e.trans hb, hk⟩
theorem MapAt.below {w w' : World} {m : Nat} {T : List TsE} (h : MapAt w m T) (hb : Below w.heap.size w w') : MapAt w' m T := h.of (hb.block m h.lt)
theorem ts_row2 {P : Program} {fn : Func} {p u : Tmp} {ty : TypeId} (h : fn.results = #[.cell p ty, .tmp u]) (tmps : Array Value) (w : World) (g : Nat) (t : TypeId) (cs : Array Value) (fr : Nat × Nat) (d : TypeDesc)
    (hp : tmps.getD p undef = .pointer (some ⟨g, 0, none⟩)) (hg : w.heap[g]? = some (.cells cs t fr))
    (hu : P.underlying ty = some d) (hd : (match d with | .struct _ | .array _ _ => true | _ => false) = true) (hi : (P.info? ty).map (·.size) = some cs.size) :
    (results fn tmps).run P w = .ok (.tuple #[.agg cs, tmps.getD u undef]) w := by
  rw [results_cell_tmp h, hp]
  simp [asAddr, run_loadVar_row w g t ty cs fr d hg hu hd hi, Result.andThen]
theorem infoSay : (Tryd.prog.info? 62).map (·.size) = some 2 := by kernel_rfl
theorem low_asB (s : ByteArray) : lowS s = asB (s.data.toList.map low) := rfl

/-- One operation of a region that draws its order. -/
theorem tsOp_of {P : Program} {ops : Array Oper} {Q : Exit → Act → World → Prop} {i : Nat} {K : Act → World → Prop} {a : Act} {w : World} {o : Oper} (ho : ops[i]? = some o) (hg : o.guard = none) (h : o.wp P a w K Q) : wpOp P ops Q i K a w := by
  unfold wpOp
  simp only [ho, Region.wanted, hg]
  exact .inl h
theorem ts_run {P : Program} {Q : Exit → Act → World → Prop} {K : Act → World → Prop} {a : Act} {w w' : World} {o : Oper} (v : Value) (hr : (execOp a.eval o).run P w = .ok (.value v) w') (h : K (a.put o.dst v) w') : o.wp P a w K Q := by
  unfold Oper.wp
  rw [hr]
  exact h
theorem ts_call {P : Program} {Q : Exit → Act → World → Prop} {K : Act → World → Prop} {a : Act} {w : World} {o : Oper} {f : FuncId} {x : Operand} {s : ByteArray} {ts : Array TypeId} (ho : o.op = .call { callee := .value (.func f), args := #[x], argTypes := ts }) (hx : a.eval x = .string s)
    (he : (callFunc f #[.string s]).run P w = .ok (.enter f #[.string s]) w) (h : Calls P f #[.string s] w fun e w' => ∃ v, e = .returned v ∧ K (a.put o.dst v) w') : o.wp P a w K Q := by
  unfold Oper.wp
  have hr : (execOp a.eval o).run P w = .ok (.enter f #[.string s]) w := by
    have hf : a.eval (.func f) = .func (.func f) #[] #[] := rfl
    simp [execOp, ho, hx, hf, resolve, invoke, Deferred.ofValue, he]
  rw [hr, Oper.upon_enter]
  refine h.mono ?_
  rintro e w' ⟨v, rfl, hK⟩
  exact hK
def tsLex (ops : Array Oper) : Bool := (List.range ops.size).all fun i => match ops[i]? with | none => true | some o => o.after.all fun e => !Region.binds .any e || decide (e.on < i)
theorem tsLex_spec {ops : Array Oper} (h : tsLex ops = true) (i : Nat) (o : Oper) (ho : ops[i]? = some o) : ∀ e ∈ o.after, Region.binds .any e = true → e.on < i := by
  intro e he hbd
  have hi : i < ops.size := by
    rcases Nat.lt_or_ge i ops.size with h' | h'
    · exact h'
    · rw [Array.getElem?_eq_none h'] at ho; cases ho
  have h1 := List.all_eq_true.1 h i (List.mem_range.2 hi)
  rw [ho] at h1
  have h2 := Array.all_eq_true_iff_forall_mem.1 h1 e he
  rw [hbd] at h2
  simpa using h2
def tuL (L : Nat → Bool) (i k : Nat) : Bool := if k = i then true else L k
def tuT (t : Nat → Value) (i : Nat) (v : Value) (k : Nat) : Value := if k = i then v else t k
theorem tuL_at (L : Nat → Bool) (i : Nat) : tuL L i i = true := if_pos rfl
theorem tuL_ne (L : Nat → Bool) {i k : Nat} (h : k ≠ i) : tuL L i k = L k := if_neg h
theorem tuT_at (t : Nat → Value) (i : Nat) (v : Value) : tuT t i v i = v := if_pos rfl
theorem tuT_ne (t : Nat → Value) {i k : Nat} (v : Value) (h : k ≠ i) : tuT t i v k = t k := if_neg h
theorem tget_up (l : Array Bool) (i : Nat) (h : i < l.size) : (fun k => (l.setIfInBounds i true).getD k false) = tuL (fun k => l.getD k false) i := by
  funext k
  unfold tuL
  simp only [Array.getD_eq_getD_getElem?, Array.getElem?_setIfInBounds]
  by_cases hk : k = i
  · subst hk; simp [h]
  · rw [if_neg hk, if_neg (Ne.symm hk)]

/-- Where each operation of said's region puts what it answers, and that. -/
def sdD (i : Nat) : Nat := [9, 10, 11, 12, 13, 14, 15, 8, 16, 17, 6, 30, 7].getD i 31
def sdV (b m : Nat) (s K X : ByteArray) (f d : Bool) (i : Nat) : Value :=
  [.pointer (some ⟨b, 0, none⟩), .pointer (some ⟨b, 0, none⟩), .pointer (some ⟨b, 1, none⟩), .map (some m), .string s, .string K, .tuple #[.agg #[.string X, .bool f], .bool d], .tuple #[.agg #[.string X, .bool f], .bool d], .agg #[.string X, .bool f], .bool d, undef, undef, .bool d].getD i undef
theorem sdD_inj : ∀ i j : Fin 13, sdD i.1 = sdD j.1 → i.1 = j.1 := by decide
theorem sdD_ne : ∀ i : Fin 13, sdD i.1 ≠ 0 ∧ sdD i.1 ≠ 1 ∧ sdD i.1 ≠ 4 ∧ sdD i.1 ≠ 5 := by decide
structure AtD (w0 : World) (b m : Nat) (s K X : ByteArray) (f d : Bool) (i4 : Value) (L : Nat → Bool) (t : Nat → Value) (w : World) : Prop where
  bel : Below w0.heap.size w0 w
  k0 : t 0 = .pointer (some ⟨b, 0, none⟩)
  k1 : t 1 = .string s
  k4 : t 4 = i4
  k5 : t 5 = .bool false
  vs : ∀ i, i < 13 → i ≠ 10 → i ≠ 11 → L i = true → t (sdD i) = sdV b m s K X f d i
  al : L 10 = true → ∃ g, t 6 = .pointer (some ⟨g, 0, none⟩) ∧ w0.heap.size ≤ g ∧ w.heap[g]? = some (.cells (if L 11 then #[.string X, .bool f] else #[.string ⟨#[]⟩, .bool false]) 62 (0, 0))
  dep : L 11 = true → L 10 = true
section
variable {w0 w w' : World} {b m : Nat} {s K X : ByteArray} {f d : Bool} {i4 : Value} {L : Nat → Bool} {t : Nat → Value}
theorem AtD.pure (h : AtD w0 b m s K X f d i4 L t w) (i : Nat) (hi : i < 13) (h10 : i ≠ 10) (h11 : i ≠ 11) : AtD w0 b m s K X f d i4 (tuL L i) (tuT t (sdD i) (sdV b m s K X f d i)) w := by
  obtain ⟨n0, n1, n4, n5⟩ := sdD_ne ⟨i, hi⟩
  have n6 : sdD i ≠ 6 := fun e => h10 (sdD_inj ⟨i, hi⟩ ⟨10, by decide⟩ e)
  refine ⟨h.bel, by rw [tuT_ne _ _ (Ne.symm n0)]; exact h.k0, by rw [tuT_ne _ _ (Ne.symm n1)]; exact h.k1, by rw [tuT_ne _ _ (Ne.symm n4)]; exact h.k4, by rw [tuT_ne _ _ (Ne.symm n5)]; exact h.k5, fun j hj j10 j11 hl => ?_, fun hl => ?_, fun hl => ?_⟩
  · by_cases e : j = i
    · subst e; exact tuT_at _ _ _
    · rw [tuL_ne _ e] at hl
      rw [tuT_ne _ _ (fun e' => e (sdD_inj ⟨j, hj⟩ ⟨i, hi⟩ e'))]
      exact h.vs j hj j10 j11 hl
  · rw [tuL_ne _ (Ne.symm h10)] at hl
    rw [tuT_ne _ _ (Ne.symm n6), tuL_ne _ (Ne.symm h11)]
    exact h.al hl
  · rw [tuL_ne _ (Ne.symm h11)] at hl
    rw [tuL_ne _ (Ne.symm h10)]; exact h.dep hl
theorem AtD.grow (h : AtD w0 b m s K X f d i4 L t w) (hb : Below w.heap.size w w') : AtD w0 b m s K X f d i4 L t w' := by
  refine ⟨h.bel.trans (hb.mono h.bel.size), h.k0, h.k1, h.k4, h.k5, h.vs, fun hl => ?_, h.dep⟩
  obtain ⟨g, h1, h2, h3⟩ := h.al hl
  exact ⟨g, h1, h2, (hb.block g (lt_of_block h3)).trans h3⟩
theorem AtD.alloc (h : AtD w0 b m s K X f d i4 L t w) (hn : L 10 = false) : AtD w0 b m s K X f d i4 (tuL L 10) (tuT t 6 (.pointer (some ⟨w.heap.size, 0, none⟩))) (w.alloc (.cells #[.string ⟨#[]⟩, .bool false] 62)) := by
  refine ⟨h.bel.alloc h.bel.size _, by rw [tuT_ne _ _ (by decide)]; exact h.k0, by rw [tuT_ne _ _ (by decide)]; exact h.k1, by rw [tuT_ne _ _ (by decide)]; exact h.k4, by rw [tuT_ne _ _ (by decide)]; exact h.k5, fun j hj j10 j11 hl => ?_, fun _ => ?_, fun _ => tuL_at _ _⟩
  · rw [tuL_ne _ j10] at hl
    rw [tuT_ne _ _ (fun e' => j10 (sdD_inj ⟨j, hj⟩ ⟨10, by decide⟩ e'))]
    exact h.vs j hj j10 j11 hl
  · refine ⟨_, tuT_at _ _ _, h.bel.size, ?_⟩
    have h11 : L 11 = false := by
      cases hc : L 11 with
      | false => rfl
      | true => rw [h.dep hc] at hn; cases hn
    rw [tuL_ne _ (by decide), h11]
    exact heap_alloc_new w _
theorem AtD.store (h : AtD w0 b m s K X f d i4 L t w) (g : Nat) (h6 : t 6 = .pointer (some ⟨g, 0, none⟩)) (hg : w0.heap.size ≤ g) (hw : ∃ cs, w.heap[g]? = some (.cells cs 62 (0, 0))) (h10 : L 10 = true) : AtD w0 b m s K X f d i4 (tuL L 11) t (w.setRow g #[.string X, .bool f]) := by
  obtain ⟨cs, hw⟩ := hw
  refine ⟨⟨by show w.os = _; exact h.bel.os, by show w.tape = _; exact h.bel.tape, by show w.output = _; exact h.bel.output, by have := h.bel.size; simpa [World.setRow] using this, fun j hj => by rw [setRow_other w g j _ (by omega)]; exact h.bel.block j hj⟩, h.k0, h.k1, h.k4, h.k5, fun j hj j10 j11 hl => ?_, fun _ => ?_, fun _ => ?_⟩
  · rw [tuL_ne _ j11] at hl
    exact h.vs j hj j10 j11 hl
  · refine ⟨g, h6, hg, ?_⟩
    rw [tuL_at, if_pos rfl]
    exact setRow_heap w g cs _ _ _ hw
  · rw [tuL_ne _ (by decide)]; exact h10
end
def frD (t : Nat → Value) : Act := ⟨#[t 0, t 1, t 2, t 3, t 4, t 5, t 6, t 7, t 8, t 9, t 10, t 11, t 12, t 13, t 14, t 15, t 16, t 17, t 18, t 19], []⟩
theorem load_told (w : World) (g o : Nat) (v : Value) (h : w.cell? ⟨g, o, none⟩ = some v) : (Instr.loadAt 42 (.pointer (some ⟨g, o, none⟩))).run Tryd.prog w = .ok v w := by
  simp [Instr.loadAt, Instr.sureAddr, loadVar, Sem.run_bind, go_sem, h]
theorem alloc_told (w : World) : (Instr.alloc 62 true (.tuple #[])).run Tryd.prog w = .ok (.pointer (some ⟨w.heap.size, 0, none⟩)) (w.alloc (.cells #[.string ⟨#[]⟩, .bool false] 62)) := by kernel_rfl
theorem field_told (b : Nat) (w : World) : (Instr.fieldAt 44 (.pointer (some ⟨b, 0, none⟩)) 1).run Tryd.prog w = .ok (.pointer (some ⟨b, 1, none⟩)) w := by kernel_rfl
set_option maxRecDepth 100000 in
set_option maxHeartbeats 2000000 in
theorem said_any (b m : Nat) (l : List UInt8) (T : List TsE) (s : ByteArray) (w : World) (h : RsAt w b m l) (hm : MapAt w m T) (hu : UniqT T) (hs : s.size ≤ maxLen) :
    Calls Tryd.prog 35 #[.pointer (some ⟨b, 0, none⟩), .string s] w fun e w' =>
      e = .returned (.tuple #[sayV ((sayT (s.data.toList.map low) T).getD (false, [])), .bool (sayT (s.data.toList.map low) T).isSome]) ∧ Below w.heap.size w w' := by
  have HL := Lib.hid fun w => Lower_any s w hs
  obtain ⟨K, HK⟩ : ∃ K, Hid (lowS s = K) := ⟨_, Lib.hid rfl⟩
  obtain ⟨V, HV⟩ : ∃ V, Hid ((sayT (s.data.toList.map low) T).getD (false, []) = V) := ⟨_, Lib.hid rfl⟩
  obtain ⟨d, Hd⟩ : ∃ d, Hid ((sayT (s.data.toList.map low) T).isSome = d) := ⟨_, Lib.hid rfl⟩
  have HG : Hid (∀ w : World, MapAt w m T → (Instr.lookup 42 (.map (some m)) (.string K) true).run Tryd.prog w = .ok (.tuple #[sayV V, .bool d]) w) := Lib.hid fun w h => by
    rw [← HK.out, ← HV.out, ← Hd.out]; exact h.get hu _
  rw [HK.out] at HL
  rw [HV.out, Hd.out]
  obtain ⟨t, f, rfl⟩ : ∃ t f, V = (f, t) := ⟨_, _, rfl⟩
  obtain ⟨X, HX⟩ : ∃ X, Hid (asB t = X) := ⟨_, Lib.hid rfl⟩
  have hsv : sayV (f, t) = .agg #[.string X, .bool f] := by rw [← HX.out]; rfl
  rw [hsv] at HG ⊢
  obtain ⟨W0, HW0⟩ : ∃ W, Hid (w.alloc (.cells #[.string ⟨#[]⟩, .bool false] 62) = W) := ⟨_, Lib.hid rfl⟩
  have HB0 : Hid (Below w.heap.size w W0) := Lib.hid (by rw [← HW0.out]; exact (Below.refl _ _).alloc (Nat.le_refl _) _)
  have HR0 : Hid (RsAt W0 b m l) := Lib.hid (h.below HB0.out)
  have HM0 : Hid (MapAt W0 m T) := Lib.hid (hm.below HB0.out)
  have HZ0 : Hid (W0.heap[w.heap.size]? = some (.cells #[.string ⟨#[]⟩, .bool false] 62 (0, 0))) := Lib.hid (by rw [← HW0.out]; exact heap_alloc_new w _)
  clear h hm hs hu hsv
  go_enter Tryd.func35, Tryd.ntmps35
  go_wp2_with fail
  rw [HW0.out]
  refine wp_region_inv2 (by kernel_rfl) (fun listed a w' => ∃ t : Nat → Value, a = frD t ∧ AtD W0 b m s K X f d (.pointer (some ⟨w.heap.size, 0, none⟩)) (fun k => listed.getD k false) t w') (tsLex_spec (by kernel_rfl)) ?_ ?_ ?_
  · refine ⟨fun k => if k = 0 then .pointer (some ⟨b, 0, none⟩) else if k = 1 then .string s else if k = 4 then .pointer (some ⟨w.heap.size, 0, none⟩) else if k = 5 then .bool false else undef, rfl, (Below.refl _ _).drew, rfl, rfl, rfl, rfl, fun i _ _ _ h => ?_, fun h => ?_, fun h => ?_⟩
    all_goals simp only [Array.getD_eq_getD_getElem?, Array.getElem?_replicate] at h
    all_goals (split at h <;> simp at h)
  · intro listed a w' i hsz hI hi
    obtain ⟨t, rfl, hA⟩ := hI
    obtain ⟨hlt, hf, o, ho, haft⟩ := ready_iff.1 hi
    have hlt' : i < 13 := hlt
    have hs' : listed.size = 13 := hsz
    have hup := tget_up listed i (by omega)
    have hf' : listed.getD i false = false := by
      rw [Array.getD_eq_getD_getElem?, Array.getElem?_eq_getElem (by omega)] at hf ⊢
      exact hf
    have hr := HR0.out.below hA.bel
    have hmm := HM0.out.below hA.bel
    rcases (show i = 0 ∨ i = 1 ∨ i = 2 ∨ i = 3 ∨ i = 4 ∨ i = 5 ∨ i = 6 ∨ i = 7 ∨ i = 8 ∨ i = 9 ∨ i = 10 ∨ i = 11 ∨ i = 12 by omega) with rfl | rfl | rfl | rfl | rfl | rfl | rfl | rfl | rfl | rfl | rfl | rfl | rfl
    all_goals (obtain rfl := Option.some.inj ho)
    · refine tsOp_of rfl rfl (ts_run (w' := w') (.pointer (some ⟨b, 0, none⟩)) ?_ ⟨tuT t 9 _, rfl, ?_⟩)
      · simp [execOp, frD, Act.eval, hA.k0]
      · rw [hup]; exact hA.pure 0 (by decide) (by decide) (by decide)
    · have h0 : t 9 = .pointer (some ⟨b, 0, none⟩) := hA.vs 0 (by decide) (by decide) (by decide) (haft ⟨0, .data⟩ (by simp) rfl)
      refine tsOp_of rfl rfl (ts_run (w' := w') (.pointer (some ⟨b, 0, none⟩)) ?_ ⟨tuT t 10 _, rfl, ?_⟩)
      · simp [execOp, frD, Act.eval, h0]
      · rw [hup]; exact hA.pure 1 (by decide) (by decide) (by decide)
    · have h1 : t 10 = .pointer (some ⟨b, 0, none⟩) := hA.vs 1 (by decide) (by decide) (by decide) (haft ⟨1, .data⟩ (by simp) rfl)
      refine tsOp_of rfl rfl (ts_run (w' := w') (.pointer (some ⟨b, 1, none⟩)) ?_ ⟨tuT t 11 _, rfl, ?_⟩)
      · simp [execOp, frD, Act.eval, h1, field_told]
      · rw [hup]; exact hA.pure 2 (by decide) (by decide) (by decide)
    · have h2 : t 11 = .pointer (some ⟨b, 1, none⟩) := hA.vs 2 (by decide) (by decide) (by decide) (haft ⟨2, .data⟩ (by simp) rfl)
      refine tsOp_of rfl rfl (ts_run (w' := w') (.map (some m)) ?_ ⟨tuT t 12 _, rfl, ?_⟩)
      · simp [execOp, frD, Act.eval, h2, load_told w' b 1 _ hr.c1]
      · rw [hup]; exact hA.pure 3 (by decide) (by decide) (by decide)
    · refine tsOp_of rfl rfl (ts_run (w' := w') (.string s) ?_ ⟨tuT t 13 _, rfl, ?_⟩)
      · simp [execOp, frD, Act.eval, hA.k1]
      · rw [hup]; exact hA.pure 4 (by decide) (by decide) (by decide)
    · have h4 : t 13 = .string s := hA.vs 4 (by decide) (by decide) (by decide) (haft ⟨4, .data⟩ (by simp) rfl)
      refine tsOp_of rfl rfl (ts_call rfl h4 (by kernel_rfl) ((HL.out w').mono ?_))
      rintro e w2 ⟨rfl, hb⟩
      refine ⟨_, rfl, tuT t 14 _, rfl, ?_⟩
      rw [hup]; exact (hA.grow hb).pure 5 (by decide) (by decide) (by decide)
    · have h3 : t 12 = .map (some m) := hA.vs 3 (by decide) (by decide) (by decide) (haft ⟨3, .data⟩ (by simp) rfl)
      have h5 : t 14 = .string K := hA.vs 5 (by decide) (by decide) (by decide) (haft ⟨5, .data⟩ (by simp) rfl)
      refine tsOp_of rfl rfl (ts_run (w' := w') (.tuple #[.agg #[.string X, .bool f], .bool d]) ?_ ⟨tuT t 15 _, rfl, ?_⟩)
      · simp [execOp, frD, Act.eval, h3, h5, HG.out w' hmm]
      · rw [hup]; exact hA.pure 6 (by decide) (by decide) (by decide)
    · have h6 : t 15 = .tuple #[.agg #[.string X, .bool f], .bool d] := hA.vs 6 (by decide) (by decide) (by decide) (haft ⟨6, .data⟩ (by simp) rfl)
      refine tsOp_of rfl rfl (ts_run (w' := w') (.tuple #[.agg #[.string X, .bool f], .bool d]) ?_ ⟨tuT t 8 _, rfl, ?_⟩)
      · simp [execOp, frD, Act.eval, h6]
      · rw [hup]; exact hA.pure 7 (by decide) (by decide) (by decide)
    · have h7 : t 8 = .tuple #[.agg #[.string X, .bool f], .bool d] := hA.vs 7 (by decide) (by decide) (by decide) (haft ⟨7, .data⟩ (by simp) rfl)
      refine tsOp_of rfl rfl (ts_run (w' := w') (.agg #[.string X, .bool f]) ?_ ⟨tuT t 16 _, rfl, ?_⟩)
      · simp [execOp, frD, Act.eval, h7, Instr.extract]
      · rw [hup]; exact hA.pure 8 (by decide) (by decide) (by decide)
    · have h7 : t 8 = .tuple #[.agg #[.string X, .bool f], .bool d] := hA.vs 7 (by decide) (by decide) (by decide) (haft ⟨7, .data⟩ (by simp) rfl)
      refine tsOp_of rfl rfl (ts_run (w' := w') (.bool d) ?_ ⟨tuT t 17 _, rfl, ?_⟩)
      · simp [execOp, frD, Act.eval, h7, Instr.extract]
      · rw [hup]; exact hA.pure 9 (by decide) (by decide) (by decide)
    · refine tsOp_of rfl rfl (ts_run (w' := w'.alloc (.cells #[.string ⟨#[]⟩, .bool false] 62)) (.pointer (some ⟨w'.heap.size, 0, none⟩)) ?_ ⟨tuT t 6 _, rfl, ?_⟩)
      · have := alloc_told w'
        simp [execOp, this]
      · rw [hup]; exact hA.alloc hf'
    · have h8 : t 16 = .agg #[.string X, .bool f] := hA.vs 8 (by decide) (by decide) (by decide) (haft ⟨8, .data⟩ (by simp) rfl)
      have hl10 : listed.getD 10 false = true := haft ⟨10, .data⟩ (by simp) rfl
      obtain ⟨g, h6, hg, hw⟩ := hA.al hl10
      refine tsOp_of rfl rfl (wp_store_row _ _ _ rfl g #[.string X, .bool f] h6 h8 _ _ hw infoSay (by split <;> rfl) (by simp [Value.oneCell']) ⟨t, rfl, ?_⟩)
      rw [hup]; exact hA.store g h6 hg ⟨_, hw⟩ hl10
    · have h9 : t 17 = .bool d := hA.vs 9 (by decide) (by decide) (by decide) (haft ⟨9, .data⟩ (by simp) rfl)
      refine tsOp_of rfl rfl (ts_run (w' := w') (.bool d) ?_ ⟨tuT t 7 _, rfl, ?_⟩)
      · simp [execOp, frD, Act.eval, h9]
      · rw [hup]; exact hA.pure 12 (by decide) (by decide) (by decide)
  · intro listed a w' hall hI
    obtain ⟨t, rfl, hA⟩ := hI
    have hL : ∀ k, k < 13 → listed.getD k false = true := fun k hk => hall k hk
    have h12 : t 7 = .bool d := hA.vs 12 (by decide) (by decide) (by decide) (hL 12 (by decide))
    obtain ⟨g, h6, hg, hw⟩ := hA.al (hL 10 (by decide))
    have h4 := hA.k4
    have hl11 : listed.getD 11 false = true := hL 11 (by decide)
    rw [if_pos hl11] at hw
    have HG6 := Lib.hid hw
    have HB := Lib.hid hA.bel
    have HZ : Hid (w'.heap[w.heap.size]? = some (.cells #[.string ⟨#[]⟩, .bool false] 62 (0, 0))) := Lib.hid ((hA.bel.block _ (lt_of_block HZ0.out)).trans HZ0.out)
    have HLt : Hid (w.heap.size < g) := Lib.hid (Nat.lt_of_lt_of_le (lt_of_block HZ0.out) hg)
    obtain ⟨W9, HW9⟩ : ∃ W, Hid (w'.setRow w.heap.size #[.string X, .bool f] = W) := ⟨_, Lib.hid rfl⟩
    have HZ9 : Hid (W9.heap[w.heap.size]? = some (.cells #[.string X, .bool f] 62 (0, 0))) := Lib.hid (by rw [← HW9.out]; exact setRow_heap w' _ _ _ _ _ HZ.out)
    have HB9 : Hid (Below w.heap.size w W9) := Lib.hid (by
      have h := HB0.out.trans (HB.out.mono HB0.out.size)
      rw [← HW9.out]
      exact ⟨by show w'.os = _; exact h.os, by show w'.tape = _; exact h.tape, by show w'.output = _; exact h.output, by have := h.size; simpa [World.setRow] using this, fun j hj => by rw [setRow_other w' _ j _ (by omega)]; exact h.block j hj⟩)
    have HI := Lib.hid infoSay
    unfold frD
    rw [h4, h6, h12]
    clear hall hL hA h4 h6 h12 hl11 hg hw
    go_wp2_with (first
      | (refine wpList_load_row rfl 62 _ rfl g ?_ 62 #[.string X, .bool f] (0, 0) _ ?_ Tryd.underlying62 rfl ?_ ?_; (exact rfl); (exact HG6.out); (exact HI.out))
      | (refine wpL_store_row rfl 62 _ _ rfl w.heap.size #[.string X, .bool f] ?_ ?_ 62 #[.string ⟨#[]⟩, .bool false] ?_ ?_ ?_ ?_ ?_; exact rfl; exact rfl; exact HZ.out; exact HI.out; exact rfl; (simp [Value.oneCell']); rw [HW9.out]))
    exact bodyPost_ret (v := .tuple #[.agg #[.string X, .bool f], .bool d]) (ts_row2 (P := Tryd.prog) Tryd.results35 _ _ w.heap.size _ _ (0, 0) _ rfl HZ9.out Tryd.underlying62 rfl infoSay) rfl ⟨rfl, HB9.out⟩

end Go.Proofs.YthffgnlebljkcaaDoor
