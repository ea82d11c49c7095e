/-
  Package sts: Text; wishes compared; the law's own questions: is, bad.
-/
import Derived.Test.YthffgnlebljkcaaDoorTsG
import Derived.Test.YthffgnlebljkcaaDoorBw
import Derived.Laws.StructEq
import Derived.Lib.ItoaNum
import Derived.Shelf.SlSorted.Search
namespace Go.Proofs.YthffgnlebljkcaaDoor
open Go.RowKit Go.Lib Go.Sort

theorem tab11 {w w' : World} (h : Lib.TabIs Tryd.prog w "internal/strconv.uint64pow10" .u64 Lib.pow10Tab) (k : Below w.heap.size w w') : Lib.TabIs Tryd.prog w' "internal/strconv.uint64pow10" .u64 Lib.pow10Tab := by
  have hg : Tryd.prog.globalNamed "internal/strconv.uint64pow10" = some 0 := by kernel_rfl
  unfold Lib.TabIs World.var? at *
  rw [hg] at h ⊢
  simp only [Option.bind_some] at h ⊢
  have hlt : 0 < w.heap.size := by
    cases hh : w.heap[0]? with
    | none => rw [hh] at h; cases h
    | some o => exact lt_of_block hh
  rw [k.block _ hlt]; exact h
theorem ts_grown (w : World) (k : Nat) (os : Array Obj) : Below w.heap.size w (Go.Sort.grow (w.drewN k) os) := by
  exact below_grown_sl _ w k os (Nat.le_refl _)
theorem itoa11 (n : Int) (h0 : -9223372036854775808 ≤ n) (h1 : n ≤ 9223372036854775807) (w : World) (htab : Lib.TabIs Tryd.prog w "internal/strconv.uint64pow10" .u64 Lib.pow10Tab) :
    Calls Tryd.prog 26 #[.int .i64 n] w fun e w' => e = .returned (.string (asB (Lib.itoa n))) ∧ Below w.heap.size w w' :=
  (Tryd.strconv_Itoa n h0 h1 w htab).mono fun e w' ⟨he, k, os, hw⟩ => ⟨he, by rw [hw]; exact ts_grown w k os⟩
theorem dgs11 (u k : Nat) (h : u < 10 ^ k) (hk : 1 ≤ k) : (Lib.decDigits u).length ≤ k := by
  induction k generalizing u with
  | zero => omega
  | succ k ih =>
    rw [Lib.decDigits]
    split
    · simp
    · rename_i h10
      have hk1 : 1 ≤ k := by
        rcases Nat.eq_zero_or_pos k with rfl | h'
        · simp at h; omega
        · exact h'
      have h2 : u / 10 < 10 ^ k := by
        rw [Nat.pow_succ] at h
        exact Nat.div_lt_of_lt_mul (by omega)
      have := ih (u / 10) h2 hk1
      simp; omega
def preA : List UInt8 := [109, 97, 120, 45, 97, 103, 101, 61]
def sufS : List UInt8 := [59, 32, 105, 110, 99, 108, 117, 100, 101, 83, 117, 98, 68, 111, 109, 97, 105, 110, 115]
/-- A wish's text. -/
def txtW (a : Int) (f : Bool) : List UInt8 := preA ++ Lib.itoa a ++ (if f then sufS else [])
theorem asB_app (a b : List UInt8) : asB a ++ asB b = asB (a ++ b) := by
  apply ByteArray.ext
  apply Array.toList_inj.1
  rw [ByteArray.data_append, Array.toList_append]
  rfl
set_option maxRecDepth 100000 in
set_option maxHeartbeats 1000000 in
theorem Text_bad (a : Int) (f : Bool) (w : World) (h : a < 0 ∨ 2147483647 < a) :
    Calls Tryd.prog 12 #[.agg #[.int .i64 a, .bool f]] w fun e w' => e = .returned (.tuple #[.string ⟨#[]⟩, .int .i64 1]) ∧ Below w.heap.size w w' := by
  by_cases h0 : a < 0
  · have e0 : decide (a < 0) = true := decide_eq_true h0
    clear h
    go_enter Tryd.func12, Tryd.ntmps12
    go_wp2
    go_ret2
    exact ⟨rfl, (Below.refl _ _).alloc (Nat.le_refl _) _⟩
  · have h1 : 2147483647 < a := by omega
    have e0 : decide (a < 0) = false := decide_eq_false h0
    clear h
    go_enter Tryd.func12, Tryd.ntmps12
    go_wp2
    go_ret2
    exact ⟨rfl, (Below.refl _ _).alloc (Nat.le_refl _) _⟩
set_option maxRecDepth 100000 in
set_option maxHeartbeats 1000000 in
theorem Text_good (a : Int) (f : Bool) (w : World) (h0 : 0 ≤ a) (h1 : a ≤ 2147483647) (ht : Lib.TabIs Tryd.prog w "internal/strconv.uint64pow10" .u64 Lib.pow10Tab) :
    Calls Tryd.prog 12 #[.agg #[.int .i64 a, .bool f]] w fun e w' => e = .returned (.tuple #[.string (asB (txtW a f)), .int .i64 0]) ∧ Below w.heap.size w w' := by
  have hb : Below w.heap.size w (w.alloc (.cells #[.int .i64 a, .bool f] 24)) := (Below.refl _ _).alloc (Nat.le_refl _) _
  have HI := Lib.hid (itoa11 a (by omega) (by omega) _ (tab11 ht hb))
  have HB := Lib.hid hb
  have HG : Hid ((w.alloc (.cells #[.int .i64 a, .bool f] 24)).heap[w.heap.size]? = some (.cells #[.int .i64 a, .bool f] 24 (0, 0))) := Lib.hid (heap_alloc_new w _)
  have hlen : (Lib.itoa a).length ≤ 10 := by
    unfold Lib.itoa
    rw [if_neg (by omega)]
    exact dgs11 _ 10 (by omega) (by decide)
  have hp : (⟨#[109, 97, 120, 45, 97, 103, 101, 61]⟩ : ByteArray) ++ asB (Lib.itoa a) = asB (preA ++ Lib.itoa a) := asB_app preA _
  have hsz : (asB (Lib.itoa a)).size ≤ 10 := hlen
  have hsz2 : (asB (preA ++ Lib.itoa a)).size ≤ 18 := by rw [asB_size, List.length_append]; unfold preA; simp; omega
  obtain ⟨X, HX⟩ : ∃ X, Hid (asB (Lib.itoa a) = X) := ⟨_, Lib.hid rfl⟩
  obtain ⟨Y, HY⟩ : ∃ X, Hid (asB (preA ++ Lib.itoa a) = X) := ⟨_, Lib.hid rfl⟩
  rw [HX.out, HY.out] at hp
  rw [HX.out] at HI hsz
  rw [HY.out] at hsz2
  have hn0 : ¬ a < 0 := by omega
  have hn1 : ¬ 2147483647 < a := by omega
  have e0 : decide (a < 0) = false := decide_eq_false hn0
  have e1 : decide (2147483647 < a) = false := decide_eq_false hn1
  clear ht hlen hb
  cases f with
  | false =>
    have HE : Hid (asB (txtW a false) = Y) := Lib.hid (by rw [← HY.out]; unfold txtW; simp)
    rw [HE.out]
    go_enter Tryd.func12, Tryd.ntmps12
    go_wp2_with fail
    refine HI.out.mono ?_
    rintro e w1 ⟨rfl, hb⟩
    have hg : w1.heap[w.heap.size]? = some (.cells #[.int .i64 a, .bool false] 24 (0, 0)) := (hb.block _ (by simp)).trans HG.out
    have c1 : w1.cell? ⟨w.heap.size, 1, none⟩ = some (.bool false) := by rw [cell_of_row w1 _ 1 _ _ _ hg]; rfl
    have HB1 := Lib.hid (HB.out.trans (hb.mono HB.out.size))
    clear hb hg
    go_wp2
    go_ret2
    exact ⟨rfl, HB1.out⟩
  | true =>
    have HE : Hid (asB (txtW a true) = Y ++ ⟨#[59, 32, 105, 110, 99, 108, 117, 100, 101, 83, 117, 98, 68, 111, 109, 97, 105, 110, 115]⟩) := Lib.hid (by rw [← HY.out]; exact (asB_app (preA ++ Lib.itoa a) sufS).symm)
    rw [HE.out]
    go_enter Tryd.func12, Tryd.ntmps12
    go_wp2_with fail
    refine HI.out.mono ?_
    rintro e w1 ⟨rfl, hb⟩
    have hg : w1.heap[w.heap.size]? = some (.cells #[.int .i64 a, .bool true] 24 (0, 0)) := (hb.block _ (by simp)).trans HG.out
    have c1 : w1.cell? ⟨w.heap.size, 1, none⟩ = some (.bool true) := by rw [cell_of_row w1 _ 1 _ _ _ hg]; rfl
    have HB1 := Lib.hid (HB.out.trans (hb.mono HB.out.size))
    clear hb hg
    go_wp2
    go_ret2
    exact ⟨rfl, HB1.out⟩

/-- Wishes compared. -/
theorem tc_part {t : TypeId} {xs : Array Value} {i : Nat} {v : Value} (w : World) (ha : (isAgg t).run Tryd.prog w = .ok false w) (hv : xs[i]? = some v) : (part t xs i).run Tryd.prog w = .ok v w := by
  simp [part, Sem.run_bind, ha, Result.andThen, hv]
theorem fieldsW : (Tryd.prog.fieldsOf 24).toList.map (fun f => (f.name == "_", f.type, f.offset)) = [(false, 3, 0), (false, 4, 1)] := by kernel_rfl
theorem tc_eqcons (d : Nat) (xs ys : Array Value) (w : World) (f : Field) (fs : List Field) (hn : (f.name == "_") = false) (ha : (isAgg f.type).run Tryd.prog w = .ok false w) (x y : Value) (hx : xs[f.offset]? = some x) (hy : ys[f.offset]? = some y) (b : Bool) (he : (Op.equalIn d f.type x y).run Tryd.prog w = .ok b w) :
    (Op.eqFields d xs ys (f :: fs)).run Tryd.prog w = if b then (Op.eqFields d xs ys fs).run Tryd.prog w else .ok false w := by
  have h1 := tc_part w ha hx
  have h2 := tc_part w ha hy
  have hn' : f.name ≠ "_" := by simpa using hn
  cases b <;> simp [Op.eqFields, hn', Sem.run_bind, h1, h2, he, Result.andThen]
theorem tc_eqlist (d : Nat) (xs ys : Array Value) (w : World) (e : Nat → Bool) : ∀ (S : List (TypeId × Nat)) (fs : List Field), fs.map (fun f => (f.name == "_", f.type, f.offset)) = S.map (fun p => (false, p.1, p.2)) →
    (∀ q ∈ S, (isAgg q.1).run Tryd.prog w = .ok false w ∧ ∃ x y, xs[q.2]? = some x ∧ ys[q.2]? = some y ∧ (Op.equalIn d q.1 x y).run Tryd.prog w = .ok (e q.2) w) →
    (Op.eqFields d xs ys fs).run Tryd.prog w = .ok (S.all fun p => e p.2) w
  | [], fs, h, _ => by
    obtain rfl : fs = [] := by simpa using h
    simp [Op.eqFields]
  | q :: S, [], h, _ => by cases h
  | q :: S, f :: fs, h, hq => by
    simp only [List.map_cons, List.cons.injEq, Prod.mk.injEq] at h
    obtain ⟨⟨h1, h2, h3⟩, h4⟩ := h
    obtain ⟨ha, x, y, hx, hy, he⟩ := hq q List.mem_cons_self
    rw [tc_eqcons d xs ys w f fs h1 (by rw [h2]; exact ha) x y (by rw [h3]; exact hx) (by rw [h3]; exact hy) (e q.2) (by rw [h2]; exact he), tc_eqlist d xs ys w e S fs h4 (fun p hp => hq p (List.mem_cons_of_mem _ hp))]
    rw [List.all_cons]
    cases e q.2 <;> rfl
def wN (a b : Int) (f g : Bool) : Nat → Bool
  | 0 => a == b
  | _ => f == g
theorem eqInW (a b : Int) (f g : Bool) (w : World) : (Op.equalIn 10000 24 (.agg #[.int .i64 a, .bool f]) (.agg #[.int .i64 b, .bool g])).run Tryd.prog w = .ok (a == b && f == g) w := by
  have hS : Tryd.prog.underlying 24 = some (.struct (Tryd.prog.fieldsOf 24)) := by kernel_rfl
  have hp : Tryd.prog.stoodInHeld 24 = false := by kernel_rfl
  have hi : (isAgg 3).run Tryd.prog w = .ok false w := by go_simp
  have hb : (isAgg 4).run Tryd.prog w = .ok false w := by go_simp
  rw [show (10000 : Nat) = 9998 + 1 + 1 from rfl, run_equalIn_struct w (9998 + 1) 24 _ _ hS hp]
  rw [tc_eqlist (9998 + 1) _ _ w (wN a b f g) [(3, 0), (4, 1)] _ fieldsW (fun q hq => by
    simp only [List.mem_cons, List.not_mem_nil, or_false] at hq
    rcases hq with rfl | rfl
    · exact ⟨hi, _, _, rfl, rfl, run_equalIn_int w 9998 3 .i64 .i64 _ _ Tryd.underlying3⟩
    · exact ⟨hb, _, _, rfl, rfl, run_equalIn_bool w 9998 4 _ _ Tryd.underlying4⟩)]
  simp only [List.all_cons, List.all_nil, Bool.and_true, wN]
theorem eqW (a b : Int) (f g : Bool) (w : World) : (binOp .eql 24 (.agg #[.int .i64 a, .bool f]) (.agg #[.int .i64 b, .bool g])).run Tryd.prog w = .ok (.bool (a == b && f == g)) w := by
  rw [run_eql_struct, eqInW]; rfl
theorem gd_W (op : BinOp) (x y : Operand) (xs ys : Array Value) (w : World) : (eqGuard op 24 x y (.agg xs) (.agg ys)).run Tryd.prog w = .ok () w := run_eqGuard_agg _ _ _ _ _ _ _ (by kernel_rfl)
theorem tcW_step {P : Program} {ops : Array Oper} {Q : Exit → Act → World → Prop} {a : Act} {w : World} {rest : List Oper} {o : Oper} (hw : Region.wanted o (yielded ops a.tmps) = true)
    (h : ∀ K : Act → World → Prop, (∀ a w, wpList P ops Q rest a w → K a w) → o.wp P a w K Q) : wpList P ops Q (o :: rest) a w :=
  wpList_step fun K hK => by rw [if_pos hw]; exact h K hK
/-- A row is read, guarded or not; its value hidden. -/
theorem tcW_load {P : Program} {ops : Array Oper} {rest : List Oper} {o : Oper} {a : Act} {w : World} {Q : Exit → Act → World → Prop} (hw : Region.wanted o (yielded ops a.tmps) = true) (ty : TypeId) (x : Operand) (ho : o.op = .load ty x)
    (g : Nat) (hx : a.eval x = .pointer (some ⟨g, 0, none⟩)) (t : TypeId) (cs : Array Value) (fr : Nat × Nat) (d : TypeDesc) (hg : w.heap[g]? = some (.cells cs t fr))
    (hu : P.underlying ty = some d) (hd : (match d with | .struct _ | .array _ _ => true | _ => false) = true) (hi : (P.info? ty).map (·.size) = some cs.size) (V : Value) (hV : Value.agg cs = V)
    (h : wpList P ops Q rest (a.put o.dst V) w) : wpList P ops Q (o :: rest) a w :=
  tcW_step hw fun _ hK => wp_load_row ty x ho g hx t cs fr d hg hu hd hi (hK _ _ (by rw [hV]; exact h))
theorem tcW_bin {P : Program} {ops : Array Oper} {rest : List Oper} {o : Oper} {a : Act} {w : World} {Q : Exit → Act → World → Prop} (hw : Region.wanted o (yielded ops a.tmps) = true) (b : BinOp) (t t2 : TypeId) (x y : Operand) (ho : o.op = .binOp b t x y t2) (v : Value)
    (hg : (eqGuard b t x y (a.eval x) (a.eval y)).run P w = .ok () w) (hr : (binOp b t (a.eval x) (a.eval y)).run P w = .ok v w) (h : wpList P ops Q rest (a.put o.dst v) w) : wpList P ops Q (o :: rest) a w :=
  tcW_step hw fun _ hK => by
    unfold Oper.wp
    have e : (execOp a.eval o).run P w = .ok (.value v) w := by
      simp [execOp, ho, hg, hr, Result.andThen]
    rw [e, Oper.upon_value]
    exact hK _ _ h
/-- Does a text wish that? Is it refused? -/
def isW (s : ByteArray) (a : Int) (f : Bool) : Bool := (prsW s).2 == 0 && ((prsW s).1.1 == a && (prsW s).1.2 == f)
def badW (s : ByteArray) : Bool := (prsW s).2 == 4 && ((prsW s).1.1 == 0 && (prsW s).1.2 == false)
set_option maxRecDepth 100000 in
set_option maxHeartbeats 2000000 in
theorem is_any (s : ByteArray) (a : Int) (f : Bool) (w : World) :
    Calls Tryd.prog 16 #[.string s, .int .i64 a, .bool f] w fun e w' => e = .returned (.bool (isW s a f)) ∧ Below w.heap.size w w' := by
  have HP := Lib.hid (tsParse_any s w)
  have HI := Lib.hid infoWish
  have HR : Hid (isW s a f = ((prsW s).2 == 0 && ((prsW s).1.1 == a && (prsW s).1.2 == f))) := Lib.hid rfl
  obtain ⟨R, HRR⟩ : ∃ R, Hid (isW s a f = R) := ⟨_, Lib.hid rfl⟩
  rw [HRR.out] at HR ⊢
  obtain ⟨U, HU⟩ : ∃ U, Hid (prsW s = U) := ⟨_, Lib.hid rfl⟩
  rw [HU.out] at HP HR
  obtain ⟨⟨x, g⟩, c⟩ := U
  have HE := Lib.hid fun w => eqW x a g f w
  have HGd := Lib.hid fun w => gd_W .eql (.tmp 17) (.tmp 20) #[.int .i64 x, .bool g] #[.int .i64 a, .bool f] w
  obtain ⟨V, HV⟩ : ∃ V, Hid (Value.agg #[.int .i64 x, .bool g] = V) := ⟨_, Lib.hid rfl⟩
  obtain ⟨B, HB⟩ : ∃ B, Hid ((x == a && g == f) = B) := ⟨_, Lib.hid rfl⟩
  rw [HV.out, HB.out] at HE
  rw [HV.out] at HGd
  have HR : Hid (R = (c == 0 && B)) := Lib.hid (by rw [HR.out, ← HB.out])
  have HZ : Hid (∀ w1 : World, (w1.alloc (.cells #[.int .i64 x, .bool g] 24)).heap[w1.heap.size]? = some (.cells #[.int .i64 x, .bool g] 24 (0, 0))) := Lib.hid fun w1 => heap_alloc_new w1 _
  by_cases hc : c = 0
  · subst hc
    have HR0 : Hid (R = B) := Lib.hid (by rw [HR.out]; simp)
    go_enter Tryd.func16, Tryd.ntmps16
    go_wp2_with fail
    refine HP.out.mono ?_
    rintro e w1 ⟨rfl, hb⟩
    have HB1 := Lib.hid hb
    have hgd := HGd.out
    have hne := HE.out
    clear hb
    go_wp2_with (first
      | (refine tcW_load rfl 24 _ rfl w1.heap.size ?_ 24 #[.int .i64 x, .bool g] (0, 0) _ ?_ Tryd.underlying24 rfl ?_ V HV.out ?_; (exact rfl); (exact HZ.out w1); (exact HI.out)))
    go_ret
    exact ⟨by rw [HR0.out]; rfl, HB1.out.alloc HB1.out.size _⟩
  · have hc1 : (c == 0) = false := beq_eq_false_iff_ne.2 hc
    have HR0 : Hid (R = false) := Lib.hid (by rw [HR.out, hc1]; rfl)
    clear hc
    go_enter Tryd.func16, Tryd.ntmps16
    go_wp2_with fail
    refine HP.out.mono ?_
    rintro e w1 ⟨rfl, hb⟩
    have HB1 := Lib.hid hb
    clear hb
    go_wp2_with fail
    go_ret
    exact ⟨by rw [HR0.out]; rfl, HB1.out.alloc HB1.out.size _⟩
set_option maxRecDepth 100000 in
set_option maxHeartbeats 2000000 in
theorem bad_any (s : ByteArray) (w : World) :
    Calls Tryd.prog 19 #[.string s] w fun e w' => e = .returned (.bool (badW s)) ∧ Below w.heap.size w w' := by
  have HP := Lib.hid (tsParse_any s w)
  have HI := Lib.hid infoWish
  have HR : Hid (badW s = ((prsW s).2 == 4 && ((prsW s).1.1 == 0 && (prsW s).1.2 == false))) := Lib.hid rfl
  obtain ⟨R, HRR⟩ : ∃ R, Hid (badW s = R) := ⟨_, Lib.hid rfl⟩
  rw [HRR.out] at HR ⊢
  obtain ⟨U, HU⟩ : ∃ U, Hid (prsW s = U) := ⟨_, Lib.hid rfl⟩
  rw [HU.out] at HP HR
  obtain ⟨⟨x, g⟩, c⟩ := U
  have HE := Lib.hid fun w => eqW x 0 g false w
  have HGd := Lib.hid fun w => gd_W .eql (.tmp 13) (.tmp 14) #[.int .i64 x, .bool g] #[.int .i64 0, .bool false] w
  obtain ⟨V, HV⟩ : ∃ V, Hid (Value.agg #[.int .i64 x, .bool g] = V) := ⟨_, Lib.hid rfl⟩
  obtain ⟨B, HB⟩ : ∃ B, Hid ((x == 0 && g == false) = B) := ⟨_, Lib.hid rfl⟩
  rw [HV.out, HB.out] at HE
  rw [HV.out] at HGd
  have HR : Hid (R = (c == 4 && B)) := Lib.hid (by rw [HR.out, ← HB.out])
  have HZ : Hid (∀ w1 : World, (w1.alloc (.cells #[.int .i64 x, .bool g] 24)).heap[w1.heap.size]? = some (.cells #[.int .i64 x, .bool g] 24 (0, 0))) := Lib.hid fun w1 => heap_alloc_new w1 _
  by_cases hc : c = 4
  · subst hc
    have HR0 : Hid (R = B) := Lib.hid (by rw [HR.out]; simp)
    go_enter Tryd.func19, Tryd.ntmps19
    go_wp2_with fail
    refine HP.out.mono ?_
    rintro e w1 ⟨rfl, hb⟩
    have HB1 := Lib.hid hb
    have hgd := HGd.out
    have hne := HE.out
    clear hb
    go_wp2_with (first
      | (refine tcW_load rfl 24 _ rfl w1.heap.size ?_ 24 #[.int .i64 x, .bool g] (0, 0) _ ?_ Tryd.underlying24 rfl ?_ V HV.out ?_; (exact rfl); (exact HZ.out w1); (exact HI.out)))
    go_ret
    exact ⟨by rw [HR0.out]; rfl, HB1.out.alloc HB1.out.size _⟩
  · have hc1 : (c == 4) = false := beq_eq_false_iff_ne.2 hc
    have HR0 : Hid (R = false) := Lib.hid (by rw [HR.out, hc1]; rfl)
    clear hc
    go_enter Tryd.func19, Tryd.ntmps19
    go_wp2_with fail
    refine HP.out.mono ?_
    rintro e w1 ⟨rfl, hb⟩
    have HB1 := Lib.hid hb
    clear hb
    go_wp2_with fail
    go_ret
    exact ⟨by rw [HR0.out]; rfl, HB1.out.alloc HB1.out.size _⟩

end Go.Proofs.YthffgnlebljkcaaDoor
