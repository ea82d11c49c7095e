/-
  Package setcookie: the map of what an attribute says, by its name.
-/
import Derived.Test.YtllpdnmhabpbcaaGreatDoorInv
import Derived.Test.YtllpdnmhabpbcaaGreatDoorScM
import Derived.KernelRfl
namespace Go.Proofs.YtllpdnmhabpbcaaGreatDoor
open Go.RowKit

theorem wpOp_of {P : Program} {ops : Array Oper} {Q : Exit → Act → World → Prop} {i : Nat} {K : Act → World → Prop} {a : Act} {w : World} {o : Oper} (ho : ops[i]? = some o) (hg : o.guard = none) (h : o.wp P a w K Q) : wpOp P ops Q i K a w := by
  unfold wpOp
  simp only [ho, Region.wanted, hg]
  exact .inl h
theorem wp_makeMap {P : Program} {Q : Exit → Act → World → Prop} {K : Act → World → Prop} {a : Act} {w : World} {o : Oper} {t : TypeId} (ho : o.op = .makeMap t none) (h : K (a.put o.dst (.map (some w.heap.size))) (w.alloc (.map #[] 0))) : o.wp P a w K Q := by
  unfold Oper.wp
  simp [execOp, ho, run_makeMap, Result.andThen, Oper.upon]
  exact h
theorem wp_insert {P : Program} {Q : Exit → Act → World → Prop} {K : Act → World → Prop} {a : Act} {w w' : World} {o : Oper} {t : TypeId} {m k x : Operand} (ho : o.op = .insert t m k x) (hr : (Instr.mapUpdate t (a.eval m) (a.eval k) (a.eval x)).run P w = .ok () w')
    (h : ∀ v, K (a.put o.dst v) w') : o.wp P a w K Q := by
  unfold Oper.wp
  simp [execOp, ho, hr, Result.andThen, Oper.upon]
  exact h _
theorem wp_move {P : Program} {Q : Exit → Act → World → Prop} {K : Act → World → Prop} {a : Act} {w : World} {o : Oper} {x : Operand} (ho : o.op = .move x) (h : K (a.put o.dst (a.eval x)) w) : o.wp P a w K Q := by
  unfold Oper.wp
  simp [execOp, ho, Oper.upon]
  exact h
theorem wp_assign {P : Program} {Q : Exit → Act → World → Prop} {K : Act → World → Prop} {a : Act} {w : World} {o : Oper} {x : Operand} (ho : o.op = .assign x) (h : K (a.put o.dst (a.eval x)) w) : o.wp P a w K Q := by
  unfold Oper.wp
  simp [execOp, ho, Oper.upon]
  exact h
theorem wp_callf {P : Program} {Q : Exit → Act → World → Prop} {K : Act → World → Prop} {a : Act} {w : World} {o : Oper} {f : FuncId} {s : ByteArray} {ts : Array TypeId} (ho : o.op = .call { callee := .value (.func f), args := #[.const (.string s)], argTypes := ts })
    (he : (callFunc f #[.string s]).run P w = .ok (.enter f #[.string s]) w) (h : Calls P f #[.string s] w fun e w' => ∃ v, e = .returned v ∧ K (a.put o.dst v) w') : o.wp P a w K Q := by
  unfold Oper.wp
  have hr : (execOp a.eval o).run P w = .ok (.enter f #[.string s]) w := by
    simp [execOp, ho, resolve, invoke, Deferred.ofValue, Act.eval, he]
  rw [hr, Oper.upon_enter]
  refine h.mono ?_
  rintro e w' ⟨v, rfl, hK⟩
  exact hK


def keyL7 : List (List UInt8) := [kEx, kAg, kDm, kPa, kSe, kHi, kSi]
def keyJ (j : Nat) : ByteArray := asB (keyL7.getD j [])
def fnL7 : List FuncId := [28, 29, 30, 31, 32, 33, 34]
def fnJ (j : Nat) : Value := .func (.func (fnL7.getD j 0)) #[] #[]
theorem key_inj {i j : Nat} (hi : i < 7) (hj : j < 7) (h : keyJ i = keyJ j) : i = j := by
  have h1 : keyL7.getD i [] = keyL7.getD j [] := by have := congrArg (fun b : ByteArray => b.data.toList) h; exact this
  have h2 : ∀ i j : Fin 7, keyL7.getD i.1 [] = keyL7.getD j.1 [] → i.1 = j.1 := by decide
  exact h2 ⟨i, hi⟩ ⟨j, hj⟩ h1
/-- What a map of the seven names holds while it is made. -/
def MapJ (L : Nat → Bool) (r : Nat) (w : World) : Prop :=
  ∃ es c, w.heap[r]? = some (.map es c) ∧ (∀ x ∈ es.toList, ∃ j, j < 7 ∧ L (2 * j + 2) = true ∧ x.key = .string (keyJ j) ∧ x.val = fnJ j) ∧ (∀ j, j < 7 → L (2 * j + 2) = true → ∃ x ∈ es.toList, x.key = .string (keyJ j))
structure AtS (w0 : World) (L : Nat → Bool) (t : Nat → Value) (w : World) : Prop where
  bel : Below w0.heap.size w0 w
  mp : L 0 = true → ∃ r, t 1 = .map (some r) ∧ w0.heap.size ≤ r ∧ MapJ L r w
  ks : ∀ j, j < 7 → L (2 * j + 1) = true → t (j + 2) = .string (keyJ j)
  dep : L 0 = false → (∀ j, j < 7 → L (2 * j + 2) = false) ∧ L 15 = false
  mv : L 15 = true → t 9 = t 1
  sg : L 16 = true → L 15 = true ∧ t 0 = t 1
def upL (L : Nat → Bool) (i k : Nat) : Bool := if k = i then true else L k
def upT (t : Nat → Value) (i : Nat) (v : Value) (k : Nat) : Value := if k = i then v else t k
theorem upL_at (L : Nat → Bool) (i : Nat) : upL L i i = true := if_pos rfl
theorem upL_ne (L : Nat → Bool) {i k : Nat} (h : k ≠ i) : upL L i k = L k := if_neg h
theorem upT_at (t : Nat → Value) (i : Nat) (v : Value) : upT t i v i = v := if_pos rfl
theorem upT_ne (t : Nat → Value) {i k : Nat} (v : Value) (h : k ≠ i) : upT t i v k = t k := if_neg h
theorem getD_up (l : Array Bool) (i : Nat) (h : i < l.size) : (fun k => (l.setIfInBounds i true).getD k false) = upL (fun k => l.getD k false) i := by
  funext k
  unfold upL
  simp only [Array.getD_eq_getD_getElem?, Array.getElem?_setIfInBounds]
  by_cases hk : k = i
  · subst hk; simp [h]
  · rw [if_neg hk, if_neg (Ne.symm hk)]
def frT (t : Nat → Value) : Act := ⟨#[t 0, t 1, t 2, t 3, t 4, t 5, t 6, t 7, t 8, t 9], []⟩
theorem MapJ.of {L L' : Nat → Bool} {r : Nat} {w w' : World} (h : MapJ L r w) (hw : w'.heap[r]? = w.heap[r]?) (hL : ∀ j, j < 7 → L' (2 * j + 2) = L (2 * j + 2)) : MapJ L' r w' := by
  obtain ⟨es, c, h1, h2, h3⟩ := h
  refine ⟨es, c, hw.trans h1, fun x hx => ?_, fun j hj h => h3 j hj (by rw [← hL j hj]; exact h)⟩
  obtain ⟨j, hj, hl, hk⟩ := h2 x hx
  exact ⟨j, hj, by rw [hL j hj]; exact hl, hk⟩
theorem st_make {w0 w : World} {L : Nat → Bool} {t : Nat → Value} (h : AtS w0 L t w) (h0 : L 0 = false) : AtS w0 (upL L 0) (upT t 1 (.map (some w.heap.size))) (w.alloc (.map #[] 0)) := by
  obtain ⟨hd, h15⟩ := h.dep h0
  refine ⟨h.bel.alloc h.bel.size _, fun _ => ⟨_, upT_at _ _ _, h.bel.size, #[], 0, heap_alloc_new w _, (by simp), fun j hj hl => ?_⟩, fun j hj hl => ?_, fun h => ?_, fun hl => ?_, fun hl => ?_⟩
  · rw [upL_ne _ (by omega), hd j hj] at hl; cases hl
  · rw [upL_ne _ (by omega)] at hl
    rw [upT_ne _ _ (by omega)]
    exact h.ks j hj hl
  · rw [upL_at] at h; cases h
  · rw [upL_ne _ (by omega), h15] at hl; cases hl
  · rw [upL_ne _ (by omega)] at hl
    rw [(h.sg hl).1] at h15; cases h15
theorem st_call {w0 w w' : World} {L : Nat → Bool} {t : Nat → Value} (h : AtS w0 L t w) {j : Nat} (hj : j < 7) (hb : Below w.heap.size w w') : AtS w0 (upL L (2 * j + 1)) (upT t (j + 2) (.string (keyJ j))) w' := by
  refine ⟨h.bel.trans (hb.mono h.bel.size), fun hl => ?_, fun i hi hl => ?_, fun hl => ?_, fun hl => ?_, fun hl => ?_⟩
  · rw [upL_ne _ (by omega)] at hl
    obtain ⟨r, h1, h2, h3⟩ := h.mp hl
    refine ⟨r, by rw [upT_ne _ _ (by omega)]; exact h1, h2, h3.of ?_ fun i hi => upL_ne _ (by omega)⟩
    obtain ⟨es, c, hh, _⟩ := h3
    exact hb.block r (by
      rcases Nat.lt_or_ge r w.heap.size with h' | h'
      · exact h'
      · rw [Array.getElem?_eq_none h'] at hh; cases hh)
  · by_cases hij : i = j
    · subst hij; rw [upT_at]
    · rw [upL_ne _ (by omega)] at hl
      rw [upT_ne _ _ (by omega)]; exact h.ks i hi hl
  · rw [upL_ne _ (by omega)] at hl
    obtain ⟨h1, h2⟩ := h.dep hl
    exact ⟨fun i hi => by rw [upL_ne _ (by omega)]; exact h1 i hi, by rw [upL_ne _ (by omega)]; exact h2⟩
  · rw [upL_ne _ (by omega)] at hl
    rw [upT_ne _ _ (by omega), upT_ne _ _ (by omega)]; exact h.mv hl
  · rw [upL_ne _ (by omega)] at hl
    rw [upT_ne _ _ (by omega), upT_ne _ _ (by omega), upL_ne _ (by omega)]; exact h.sg hl
theorem st_ins {w0 w : World} {L : Nat → Bool} {t : Nat → Value} (h : AtS w0 L t w) {j : Nat} (hj : j < 7) (h0 : L 0 = true) (h1 : L (2 * j + 1) = true) (h2 : L (2 * j + 2) = false) :
    ∃ w', (Instr.mapUpdate 49 (t 1) (t (j + 2)) (fnJ j)).run Tryz.prog w = .ok () w' ∧ AtS w0 (upL L (2 * j + 2)) t w' := by
  obtain ⟨r, hr, hge, es, c, hb, hx, hk⟩ := h.mp h0
  rw [hr, h.ks j hj h1]
  have hlt : r < w.heap.size := by
    rcases Nat.lt_or_ge r w.heap.size with h' | h'
    · exact h'
    · rw [Array.getElem?_eq_none h'] at hb; cases hb
  refine ⟨_, run_put_new (fnJ j) Tryz.underlying49 Tryz.underlying9 hb fun x hm => ?_, ⟨h.bel.os, h.bel.tape, h.bel.output, by simp [h.bel.size], fun k hk' => ?_⟩, fun _ => ⟨r, hr, hge, es.push { key := .string (keyJ j), val := fnJ j, born := c }, c + 1, ?_, fun x hm => ?_, fun i hi hl => ?_⟩, fun i hi hl => ?_, fun hl => ?_, fun hl => ?_, fun hl => ?_⟩
  · obtain ⟨i, hi, hli, hki, _⟩ := hx x hm
    refine ⟨_, hki, fun e => ?_⟩
    have := key_inj hi hj e
    subst this
    rw [h2] at hli; cases hli
  · show (w.heap.setIfInBounds r _)[k]? = _
    rw [Array.getElem?_setIfInBounds_ne (by omega)]; exact h.bel.block k hk'
  · show (w.heap.setIfInBounds r _)[r]? = _
    rw [Array.getElem?_setIfInBounds_self_of_lt hlt]
  · rw [Array.toList_push, List.mem_append, List.mem_singleton] at hm
    rcases hm with hm | rfl
    · obtain ⟨i, hi, hli, hki, hvi⟩ := hx x hm
      exact ⟨i, hi, by by_cases e : 2 * i + 2 = 2 * j + 2; · rw [e, upL_at]
                       · rw [upL_ne _ e]; exact hli, hki, hvi⟩
    · exact ⟨j, hj, upL_at _ _, rfl, rfl⟩
  · by_cases e : i = j
    · subst e
      exact ⟨_, by rw [Array.toList_push]; exact List.mem_append_right _ (List.mem_singleton.2 rfl), rfl⟩
    · rw [upL_ne _ (by omega)] at hl
      obtain ⟨x, hm, hxk⟩ := hk i hi hl
      exact ⟨x, by rw [Array.toList_push]; exact List.mem_append_left _ hm, hxk⟩
  · rw [upL_ne _ (by omega)] at hl
    exact h.ks i hi hl
  · rw [upL_ne _ (by omega), h0] at hl; cases hl
  · rw [upL_ne _ (by omega)] at hl
    exact h.mv hl
  · rw [upL_ne _ (by omega)] at hl
    rw [upL_ne _ (by omega)]; exact h.sg hl
theorem st_move {w0 w : World} {L : Nat → Bool} {t : Nat → Value} (h : AtS w0 L t w) (h0 : L 0 = true) : AtS w0 (upL L 15) (upT t 9 (t 1)) w := by
  refine ⟨h.bel, fun hl => ?_, fun i hi hl => ?_, fun hl => ?_, fun _ => ?_, fun hl => ?_⟩
  · obtain ⟨r, h1, h2, h3⟩ := h.mp h0
    exact ⟨r, by rw [upT_ne _ _ (by omega)]; exact h1, h2, h3.of rfl fun i hi => upL_ne _ (by omega)⟩
  · rw [upL_ne _ (by omega)] at hl
    rw [upT_ne _ _ (by omega)]; exact h.ks i hi hl
  · rw [upL_ne _ (by omega), h0] at hl; cases hl
  · rw [upT_at, upT_ne _ _ (by omega)]
  · rw [upL_ne _ (by omega)] at hl
    rw [upT_ne _ _ (by omega), upT_ne _ _ (by omega), upL_at]; exact ⟨rfl, (h.sg hl).2⟩
theorem st_assign {w0 w : World} {L : Nat → Bool} {t : Nat → Value} (h : AtS w0 L t w) (h0 : L 15 = true) : AtS w0 (upL L 16) (upT t 0 (t 9)) w := by
  refine ⟨h.bel, fun hl => ?_, fun i hi hl => ?_, fun hl => ?_, fun hl => ?_, fun hl => ?_⟩
  · rw [upL_ne _ (by omega)] at hl
    obtain ⟨r, h1, h2, h3⟩ := h.mp hl
    exact ⟨r, by rw [upT_ne _ _ (by omega)]; exact h1, h2, h3.of rfl fun i hi => upL_ne _ (by omega)⟩
  · rw [upL_ne _ (by omega)] at hl
    rw [upT_ne _ _ (by omega)]; exact h.ks i hi hl
  · rw [upL_ne _ (by omega)] at hl
    obtain ⟨h1, h2⟩ := h.dep hl
    exact ⟨fun i hi => by rw [upL_ne _ (by omega)]; exact h1 i hi, by rw [upL_ne _ (by omega)]; exact h2⟩
  · rw [upT_ne _ _ (by omega), upT_ne _ _ (by omega)]; exact h.mv h0
  · rw [upT_at, upT_ne _ _ (by omega), upL_ne _ (by omega)]; exact ⟨h0, h.mv h0⟩
/-- A map that holds the seven names and what each says. -/
def Map7 (r : Nat) (w : World) : Prop := MapJ (fun _ => true) r w
def AttrPost (w : World) (e : Ending) (w' : World) : Prop := ∃ r, e = .returned (.map (some r)) ∧ w.heap.size ≤ r ∧ Map7 r w' ∧ Below w.heap.size w w'
def lexBB (ops : Array Oper) : Bool := (List.range ops.size).all fun i => match ops[i]? with | none => true | some o => o.after.all fun e => decide (e.on < i)
theorem lexBB_spec {ops : Array Oper} (h : lexBB ops = true) (i : Nat) (o : Oper) (ho : ops[i]? = some o) : ∀ e ∈ o.after, e.on < i := by
  intro e he
  have hi : i < ops.size := by
    rcases Nat.lt_or_ge i ops.size with h' | h'
    · exact h'
    · rw [Array.getElem?_eq_none h'] at ho; cases ho
  have h1 := List.all_eq_true.1 h i (List.mem_range.2 hi)
  rw [ho] at h1
  simpa using Array.all_eq_true_iff_forall_mem.1 h1 e he

set_option maxHeartbeats 4000000 in
set_option maxRecDepth 100000 in
theorem attributes_any (w : World) : Calls Tryz.prog 18 #[] w (AttrPost w) := by
  go_enter Tryz.func18, Tryz.ntmps18
  go_wp2_with fail
  refine wp_region_inv (by kernel_rfl) (fun listed a w' => ∃ t : Nat → Value, a = frT t ∧ AtS w (fun k => listed.getD k false) t w') (lexBB_spec (by kernel_rfl)) ?_ ?_ ?_
  · refine ⟨fun k => if k = 0 then .map none else undef, rfl, (Below.refl _ _).drew, fun h => ?_, fun j hj h => ?_, fun _ => ⟨fun j hj => ?_, ?_⟩, fun h => ?_, fun h => ?_⟩
    all_goals simp only [Array.getD_eq_getD_getElem?, Array.getElem?_replicate] at *
    all_goals (first | (split at h <;> simp at h) | (split <;> simp))
  · intro listed a w' i hs hI hi
    obtain ⟨t, rfl, hA⟩ := hI
    obtain ⟨hlt, hf, o, ho, haft⟩ := ready_iff.1 hi
    have hlt' : i < 17 := hlt
    have hs' : listed.size = 17 := hs
    have hup := getD_up listed i (by omega)
    have hf' : listed.getD i false = false := by
      rw [Array.getD_eq_getD_getElem?, Array.getElem?_eq_getElem (by omega)] at hf ⊢
      exact hf
    rcases (show i = 0 ∨ i = 1 ∨ i = 2 ∨ i = 3 ∨ i = 4 ∨ i = 5 ∨ i = 6 ∨ i = 7 ∨ i = 8 ∨ i = 9 ∨ i = 10 ∨ i = 11 ∨ i = 12 ∨ i = 13 ∨ i = 14 ∨ i = 15 ∨ i = 16 by omega) with rfl | rfl | rfl | rfl | rfl | rfl | rfl | rfl | rfl | rfl | rfl | rfl | rfl | rfl | rfl | rfl | rfl
    all_goals (obtain rfl := Option.some.inj ho)
    · refine wpOp_of rfl rfl (wp_makeMap rfl ⟨upT t 1 _, rfl, ?_⟩)
      rw [hup]; exact st_make hA hf'
    · refine wpOp_of rfl rfl (wp_callf rfl (by kernel_rfl) ((Lower_any ⟨#[69, 120, 112, 105, 114, 101, 115]⟩ w' (by decide)).mono ?_))
      rintro e w2 ⟨rfl, hb⟩
      have hk : lowS ⟨#[69, 120, 112, 105, 114, 101, 115]⟩ = keyJ 0 := by kernel_rfl
      rw [hk]
      refine ⟨_, rfl, upT t 2 _, rfl, ?_⟩
      rw [hup]; exact st_call hA (j := 0) (by decide) hb
    · obtain ⟨w2, hr, hA'⟩ := st_ins hA (j := 0) (by decide) (haft ⟨0, .data⟩ (by simp) rfl) (haft ⟨1, .data⟩ (by simp) rfl) hf'
      refine wpOp_of rfl rfl (wp_insert rfl hr fun v => ⟨t, rfl, ?_⟩)
      rw [hup]; exact hA'
    · refine wpOp_of rfl rfl (wp_callf rfl (by kernel_rfl) ((Lower_any ⟨#[77, 97, 120, 45, 65, 103, 101]⟩ w' (by decide)).mono ?_))
      rintro e w2 ⟨rfl, hb⟩
      have hk : lowS ⟨#[77, 97, 120, 45, 65, 103, 101]⟩ = keyJ 1 := by kernel_rfl
      rw [hk]
      refine ⟨_, rfl, upT t 3 _, rfl, ?_⟩
      rw [hup]; exact st_call hA (j := 1) (by decide) hb
    · obtain ⟨w2, hr, hA'⟩ := st_ins hA (j := 1) (by decide) (haft ⟨0, .data⟩ (by simp) rfl) (haft ⟨3, .data⟩ (by simp) rfl) hf'
      refine wpOp_of rfl rfl (wp_insert rfl hr fun v => ⟨t, rfl, ?_⟩)
      rw [hup]; exact hA'
    · refine wpOp_of rfl rfl (wp_callf rfl (by kernel_rfl) ((Lower_any ⟨#[68, 111, 109, 97, 105, 110]⟩ w' (by decide)).mono ?_))
      rintro e w2 ⟨rfl, hb⟩
      have hk : lowS ⟨#[68, 111, 109, 97, 105, 110]⟩ = keyJ 2 := by kernel_rfl
      rw [hk]
      refine ⟨_, rfl, upT t 4 _, rfl, ?_⟩
      rw [hup]; exact st_call hA (j := 2) (by decide) hb
    · obtain ⟨w2, hr, hA'⟩ := st_ins hA (j := 2) (by decide) (haft ⟨0, .data⟩ (by simp) rfl) (haft ⟨5, .data⟩ (by simp) rfl) hf'
      refine wpOp_of rfl rfl (wp_insert rfl hr fun v => ⟨t, rfl, ?_⟩)
      rw [hup]; exact hA'
    · refine wpOp_of rfl rfl (wp_callf rfl (by kernel_rfl) ((Lower_any ⟨#[80, 97, 116, 104]⟩ w' (by decide)).mono ?_))
      rintro e w2 ⟨rfl, hb⟩
      have hk : lowS ⟨#[80, 97, 116, 104]⟩ = keyJ 3 := by kernel_rfl
      rw [hk]
      refine ⟨_, rfl, upT t 5 _, rfl, ?_⟩
      rw [hup]; exact st_call hA (j := 3) (by decide) hb
    · obtain ⟨w2, hr, hA'⟩ := st_ins hA (j := 3) (by decide) (haft ⟨0, .data⟩ (by simp) rfl) (haft ⟨7, .data⟩ (by simp) rfl) hf'
      refine wpOp_of rfl rfl (wp_insert rfl hr fun v => ⟨t, rfl, ?_⟩)
      rw [hup]; exact hA'
    · refine wpOp_of rfl rfl (wp_callf rfl (by kernel_rfl) ((Lower_any ⟨#[83, 101, 99, 117, 114, 101]⟩ w' (by decide)).mono ?_))
      rintro e w2 ⟨rfl, hb⟩
      have hk : lowS ⟨#[83, 101, 99, 117, 114, 101]⟩ = keyJ 4 := by kernel_rfl
      rw [hk]
      refine ⟨_, rfl, upT t 6 _, rfl, ?_⟩
      rw [hup]; exact st_call hA (j := 4) (by decide) hb
    · obtain ⟨w2, hr, hA'⟩ := st_ins hA (j := 4) (by decide) (haft ⟨0, .data⟩ (by simp) rfl) (haft ⟨9, .data⟩ (by simp) rfl) hf'
      refine wpOp_of rfl rfl (wp_insert rfl hr fun v => ⟨t, rfl, ?_⟩)
      rw [hup]; exact hA'
    · refine wpOp_of rfl rfl (wp_callf rfl (by kernel_rfl) ((Lower_any ⟨#[72, 116, 116, 112, 79, 110, 108, 121]⟩ w' (by decide)).mono ?_))
      rintro e w2 ⟨rfl, hb⟩
      have hk : lowS ⟨#[72, 116, 116, 112, 79, 110, 108, 121]⟩ = keyJ 5 := by kernel_rfl
      rw [hk]
      refine ⟨_, rfl, upT t 7 _, rfl, ?_⟩
      rw [hup]; exact st_call hA (j := 5) (by decide) hb
    · obtain ⟨w2, hr, hA'⟩ := st_ins hA (j := 5) (by decide) (haft ⟨0, .data⟩ (by simp) rfl) (haft ⟨11, .data⟩ (by simp) rfl) hf'
      refine wpOp_of rfl rfl (wp_insert rfl hr fun v => ⟨t, rfl, ?_⟩)
      rw [hup]; exact hA'
    · refine wpOp_of rfl rfl (wp_callf rfl (by kernel_rfl) ((Lower_any ⟨#[83, 97, 109, 101, 83, 105, 116, 101]⟩ w' (by decide)).mono ?_))
      rintro e w2 ⟨rfl, hb⟩
      have hk : lowS ⟨#[83, 97, 109, 101, 83, 105, 116, 101]⟩ = keyJ 6 := by kernel_rfl
      rw [hk]
      refine ⟨_, rfl, upT t 8 _, rfl, ?_⟩
      rw [hup]; exact st_call hA (j := 6) (by decide) hb
    · obtain ⟨w2, hr, hA'⟩ := st_ins hA (j := 6) (by decide) (haft ⟨0, .data⟩ (by simp) rfl) (haft ⟨13, .data⟩ (by simp) rfl) hf'
      refine wpOp_of rfl rfl (wp_insert rfl hr fun v => ⟨t, rfl, ?_⟩)
      rw [hup]; exact hA'
    · refine wpOp_of rfl rfl (wp_move rfl ⟨upT t 9 _, rfl, ?_⟩)
      rw [hup]; exact st_move hA (haft ⟨0, .data⟩ (by simp) rfl)
    · refine wpOp_of rfl rfl (wp_assign rfl ⟨upT t 0 _, rfl, ?_⟩)
      rw [hup]; exact st_assign hA (haft ⟨15, .data⟩ (by simp) rfl)
  · intro listed a w' hall hI
    obtain ⟨t, rfl, hA⟩ := hI
    obtain ⟨_, e0⟩ := hA.sg (hall 16 (by decide))
    obtain ⟨r, h1, h2, h3⟩ := hA.mp (hall 0 (by decide))
    have h4 : Map7 r w' := h3.of rfl fun j hj => (hall (2 * j + 2) (show 2 * j + 2 < 17 by omega)).symm
    have HP : Hid (AttrPost w (.returned (.map (some r))) w') := Lib.hid ⟨r, rfl, h2, h4, hA.bel⟩
    unfold frT
    rw [e0, h1]
    clear hall hA h3 h4 h2 e0 h1
    go_wp2
    go_ret
    exact HP.out

end Go.Proofs.YtllpdnmhabpbcaaGreatDoor
