/-
  A region that draws its order, walked by what holds between its operations; a map of texts: an entry that is new, an entry that is there.
-/
import Derived.Test.YtbfnbjffobhllaaDoorMath
import Derived.Orders
import Derived.MapKept
import GoSem.Instr.MapUpdate
import GoSem.Instr.Lookup
namespace Go.Proofs.YtbfnbjffobhllaaDoor
open Go.RowKit

theorem count_set_one (l : List Bool) (i : Nat) (h : l.getD i true = false) : (l.set i true).count false + 1 = l.count false := by
  induction l generalizing i with
  | nil => simp at h
  | cons b l ih =>
    cases i with
    | zero =>
      have : b = false := by simpa using h
      subst this
      simp
    | succ i =>
      have := ih i (by simpa using h)
      cases b <;> simp <;> omega
theorem count_none (l : List Bool) (h : l.count false = 0) (i : Nat) (hi : i < l.length) : l.getD i false = true := by
  rw [List.count_eq_zero] at h
  rw [List.getD_eq_getElem?_getD, List.getElem?_eq_getElem hi]
  cases hb : l[i] with
  | true => rfl
  | false => exact absurd (hb ▸ List.getElem_mem hi) h

section
variable {P : Program} {ops : Array Oper} {Q : Exit → Act → World → Prop} {md : Region.Mode}
theorem ready_iff {listed : Array Bool} {i : Nat} : i ∈ Region.ready md ops listed ↔ i < ops.size ∧ listed.getD i true = false ∧ ∃ o, ops[i]? = some o ∧ ∀ e ∈ o.after, Region.binds md e = true → listed.getD e.on false = true := by
  unfold Region.ready
  rw [List.mem_filter, List.mem_range]
  refine and_congr_right fun hi => ?_
  rw [Array.getElem?_eq_getElem hi]
  simp only [Option.map_some, Option.getD_some, Bool.and_eq_true, Bool.not_eq_true', Option.some.injEq, exists_eq_left', Array.all_eq_true_iff_forall_mem, Bool.or_eq_true]
  refine and_congr_right fun _ => ⟨fun h e he hb => ?_, fun h e he => ?_⟩
  · rcases h e he with h' | h'
    · rw [hb] at h'; cases h'
    · exact h'
  · cases hb : Region.binds md e with
    | false => exact .inl rfl
    | true => exact .inr (h e he hb)
/-- Where each operation waits for earlier ones alone, nothing is left when nothing may come up. -/
theorem ready_all (hl : ∀ (i : Nat) (o : Oper), ops[i]? = some o → ∀ e ∈ o.after, e.on < i) {listed : Array Bool} (hs : listed.size = ops.size) (h : Region.ready md ops listed = []) : ∀ i, i < ops.size → listed.getD i false = true := by
  intro i
  induction i using Nat.strongRecOn with
  | ind i ih =>
    intro hi
    cases hb : listed.getD i false with
    | true => rfl
    | false =>
      have : i ∈ Region.ready md ops listed := by
        refine ready_iff.2 ⟨hi, ?_, ops[i], Array.getElem?_eq_getElem hi, fun e he _ => ?_⟩
        · rw [Array.getD_eq_getD_getElem?, Array.getElem?_eq_getElem (by omega)] at hb ⊢
          exact hb
        · have := hl i _ (Array.getElem?_eq_getElem hi) e he
          exact ih _ this (by omega)
      rw [h] at this
      cases this
/-- What holds between the operations of a region that draws its order holds behind all of them. -/
theorem wpAny_inv (I : Array Bool → Act → World → Prop) (hl : ∀ (i : Nat) (o : Oper), ops[i]? = some o → ∀ e ∈ o.after, e.on < i)
    (hstep : ∀ listed a w i, listed.size = ops.size → I listed a w → i ∈ Region.ready md ops listed → wpOp P ops Q i (fun a' w' => I (listed.setIfInBounds i true) a' w') a w)
    (hend : ∀ listed a w, (∀ i, i < ops.size → listed.getD i false = true) → I listed a w → Q .normal a w) :
    ∀ fuel listed a w, listed.size = ops.size → listed.toList.count false ≤ fuel → I listed a w → wpAny P md ops Q fuel listed a w := by
  intro fuel
  induction fuel with
  | zero =>
    intro listed a w hs hc hI
    have hall : ∀ i, i < ops.size → listed.getD i false = true := fun i hi => by
      have := count_none listed.toList (by omega) i (by simpa [hs] using hi)
      simpa [Array.getD_eq_getD_getElem?, List.getD_eq_getElem?_getD] using this
    refine ⟨?_, hend _ _ _ hall hI⟩
    cases hr : Region.ready md ops listed with
    | nil => rfl
    | cons i r =>
      obtain ⟨hi, hf, _⟩ := ready_iff.1 (hr ▸ List.mem_cons_self .. : i ∈ Region.ready md ops listed)
      have h1 := hall i hi
      rw [Array.getD_eq_getD_getElem?, Array.getElem?_eq_getElem (by omega)] at hf h1
      simp at hf h1
      rw [hf] at h1; cases h1
  | succ fuel ih =>
    intro listed a w hs hc hI
    refine ⟨fun h => hend _ _ _ (ready_all hl hs h) hI, fun i hi => ?_⟩
    refine wpOp_mono (fun a' w' hI' => ih _ _ _ (by rw [Array.size_setIfInBounds]; exact hs) ?_ hI') (hstep _ _ _ _ hs hI hi)
    obtain ⟨_, hf, _⟩ := ready_iff.1 hi
    have := count_set_one listed.toList i (by simpa [Array.getD_eq_getD_getElem?, List.getD_eq_getElem?_getD] using hf)
    rw [Array.toList_setIfInBounds]
    omega
theorem wp_region_inv {id : Nat} {a : Act} {w : World} (hm : P.follows .mixedOrders = true) (I : Array Bool → Act → World → Prop) (hl : ∀ (i : Nat) (o : Oper), ops[i]? = some o → ∀ e ∈ o.after, e.on < i)
    (h0 : I (Array.replicate ops.size false) a w.drew)
    (hstep : ∀ listed a w i, listed.size = ops.size → I listed a w → i ∈ Region.ready .any ops listed → wpOp P ops Q i (fun a' w' => I (listed.setIfInBounds i true) a' w') a w)
    (hend : ∀ listed a w, (∀ i, i < ops.size → listed.getD i false = true) → I listed a w → Q .normal a w) : (Code.region id ops true).wp P Q a w :=
  wp_region_any hm (wpAny_inv I hl hstep hend _ _ _ _ (by simp) (by simp) h0)
/-- The same, where only what binds waits for earlier ones. -/
theorem ready_all2 (hl : ∀ (i : Nat) (o : Oper), ops[i]? = some o → ∀ e ∈ o.after, Region.binds md e = true → e.on < i) {listed : Array Bool} (hs : listed.size = ops.size) (h : Region.ready md ops listed = []) : ∀ i, i < ops.size → listed.getD i false = true := by
  intro i
  induction i using Nat.strongRecOn with
  | ind i ih =>
    intro hi
    cases hb : listed.getD i false with
    | true => rfl
    | false =>
      have : i ∈ Region.ready md ops listed := by
        refine ready_iff.2 ⟨hi, ?_, ops[i], Array.getElem?_eq_getElem hi, fun e he hbd => ?_⟩
        · rw [Array.getD_eq_getD_getElem?, Array.getElem?_eq_getElem (by omega)] at hb ⊢
          exact hb
        · have := hl i _ (Array.getElem?_eq_getElem hi) e he hbd
          exact ih _ this (by omega)
      rw [h] at this
      cases this
theorem wpAny_inv2 (I : Array Bool → Act → World → Prop) (hl : ∀ (i : Nat) (o : Oper), ops[i]? = some o → ∀ e ∈ o.after, Region.binds md e = true → e.on < i)
    (hstep : ∀ listed a w i, listed.size = ops.size → I listed a w → i ∈ Region.ready md ops listed → wpOp P ops Q i (fun a' w' => I (listed.setIfInBounds i true) a' w') a w)
    (hend : ∀ listed a w, (∀ i, i < ops.size → listed.getD i false = true) → I listed a w → Q .normal a w) :
    ∀ fuel listed a w, listed.size = ops.size → listed.toList.count false ≤ fuel → I listed a w → wpAny P md ops Q fuel listed a w := by
  intro fuel
  induction fuel with
  | zero =>
    intro listed a w hs hc hI
    have hall : ∀ i, i < ops.size → listed.getD i false = true := fun i hi => by
      have := count_none listed.toList (by omega) i (by simpa [hs] using hi)
      simpa [Array.getD_eq_getD_getElem?, List.getD_eq_getElem?_getD] using this
    refine ⟨?_, hend _ _ _ hall hI⟩
    cases hr : Region.ready md ops listed with
    | nil => rfl
    | cons i r =>
      obtain ⟨hi, hf, _⟩ := ready_iff.1 (hr ▸ List.mem_cons_self .. : i ∈ Region.ready md ops listed)
      have h1 := hall i hi
      rw [Array.getD_eq_getD_getElem?, Array.getElem?_eq_getElem (by omega)] at hf h1
      simp at hf h1
      rw [hf] at h1; cases h1
  | succ fuel ih =>
    intro listed a w hs hc hI
    refine ⟨fun h => hend _ _ _ (ready_all2 hl hs h) hI, fun i hi => ?_⟩
    refine wpOp_mono (fun a' w' hI' => ih _ _ _ (by rw [Array.size_setIfInBounds]; exact hs) ?_ hI') (hstep _ _ _ _ hs hI hi)
    obtain ⟨_, hf, _⟩ := ready_iff.1 hi
    have := count_set_one listed.toList i (by simpa [Array.getD_eq_getD_getElem?, List.getD_eq_getElem?_getD] using hf)
    rw [Array.toList_setIfInBounds]
    omega
theorem wp_region_inv2 {id : Nat} {a : Act} {w : World} (hm : P.follows .mixedOrders = true) (I : Array Bool → Act → World → Prop) (hl : ∀ (i : Nat) (o : Oper), ops[i]? = some o → ∀ e ∈ o.after, Region.binds .any e = true → e.on < i)
    (h0 : I (Array.replicate ops.size false) a w.drew)
    (hstep : ∀ listed a w i, listed.size = ops.size → I listed a w → i ∈ Region.ready .any ops listed → wpOp P ops Q i (fun a' w' => I (listed.setIfInBounds i true) a' w') a w)
    (hend : ∀ listed a w, (∀ i, i < ops.size → listed.getD i false = true) → I listed a w → Q .normal a w) : (Code.region id ops true).wp P Q a w :=
  wp_region_any hm (wpAny_inv2 I hl hstep hend _ _ _ _ (by simp) (by simp) h0)
end

/-- A key is new in a map of texts; it is there. -/
theorem find_none {k : ByteArray} : ∀ {l : List MapEntry} (i : Nat), (∀ x ∈ l, ∃ s, x.key = .string s ∧ s ≠ k) → Instr.findNow .string (.string k) l i = some none
  | [], _, _ => rfl
  | x :: l, i, h => by
    obtain ⟨s, hs, hne⟩ := h x (List.mem_cons_self ..)
    rw [Instr.findNow, hs]
    have : (k == s) = false := by
      cases hb : k == s with
      | false => rfl
      | true => exact absurd ((MapKept.bytes_beq _ _).1 hb).symm hne
    simp only [Instr.sameNow, this]
    exact find_none (i + 1) fun y hy => h y (List.mem_cons_of_mem _ hy)
theorem find_some {k : ByteArray} {v : Value} : ∀ {l : List MapEntry} (i : Nat), (∀ x ∈ l, ∃ s, x.key = .string s) → (∀ x ∈ l, x.key = .string k → x.val = v) → (∃ x ∈ l, x.key = .string k) → ∃ j, Instr.findNow .string (.string k) l i = some (some (j, v))
  | [], _, _, _, h => by obtain ⟨x, hx, _⟩ := h; cases hx
  | x :: l, i, h, hv, he => by
    obtain ⟨s, hs⟩ := h x (List.mem_cons_self ..)
    rw [Instr.findNow, hs]
    by_cases hk : k = s
    · subst hk
      have : (k == k) = true := (MapKept.bytes_beq _ _).2 rfl
      simp only [Instr.sameNow, this]
      exact ⟨i, by rw [hv x (List.mem_cons_self ..) hs]⟩
    · have : (k == s) = false := by
        cases hb : k == s with
        | false => rfl
        | true => exact absurd ((MapKept.bytes_beq _ _).1 hb) hk
      simp only [Instr.sameNow, this]
      refine find_some (i + 1) (fun y hy => h y (List.mem_cons_of_mem _ hy)) (fun y hy => hv y (List.mem_cons_of_mem _ hy)) ?_
      obtain ⟨y, hy, hyk⟩ := he
      rcases List.mem_cons.1 hy with rfl | hy
      · rw [hs] at hyk; injection hyk with hyk; exact absurd hyk.symm hk
      · exact ⟨y, hy, hyk⟩
theorem run_put_new {P : Program} {w : World} {mty kt et : TypeId} {r c : Nat} {es : Array MapEntry} {k : ByteArray} (val : Value) (hm : P.underlying mty = some (.map kt et)) (hk : P.underlying kt = some .string) (hb : w.heap[r]? = some (.map es c))
    (hn : ∀ x ∈ es.toList, ∃ s, x.key = .string s ∧ s ≠ k) :
    (Instr.mapUpdate mty (.map (some r)) (.string k) val).run P w = .ok () { w with heap := w.heap.setIfInBounds r (.map (es.push { key := .string k, val := val, born := c }) (c + 1)) } := by
  have hc : (Instr.checkKey false 10000 kt (.string k)).run P w = .ok () w := MapKept.run_checkKey (k := .string k) hk (by simp [MapKept.IsKey]) false 9999
  simp [Instr.mapUpdate, run_underlying hm, MapKept.run_getObj_map hb, hc, MapKept.run_findKey hk (find_none 0 hn), MapKept.run_setObj_map _ hb, Result.andThen]
theorem run_get_ok {P : Program} {w : World} {mty kt et : TypeId} {r c : Nat} {es : Array MapEntry} {k : ByteArray} {v : Value} (hm : P.underlying mty = some (.map kt et)) (hk : P.underlying kt = some .string) (hb : w.heap[r]? = some (.map es c))
    (h1 : ∀ x ∈ es.toList, ∃ s, x.key = .string s) (h2 : ∀ x ∈ es.toList, x.key = .string k → x.val = v) (h3 : ∃ x ∈ es.toList, x.key = .string k) :
    (Instr.lookup mty (.map (some r)) (.string k) true).run P w = .ok (.tuple #[v, .bool true]) w := by
  obtain ⟨j, hj⟩ := find_some 0 h1 h2 h3
  have hc : ∀ b, (Instr.checkKey b 10000 kt (.string k)).run P w = .ok () w := fun b => MapKept.run_checkKey (k := .string k) hk (by simp [MapKept.IsKey]) b 9999
  simp [Instr.lookup, run_underlying hm, MapKept.run_getObj_map hb, hc, MapKept.run_findKey hk hj, Result.andThen]
theorem run_get_no {P : Program} {w : World} {mty kt et : TypeId} {r c : Nat} {es : Array MapEntry} {k : ByteArray} {z : Value} (hm : P.underlying mty = some (.map kt et)) (hk : P.underlying kt = some .string) (hz : (zeroValue et).run P w = .ok z w) (hb : w.heap[r]? = some (.map es c))
    (h1 : ∀ x ∈ es.toList, ∃ s, x.key = .string s ∧ s ≠ k) :
    (Instr.lookup mty (.map (some r)) (.string k) true).run P w = .ok (.tuple #[z, .bool false]) w := by
  have hc : ∀ b, (Instr.checkKey b 10000 kt (.string k)).run P w = .ok () w := fun b => MapKept.run_checkKey (k := .string k) hk (by simp [MapKept.IsKey]) b 9999
  simp [Instr.lookup, run_underlying hm, MapKept.run_getObj_map hb, hc, MapKept.run_findKey hk (find_none 0 h1), hz, Result.andThen]

end Go.Proofs.YtbfnbjffobhllaaDoor
