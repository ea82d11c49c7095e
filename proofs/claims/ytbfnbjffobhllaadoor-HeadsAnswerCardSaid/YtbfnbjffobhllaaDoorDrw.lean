/-
  A region that draws its order and makes memory: what each operation answers, by a word for each that nothing later takes back.
-/
import Derived.Test.YtbfnbjffobhllaaDoorInv
import Derived.Below
namespace Go.Proofs.YtbfnbjffobhllaaDoor
open Go.RowKit

def drLex (ops : Array Oper) : Bool := (List.range ops.size).all fun i => match ops[i]? with | none => true | some o => o.after.all fun e => !Region.binds .any e || decide (e.on < i)
theorem drLex_spec {ops : Array Oper} (h : drLex ops = true) (i : Nat) (o : Oper) (ho : ops[i]? = some o) : ∀ e ∈ o.after, Region.binds .any e = true → e.on < i := by
  intro e he hbd
  have hi : i < ops.size := by
    rcases Nat.lt_or_ge i ops.size with h' | h'
    · exact h'
    · rw [Array.getElem?_eq_none h'] at ho; cases ho
  have h1 := List.all_eq_true.1 h i (List.mem_range.2 hi)
  rw [ho] at h1
  have h2 := Array.all_eq_true_iff_forall_mem.1 h1 e he
  rw [hbd] at h2
  simpa using h2
/-- The operations' places. -/
def drDst (ops : Array Oper) (D : List Nat) : Bool := decide (ops.size = D.length) && (List.range ops.size).all fun i => match ops[i]? with | none => false | some o => o.dst == some (D.getD i 0) && o.guard.isNone
theorem drDst_spec {ops : Array Oper} {D : List Nat} (h : drDst ops D = true) : ops.size = D.length ∧ ∀ i o, ops[i]? = some o → o.dst = some (D.getD i 0) ∧ o.guard = none := by
  unfold drDst at h
  rw [Bool.and_eq_true] at h
  refine ⟨of_decide_eq_true h.1, fun i o ho => ?_⟩
  have hi : i < ops.size := by
    rcases Nat.lt_or_ge i ops.size with h' | h'
    · exact h'
    · rw [Array.getElem?_eq_none h'] at ho; cases ho
  have h1 := List.all_eq_true.1 h.2 i (List.mem_range.2 hi)
  rw [ho] at h1
  simp only [Bool.and_eq_true, beq_iff_eq, Option.isNone_iff_eq_none] at h1
  exact h1
def putAll (t : Nat → Value) (a : Act) : List Nat → Act
  | [] => a
  | d :: D => putAll t (a.put (some d) (t d)) D
theorem putAll_at (t : Nat → Value) : ∀ (D : List Nat) (a : Act), (putAll t a D).defers = a.defers ∧ (putAll t a D).tmps.size = a.tmps.size ∧ ∀ n, (putAll t a D).tmps[n]? = if n ∈ D ∧ n < a.tmps.size then some (t n) else a.tmps[n]?
  | [], a => ⟨rfl, rfl, fun n => by simp [putAll]⟩
  | d :: D, a => by
    obtain ⟨h1, h2, h3⟩ := putAll_at t D (a.put (some d) (t d))
    refine ⟨h1, by rw [putAll, h2]; simp [Act.put], fun n => ?_⟩
    rw [putAll, h3]
    simp only [Act.put, Array.size_setIfInBounds, Array.getElem?_setIfInBounds, List.mem_cons]
    by_cases e : n = d
    · subst e
      by_cases hl : n < a.tmps.size
      · simp [hl]
      · simp [hl]
    · have e' : ¬ d = n := fun h => e h.symm
      by_cases hm : n ∈ D
      · by_cases hl : n < a.tmps.size <;> simp [hm, hl, e, e']
      · simp [hm, e, e']
theorem putAll_of (a b : Act) (D : List Nat) (h1 : b.defers = a.defers) (h2 : b.tmps.size = a.tmps.size) (h3 : ∀ n, n ∉ D → b.tmps.getD n undef = a.tmps.getD n undef) : b = putAll (fun n => b.tmps.getD n undef) a D := by
  obtain ⟨g1, g2, g3⟩ := putAll_at (fun n => b.tmps.getD n undef) D a
  have : b.tmps = (putAll (fun n => b.tmps.getD n undef) a D).tmps := by
    refine Array.ext_getElem? fun n => ?_
    rw [g3]
    by_cases hl : n < a.tmps.size
    · have hlb : n < b.tmps.size := by omega
      by_cases hm : n ∈ D
      · rw [if_pos ⟨hm, hl⟩]
        simp [hlb]
      · rw [if_neg (fun h => hm h.1)]
        have := h3 n hm
        simp only [Array.getD_eq_getD_getElem?, Array.getElem?_eq_getElem hl, Array.getElem?_eq_getElem hlb, Option.getD_some] at this
        rw [Array.getElem?_eq_getElem hl, Array.getElem?_eq_getElem hlb, this]
    · have hlb : ¬ n < b.tmps.size := by omega
      rw [if_neg (fun h => hl h.2), Array.getElem?_eq_none (by omega), Array.getElem?_eq_none (by omega)]
  obtain ⟨bt, bd⟩ := b
  generalize putAll _ a D = c at *
  obtain ⟨ct, cd⟩ := c
  simp only at this g1 h1
  subst this
  rw [g1, ← h1]
theorem wp_region_pr {P : Program} {ops : Array Oper} {id : Nat} {Q : Exit → Act → World → Prop} {a0 : Act} {w0 : World} (hm : P.follows .mixedOrders = true) (D : List Nat)
    (hlex : drLex ops = true) (hd : drDst ops D = true) (hnd : D.Nodup) (hsz : ∀ d ∈ D, d < a0.tmps.size)
    (Pr : Nat → Value → World → Prop) (hmono : ∀ i v w w', Below w.heap.size w w' → Pr i v w → Pr i v w')
    (hstep : ∀ (a : Act) (w : World) (i : Nat) (o : Oper), ops[i]? = some o → (∀ n, n ∉ D → a.tmps.getD n undef = a0.tmps.getD n undef) → (∀ e ∈ o.after, Region.binds .any e = true → Pr e.on (a.tmps.getD (D.getD e.on 0) undef) w) →
      ∃ v w2, (execOp a.eval o).run P w = .ok (.value v) w2 ∧ Pr i v w2 ∧ Below w.heap.size w w2)
    (hend : ∀ (t : Nat → Value) w, Below w0.heap.size w0 w → (∀ i, i < ops.size → Pr i (t (D.getD i 0)) w) → Q .normal (putAll t a0 D) w) : (Code.region id ops true).wp P Q a0 w0 := by
  obtain ⟨hN, hdst⟩ := drDst_spec hd
  refine wp_region_inv2 hm (fun listed a w => Below w0.heap.size w0 w ∧ a.defers = a0.defers ∧ a.tmps.size = a0.tmps.size ∧ (∀ n, n ∉ D → a.tmps.getD n undef = a0.tmps.getD n undef) ∧ ∀ i, i < ops.size → listed.getD i false = true → Pr i (a.tmps.getD (D.getD i 0) undef) w) (drLex_spec hlex) ?_ ?_ ?_
  · refine ⟨(Below.refl _ _).drew, rfl, rfl, fun _ _ => rfl, fun i _ h => ?_⟩
    simp only [Array.getD_eq_getD_getElem?, Array.getElem?_replicate] at h
    split at h <;> simp at h
  · intro listed a w i hls hI hi
    obtain ⟨hB, h1, h2, h3, h4⟩ := hI
    obtain ⟨hlt, hf, o, ho, haft⟩ := ready_iff.1 hi
    obtain ⟨hod, hog⟩ := hdst i o ho
    obtain ⟨v, w2, hr, hp, hb⟩ := hstep a w i o ho h3 (fun e he hbd => h4 e.on (by
      have := drLex_spec hlex i o ho e he hbd
      omega) (haft e he hbd))
    have hdi : D.getD i 0 ∈ D := by
      rw [List.getD_eq_getElem?_getD, List.getElem?_eq_getElem (by omega)]
      exact List.getElem_mem _
    have hwp : o.wp P a w (fun a' w' => Below w0.heap.size w0 w' ∧ a'.defers = a0.defers ∧ a'.tmps.size = a0.tmps.size ∧ (∀ n, n ∉ D → a'.tmps.getD n undef = a0.tmps.getD n undef) ∧ ∀ j, j < ops.size → (listed.setIfInBounds i true).getD j false = true → Pr j (a'.tmps.getD (D.getD j 0) undef) w') Q := by
      unfold Oper.wp
      rw [hr]
      show _ ∧ _
      rw [hod]
      refine ⟨hB.trans (hb.mono hB.size), h1, by simp [Act.put, h2], fun n hn => ?_, fun j hj hl => ?_⟩
      · have : D.getD i 0 ≠ n := fun e => hn (e ▸ hdi)
        rw [← h3 n hn]
        simp only [Act.put, Array.getD_eq_getD_getElem?, Array.getElem?_setIfInBounds, if_neg this]
      · by_cases e : j = i
        · subst e
          have hs := hsz _ hdi
          have : (Act.put a (some (D.getD j 0)) v).tmps.getD (D.getD j 0) undef = v := by
            simp only [Act.put, Array.getD_eq_getD_getElem?, Array.getElem?_setIfInBounds, if_true]
            rw [if_pos (by omega)]; rfl
          rw [this]; exact hp
        · have hne : D.getD i 0 ≠ D.getD j 0 := fun h => by
            rw [List.getD_eq_getElem?_getD, List.getElem?_eq_getElem (by omega), List.getD_eq_getElem?_getD, List.getElem?_eq_getElem (by omega)] at h
            exact e ((List.getElem_inj hnd).1 h).symm
          have hl' : listed.getD j false = true := by
            rw [← hl]
            simp only [Array.getD_eq_getD_getElem?, Array.getElem?_setIfInBounds, if_neg (Ne.symm e)]
          have : (Act.put a (some (D.getD i 0)) v).tmps.getD (D.getD j 0) undef = a.tmps.getD (D.getD j 0) undef := by
            simp only [Act.put, Array.getD_eq_getD_getElem?, Array.getElem?_setIfInBounds, if_neg hne]
          rw [this]
          exact hmono _ _ _ _ hb (h4 j hj hl')
    unfold wpOp
    simp only [ho, Region.wanted, hog]
    exact .inl hwp
  · intro listed a w hall hI
    obtain ⟨hB, h1, h2, h3, h4⟩ := hI
    rw [putAll_of a0 a D h1 h2 h3]
    exact hend _ w hB fun i hi => h4 i hi (hall i hi)

/-- The same, where the last operation waits for all the others. -/
def drLast (ops : Array Oper) (D : List Nat) : Bool := decide (ops.size = D.length + 1) && ((List.range D.length).all fun i => match ops[i]? with | none => false | some o => o.dst == some (D.getD i 0) && o.guard.isNone) &&
  match ops[D.length]? with | none => false | some o => o.guard.isNone && (List.range D.length).all fun j => o.after.any fun e => e.on == j && Region.binds .any e
theorem wp_region_last {P : Program} {ops : Array Oper} {id : Nat} {Q : Exit → Act → World → Prop} {a0 : Act} {w0 : World} (hm : P.follows .mixedOrders = true) (D : List Nat)
    (hlex : drLex ops = true) (hd : drLast ops D = true) (hnd : D.Nodup) (hsz : ∀ d ∈ D, d < a0.tmps.size)
    (Pr : Nat → Value → World → Prop) (hmono : ∀ i v w w', Below w.heap.size w w' → Pr i v w → Pr i v w')
    (hstep : ∀ (a : Act) (w : World) (i : Nat) (o : Oper), i < D.length → ops[i]? = some o → Below w0.heap.size w0 w → (∀ n, n ∉ D → a.tmps.getD n undef = a0.tmps.getD n undef) → (∀ e ∈ o.after, Region.binds .any e = true → Pr e.on (a.tmps.getD (D.getD e.on 0) undef) w) →
      ∃ v w2, (execOp a.eval o).run P w = .ok (.value v) w2 ∧ Pr i v w2 ∧ Below w.heap.size w w2)
    (hend : ∀ (t : Nat → Value) w (o : Oper), ops[D.length]? = some o → Below w0.heap.size w0 w → (∀ i, i < D.length → Pr i (t (D.getD i 0)) w) → o.wp P (putAll t a0 D) w (fun a' w' => Q .normal a' w') Q) : (Code.region id ops true).wp P Q a0 w0 := by
  unfold drLast at hd
  rw [Bool.and_eq_true, Bool.and_eq_true] at hd
  obtain ⟨⟨hN, hD⟩, hL⟩ := hd
  have hN := of_decide_eq_true hN
  refine wp_region_inv2 hm (fun listed a w => (listed.getD D.length false = false ∧ Below w0.heap.size w0 w ∧ a.defers = a0.defers ∧ a.tmps.size = a0.tmps.size ∧ (∀ n, n ∉ D → a.tmps.getD n undef = a0.tmps.getD n undef) ∧ ∀ i, i < D.length → listed.getD i false = true → Pr i (a.tmps.getD (D.getD i 0) undef) w) ∨ ((∀ i, i < ops.size → listed.getD i false = true) ∧ Q .normal a w)) (drLex_spec hlex) ?_ ?_ ?_
  · refine .inl ⟨?_, (Below.refl _ _).drew, rfl, rfl, fun _ _ => rfl, fun i _ h => ?_⟩
    · simp only [Array.getD_eq_getD_getElem?, Array.getElem?_replicate]
      split <;> rfl
    · simp only [Array.getD_eq_getD_getElem?, Array.getElem?_replicate] at h
      split at h <;> simp at h
  · intro listed a w i hls hI hi
    obtain ⟨hlt, hf, o, ho, haft⟩ := ready_iff.1 hi
    rcases hI with ⟨h0, hB, h1, h2, h3, h4⟩ | ⟨hall, _⟩
    · by_cases hil : i = D.length
      · subst hil
        rw [ho] at hL
        have hL : (o.guard.isNone && (List.range D.length).all fun j => o.after.any fun e => e.on == j && Region.binds .any e) = true := hL
        rw [Bool.and_eq_true] at hL
        have hog : o.guard = none := by simpa using hL.1
        have hall : ∀ j, j < D.length → listed.getD j false = true := fun j hj => by
          have := List.all_eq_true.1 hL.2 j (List.mem_range.2 hj)
          rw [Array.any_eq_true'] at this
          obtain ⟨e, he, hb⟩ := this
          rw [Bool.and_eq_true, beq_iff_eq] at hb
          rw [← hb.1]
          exact haft e he hb.2
        have hwp := hend (fun n => a.tmps.getD n undef) w o ho hB (fun j hj => h4 j hj (hall j hj))
        rw [← putAll_of a0 a D h1 h2 h3] at hwp
        have hop : wpOp P ops Q D.length (fun a' w' => Q .normal a' w') a w := by
          unfold wpOp
          simp only [ho, Region.wanted, hog]
          exact .inl hwp
        refine wpOp_mono (fun a' w' hq => .inr ⟨fun j hj => ?_, hq⟩) hop
        by_cases e : j = D.length
        · subst e
          simp only [Array.getD_eq_getD_getElem?, Array.getElem?_setIfInBounds, if_true]
          rw [if_pos (by omega)]; rfl
        · have := hall j (by omega)
          rw [← this]
          simp only [Array.getD_eq_getD_getElem?, Array.getElem?_setIfInBounds, if_neg (Ne.symm e)]
      · have hiD : i < D.length := by omega
        have hdi2 := List.all_eq_true.1 hD i (List.mem_range.2 hiD)
        rw [ho] at hdi2
        simp only [Bool.and_eq_true, beq_iff_eq, Option.isNone_iff_eq_none] at hdi2
        obtain ⟨hod, hog⟩ := hdi2
        obtain ⟨v, w2, hr, hp, hb⟩ := hstep a w i o hiD ho hB h3 (fun e he hbd => h4 e.on (by
          have := drLex_spec hlex i o ho e he hbd
          omega) (haft e he hbd))
        have hdi : D.getD i 0 ∈ D := by
          rw [List.getD_eq_getElem?_getD, List.getElem?_eq_getElem hiD]
          exact List.getElem_mem _
        unfold wpOp
        simp only [ho, Region.wanted, hog]
        refine .inl ?_
        unfold Oper.wp
        rw [hr]
        rw [Oper.upon_value, hod]
        refine .inl ⟨?_, hB.trans (hb.mono hB.size), h1, by simp [Act.put, h2], fun n hn => ?_, fun j hj hl => ?_⟩
        · have h5 := h0
          simp only [Array.getD_eq_getD_getElem?, Array.getElem?_setIfInBounds, if_neg hil] at h5 ⊢
          exact h5
        · have : D.getD i 0 ≠ n := fun e => hn (e ▸ hdi)
          rw [← h3 n hn]
          simp only [Act.put, Array.getD_eq_getD_getElem?, Array.getElem?_setIfInBounds, if_neg this]
        · by_cases e : j = i
          · subst e
            have hs := hsz _ hdi
            have : (Act.put a (some (D.getD j 0)) v).tmps.getD (D.getD j 0) undef = v := by
              simp only [Act.put, Array.getD_eq_getD_getElem?, Array.getElem?_setIfInBounds, if_true]
              rw [if_pos (by omega)]; rfl
            rw [this]; exact hp
          · have hne : D.getD i 0 ≠ D.getD j 0 := fun h => by
              rw [List.getD_eq_getElem?_getD, List.getElem?_eq_getElem hiD, List.getD_eq_getElem?_getD, List.getElem?_eq_getElem hj] at h
              exact e ((List.getElem_inj hnd).1 h).symm
            have hl' : listed.getD j false = true := by
              rw [← hl]
              simp only [Array.getD_eq_getD_getElem?, Array.getElem?_setIfInBounds, if_neg (Ne.symm e)]
            have : (Act.put a (some (D.getD i 0)) v).tmps.getD (D.getD j 0) undef = a.tmps.getD (D.getD j 0) undef := by
              simp only [Act.put, Array.getD_eq_getD_getElem?, Array.getElem?_setIfInBounds, if_neg hne]
            rw [this]
            exact hmono _ _ _ _ hb (h4 j hj hl')
    · exfalso
      have h1 := hall i hlt
      simp only [Array.getD_eq_getD_getElem?, Array.getElem?_eq_getElem (by omega : i < listed.size)] at hf h1
      simp only [Option.getD_some] at hf h1
      rw [h1] at hf; cases hf
  · intro listed a w hall hI
    rcases hI with ⟨h0, _⟩ | ⟨_, hq⟩
    · rw [hall D.length (by omega)] at h0; cases h0
    · exact hq

end Go.Proofs.YtbfnbjffobhllaaDoor
