/-
  Package sts, plain words: texts that are made of directives.
-/
import Derived.Test.YthffgnlebljkcaaDoorTsM
namespace Go.Proofs.YthffgnlebljkcaaDoor
open Go.RowKit

/-- Where a directive ends. -/
def Ends (r : List UInt8) : Prop := r = [] ∨ ∃ t, r = 59 :: t
theorem takeWhile_upto {p : UInt8 → Bool} {l r : List UInt8} (h : ∀ c ∈ l, p c = true) (hr : ∀ c t, r = c :: t → p c = false) : (l ++ r).takeWhile p = l ∧ (l ++ r).dropWhile p = r := by
  induction l with
  | nil =>
    cases r with
    | nil => exact ⟨rfl, rfl⟩
    | cons c t => rw [List.nil_append]; simp [hr c t rfl]
  | cons a l ih =>
    obtain ⟨h1, h2⟩ := ih fun c hc => h c (List.mem_cons_of_mem _ hc)
    have ha := h a (List.mem_cons_self ..)
    rw [List.cons_append, List.takeWhile_cons, List.dropWhile_cons, if_pos ha, if_pos ha, h1, h2]
    exact ⟨rfl, rfl⟩
theorem upto2 {l r : List UInt8} (h : ∀ c ∈ l, c ≠ 61 ∧ c ≠ 59) (hr : ∀ c t, r = c :: t → c = 61 ∨ c = 59) : upT en2 (l ++ r) = l ∧ frT en2 (l ++ r) = r := by
  refine takeWhile_upto (fun c hc => ?_) (fun c t e => ?_)
  · obtain ⟨h1, h2⟩ := h c hc
    simp [en2, h1, h2]
  · rcases hr c t e with rfl | rfl <;> rfl
theorem upto1 {l r : List UInt8} (h : ∀ c ∈ l, c ≠ 59) (hr : ∀ c t, r = c :: t → c = 59) : upT en1 (l ++ r) = l ∧ frT en1 (l ++ r) = r := by
  refine takeWhile_upto (fun c hc => ?_) (fun c t e => ?_)
  · simp [en1, h c hc]
  · cases hr c t e; rfl
theorem Ends.cons {r : List UInt8} (h : Ends r) : ∀ c t, r = c :: t → c = 59 := by
  rintro c t e
  rcases h with rfl | ⟨u, rfl⟩
  · cases e
  · injection e with e1; exact e1.symm
theorem Ends.ne {r : List UInt8} (h : Ends r) : r.head? ≠ some 61 := by
  rcases h with rfl | ⟨u, rfl⟩ <;> simp
theorem Ends.up {r : List UInt8} (h : Ends r) : upT en1 r = [] ∧ frT en1 r = r := upto1 (l := []) (fun _ h => (by cases h)) h.cons
/-- A text that says nothing; one that says something. -/
def SaysN (d : List UInt8) : Prop := ∀ r T, Ends r → dirD (d ++ r) T = some (r, T)
def SaysX (d : List UInt8) (x : TsE) : Prop := ∀ r T, Ends r → dirD (d ++ r) T = if twiceB x.1 T = true then none else some (r, T ++ [x])
def SaysO (d : List UInt8) : Option TsE → Prop
  | none => SaysN d
  | some x => SaysX d x
def SaysV (v t : List UInt8) : Prop := ∀ r, Ends r → valD (v ++ r) = some (t, r)

/-- The bytes of a token, by the table. -/
theorem tok_bytes : ∀ k : Fin 256, tokB k.1 = true → k.1 ≠ 61 ∧ k.1 ≠ 59 ∧ k.1 ≠ 34 ∧ k.1 ≠ 32 ∧ k.1 ≠ 9 ∧ k.1 ≠ 92 := by decide +kernel
theorem tok_byte {c : UInt8} (h : tokB c.toNat = true) : c ≠ 61 ∧ c ≠ 59 ∧ c ≠ 34 ∧ bl c = false ∧ c ≠ 92 := by
  obtain ⟨h1, h2, h3, h4, h5, h6⟩ := tok_bytes ⟨c.toNat, c.toNat_lt⟩ h
  have f : ∀ n : UInt8, c.toNat ≠ n.toNat → c ≠ n := fun n hn e => hn (by rw [e])
  refine ⟨f 61 h1, f 59 h2, f 34 h3, ?_, f 92 h6⟩
  cases hb : bl c with
  | false => rfl
  | true =>
    rcases (bl_iff c).1 hb with e | e
    · exact absurd e (f 32 h4)
    · exact absurd e (f 9 h5)
theorem tokS_ne {l : List UInt8} (h : tokS l = true) : l ≠ [] := by rintro rfl; simp [tokS] at h
theorem tokS_all {l : List UInt8} (h : tokS l = true) : ∀ c ∈ l, tokB c.toNat = true := by
  unfold tokS allT at h
  rw [Bool.and_eq_true] at h
  exact List.all_eq_true.1 h.2
theorem tokS_of {l : List UInt8} (h0 : l ≠ []) (h : ∀ c ∈ l, tokB c.toNat = true) : tokS l = true := by
  unfold tokS allT
  rw [Bool.and_eq_true]
  exact ⟨by cases l with | nil => exact absurd rfl h0 | cons _ _ => rfl, List.all_eq_true.2 h⟩
theorem nobl_trim {l : List UInt8} (h : ∀ c ∈ l, bl c = false) : trimL l = l := by
  refine trimL_of (fun c hc => h c ?_) (fun c hc => h c ?_)
  · exact List.mem_of_mem_head? hc
  · exact List.mem_of_mem_getLast? hc
theorem trimL_pre : ∀ (p l : List UInt8), (∀ c ∈ p, bl c = true) → trimL (p ++ l) = trimL l
  | [], _, _ => rfl
  | c :: p, l, h => by
    rw [List.cons_append, trimL_cons _ _ (h c (List.mem_cons_self ..))]
    exact trimL_pre p l fun d hd => h d (List.mem_cons_of_mem _ hd)
theorem trimL_suf (l : List UInt8) : ∀ q : List UInt8, (∀ c ∈ q, bl c = true) → trimL (l ++ q) = trimL l := by
  intro q
  induction q generalizing l with
  | nil => intro _; rw [List.append_nil]
  | cons c q ih =>
    intro h
    have e : l ++ c :: q = (l ++ [c]) ++ q := by simp
    rw [e, ih (l ++ [c]) (fun d hd => h d (List.mem_cons_of_mem _ hd)), trimL_snoc _ _ (h c (List.mem_cons_self ..))]
theorem trim_both {p n q : List UInt8} (hp : ∀ c ∈ p, bl c = true) (hq : ∀ c ∈ q, bl c = true) (hn : ∀ c ∈ n, bl c = false) : trimL (p ++ n ++ q) = n := by
  rw [trimL_suf _ _ hq, trimL_pre _ _ hp, nobl_trim hn]
theorem bl_sep {c : UInt8} (h : bl c = true) : c ≠ 61 ∧ c ≠ 59 := by
  rcases (bl_iff c).1 h with rfl | rfl <;> decide

theorem says_none {d : List UInt8} (h : ∀ c ∈ d, bl c = true) : SaysN d := by
  intro r T hr
  obtain ⟨h1, h2⟩ := upto2 (l := d) (r := r) (fun c hc => bl_sep (h c hc)) (fun c t e => .inr (hr.cons c t e))
  have h3 : trimL d = [] := (trimL_suf [] d h).trans trimL_nil
  unfold dirD
  rw [h1, h2, if_neg hr.ne, h3, if_pos rfl]
theorem says_name {p n q : List UInt8} (hp : ∀ c ∈ p, bl c = true) (hq : ∀ c ∈ q, bl c = true) (hn : tokS n = true) : SaysX (p ++ n ++ q) (n.map low, false, []) := by
  intro r T hr
  have hb := tokS_all hn
  obtain ⟨h1, h2⟩ := upto2 (l := p ++ n ++ q) (r := r) (fun c hc => by
    rcases List.mem_append.1 hc with hc | hc
    · rcases List.mem_append.1 hc with hc | hc
      · exact bl_sep (hp c hc)
      · exact ⟨(tok_byte (hb c hc)).1, (tok_byte (hb c hc)).2.1⟩
    · exact bl_sep (hq c hc)) (fun c t e => .inr (hr.cons c t e))
  have h3 : trimL (p ++ n ++ q) = n := trim_both hp hq fun c hc => (tok_byte (hb c hc)).2.2.2.1
  unfold dirD
  rw [h1, h2, if_neg hr.ne, h3, if_neg (tokS_ne hn), hn]
  simp
theorem says_eq {p n q v t : List UInt8} (hp : ∀ c ∈ p, bl c = true) (hq : ∀ c ∈ q, bl c = true) (hn : tokS n = true) (hv : SaysV v t) : SaysX (p ++ n ++ q ++ 61 :: v) (n.map low, true, t) := by
  intro r T hr
  have hb := tokS_all hn
  obtain ⟨h1, h2⟩ := upto2 (l := p ++ n ++ q) (r := 61 :: v ++ r) (fun c hc => by
    rcases List.mem_append.1 hc with hc | hc
    · rcases List.mem_append.1 hc with hc | hc
      · exact bl_sep (hp c hc)
      · exact ⟨(tok_byte (hb c hc)).1, (tok_byte (hb c hc)).2.1⟩
    · exact bl_sep (hq c hc)) (fun c t e => by injection e with e; exact .inl e.symm)
  have h3 : trimL (p ++ n ++ q) = n := trim_both hp hq fun c hc => (tok_byte (hb c hc)).2.2.2.1
  have h4 : p ++ n ++ q ++ 61 :: v ++ r = p ++ n ++ q ++ (61 :: v ++ r) := by simp
  unfold dirD
  rw [h4, h1, h2, h3, hn]
  have h5 := hv r hr
  simp [h5]
theorem cutL_pre {p l : List UInt8} (h : ∀ c ∈ p, bl c = true) : cutL (p ++ l) = cutL l := by
  induction p with
  | nil => rfl
  | cons a p ih =>
    have ha := h a (List.mem_cons_self ..)
    show (a :: (p ++ l)).dropWhile bl = _
    rw [List.dropWhile_cons, if_pos ha]
    exact ih fun c hc => h c (List.mem_cons_of_mem _ hc)
theorem val_tok {v : List UInt8} (h : tokS v = true) : SaysV v v := by
  intro r hr
  have hb := tokS_all h
  have h0 : cutL (v ++ r) = v ++ r := cutL_of fun c hc => by
    cases v with
    | nil => exact absurd rfl (tokS_ne h)
    | cons a v => cases hc; exact (tok_byte (hb _ (List.mem_cons_self ..))).2.2.2.1
  have h1 : ¬ (v ++ r).head? = some 34 := by
    cases v with
    | nil => exact absurd rfl (tokS_ne h)
    | cons a v =>
      intro e
      have e' : a = 34 := by simpa using e
      exact (tok_byte (hb a (List.mem_cons_self ..))).2.2.1 e'
  obtain ⟨h2, h3⟩ := upto1 (l := v) (r := r) (fun c hc => (tok_byte (hb c hc)).2.1) hr.cons
  have h4 : trimL v = v := nobl_trim fun c hc => (tok_byte (hb c hc)).2.2.2.1
  unfold valD
  rw [h0, if_neg h1, h2, h3, h4, h, if_pos rfl]
/-- A text as it stands in quotes. -/
def escQ (l : List UInt8) : List UInt8 := l.flatMap fun c => if c = 34 ∨ c = 92 then [92, c] else [c]
theorem quo_esc : ∀ (l a r : List UInt8), (∀ c ∈ l, okQ c = true) → Ends r → quoD (escQ l ++ 34 :: r) a = some (a ++ l, r)
  | [], a, r, _, hr => by
    show quoD (34 :: r) a = _
    unfold quoD
    rw [if_pos rfl, hr.up.1, hr.up.2, trimL_nil, if_pos rfl, List.append_nil]
  | c :: l, a, r, h, hr => by
    have hc := h c (List.mem_cons_self ..)
    have ih := quo_esc l (a ++ [c]) r (fun d hd => h d (List.mem_cons_of_mem _ hd)) hr
    have e : escQ (c :: l) = (if c = 34 ∨ c = 92 then [92, c] else [c]) ++ escQ l := rfl
    have e2 : a ++ [c] ++ l = a ++ c :: l := by simp
    rw [e]
    by_cases hx : c = 34 ∨ c = 92
    · rw [if_pos hx]
      show quoD (92 :: c :: (escQ l ++ 34 :: r)) a = _
      unfold quoD
      rw [if_neg (by decide), if_pos rfl]
      simp only
      rw [hc, if_pos rfl, ih, e2]
    · rw [if_neg hx]
      show quoD (c :: (escQ l ++ 34 :: r)) a = _
      unfold quoD
      rw [if_neg (fun e => hx (.inl e)), if_neg (fun e => hx (.inr e)), hc, if_pos rfl, ih, e2]
theorem val_quo {p l : List UInt8} (hp : ∀ c ∈ p, bl c = true) (h : ∀ c ∈ l, okQ c = true) : SaysV (p ++ 34 :: (escQ l ++ [34])) l := by
  intro r hr
  have h0 : p ++ 34 :: (escQ l ++ [34]) ++ r = p ++ 34 :: (escQ l ++ 34 :: r) := by simp
  have h1 : cutL (34 :: (escQ l ++ 34 :: r)) = 34 :: (escQ l ++ 34 :: r) := cutL_of fun c hc => by cases hc; rfl
  have h2 := quo_esc l [] r h hr
  unfold valD
  rw [h0, cutL_pre hp, h1, List.head?_cons, if_pos rfl, List.drop_one, List.tail_cons, h2]
  simp

/-- What pieces say, one after the other. -/
def tellD : List (Option TsE) → List TsE → Option (List TsE)
  | [], T => some T
  | none :: xs, T => tellD xs T
  | some x :: xs, T => if twiceB x.1 T = true then none else tellD xs (T ++ [x])
def joinP : List (List UInt8) → List UInt8
  | [] => []
  | [d] => d
  | d :: e :: ds => d ++ 59 :: joinP (e :: ds)
theorem run_one {d : List UInt8} {x : Option TsE} (h : SaysO d x) (T : List TsE) : runT d T = tellD [x] T := by
  rw [runT_eq]
  cases x with
  | none =>
    have := h [] T (.inl rfl)
    rw [List.append_nil] at this
    rw [this]; rfl
  | some x =>
    have := h [] T (.inl rfl)
    rw [List.append_nil] at this
    rw [this]
    unfold tellD
    by_cases hx : twiceB x.1 T = true
    · simp only [if_pos hx]
    · simp only [if_neg hx]; rfl
theorem run_more {d : List UInt8} {x : Option TsE} (h : SaysO d x) (T : List TsE) (l : List UInt8) (xs : List (Option TsE)) (hl : ∀ T, runT l T = tellD xs T) : runT (d ++ 59 :: l) T = tellD (x :: xs) T := by
  rw [runT_eq]
  cases x with
  | none =>
    have := h (59 :: l) T (.inr ⟨l, rfl⟩)
    rw [this]
    exact hl T
  | some x =>
    have := h (59 :: l) T (.inr ⟨l, rfl⟩)
    rw [this]
    unfold tellD
    by_cases hx : twiceB x.1 T = true
    · simp only [if_pos hx]
    · simp only [if_neg hx]
      exact hl _
theorem runT_join : ∀ (L : List (List UInt8 × Option TsE)), L ≠ [] → (∀ p ∈ L, SaysO p.1 p.2) → ∀ T, runT (joinP (L.map (·.1))) T = tellD (L.map (·.2)) T
  | [], h, _ => absurd rfl h
  | [p], _, h => fun T => run_one (h p (List.mem_singleton.2 rfl)) T
  | p :: q :: L, _, h => fun T => by
    have ih := runT_join (q :: L) (by simp) (fun x hx => h x (List.mem_cons_of_mem _ hx))
    exact run_more (h p (List.mem_cons_self ..)) T _ _ ih

/-- A number's digits, whatever noughts stand ahead. -/
theorem cap_fold : ∀ (l : List UInt8) (a : Int), 0 ≤ a → allR 48 57 l = true → l.foldl capF (min a 2147483647) = min (l.foldl (fun n c => n * 10 + ((c.toNat : Int) - 48)) a) 2147483647
  | [], _, _, _ => rfl
  | c :: l, a, ha, h => by
    have h0 : inR 48 57 c.toNat = true ∧ allR 48 57 l = true := by
      unfold allR at h ⊢
      rw [List.all_cons, Bool.and_eq_true] at h
      exact h
    have h3 : 48 ≤ (c.toNat : Int) ∧ (c.toNat : Int) ≤ 57 := by
      have := h0.1
      simp [inR] at this
      omega
    have e : capF (min a 2147483647) c = min (a * 10 + ((c.toNat : Int) - 48)) 2147483647 := by unfold capF; omega
    rw [List.foldl_cons, List.foldl_cons, e]
    exact cap_fold l _ (by omega) h0.2
theorem capN_num (l : List UInt8) (h : allR 48 57 l = true) : capN l = min (num l) 2147483647 := cap_fold l 0 (Int.le_refl 0) h

end Go.Proofs.YthffgnlebljkcaaDoor
