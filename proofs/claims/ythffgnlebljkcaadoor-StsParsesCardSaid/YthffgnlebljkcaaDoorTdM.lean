/-
  Package sts, plain words: what the document says of a text, part by part; it is what is read from the beginning on.
-/
import Derived.Test.YthffgnlebljkcaaDoorTsN
namespace Go.Proofs.YthffgnlebljkcaaDoor
open Go.RowKit

/-- The first part, and what stands behind its end. -/
def pfst : List UInt8 → Bool → List UInt8 × Option (List UInt8)
  | [], _ => ([], none)
  | c :: l, b =>
    if c = 34 then (c :: (pfst l (!b)).1, (pfst l (!b)).2)
    else if c = 92 ∧ b = true then
      match l with
      | [] => ([c], none)
      | d :: l' => (c :: d :: (pfst l' b).1, (pfst l' b).2)
    else if c = 59 ∧ b = false then ([], some l)
    else (c :: (pfst l b).1, (pfst l b).2)
def sepO : Option (List UInt8) → List UInt8
  | none => []
  | some l => 59 :: l
/-- What a text in quotes says. -/
def rqD : List UInt8 → List UInt8 → Option (List UInt8)
  | [], _ => none
  | c :: l, a =>
    if c = 34 then (if l = [] then some a else none)
    else if c = 92 then
      match l with
      | [] => none
      | d :: l' => if okQ d then rqD l' (a ++ [d]) else none
    else if okQ c then rqD l (a ++ [c]) else none
def rqV (v : List UInt8) : Option (List UInt8) := if v.head? = some 34 then rqD (v.drop 1) [] else none
def valR (v : List UInt8) : Option (List UInt8) := if tokS v then some v else rqV v
def isE (c : UInt8) : Bool := !(c == 61) && !(c == 34)
/-- A directive. -/
def refD (x : List UInt8) : Option TsE :=
  match x.dropWhile isE with
  | [] => if tokS x then some (x.map low, false, []) else none
  | c :: v =>
    if c = 61 ∧ tokS (trimL (x.takeWhile isE)) = true then (valR (trimL v)).map fun t => ((trimL (x.takeWhile isE)).map low, true, t)
    else none
theorem pfst_split : ∀ (l : List UInt8) (b : Bool), (pfst l b).1 ++ sepO (pfst l b).2 = l
  | [], _ => rfl
  | [c], b => by
    unfold pfst
    by_cases h1 : c = 34
    · rw [if_pos h1]; simp [pfst, sepO]
    · rw [if_neg h1]
      by_cases h2 : c = 92 ∧ b = true
      · rw [if_pos h2]; rfl
      · rw [if_neg h2]
        by_cases h3 : c = 59 ∧ b = false
        · rw [if_pos h3, h3.1]; rfl
        · rw [if_neg h3]; simp [pfst, sepO]
  | c :: d :: l, b => by
    have i1 := pfst_split (d :: l) (!b)
    have i2 := pfst_split l b
    have i3 := pfst_split (d :: l) b
    unfold pfst
    by_cases h1 : c = 34
    · rw [if_pos h1, List.cons_append, i1]
    · rw [if_neg h1]
      by_cases h2 : c = 92 ∧ b = true
      · rw [if_pos h2]
        show c :: d :: ((pfst l b).1 ++ sepO (pfst l b).2) = _
        rw [i2]
      · rw [if_neg h2]
        by_cases h3 : c = 59 ∧ b = false
        · rw [if_pos h3, h3.1]; rfl
        · rw [if_neg h3, List.cons_append, i3]
/-- Outside of quotes: up to the first mark. -/
theorem pfst_pre : ∀ (n : List UInt8) (r : List UInt8), (∀ c ∈ n, c ≠ 34 ∧ c ≠ 59) → (pfst (n ++ r) false).1 = n ++ (pfst r false).1 ∧ (pfst (n ++ r) false).2 = (pfst r false).2
  | [], _, _ => ⟨rfl, rfl⟩
  | c :: n, r, h => by
    obtain ⟨h1, h2⟩ := h c (List.mem_cons_self ..)
    obtain ⟨i1, i2⟩ := pfst_pre n r fun x hx => h x (List.mem_cons_of_mem _ hx)
    have e : pfst (c :: (n ++ r)) false = (c :: (pfst (n ++ r) false).1, (pfst (n ++ r) false).2) := by
      conv => { lhs; unfold pfst }
      rw [if_neg h1, if_neg (by simp), if_neg (by simp [h2])]
    rw [List.cons_append, e]
    exact ⟨by rw [i1]; rfl, i2⟩
theorem up1_cases (l : List UInt8) : (∀ c ∈ upT en1 l, c ≠ 59) ∧ (frT en1 l = [] ∨ ∃ t, frT en1 l = 59 :: t) := by
  constructor
  · intro c hc
    have : (!en1.contains c) = true := List.all_eq_true.1 (List.all_takeWhile ..) c hc
    simpa [en1] using this
  · rcases fr1_end l with h | h
    · exact .inl h
    · cases hf : frT en1 l with
      | nil => exact .inl rfl
      | cons c t => rw [hf] at h; injection h with h; exact .inr ⟨t, by rw [h]⟩
theorem first_split (c : UInt8) : ∀ l : List UInt8, c ∈ l → ∃ n r, l = n ++ c :: r ∧ c ∉ n
  | [], h => by cases h
  | d :: l, h => by
    by_cases e : d = c
    · exact ⟨[], l, by rw [e]; rfl, fun h => by cases h⟩
    · obtain ⟨n, r, h1, h2⟩ := first_split c l (by
        rcases List.mem_cons.1 h with h | h
        · exact absurd h.symm e
        · exact h)
      exact ⟨d :: n, r, by rw [h1]; rfl, fun h => by
        rcases List.mem_cons.1 h with h | h
        · exact e h.symm
        · exact h2 h⟩
/-- A first part that begins without a mark. -/
theorem pfst_up (l : List UInt8) : (34 ∉ upT en1 l → (pfst l false).1 = upT en1 l ∧ sepO (pfst l false).2 = frT en1 l) ∧ (34 ∈ upT en1 l → 34 ∈ (pfst l false).1) := by
  obtain ⟨h1, h2⟩ := up1_cases l
  have hl := upT_frT en1 l
  constructor
  · intro hn
    obtain ⟨i1, i2⟩ := pfst_pre (upT en1 l) (frT en1 l) fun c hc => ⟨fun e => hn (e ▸ hc), h1 c hc⟩
    rw [hl] at i1 i2
    rcases h2 with h2 | ⟨t, h2⟩
    · rw [h2] at i1 i2
      exact ⟨by rw [i1]; simp [pfst], by rw [i2, h2]; rfl⟩
    · rw [h2] at i1 i2
      have e : pfst (59 :: t) false = ([], some t) := by
        unfold pfst
        rw [if_neg (by decide), if_neg (by simp), if_pos (by simp)]
      rw [e] at i1 i2
      exact ⟨by rw [i1]; simp, by rw [i2, h2]; rfl⟩
  · intro hm
    obtain ⟨n, r, hnr, hn⟩ := first_split 34 (upT en1 l) hm
    have hl2 : l = n ++ (34 :: (r ++ frT en1 l)) := by
      conv => { lhs; rw [← hl, hnr] }
      simp
    obtain ⟨i1, _⟩ := pfst_pre n (34 :: (r ++ frT en1 l)) fun c hc => ⟨fun e => hn (e ▸ hc), h1 c (by rw [hnr]; exact List.mem_append_left _ hc)⟩
    rw [← hl2] at i1
    rw [i1]
    refine List.mem_append_right _ ?_
    unfold pfst
    rw [if_pos rfl]
    exact List.mem_cons_self ..

/-- Blanks at the end of a text in quotes. -/
theorem cutR_cons' (c : UInt8) (l : List UInt8) (h : bl c = false) : cutR (c :: l) = c :: cutR l := by
  rw [cutR_cons, h]
  split
  · rename_i h1; rw [h1]; rfl
  · rfl
theorem cutR_nil {l : List UInt8} : cutR l = [] ↔ ∀ c ∈ l, bl c = true := by
  induction l with
  | nil => exact ⟨fun _ c h => (by cases h), fun _ => rfl⟩
  | cons c l ih =>
    rw [cutR_cons]
    constructor
    · intro h
      split at h
      · rename_i h1
        split at h
        · rename_i h2
          intro x hx
          rcases List.mem_cons.1 hx with rfl | hx
          · exact h2
          · exact ih.1 h1 x hx
        · cases h
      · cases h
    · intro h
      rw [if_pos (ih.2 fun x hx => h x (List.mem_cons_of_mem _ hx)), if_pos (h c (List.mem_cons_self ..))]
theorem bl34 {c : UInt8} (h : bl c = true) : c ≠ 34 ∧ c ≠ 92 ∧ okQ c = true := by
  rcases (bl_iff c).1 h with rfl | rfl <;> decide
theorem trim_nil {l : List UInt8} : trimL l = [] ↔ ∀ c ∈ l, bl c = true := by
  constructor
  · intro h
    refine cutR_nil.1 ?_
    rw [trimL_eq] at h
    cases hc : cutR l with
    | nil => rfl
    | cons c r =>
      exfalso
      -- the last sign of what is left is no blank
      have h2 : ∀ x, (cutR l).getLast? = some x → bl x = false := by
        intro x hx
        unfold cutR at hx
        rw [List.getLast?_reverse] at hx
        cases hd : l.reverse.dropWhile bl with
        | nil => rw [hd] at hx; cases hx
        | cons y t =>
          rw [hd] at hx
          injection hx with hx
          subst hx
          cases hb : bl y with
          | false => rfl
          | true =>
            have h3 : l.reverse.dropWhile bl ≠ [] := by rw [hd]; simp
            have := List.head_dropWhile_not bl h3
            simp [hd, hb] at this
      have h3 : ∀ m : List UInt8, m ≠ [] → (∀ x, m.getLast? = some x → bl x = false) → cutL m ≠ [] := by
        intro m
        induction m with
        | nil => intro h; exact absurd rfl h
        | cons a m ih =>
          intro _ hl
          unfold cutL
          rw [List.dropWhile_cons]
          split
          · rename_i ha
            cases m with
            | nil => rw [hl a rfl] at ha; cases ha
            | cons b m => exact ih (by simp) fun x hx => hl x (by rw [List.getLast?_cons_cons]; exact hx)
          · simp
      exact h3 (cutR l) (by rw [hc]; simp) h2 h
  · intro h
    have := trimL_suf [] l h
    exact this.trans trimL_nil
theorem pfst_in : ∀ (l : List UInt8), (∀ c ∈ (pfst l true).1, bl c = true) → (pfst l true).1 = l
  | [], _ => rfl
  | [c], h => by
    unfold pfst at h ⊢
    by_cases h1 : c = 34
    · rw [if_pos h1] at h
      exact absurd h1 (bl34 (h c (List.mem_cons_self ..))).1
    · rw [if_neg h1] at h ⊢
      by_cases h2 : c = 92 ∧ true = true
      · rw [if_pos h2]
      · rw [if_neg h2, if_neg (by simp)]; rfl
  | c :: d :: l, h => by
    have i3 := pfst_in (d :: l)
    unfold pfst at h ⊢
    by_cases h1 : c = 34
    · rw [if_pos h1] at h
      exact absurd h1 (bl34 (h c (List.mem_cons_self ..))).1
    · rw [if_neg h1] at h ⊢
      by_cases h2 : c = 92 ∧ true = true
      · rw [if_pos h2] at h
        exact absurd h2.1 (bl34 (h c (List.mem_cons_self ..))).2.1
      · rw [if_neg h2, if_neg (by simp)] at h ⊢
        show c :: (pfst (d :: l) true).1 = _
        rw [i3 fun x hx => h x (List.mem_cons_of_mem _ hx)]
theorem rq_none : ∀ (l a : List UInt8), (∀ c ∈ l, c ≠ 34) → rqD l a = none
  | [], _, _ => rfl
  | [c], a, h => by
    unfold rqD
    rw [if_neg (h c (List.mem_cons_self ..))]
    split
    · rfl
    · split
      · rfl
      · rfl
  | c :: d :: l, a, h => by
    unfold rqD
    rw [if_neg (h c (List.mem_cons_self ..))]
    split
    · simp only
      split
      · exact rq_none l _ fun x hx => h x (List.mem_cons_of_mem _ (List.mem_cons_of_mem _ hx))
      · rfl
    · split
      · exact rq_none (d :: l) _ fun x hx => h x (List.mem_cons_of_mem _ hx)
      · rfl
theorem quoD_blank {l a : List UInt8} (h : ∀ c ∈ l, bl c = true) : quoD l a = none := quoD_none l a fun c hc => (bl34 (h c hc)).1
/-- Where a part begins behind a mark that closes. -/
theorem close_eq (l : List UInt8) : (if trimL (upT en1 l) = [] then some (frT en1 l) else none) = if cutR (pfst l false).1 = [] then some (sepO (pfst l false).2) else none := by
  obtain ⟨p1, p2⟩ := pfst_up l
  by_cases hm : 34 ∈ upT en1 l
  · have h1 : ¬ trimL (upT en1 l) = [] := fun h => absurd rfl (bl34 (trim_nil.1 h 34 hm)).1
    have h2 : ¬ cutR (pfst l false).1 = [] := fun h => absurd rfl (bl34 (cutR_nil.1 h 34 (p2 hm))).1
    rw [if_neg h1, if_neg h2]
  · obtain ⟨e1, e2⟩ := p1 hm
    rw [e1, e2]
    by_cases h : trimL (upT en1 l) = []
    · rw [if_pos h, if_pos (cutR_nil.2 (trim_nil.1 h))]
    · rw [if_neg h, if_neg fun h' => h (trim_nil.2 (cutR_nil.1 h'))]
/-- A text in quotes, read from its beginning on, and as a part. -/
theorem quo_eq : ∀ (u a : List UInt8), quoD u a = (rqD (cutR (pfst u true).1) a).map fun t => (t, sepO (pfst u true).2)
  | [], _ => rfl
  | [c], a => by
    by_cases h1 : c = 34
    · subst h1
      have e : pfst [34] true = (34 :: (pfst [] false).1, (pfst [] false).2) := by unfold pfst; rw [if_pos rfl]; rfl
      rw [e, cutR_cons' _ _ (by decide), quoD_mark]
      have := close_eq []
      unfold rqD
      rw [if_pos rfl]
      rfl
    · have e : (pfst [c] true).1 = [c] := by
        unfold pfst
        rw [if_neg h1]
        by_cases h2 : c = 92 ∧ true = true
        · rw [if_pos h2]
        · rw [if_neg h2, if_neg (by simp)]; rfl
      rw [quoD_none [c] a (fun x hx => by rw [List.mem_singleton.1 hx]; exact h1), e]
      have : rqD (cutR [c]) a = none := by
        refine rq_none _ _ fun x hx => ?_
        rw [cutR_cons, if_pos (show cutR [] = [] from rfl)] at hx
        split at hx
        · cases hx
        · rw [List.mem_singleton.1 hx]; exact h1
      rw [this]; rfl
  | c :: d :: l, a => by
    have i1 := quo_eq l
    have i2 := quo_eq (d :: l)
    by_cases h1 : c = 34
    · subst h1
      have e : pfst (34 :: d :: l) true = (34 :: (pfst (d :: l) false).1, (pfst (d :: l) false).2) := by
        conv => { lhs; unfold pfst }
        rw [if_pos rfl]; rfl
      rw [e, cutR_cons' _ _ (by decide), quoD_mark]
      have h := close_eq (d :: l)
      conv => { rhs; unfold rqD }
      rw [if_pos rfl]
      by_cases ht : trimL (upT en1 (d :: l)) = []
      · rw [if_pos ht] at h ⊢
        by_cases hc : cutR (pfst (d :: l) false).1 = []
        · rw [if_pos hc] at h ⊢
          injection h with h
          rw [h]; rfl
        · rw [if_neg hc] at h; cases h
      · rw [if_neg ht] at h ⊢
        by_cases hc : cutR (pfst (d :: l) false).1 = []
        · rw [if_pos hc] at h; cases h
        · rw [if_neg hc]; rfl
    · by_cases h2 : c = 92
      · subst h2
        have e : pfst (92 :: d :: l) true = (92 :: d :: (pfst l true).1, (pfst l true).2) := by
          conv => { lhs; unfold pfst }
          rw [if_neg (by decide), if_pos ⟨rfl, rfl⟩]
        have hq : quoD (92 :: d :: l) a = if okQ d then quoD l (a ++ [d]) else none := by
          conv => { lhs; unfold quoD }
          rw [if_neg (by decide), if_pos rfl]
        rw [e, cutR_cons' _ _ (by decide), hq]
        by_cases hb : cutR (pfst l true).1 = []
        · have hl := pfst_in l (cutR_nil.1 hb)
          have hbl : ∀ c ∈ l, bl c = true := by rw [← hl]; exact cutR_nil.1 hb
          have hz : (if okQ d = true then quoD l (a ++ [d]) else none) = none := by split; exact quoD_blank hbl; rfl
          rw [hz, cutR_cons, if_pos hb]
          split
          · rfl
          · have : rqD [92, d] a = none := by
              unfold rqD
              rw [if_neg (by decide), if_pos rfl]
              simp only
              split <;> rfl
            rw [this]; rfl
        · have hr : rqD (92 :: cutR (d :: (pfst l true).1)) a = if okQ d then rqD (cutR (pfst l true).1) (a ++ [d]) else none := by
            rw [cutR_cons, if_neg hb]
            conv => { lhs; unfold rqD }
            rw [if_neg (by decide), if_pos rfl]
          rw [hr]
          split
          · exact i1 _
          · rfl
      · have e : pfst (c :: d :: l) true = (c :: (pfst (d :: l) true).1, (pfst (d :: l) true).2) := by
          conv => { lhs; unfold pfst }
          rw [if_neg h1, if_neg (by simp [h2]), if_neg (by simp)]
        have hq : quoD (c :: d :: l) a = if okQ c then quoD (d :: l) (a ++ [c]) else none := by
          conv => { lhs; unfold quoD }
          rw [if_neg h1, if_neg h2]
        rw [e, hq, cutR_cons]
        by_cases hb : cutR (pfst (d :: l) true).1 = []
        · rw [if_pos hb]
          have hz : (if okQ c = true then quoD (d :: l) (a ++ [c]) else none) = none := by
            split
            · rw [i2, hb]; rfl
            · rfl
          rw [hz]
          split
          · rfl
          · have : rqD [c] a = none := rq_none [c] a fun x hx => by rw [List.mem_singleton.1 hx]; exact h1
            rw [this]; rfl
        · rw [if_neg hb]
          have hr : rqD (c :: cutR (pfst (d :: l) true).1) a = if okQ c then rqD (cutR (pfst (d :: l) true).1) (a ++ [c]) else none := by
            conv => { lhs; unfold rqD }
            rw [if_neg h1, if_neg h2]
          rw [hr]
          split
          · exact i2 _
          · rfl

theorem trim_split11 (l : List UInt8) : ∃ p q : List UInt8, (∀ c ∈ p, bl c = true) ∧ (∀ c ∈ q, bl c = true) ∧ l = p ++ trimL l ++ q := by
  have h1 : ∀ l : List UInt8, ∃ p, (∀ c ∈ p, bl c = true) ∧ l = p ++ cutL l := fun l => ⟨l.takeWhile bl, fun c hc => List.all_eq_true.1 (List.all_takeWhile ..) c hc, List.takeWhile_append_dropWhile.symm⟩
  have h2 : ∃ q, (∀ c ∈ q, bl c = true) ∧ l = cutR l ++ q := by
    obtain ⟨p, hp, he⟩ := h1 l.reverse
    refine ⟨p.reverse, fun c hc => hp c (List.mem_reverse.1 hc), ?_⟩
    have := congrArg List.reverse he
    rw [List.reverse_reverse, List.reverse_append] at this
    exact this
  obtain ⟨q, hq, e2⟩ := h2
  obtain ⟨p, hp, e1⟩ := h1 (cutR l)
  refine ⟨p, q, hp, hq, ?_⟩
  rw [trimL_eq, ← e1]; exact e2
theorem mem_trim {l : List UInt8} {c : UInt8} (hc : bl c = false) : c ∈ trimL l ↔ c ∈ l := by
  obtain ⟨p, q, hp, hq, e⟩ := trim_split11 l
  constructor
  · intro h
    rw [e]
    exact List.mem_append_left _ (List.mem_append_right _ h)
  · intro h
    rw [e] at h
    rcases List.mem_append.1 h with h | h
    · rcases List.mem_append.1 h with h | h
      · rw [hp c h] at hc; cases hc
      · exact h
    · rw [hq c h] at hc; cases hc
theorem tok_no34 {l : List UInt8} (h : 34 ∈ l) : tokS (trimL l) = false := by
  cases ht : tokS (trimL l) with
  | false => rfl
  | true => exact absurd rfl (tok_byte (tokS_all ht 34 ((mem_trim (by decide)).2 h))).2.2.1
theorem cut_pre34 {l : List UInt8} (h : (cutL l).head? = some 34) : ∃ p u, (∀ c ∈ p, bl c = true) ∧ l = p ++ 34 :: u ∧ (cutL l).drop 1 = u := by
  refine ⟨l.takeWhile bl, (cutL l).drop 1, fun c hc => List.all_eq_true.1 (List.all_takeWhile ..) c hc, ?_, rfl⟩
  have : cutL l = 34 :: (cutL l).drop 1 := by
    cases hc : cutL l with
    | nil => rw [hc] at h; cases h
    | cons c x => rw [hc] at h; injection h with h; rw [h]; rfl
  rw [← this]
  exact List.takeWhile_append_dropWhile.symm
theorem bl_no {c : UInt8} (h : bl c = true) : c ≠ 34 ∧ c ≠ 59 := by rcases (bl_iff c).1 h with rfl | rfl <;> decide
theorem rqV_none {v : List UInt8} (h : (trimL v).head? ≠ some 34) : rqV (trimL v) = none := if_neg h
/-- A value, read from its beginning on, and as a part. -/
theorem valD_eq (v : List UInt8) : valD v = (valR (trimL (pfst v false).1)).map fun t => (t, sepO (pfst v false).2) := by
  by_cases h34 : (cutL v).head? = some 34
  · obtain ⟨p, u, hp, hv, hu⟩ := cut_pre34 h34
    obtain ⟨i1, i2⟩ := pfst_pre p (34 :: u) fun c hc => bl_no (hp c hc)
    rw [← hv] at i1 i2
    have e : pfst (34 :: u) false = (34 :: (pfst u true).1, (pfst u true).2) := by
      conv => { lhs; unfold pfst }
      rw [if_pos rfl]; rfl
    rw [e] at i1 i2
    have ht : trimL (pfst v false).1 = 34 :: cutR (pfst u true).1 := by
      rw [i1, trimL_pre _ _ hp, trimL_eq, cutR_cons' _ _ (by decide)]
      exact cutL_of fun c hc => by cases hc; decide
    have hl : valD v = quoD u [] := by unfold valD; rw [if_pos h34, hu]
    have hr : valR (34 :: cutR (pfst u true).1) = rqD (cutR (pfst u true).1) [] := by
      unfold valR rqV
      have : tokS (34 :: cutR (pfst u true).1) = false := by
        cases hx : tokS (34 :: cutR (pfst u true).1) with
        | false => rfl
        | true => exact absurd rfl (tok_byte (tokS_all hx 34 (List.mem_cons_self ..))).2.2.1
      rw [this]; rfl
    rw [hl, quo_eq, ht, hr, i2]
  · have hl : valD v = if tokS (trimL (upT en1 v)) then some (trimL (upT en1 v), frT en1 v) else none := by
      have hb : ∀ l : List UInt8, frT en1 (cutL l) = frT en1 l ∧ trimL (upT en1 (cutL l)) = trimL (upT en1 l) := by
        intro l
        induction l with
        | nil => exact ⟨rfl, rfl⟩
        | cons c l ih =>
          unfold cutL at ih ⊢
          rw [List.dropWhile_cons]
          by_cases hc : bl c = true
          · rw [if_pos hc]
            have h59 : (!en1.contains c) = true := by simp [en1, (bl_no hc).2]
            have e1 : frT en1 (c :: l) = frT en1 l := by unfold frT; rw [List.dropWhile_cons, if_pos h59]
            have e2 : upT en1 (c :: l) = c :: upT en1 l := by unfold upT; rw [List.takeWhile_cons, if_pos h59]
            rw [e1, e2, trimL_cons _ _ hc]
            exact ih
          · rw [if_neg hc]; exact ⟨rfl, rfl⟩
      unfold valD
      rw [if_neg h34, (hb v).1, (hb v).2]
    rw [hl]
    obtain ⟨p1, p2⟩ := pfst_up v
    -- the first sign of the part is the text's own
    have hh : (trimL (pfst v false).1).head? ≠ some 34 := by
      intro h
      obtain ⟨p, q, hp, hq, e⟩ := trim_split11 (pfst v false).1
      cases ht : trimL (pfst v false).1 with
      | nil => rw [ht] at h; cases h
      | cons c t =>
        rw [ht] at h e
        injection h with h
        subst h
        have hv := pfst_split v false
        rw [e] at hv
        obtain ⟨X, hX⟩ : ∃ X, sepO (pfst v false).2 = X := ⟨_, rfl⟩
        rw [hX] at hv
        have hv2 : v = p ++ 34 :: (t ++ q ++ X) := by rw [← hv]; simp
        have : cutL v = 34 :: (t ++ q ++ X) := by
          rw [hv2, cutL_pre hp]
          exact cutL_of fun c hc => by injection hc with hc; rw [← hc]; decide
        rw [this] at h34
        exact h34 rfl
    unfold valR
    rw [rqV_none hh]
    by_cases hm : 34 ∈ upT en1 v
    · rw [tok_no34 hm, tok_no34 (p2 hm)]; rfl
    · obtain ⟨e1, e2⟩ := p1 hm
      rw [e1, e2]
      split <;> rfl
theorem isE_bl {c : UInt8} (h : bl c = true) : isE c = true := by rcases (bl_iff c).1 h with rfl | rfl <;> decide
theorem isE_no {c : UInt8} (h1 : c ≠ 61) (h2 : c ≠ 34) : isE c = true := by unfold isE; simp [h1, h2]
/-- The name of a part and what stands behind it, blanks at the part's ends or not. -/
theorem ref_split {p n r : List UInt8} {c : UInt8} (hp : p = n ++ c :: r) (hn : ∀ x ∈ n, isE x = true) (hc : isE c = false) (hcb : bl c = false) : (trimL p).takeWhile isE = cutL n ∧ (trimL p).dropWhile isE = c :: cutR r := by
  have h1 : trimL p = cutL n ++ c :: cutR r := by
    have hR : ∀ n : List UInt8, cutR (n ++ c :: r) = n ++ c :: cutR r := by
      intro n
      induction n with
      | nil => exact cutR_cons' _ _ hcb
      | cons x n ih =>
        rw [List.cons_append, cutR_cons, ih, if_neg (by simp)]; rfl
    have hL : ∀ n : List UInt8, cutL (n ++ c :: cutR r) = cutL n ++ c :: cutR r := by
      intro n
      induction n with
      | nil => exact cutL_of fun x hx => by cases hx; exact hcb
      | cons x n ih =>
        unfold cutL at ih ⊢
        rw [List.cons_append, List.dropWhile_cons, List.dropWhile_cons]
        split
        · exact ih
        · rfl
    rw [hp, trimL_eq, hR, hL]
  rw [h1]
  refine takeWhile_upto (fun x hx => hn x ?_) (fun x t e => by injection e with e; rw [← e]; exact hc)
  unfold cutL at hx
  exact (List.dropWhile_sublist _).mem hx
theorem cutL_trim (n : List UInt8) : trimL (cutL n) = trimL n := by
  induction n with
  | nil => rfl
  | cons c n ih =>
    unfold cutL at ih ⊢
    rw [List.dropWhile_cons]
    split
    · rename_i h; rw [trimL_cons _ _ h]; exact ih
    · rfl
theorem cutR_trim (n : List UInt8) : trimL (cutR n) = trimL n := by
  obtain ⟨q, hq, e⟩ : ∃ q, (∀ c ∈ q, bl c = true) ∧ n = cutR n ++ q := by
    refine ⟨(n.reverse.takeWhile bl).reverse, fun c hc => List.all_eq_true.1 (List.all_takeWhile ..) c (List.mem_reverse.1 hc), ?_⟩
    have := congrArg List.reverse (List.takeWhile_append_dropWhile (p := bl) (l := n.reverse)).symm
    rw [List.reverse_reverse, List.reverse_append] at this
    exact this
  conv => { rhs; rw [e] }
  rw [trimL_suf _ _ hq]
/-- A directive, read from its beginning on, and as a part. -/
theorem dirD_ref (l : List UInt8) (T : List TsE) : dirD l T = if trimL (pfst l false).1 = [] then some (sepO (pfst l false).2, T) else match refD (trimL (pfst l false).1) with
    | none => none
    | some x => if twiceB x.1 T = true then none else some (sepO (pfst l false).2, T ++ [x]) := by
  have hl := upT_frT en2 l
  have hup : ∀ c ∈ upT en2 l, c ≠ 61 ∧ c ≠ 59 := fun c hc => by
    have : (!en2.contains c) = true := List.all_eq_true.1 (List.all_takeWhile ..) c hc
    simpa [en2] using this
  by_cases hm : 34 ∈ upT en2 l
  · obtain ⟨n, r, hnr, hn⟩ := first_split 34 _ hm
    have hl2 : l = n ++ (34 :: (r ++ frT en2 l)) := by
      conv => { lhs; rw [← hl, hnr] }
      simp
    obtain ⟨i1, _⟩ := pfst_pre n (34 :: (r ++ frT en2 l)) fun c hc => ⟨fun e => hn (e ▸ hc), (hup c (by rw [hnr]; exact List.mem_append_left _ hc)).2⟩
    rw [← hl2] at i1
    obtain ⟨r2, hr2⟩ : ∃ r2, (pfst (34 :: (r ++ frT en2 l)) false).1 = 34 :: r2 := by
      unfold pfst; rw [if_pos rfl]; exact ⟨_, rfl⟩
    rw [hr2] at i1
    obtain ⟨_, e2⟩ := ref_split i1 (fun x hx => isE_no (hup x (by rw [hnr]; exact List.mem_append_left _ hx)).1 fun e => hn (e ▸ hx)) (by decide) (by decide)
    have hne : ¬ trimL (pfst l false).1 = [] := fun h => absurd rfl (bl34 (trim_nil.1 h 34 (by rw [i1]; simp))).1
    have href : refD (trimL (pfst l false).1) = none := by
      unfold refD
      rw [e2]
      simp
    have hne2 : ¬ trimL (upT en2 l) = [] := fun h => absurd rfl (bl34 (trim_nil.1 h 34 hm)).1
    rw [if_neg hne, href]
    unfold dirD
    rw [tok_no34 hm]
    split
    · simp
    · simp
  · by_cases h61 : (frT en2 l).head? = some 61
    · have hfr : frT en2 l = 61 :: (frT en2 l).drop 1 := by
        cases hc : frT en2 l with
        | nil => rw [hc] at h61; cases h61
        | cons c x => rw [hc] at h61; injection h61 with h61; rw [h61]; rfl
      obtain ⟨v, hv⟩ : ∃ v, (frT en2 l).drop 1 = v := ⟨_, rfl⟩
      rw [hv] at hfr
      have hl2 : l = upT en2 l ++ 61 :: v := by rw [← hfr]; exact hl.symm
      obtain ⟨i1, i2⟩ := pfst_pre (upT en2 l) (61 :: v) fun c hc => ⟨fun e => hm (e ▸ hc), (hup c hc).2⟩
      rw [← hl2] at i1 i2
      have e : pfst (61 :: v) false = (61 :: (pfst v false).1, (pfst v false).2) := by
        conv => { lhs; unfold pfst }
        rw [if_neg (by decide), if_neg (by simp), if_neg (by simp)]
      rw [e] at i1 i2
      obtain ⟨e1, e2⟩ := ref_split i1 (fun x hx => isE_no (hup x hx).1 fun e => hm (e ▸ hx)) (by decide) (by decide)
      have hne : ¬ trimL (pfst l false).1 = [] := fun h => by
        have := trim_nil.1 h 61 (by rw [i1]; simp)
        revert this; decide
      rw [if_neg hne]
      have href : refD (trimL (pfst l false).1) = if tokS (trimL (upT en2 l)) = true then (valR (trimL (pfst v false).1)).map (fun t => ((trimL (upT en2 l)).map low, true, t)) else none := by
        unfold refD
        rw [e1, e2, cutL_trim]
        simp only [cutR_trim]
        simp
      rw [href, i2]
      unfold dirD
      rw [if_pos h61, hv, valD_eq]
      cases htk : tokS (trimL (upT en2 l)) with
      | false => simp
      | true =>
        cases hvr : valR (trimL (pfst v false).1) with
        | none =>
          simp
        | some t =>
          by_cases htw : twiceB ((trimL (upT en2 l)).map low) T = true
          · simp [htw]
          · simp [htw]
    · have hp : (pfst l false).1 = upT en2 l ∧ sepO (pfst l false).2 = frT en2 l := by
        obtain ⟨i1, i2⟩ := pfst_pre (upT en2 l) (frT en2 l) fun c hc => ⟨fun e => hm (e ▸ hc), (hup c hc).2⟩
        rw [hl] at i1 i2
        rcases fr2_end l h61 with h | h
        · rw [h] at i1 i2
          exact ⟨by rw [i1]; simp [pfst], by rw [i2, h]; rfl⟩
        · cases hf : frT en2 l with
          | nil => rw [hf] at h; cases h
          | cons c t =>
            rw [hf] at h
            injection h with h
            subst h
            rw [hf] at i1 i2
            have e : pfst (59 :: t) false = ([], some t) := by
              unfold pfst
              rw [if_neg (by decide), if_neg (by simp), if_pos (by simp)]
            rw [e] at i1 i2
            exact ⟨by rw [i1]; simp, by rw [i2]; rfl⟩
      rw [hp.1, hp.2]
      have hall : ∀ x ∈ trimL (upT en2 l), isE x = true := fun x hx => by
        by_cases hb : bl x = true
        · exact isE_bl hb
        · have := (mem_trim (l := upT en2 l) (c := x) (by simpa using hb)).1 hx
          exact isE_no (hup x this).1 fun e => hm (e ▸ this)
      have href : refD (trimL (upT en2 l)) = if tokS (trimL (upT en2 l)) = true then some ((trimL (upT en2 l)).map low, false, []) else none := by
        obtain ⟨h1, h2⟩ := takeWhile_upto (l := trimL (upT en2 l)) (r := []) hall (fun _ _ e => by cases e)
        rw [List.append_nil] at h1 h2
        unfold refD
        rw [h2]
      unfold dirD
      rw [if_neg h61, href]
      by_cases h0 : trimL (upT en2 l) = []
      · rw [if_pos h0, if_pos h0]
      · rw [if_neg h0, if_neg h0]
        cases htk : tokS (trimL (upT en2 l)) with
        | false => simp
        | true => simp

end Go.Proofs.YthffgnlebljkcaaDoor
