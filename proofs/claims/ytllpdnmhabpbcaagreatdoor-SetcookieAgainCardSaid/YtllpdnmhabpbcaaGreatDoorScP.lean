/-
  Package setcookie: a pair's blanks, a text with blanks more, in plain words.
-/
import Derived.Test.YtllpdnmhabpbcaaGreatDoorScM
namespace Go.Proofs.YtllpdnmhabpbcaaGreatDoor
open Go.RowKit

theorem ba_list {a b : ByteArray} (h : a.data.toList = b.data.toList) : a = b := ByteArray.ext (Array.toList_inj.1 h)
/-- A text is what it is without blanks, and blanks around. -/
theorem trim_split (l : List UInt8) : ∃ p q : List UInt8, (∀ c ∈ p, bl c = true) ∧ (∀ c ∈ q, bl c = true) ∧ l = p ++ trimL l ++ q := by
  have hL : ∀ l : List UInt8, ∃ p, (∀ c ∈ p, bl c = true) ∧ l = p ++ cutL l := fun l =>
    ⟨l.takeWhile bl, fun c hc => by
      have := List.all_takeWhile (p := bl) (l := l)
      rw [List.all_eq_true] at this
      exact this c hc, (List.takeWhile_append_dropWhile ..).symm⟩
  obtain ⟨q, hq, eq⟩ := hL l.reverse
  obtain ⟨p, hp, ep⟩ := hL (cutR l)
  refine ⟨p, q.reverse, hp, fun c hc => hq c (List.mem_reverse.1 hc), ?_⟩
  rw [trimL_eq, ← ep]
  have : l = (q ++ cutL l.reverse).reverse := by rw [← eq, List.reverse_reverse]
  rw [List.reverse_append] at this
  exact this
/-- What blanks at the ends do not change is the same of the trimmed text. -/
theorem trim_same {α : Type} (f : List UInt8 → α) (h1 : ∀ c l, bl c = true → f (c :: l) = f l) (h2 : ∀ l c, bl c = true → f (l ++ [c]) = f l) (l : List UInt8) : f (trimL l) = f l := by
  obtain ⟨p, q, hp, hq, e⟩ := trim_split l
  have a1 : ∀ (p m : List UInt8), (∀ c ∈ p, bl c = true) → f (p ++ m) = f m := by
    intro p m
    induction p with
    | nil => intro _; rfl
    | cons c p ih => intro h; rw [List.cons_append, h1 _ _ (h c (List.mem_cons_self ..)), ih fun d hd => h d (List.mem_cons_of_mem _ hd)]
  have a2 : ∀ (q m : List UInt8), (∀ c ∈ q, bl c = true) → f (m ++ q) = f m := by
    intro q
    induction q with
    | nil => intro m _; rw [List.append_nil]
    | cons c q ih =>
      intro m h
      rw [show m ++ c :: q = (m ++ [c]) ++ q by simp, ih _ fun d hd => h d (List.mem_cons_of_mem _ hd), h2 _ _ (h c (List.mem_cons_self ..))]
  conv => rhs; rw [e]
  rw [List.append_assoc, a1 _ _ hp, a2 _ _ hq]
theorem bl_ne {c : UInt8} (h : bl c = true) : c ≠ 61 ∧ c ≠ 59 ∧ ctlB c = false := by
  rcases (bl_iff c).1 h with rfl | rfl <;> decide
theorem cutP_snoc (c : UInt8) (hc : c ≠ 61) : ∀ l : List UInt8, cutP 61 (l ++ [c]) = if (cutP 61 l).2.2 = true then ((cutP 61 l).1, (cutP 61 l).2.1 ++ [c], true) else ((cutP 61 l).1 ++ [c], [], false)
  | [] => by simp [cutP, hc]
  | d :: l => by
    have ih := cutP_snoc c hc l
    rw [List.cons_append, cutP, cutP, ih]
    by_cases hd : d = 61
    · rw [if_pos hd, if_pos hd]; simp
    · rw [if_neg hd, if_neg hd]
      by_cases hf : (cutP 61 l).2.2 = true
      · simp [hf]
      · simp [hf]
theorem cutP_none : ∀ l : List UInt8, (cutP 61 l).2.2 = false → cutP 61 l = (l, [], false)
  | [], _ => rfl
  | c :: l, h => by
    rw [cutP] at h ⊢
    by_cases hc : c = 61
    · rw [if_pos hc] at h; cases h
    · rw [if_neg hc] at h ⊢
      rw [cutP_none l h]
/-- A pair of a trimmed part is the pair of the part. -/
theorem pair_trim (l : List UInt8) : trimL (cutP 61 (trimL l)).1 = trimL (cutP 61 l).1 ∧ trimL (cutP 61 (trimL l)).2.1 = trimL (cutP 61 l).2.1 ∧ (cutP 61 (trimL l)).2.2 = (cutP 61 l).2.2 := by
  refine ⟨trim_same (fun l => trimL (cutP 61 l).1) ?_ ?_ l, trim_same (fun l => trimL (cutP 61 l).2.1) ?_ ?_ l, trim_same (fun l => (cutP 61 l).2.2) ?_ ?_ l⟩
  · intro c l h
    show trimL (cutP 61 (c :: l)).1 = _
    rw [cutP, if_neg (bl_ne h).1]
    exact trimL_cons c _ h
  · intro l c h
    show trimL (cutP 61 (l ++ [c])).1 = _
    rw [cutP_snoc c (bl_ne h).1]
    split
    · rfl
    · exact trimL_snoc _ c h
  · intro c l h
    show trimL (cutP 61 (c :: l)).2.1 = _
    rw [cutP, if_neg (bl_ne h).1]
  · intro l c h
    show trimL (cutP 61 (l ++ [c])).2.1 = _
    rw [cutP_snoc c (bl_ne h).1]
    split
    · exact trimL_snoc _ c h
    · rename_i hf
      rw [cutP_none l (by simpa using hf)]
  · intro c l h
    show (cutP 61 (c :: l)).2.2 = _
    rw [cutP, if_neg (bl_ne h).1]
  · intro l c h
    show (cutP 61 (l ++ [c])).2.2 = _
    rw [cutP_snoc c (bl_ne h).1]
    split
    · rename_i hf; exact hf.symm
    · rename_i hf; simpa using hf
theorem pnm_trim (s : ByteArray) : pnm (trimA s) = pnm s := ba_list (pair_trim s.data.toList).1
theorem pvl_trim (s : ByteArray) : pvl (trimA s) = pvl s := ba_list (pair_trim s.data.toList).2.1
theorem eqF_trim (s : ByteArray) : eqF (trimA s) = eqF s := (pair_trim s.data.toList).2.2
theorem heard_trim (t : Cki) (s : ByteArray) : heard t (trimA s) = heard t s := by unfold heard; rw [pvl_trim, pnm_trim]
theorem foldl_trim : ∀ (r : List ByteArray) (t : Cki), (r.map trimA).foldl heard t = r.foldl heard t
  | [], _ => rfl
  | p :: r, t => by rw [List.map_cons, List.foldl_cons, List.foldl_cons, heard_trim, foldl_trim r]
/-- Whether the parts are trimmed makes no difference. -/
theorem prsF_trim (ps : List ByteArray) : prsF (ps.map trimA) = prsF ps := by
  cases ps with
  | nil => rfl
  | cons p r =>
    have h1 : fnm (trimA p) = fnm p := by unfold fnm; rw [eqF_trim, pnm_trim]
    have h2 : fvl (trimA p) = fvl p := by unfold fvl; rw [eqF_trim, pnm_trim, pvl_trim]
    rw [List.map_cons]
    unfold prsF
    simp only [h1, h2, foldl_trim]
/-- The parts as lists. -/
theorem partsA_asB (s : ByteArray) : partsA 59 s = ((parts 59 s.data.toList).map asB).map trimA := by
  rw [partsA, ← rawP_data, List.map_map, List.map_map]
  apply List.map_congr_left
  intro x _
  rfl
/-- What a text tells, over its bytes. -/
def prsL (l : List UInt8) : Cki × Int :=
  if 65536 < l.length then (ck0, 3) else if l.any ctlB then (ck0, 4) else prsF ((parts 59 l).map asB)
theorem prsC_eq (s : ByteArray) : prsC s = prsL s.data.toList := by
  unfold prsC prsL
  rw [partsA_asB, prsF_trim, lenB]

/-- Blanks behind each semicolon. -/
def wid (l : List UInt8) : List UInt8 := l.flatMap fun c => if c = 59 then [59, 32, 9] else [c]
theorem wid_cons (c : UInt8) (l : List UInt8) : wid (c :: l) = (if c = 59 then [59, 32, 9] else [c]) ++ wid l := rfl
theorem wid_len (l : List UInt8) : l.length ≤ (wid l).length ∧ (wid l).length ≤ 3 * l.length := by
  induction l with
  | nil => exact ⟨Nat.le_refl _, Nat.le_refl _⟩
  | cons c l ih =>
    rw [wid_cons, List.length_append, List.length_cons]
    split <;> simp <;> omega
theorem wid_ctl (l : List UInt8) : (wid l).any ctlB = l.any ctlB := by
  induction l with
  | nil => rfl
  | cons c l ih =>
    rw [wid_cons, List.any_append, ih, List.any_cons]
    split
    · rename_i h; subst h; rfl
    · simp
theorem wid_parts (l : List UInt8) : ∃ p r, parts 59 l = p :: r ∧ parts 59 (wid l) = p :: r.map (fun q => 32 :: 9 :: q) := by
  induction l with
  | nil => exact ⟨[], [], rfl, rfl⟩
  | cons c l ih =>
    obtain ⟨p, r, h1, h2⟩ := ih
    rw [wid_cons]
    by_cases hc : c = 59
    · subst hc
      refine ⟨[], p :: r, by rw [parts, if_pos rfl, h1], ?_⟩
      rw [if_pos rfl]
      show parts 59 (59 :: 32 :: 9 :: wid l) = _
      rw [parts, if_pos rfl, parts, if_neg (by decide), parts, if_neg (by decide), h2]; rfl
    · refine ⟨c :: p, r, by rw [parts, if_neg hc, h1]; rfl, ?_⟩
      rw [if_neg hc]
      show parts 59 (c :: wid l) = _
      rw [parts, if_neg hc, h2]; rfl
theorem parts_snoc (c : UInt8) (hc : c ≠ 59) (l : List UInt8) : ∃ ps p, parts 59 l = ps ++ [p] ∧ parts 59 (l ++ [c]) = ps ++ [p ++ [c]] := by
  induction l with
  | nil => exact ⟨[], [], rfl, by show parts 59 [c] = _; rw [parts, if_neg hc]; rfl⟩
  | cons d l ih =>
    obtain ⟨ps, p, h1, h2⟩ := ih
    rw [List.cons_append]
    by_cases hd : d = 59
    · exact ⟨[] :: ps, p, by rw [parts, if_pos hd, h1]; rfl, by rw [parts, if_pos hd, h2]; rfl⟩
    · cases ps with
      | nil => exact ⟨[], d :: p, by rw [parts, if_neg hd, h1]; rfl, by rw [parts, if_neg hd, h2]; rfl⟩
      | cons q qs => exact ⟨(d :: q) :: qs, p, by rw [parts, if_neg hd, h1]; rfl, by rw [parts, if_neg hd, h2]; rfl⟩
theorem heard_nil (t : Cki) : heard t (asB []) = t := rfl
theorem trimA_asB (l : List UInt8) : trimA (asB l) = asB (trimL l) := rfl
theorem trimL_two (q : List UInt8) : trimL (32 :: 9 :: q) = trimL q := by rw [trimL_cons _ _ (by decide), trimL_cons _ _ (by decide)]
/-- Of what is behind the last semicolon, blanks make no difference; nor do two parts that are empty. -/
theorem prsF_of {a b : List (List UInt8)} (h : a.map trimL = b.map trimL) : prsF (a.map asB) = prsF (b.map asB) := by
  rw [← prsF_trim, ← prsF_trim (b.map asB)]
  have e : ∀ a : List (List UInt8), (a.map asB).map trimA = (a.map trimL).map asB := fun a => by
    rw [List.map_map, List.map_map]; rfl
  rw [e, e, h]
theorem prsF_more {a : List ByteArray} (ha : a ≠ []) (b : List ByteArray) {t : Cki} (h : prsF a = (t, 0)) : prsF (a ++ b) = (b.foldl heard t, 0) := by
  cases a with
  | nil => exact absurd rfl ha
  | cons p r =>
    rw [List.cons_append]
    unfold prsF at h ⊢
    simp only at h ⊢
    split at h
    · cases h
    · split at h
      · cases h
      · rename_i h1 h2
        rw [if_neg h1, if_neg h2, List.foldl_append]
        injection h with h3 h4
        rw [h3]
theorem prsL_wide {l : List UInt8} {t : Cki} (h : prsL l = (t, 0)) (hl : (wid l).length ≤ 60000) : prsL (wid l ++ [32, 59, 59]) = (t, 0) := by
  have h0 : ¬ 65536 < l.length := by have := (wid_len l).1; omega
  unfold prsL at h ⊢
  rw [if_neg h0] at h
  rw [if_neg (by rw [List.length_append, List.length_cons, List.length_cons, List.length_cons, List.length_nil]; omega), List.any_append, wid_ctl]
  split at h
  · cases h
  · rename_i hc
    rw [if_neg (by simpa [ctlB] using hc)]
    obtain ⟨p, r, h1, h2⟩ := wid_parts l
    obtain ⟨ps, q, h3, h4⟩ := parts_snoc 32 (by decide) (wid l)
    have e : parts 59 (wid l ++ [32, 59, 59]) = (ps ++ [q ++ [32]]) ++ [[], []] := by
      rw [show wid l ++ [32, 59, 59] = (wid l ++ [32]) ++ 59 :: [59] by simp, parts_append, h4]; rfl
    rw [e, List.map_append]
    have h5 : prsF ((ps ++ [q ++ [32]]).map asB) = (t, 0) := by
      rw [← h]
      apply prsF_of
      rw [List.map_append, List.map_cons, List.map_nil, trimL_snoc _ _ (by decide)]
      have : ps.map trimL ++ [trimL q] = (parts 59 (wid l)).map trimL := by rw [h3, List.map_append, List.map_cons, List.map_nil]
      rw [this, h2, h1, List.map_cons, List.map_cons, List.map_map]
      congr 1
      apply List.map_congr_left
      intro x _
      exact trimL_two x
    rw [prsF_more (by simp) _ h5]
    rfl

end Go.Proofs.YtllpdnmhabpbcaaGreatDoor
