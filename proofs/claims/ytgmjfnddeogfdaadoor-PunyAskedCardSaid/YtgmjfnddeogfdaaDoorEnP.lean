/-
  The document's telling of numbers, as lists; it is the program's. Of no walk.
-/
import Derived.Test.YtgmjfnddeogfdaaDoorEnG
namespace Go.Proofs.YtgmjfnddeogfdaaDoor

/-- The smallest sign from a sign on. -/
def minS (last : Nat) (l : List Nat) : Nat := l.foldl (fun m x => if last ≤ x ∧ x < m then x else m) 1114112
/-- One going through of the document's: what it tells, the number behind it, how many are told, the bias. -/
def docIn (plain m : Nat) : List Nat → Nat → Nat → Nat → List UInt8 × Nat × Nat × Nat
  | [], number, many, bias => ([], number, many, bias)
  | x :: l, number, many, bias =>
    if x < m then docIn plain m l (number + 1) many bias
    else if x = m then (digsL number number 36 bias ++ (docIn plain m l 0 (many + 1) (nb number (many + 1) (many == plain))).1, (docIn plain m l 0 (many + 1) (nb number (many + 1) (many == plain))).2)
    else docIn plain m l number many bias
/-- The document's numbers. -/
def docOut (plain : Nat) (l : List Nat) : Nat → Nat → Nat → Nat → Nat → List UInt8
  | 0, _, _, _, _ => []
  | f + 1, number, last, many, bias =>
    if many < l.length then
      (docIn plain (minS last l) l (number + (minS last l - last) * (many + 1)) many bias).1 ++
        docOut plain l f ((docIn plain (minS last l) l (number + (minS last l - last) * (many + 1)) many bias).2.1 + 1) (minS last l + 1)
          (docIn plain (minS last l) l (number + (minS last l - last) * (many + 1)) many bias).2.2.1 (docIn plain (minS last l) l (number + (minS last l - last) * (many + 1)) many bias).2.2.2
    else []

theorem minS_spec (last : Nat) : ∀ (l : List Nat) (m0 m : Nat), (∀ x ∈ l, last ≤ x → m ≤ x) → m ≤ m0 → (m = m0 ∨ (last ≤ m ∧ m ∈ l)) → l.foldl (fun m x => if last ≤ x ∧ x < m then x else m) m0 = m
  | [], m0, m, _, _, h => by
    rcases h with h | h
    · exact h.symm
    · simp at h
  | x :: l, m0, m, hle, hm, h => by
    rw [List.foldl_cons]
    have hx := hle x List.mem_cons_self
    by_cases hc : last ≤ x ∧ x < m0
    · rw [if_pos hc]
      refine minS_spec last l x m (fun y hy => hle y (List.mem_cons_of_mem _ hy)) (hx hc.1) ?_
      rcases h with h | ⟨h1, h2⟩
      · have := hx hc.1; omega
      · rcases List.mem_cons.1 h2 with h3 | h3
        · exact .inl h3
        · exact .inr ⟨h1, h3⟩
    · rw [if_neg hc]
      refine minS_spec last l m0 m (fun y hy => hle y (List.mem_cons_of_mem _ hy)) hm ?_
      rcases h with h | ⟨h1, h2⟩
      · exact .inl h
      · rcases List.mem_cons.1 h2 with h3 | h3
        · subst h3; left; omega
        · exact .inr ⟨h1, h3⟩

/-- How many of a list's pairs have a smaller sign; the sign itself; and stand ahead of a place. -/
def cS (SG : List Pr) (m : Nat) : Nat := SG.countP fun x => decide (x.1 < m)
def cE (D : List Pr) (m : Nat) : Nat := D.countP fun x => decide (x.1 = m)
def cL (D : List Pr) (m : Nat) : Nat := D.countP fun x => decide (x.1 ≤ m)
def cSp (SG : List Pr) (m p : Nat) : Nat := SG.countP fun x => decide (x.1 < m ∧ x.2 < p)
def cEp (D : List Pr) (m p : Nat) : Nat := D.countP fun x => decide (x.1 = m ∧ x.2 < p)

theorem cL_split (D : List Pr) (m : Nat) : cL D m = cS D m + cE D m := by
  induction D with
  | nil => rfl
  | cons x D ih =>
    unfold cL cS cE at *
    rw [List.countP_cons, List.countP_cons, List.countP_cons, ih]
    by_cases h1 : x.1 < m
    · simp [h1, show x.1 ≤ m by omega, show x.1 ≠ m by omega]; omega
    · by_cases h2 : x.1 = m
      · simp [h2]; omega
      · simp [h1, h2, show ¬ x.1 ≤ m by omega]
theorem cnt_le {SG D E : List Pr} (h : SG = D ++ E) (hr : Ris SG) (m p : Nat) (x : Pr) (hx : E.head? = some x) (hp : p = x.2) (hm : x.1 = m) : cSp SG m p + cEp D m p = cL D m := by
  subst h hp
  match E, hx with
  | y :: E, hx =>
    obtain rfl : y = x := by simpa using hx
    unfold Ris at hr
    rw [List.pairwise_append] at hr
    have hE : ∀ z ∈ y :: E, ¬ z.2 < y.2 := by
      intro z hz
      rcases List.mem_cons.1 hz with rfl | hz
      · omega
      · have := (List.pairwise_cons.1 hr.2.1).1 z hz; omega
    have hD : ∀ z ∈ D, z.2 < y.2 := fun z hz => hr.2.2 z hz y List.mem_cons_self
    have e1 : cSp (D ++ y :: E) m y.2 = cS D m := by
      unfold cSp cS
      rw [List.countP_append]
      have h0 : (y :: E).countP (fun x => decide (x.1 < m ∧ x.2 < y.2)) = 0 := by
        rw [List.countP_eq_zero]; intro z hz; simp; intro _; have := hE z hz; omega
      rw [h0, Nat.add_zero]
      exact List.countP_congr (fun z hz => by simp [hD z hz])
    have e2 : cEp D m y.2 = cE D m := by
      unfold cEp cE
      exact List.countP_congr (fun z hz => by simp [hD z hz])
    rw [e1, e2, cL_split]

/-- What links the two: told: the places that the program has told. -/
structure Lnk (SG D : List Pr) (B m number many place lastp i : Nat) (told : List Nat) : Prop where
  cnt : ∀ p, cntLt told p = cSp SG m p + cEp D m p
  man : many = cS SG m + cE D m
  idx : many = B + i
  num : number + place = (m - lastp) * (many + 1) + cL D m
  le : lastp ≤ m

theorem inner_eq (SG : List Pr) (hr : Ris SG) (B m : Nat) (Q' : List Pr) : ∀ (E D : List Pr) (number many bias place lastp i : Nat) (told : List Nat), SG = D ++ E → Lnk SG D B m number many place lastp i told →
    ∃ told' i' place' lastp', Lnk SG SG B m (docIn B m (E.map (·.1)) number many bias).2.1 (docIn B m (E.map (·.1)) number many bias).2.2.1 place' lastp' i' told' ∧ (lastp' = m ∨ (lastp' = lastp ∧ cE E m = 0)) ∧
      fewN B (E.filter (fun x => decide (x.1 = m)) ++ Q') told i place lastp bias = (docIn B m (E.map (·.1)) number many bias).1 ++ fewN B Q' told' i' place' lastp' (docIn B m (E.map (·.1)) number many bias).2.2.2
  | [], D, number, many, bias, place, lastp, i, told, hSG, h => by
    have hD : D = SG := by rw [hSG, List.append_nil]
    subst hD
    exact ⟨told, i, place, lastp, h, .inr ⟨rfl, rfl⟩, rfl⟩
  | x :: E, D, number, many, bias, place, lastp, i, told, hSG, h => by
    have hSG' : SG = (D ++ [x]) ++ E := by rw [hSG]; simp
    rw [List.map_cons]
    by_cases h1 : x.1 < m
    · have hd : docIn B m (x.1 :: E.map (·.1)) number many bias = docIn B m (E.map (·.1)) (number + 1) many bias := by rw [docIn, if_pos h1]
      have hf : (x :: E).filter (fun x => decide (x.1 = m)) = E.filter (fun x => decide (x.1 = m)) := by simp [show x.1 ≠ m by omega]
      have hl : Lnk SG (D ++ [x]) B m (number + 1) many place lastp i told := by
        refine ⟨fun p => ?_, ?_, h.idx, ?_, h.le⟩
        · rw [h.cnt p]; simp [cEp, List.countP_append, show x.1 ≠ m by omega]
        · rw [h.man]; simp [cE, List.countP_append, show x.1 ≠ m by omega]
        · have := h.num
          have e : cL (D ++ [x]) m = cL D m + 1 := by simp [cL, List.countP_append, show x.1 ≤ m by omega]
          omega
      obtain ⟨told', i', place', lastp', g1, g2, g3⟩ := inner_eq SG hr B m Q' E (D ++ [x]) (number + 1) many bias place lastp i told hSG' hl
      rw [hd, hf]
      refine ⟨told', i', place', lastp', g1, ?_, g3⟩
      rcases g2 with g2 | ⟨g2, g4⟩
      · exact .inl g2
      · exact .inr ⟨g2, by simpa [cE, show x.1 ≠ m by omega] using g4⟩
    · by_cases h2 : x.1 = m
      · have hd : docIn B m (x.1 :: E.map (·.1)) number many bias = (digsL number number 36 bias ++ (docIn B m (E.map (·.1)) 0 (many + 1) (nb number (many + 1) (many == B))).1, (docIn B m (E.map (·.1)) 0 (many + 1) (nb number (many + 1) (many == B))).2) := by
          rw [docIn, if_neg h1, if_pos h2]
        have hf : (x :: E).filter (fun x => decide (x.1 = m)) = x :: E.filter (fun x => decide (x.1 = m)) := by simp [h2]
        have hcl := cnt_le hSG hr m x.2 x rfl rfl h2
        have hct : cntLt told x.2 = cL D m := by rw [h.cnt, hcl]
        have hn : (x.1 - lastp) * (B + i + 1) + cntLt told x.2 - place = number := by
          rw [hct, h2, ← h.idx]
          have := h.num
          omega
        have hb : (many == B) = (i == 0) := by
          have := h.idx
          rw [Bool.eq_iff_iff]; simp; omega
        have hl : Lnk SG (D ++ [x]) B m 0 (many + 1) (cntLt told x.2 + 1) m (i + 1) (x.2 :: told) := by
          refine ⟨fun p => ?_, ?_, ?_, ?_, Nat.le_refl _⟩
          · rw [cntLt_cons, h.cnt p]
            by_cases hp : x.2 < p <;> simp [cEp, List.countP_append, h2, hp]; omega
          · rw [h.man]; simp [cE, List.countP_append, h2]; omega
          · have := h.idx; omega
          · have e : cL (D ++ [x]) m = cL D m + 1 := by simp [cL, List.countP_append, show x.1 ≤ m by omega]
            rw [hct, e]; simp
        obtain ⟨told', i', place', lastp', g1, g2, g3⟩ := inner_eq SG hr B m Q' E (D ++ [x]) 0 (many + 1) (nb number (many + 1) (many == B)) (cntLt told x.2 + 1) m (i + 1) (x.2 :: told) hSG' hl
        rw [hd, hf]
        refine ⟨told', i', place', lastp', g1, ?_, ?_⟩
        · rcases g2 with g2 | ⟨g2, g4⟩
          · exact .inl g2
          · exact .inl g2
        · rw [List.cons_append]
          show fewN B ((x.1, x.2) :: (E.filter (fun x => decide (x.1 = m)) ++ Q')) told i place lastp bias = _
          rw [fewN, hn, ← h.idx, ← hb, h2, g3]
          simp
      · have hd : docIn B m (x.1 :: E.map (·.1)) number many bias = docIn B m (E.map (·.1)) number many bias := by rw [docIn, if_neg h1, if_neg h2]
        have hf : (x :: E).filter (fun x => decide (x.1 = m)) = E.filter (fun x => decide (x.1 = m)) := by simp [h2]
        have hl : Lnk SG (D ++ [x]) B m number many place lastp i told := by
          refine ⟨fun p => ?_, ?_, h.idx, ?_, h.le⟩
          · rw [h.cnt p]; simp [cEp, List.countP_append, h2]
          · rw [h.man]; simp [cE, List.countP_append, h2]
          · have e : cL (D ++ [x]) m = cL D m := by simp [cL, List.countP_append, show ¬ x.1 ≤ m by omega]
            rw [e]; exact h.num
        obtain ⟨told', i', place', lastp', g1, g2, g3⟩ := inner_eq SG hr B m Q' E (D ++ [x]) number many bias place lastp i told hSG' hl
        rw [hd, hf]
        refine ⟨told', i', place', lastp', g1, ?_, g3⟩
        rcases g2 with g2 | ⟨g2, g4⟩
        · exact .inl g2
        · exact .inr ⟨g2, by simpa [cE, h2] using g4⟩

theorem outer_eq (SG : List Pr) (hr : Ris SG) (hs : ∀ x ∈ SG, x.1 ≤ 1114111) (B : Nat) : ∀ (f : Nat) (Q : List Pr) (number last many bias place lastp i : Nat) (told : List Nat), Q.length ≤ f → Srt Q → Q.Perm (SG.filter fun x => decide (last ≤ x.1)) →
    (∀ p, cntLt told p = cSp SG last p) → many = cS SG last → many = B + i → number + place = (last - lastp) * (many + 1) → lastp ≤ last →
    docOut B (SG.map (·.1)) f number last many bias = fewN B Q told i place lastp bias := by
  intro f
  induction f with
  | zero =>
    intro Q number last many bias place lastp i told hf _ _ _ _ _ _ _
    obtain rfl : Q = [] := List.eq_nil_of_length_eq_zero (by omega)
    rfl
  | succ f ih =>
    intro Q number last many bias place lastp i told hf hQ hperm hcnt hmany hidx hnum hle
    have hlen : Q.length + cS SG last = SG.length := by
      rw [hperm.length_eq, cS, ← List.countP_eq_length_filter]
      have := List.length_eq_countP_add_countP (fun x : Pr => decide (last ≤ x.1)) (l := SG)
      rw [this]
      congr 1
      exact List.countP_congr (fun x _ => by simp)
    match Q, hQ, hperm, hlen with
    | [], _, _, hlen =>
      rw [docOut, if_neg (by simp at hlen; rw [List.length_map]; omega)]; rfl
    | x :: Q1, hQ, hperm, hlen =>
      have hmem : ∀ y, y ∈ x :: Q1 ↔ y ∈ SG ∧ last ≤ y.1 := fun y => by rw [hperm.mem_iff]; simp
      have hx := (hmem x).1 List.mem_cons_self
      obtain ⟨m, hm⟩ : ∃ m, m = x.1 := ⟨_, rfl⟩
      have hmin : ∀ y ∈ x :: Q1, m ≤ y.1 := by
        intro y hy
        rcases List.mem_cons.1 hy with rfl | hy
        · omega
        · have := ltP_le ((List.pairwise_cons.1 hQ).1 y hy); omega
      have hmS : minS last (SG.map (·.1)) = m := by
        refine minS_spec last _ _ m ?_ (by have := hs x hx.1; omega) (.inr ⟨by omega, by rw [hm]; exact List.mem_map_of_mem hx.1⟩)
        intro y hy hly
        obtain ⟨z, hz, rfl⟩ := List.mem_map.1 hy
        exact hmin z ((hmem z).2 ⟨hz, hly⟩)
      have hno : ∀ z ∈ SG, z.1 < m → z.1 < last := fun z hz hzm => by
        rcases Nat.lt_or_ge z.1 last with h | h
        · exact h
        · have := hmin z ((hmem z).2 ⟨hz, h⟩); omega
      have hlm : last ≤ m := by omega
      have hcS : cS SG m = cS SG last := by
        unfold cS
        exact List.countP_congr (fun z hz => by have := hno z hz; simp; omega)
      have hcSp : ∀ p, cSp SG m p = cSp SG last p := fun p => by
        unfold cSp
        exact List.countP_congr (fun z hz => by have := hno z hz; simp; omega)
      -- the remaining pairs: those of the sign, then the greater ones
      have hsplit : x :: Q1 = (SG.filter fun z => decide (z.1 = m)) ++ ((x :: Q1).filter fun z => decide (m < z.1)) := by
        have h1 : ∀ l : List Pr, Srt l → (∀ y ∈ l, m ≤ y.1) → l = (l.filter fun z => decide (z.1 = m)) ++ (l.filter fun z => decide (m < z.1)) := by
          intro l
          induction l with
          | nil => intro _ _; rfl
          | cons y l ihl =>
            intro hsl hml
            have hy := hml y List.mem_cons_self
            have ih' := ihl (List.pairwise_cons.1 hsl).2 (fun z hz => hml z (List.mem_cons_of_mem _ hz))
            by_cases hym : y.1 = m
            · simp only [List.filter_cons, hym, decide_true, if_true, Nat.lt_irrefl, decide_false, Bool.false_eq_true, if_false, List.cons_append]
              rw [← ih']
            · have hgt : ∀ z ∈ y :: l, m < z.1 := by
                intro z hz
                rcases List.mem_cons.1 hz with rfl | hz
                · omega
                · have := ltP_le ((List.pairwise_cons.1 hsl).1 z hz); omega
              have e1 : (y :: l).filter (fun z => decide (z.1 = m)) = [] := by
                rw [List.filter_eq_nil_iff]; intro z hz; have := hgt z hz; simp; omega
              have e2 : (y :: l).filter (fun z => decide (m < z.1)) = y :: l := by
                rw [List.filter_eq_self]; intro z hz; simp [hgt z hz]
              rw [e1, e2]; rfl
        have h2 : (x :: Q1).filter (fun z => decide (z.1 = m)) = SG.filter fun z => decide (z.1 = m) := by
          have hp2 : ((x :: Q1).filter (fun z => decide (z.1 = m))).Perm (SG.filter fun z => decide (z.1 = m)) := by
            refine (hperm.filter _).trans ?_
            rw [List.filter_filter]
            refine List.Perm.of_eq (List.filter_congr (fun z _ => ?_))
            rw [Bool.eq_iff_iff]; simp; omega
          refine List.Perm.eq_of_pairwise (le := ltP) (fun a b _ _ h h' => absurd (ltP_trans h h') (ltP_irrefl a)) ((hQ.filter _)) ?_ hp2
          rw [List.pairwise_filter]
          refine hr.imp ?_
          intro a b hab h h'
          simp at h h'
          exact .inr ⟨by omega, hab⟩
        rw [← h2]
        exact h1 _ hQ hmin
      obtain ⟨n1, hn1⟩ : ∃ n1, n1 = number + (m - last) * (many + 1) := ⟨_, rfl⟩
      have hl : Lnk SG [] B m n1 many place lastp i told := by
        refine ⟨fun p => ?_, ?_, hidx, ?_, by omega⟩
        · rw [hcnt p, ← hcSp p]; rfl
        · rw [hcS]; exact hmany
        · have e : (m - lastp) * (many + 1) = (m - last) * (many + 1) + (last - lastp) * (many + 1) := by rw [← Nat.add_mul]; congr 1; omega
          rw [hn1, e]
          show _ = _ + 0
          omega
      obtain ⟨told', i', place', lastp', g1, g2, g3⟩ := inner_eq SG hr B m ((x :: Q1).filter fun z => decide (m < z.1)) SG [] n1 many bias place lastp i told rfl hl
      have hce : 0 < cE SG m := by
        unfold cE
        rw [List.countP_pos_iff]
        exact ⟨x, hx.1, by simp [hm]⟩
      have hlp : lastp' = m := by
        rcases g2 with g2 | ⟨_, g4⟩
        · exact g2
        · omega
      subst hlp
      obtain ⟨r, hrr⟩ : ∃ r, r = docIn B lastp' (SG.map (·.1)) n1 many bias := ⟨_, rfl⟩
      rw [← hrr] at g1 g3
      have hmany2 : cS SG (lastp' + 1) = cS SG lastp' + cE SG lastp' := by
        rw [← cL_split]
        unfold cS cL
        exact List.countP_congr (fun z _ => by simp; omega)
      rw [docOut, if_pos (by rw [List.length_map]; simp at hlen; omega), hmS, ← hn1, ← hrr]
      rw [hsplit, g3]
      congr 1
      refine ih _ _ _ _ _ _ _ _ _ ?_ (hQ.filter _) ?_ ?_ ?_ g1.idx ?_ (by omega)
      · have : ((x :: Q1).filter fun z => decide (lastp' < z.1)).length ≤ Q1.length := by
          have e : (x :: Q1).filter (fun z => decide (lastp' < z.1)) = Q1.filter fun z => decide (lastp' < z.1) := by simp [hm]
          rw [e]; exact List.length_filter_le _ _
        simp at hf; omega
      · refine (hperm.filter _).trans ?_
        rw [List.filter_filter]
        refine List.Perm.of_eq (List.filter_congr (fun z _ => ?_))
        rw [Bool.eq_iff_iff]; simp; omega
      · intro p
        rw [g1.cnt p]
        have : ∀ l : List Pr, cSp l lastp' p + cEp l lastp' p = cSp l (lastp' + 1) p := by
          intro l
          induction l with
          | nil => rfl
          | cons z l ihl =>
            unfold cSp cEp at *
            rw [List.countP_cons, List.countP_cons, List.countP_cons, ← ihl]
            by_cases a1 : z.1 < lastp'
            · simp [a1, show z.1 ≠ lastp' by omega, show z.1 < lastp' + 1 by omega]; omega
            · by_cases a2 : z.1 = lastp'
              · simp [a2]; omega
              · simp [a1, a2, show ¬ z.1 < lastp' + 1 by omega]
        exact this SG
      · rw [hmany2]; exact g1.man
      · have e1 := g1.num
        have e2 := g1.man
        have e3 := cL_split SG lastp'
        have e4 : lastp' + 1 - lastp' = 1 := by omega
        simp only [Nat.sub_self, Nat.zero_mul] at e1
        rw [e4]
        omega

end Go.Proofs.YtgmjfnddeogfdaaDoor
