/-
  Plain words: texts that do not look like four bytes; sixteen bytes with all their noughts; what a text of sixteen bytes is made of. Of no program.
-/
import Derived.Test.YtgmjfnddeogfdabDoorTxU
namespace Go.Proofs.YtgmjfnddeogfdabDoor
open Go.RowKit

/- A last part that begins with a letter. -/
theorem looks_name (c : UInt8) (t : List UInt8) (hc : 97 ≤ c.toNat ∧ c.toNat ≤ 122) : looksQ (c :: t) = false := by
  have h1 : dig 10 c = false := by
    have : ¬ hexV c < 10 := by
      unfold hexV
      rw [if_neg (by omega), if_neg (by omega)]
      split <;> omega
    simp [dig, this]
  have h2 : c ≠ 48 := fun e => by rw [e] at hc; exact absurd hc.1 (by decide)
  have h3 : isX (c :: t) = false := by
    cases t with
    | nil => rfl
    | cons d t => simp [isX, h2]
  simp [looksQ, h1, h3]
theorem last_no46 (c : UInt8) (t : List UInt8) (hc : 97 ≤ c.toNat ∧ c.toNat ≤ 122) (ht : ∀ x ∈ t, x ≠ 46) : ∀ x ∈ c :: t, x ≠ 46 := by
  intro x hx
  rcases List.mem_cons.1 hx with rfl | hx
  · intro e; rw [e] at hc; exact absurd hc.1 (by decide)
  · exact ht x hx
theorem name_one (c : UInt8) (t : List UInt8) (hc : 97 ≤ c.toNat ∧ c.toNat ≤ 122) (ht : ∀ x ∈ t, x ≠ 46) : fourD (c :: t) = (false, none) := by
  have h := last_no46 c t hc ht
  have h1 : trimP (c :: t) = c :: t := trimP_id (fun e => h 46 (List.mem_of_getLast? e) rfl)
  rw [fourD, h1, pts_none 46 _ h]
  rw [show lastQ [c :: t] = c :: t from rfl, looks_name c t hc]
  rfl
theorem getLast_app {α : Type} (l m : List α) (h : m ≠ []) : (l ++ m).getLast? = m.getLast? := by
  rw [List.getLast?_append]
  cases e : m.getLast? with
  | none => rw [List.getLast?_eq_none_iff] at e; contradiction
  | some z => rfl
theorem name_two (s : List UInt8) (c : UInt8) (t : List UInt8) (hc : 97 ≤ c.toNat ∧ c.toNat ≤ 122) (ht : ∀ x ∈ t, x ≠ 46) : fourD (s ++ 46 :: c :: t) = (false, none) ∧ fourD (s ++ 46 :: c :: t ++ [46]) = (false, none) := by
  have h := last_no46 c t hc ht
  have hl : (s ++ 46 :: c :: t).getLast? ≠ some 46 := by
    rw [getLast_app _ _ (by simp), List.getLast?_cons_cons]
    exact fun e => h 46 (List.mem_of_getLast? e) rfl
  have h1 : trimP (s ++ 46 :: c :: t) = s ++ 46 :: c :: t := trimP_id hl
  have h2 : trimP (s ++ 46 :: c :: t ++ [46]) = s ++ 46 :: c :: t := by
    rw [trimP, if_pos (by rw [getLast_app _ _ (by simp)]; rfl), List.dropLast_concat]
  have h3 : lastQ (pts 46 (s ++ 46 :: c :: t)) = c :: t := by
    rw [pts_append, pts_none 46 _ h, lastQ, List.getLast?_concat]; rfl
  constructor
  · rw [fourD, h1, h3, looks_name c t hc]; rfl
  · rw [fourD, h2, h3, looks_name c t hc]; rfl

/- Sixteen bytes with all their noughts. -/
def hx (g : Bool) (d : Nat) : UInt8 := UInt8.ofNat (if d < 10 then 48 + d else if g then 55 + d else 87 + d)
theorem hx_all : ∀ g : Bool, ∀ d : Fin 16, hexV (hx g d.1) = d.1 ∧ hx g d.1 ≠ 58 ∧ hx g d.1 ≠ 46 := by decide +kernel
def pr (g : Bool) (n : Nat) : List UInt8 := [hx g (n / 16), hx g (n % 16)]
theorem pc1_pair (g : Bool) (x y : Nat) (hx1 : x < 256) (hy : y < 256) : pc1 (pr g x ++ pr g y) = some [256 * x + y] ∧ (∀ c ∈ pr g x ++ pr g y, c ≠ 58) ∧ pr g x ++ pr g y ≠ [] := by
  have a := hx_all g ⟨x / 16, by omega⟩
  have b := hx_all g ⟨x % 16, by omega⟩
  have c := hx_all g ⟨y / 16, by omega⟩
  have d := hx_all g ⟨y % 16, by omega⟩
  simp only at a b c d
  refine ⟨?_, ?_, by simp [pr]⟩
  · have hal : (pr g x ++ pr g y).all (dig 16) = true := by
      simp [pr, dig, a.1, b.1, c.1, d.1]; omega
    rw [pc1, if_pos (by simp [pr]), cnt_all hal]
    have : fol 16 (pr g x ++ pr g y) = 256 * x + y := by
      simp only [pr, List.cons_append, List.nil_append, fol, List.foldl_cons, List.foldl_nil, stp, a.1, b.1, c.1, d.1]
      omega
    rw [this]
  · intro e he
    simp only [pr, List.cons_append, List.nil_append, List.mem_cons, List.not_mem_nil, or_false] at he
    rcases he with rfl | rfl | rfl | rfl
    · exact a.2.1
    · exact b.2.1
    · exact c.2.1
    · exact d.2.1
/-- The pieces of bytes, each with all its noughts. -/
def qd (g : Bool) (l : List Nat) (j : Nat) : List UInt8 := pr g (l.getD (2 * j) 0) ++ pr g (l.getD (2 * j + 1) 0)
theorem getD_small {l : List Nat} (hb : ∀ x ∈ l, x < 256) (i : Nat) : l.getD i 0 < 256 := by
  rw [List.getD_eq_getElem?_getD]
  cases h : l[i]? with
  | none => decide
  | some x => exact hb x (List.mem_of_getElem? h)
theorem evs_join {evI evL : List UInt8 → Option (List Nat)} (f : Nat → List UInt8) (v : Nat → Nat) : ∀ (i : Nat) (is : List Nat), (∀ j ∈ i :: is, evI (f j) = some [v j] ∧ evL (f j) = some [v j]) → evs evI evL ((i :: is).map f) = some ((i :: is).map v)
  | i, [], h => (h i (by simp)).2
  | i, j :: is, h => by
    have ih := evs_join f v j is (fun q hq => h q (List.mem_cons_of_mem _ hq))
    rw [List.map_cons, evs_cons _ _ _ (by simp), (h i (by simp)).1, ih]; rfl
theorem qd_ok (g : Bool) {l : List Nat} (hb : ∀ x ∈ l, x < 256) (is : List Nat) : ∀ q ∈ is.map (qd g l), q ≠ [] ∧ ∀ c ∈ q, c ≠ 58 := by
  intro q hq
  obtain ⟨j, _, rfl⟩ := List.mem_map.1 hq
  have := pc1_pair g (l.getD (2 * j) 0) (l.getD (2 * j + 1) 0) (getD_small hb _) (getD_small hb _)
  exact ⟨this.2.2, this.2.1⟩
theorem six_full (g : Bool) (l : List Nat) (hb : ∀ x ∈ l, x < 256) : sixD (Lib.join ((List.range 8).map (qd g l)) [58]) = some (pcs l) := by
  have hr : List.range 8 = 0 :: [1, 2, 3, 4, 5, 6, 7] := rfl
  have h1 := qd_ok g hb (0 :: [1, 2, 3, 4, 5, 6, 7])
  have hv : ∀ j, j < 8 → by2 l 16 j = 256 * l.getD (2 * j) 0 + l.getD (2 * j + 1) 0 := fun j hj => by rw [by2, if_pos (by omega)]
  have he : evs pc1 both1 ((0 :: [1, 2, 3, 4, 5, 6, 7]).map (qd g l)) = some ((0 :: [1, 2, 3, 4, 5, 6, 7]).map (by2 l 16)) := evs_join (qd g l) (by2 l 16) 0 _ (fun j hj => by
    have hj8 : j < 8 := by
      simp only [List.mem_cons, List.not_mem_nil, or_false] at hj; omega
    have := (pc1_pair g (l.getD (2 * j) 0) (l.getD (2 * j + 1) 0) (getD_small hb _) (getD_small hb _)).1
    rw [hv j hj8]
    refine ⟨this, ?_⟩
    show both1 (pr g (l.getD (2 * j) 0) ++ pr g (l.getD (2 * j + 1) 0)) = _
    rw [both1, this])
  rw [List.map_cons] at h1
  rw [hr, List.map_cons, sixD, cut2_join _ _ h1]
  simp only
  rw [piecesD, if_neg (join_last 58 _ _ h1).1, if_pos rfl, pts_join 58 _ _ (fun q hq => (h1 q hq).2), ← List.map_cons, he]
  rfl
theorem four_pieces (a b c d : Nat) (ha : a < 256) (hb : b < 256) (hc : c < 256) (hd : d < 256) : pc1 (Lib.join ([a, b, c, d].map (numF 10 4)) [46]) = none ∧ four1 (Lib.join ([a, b, c, d].map (numF 10 4)) [46]) = some [256 * a + b, 256 * c + d] ∧ (∀ x ∈ Lib.join ([a, b, c, d].map (numF 10 4)) [46], x ≠ 58) ∧ Lib.join ([a, b, c, d].map (numF 10 4)) [46] ≠ [] := by
  have h1 := decs_ok [a, b, c, d]
  have hp : pts 46 (Lib.join ([a, b, c, d].map (numF 10 4)) [46]) = [a, b, c, d].map (numF 10 4) := pts_join 46 _ _ (fun q hq => (h1 q hq).2)
  have he : evs sm1 sm1 ([a, b, c, d].map (numF 10 4)) = some [a, b, c, d] := evs_mapG _ _ _ a [b, c, d] (fun m hm => by
    have : m < 256 := by
      simp at hm
      rcases hm with rfl | rfl | rfl | rfl <;> assumption
    exact ⟨sm1_numF m this, sm1_numF m this⟩)
  have h4 : four1 (Lib.join ([a, b, c, d].map (numF 10 4)) [46]) = some [256 * a + b, 256 * c + d] := by rw [four1, hp, he]; rfl
  refine ⟨?_, h4, ?_, (join_last 46 _ _ h1).1⟩
  · cases h : pc1 (Lib.join ([a, b, c, d].map (numF 10 4)) [46]) with
    | none => rfl
    | some ns => rw [pc1_no46 h] at h4; cases h4
  · intro x hx
    have e : Lib.join ([a, b, c, d].map (numF 10 4)) [46] = numF 10 4 a ++ 46 :: (numF 10 4 b ++ 46 :: (numF 10 4 c ++ 46 :: numF 10 4 d)) := by
      show Lib.join [numF 10 4 a, numF 10 4 b, numF 10 4 c, numF 10 4 d] [46] = _
      rw [join_split, join_split, join_split, Lib.join_one]
    rw [e] at hx
    have g : ∀ n, ∀ y ∈ numF 10 4 n, y ≠ 58 := fun n y hy => (numF_no (by omega) (by omega) 4 n y hy).2.1
    simp only [List.mem_append, List.mem_cons] at hx
    rcases hx with h | rfl | h | rfl | h | rfl | h
    · exact g _ _ h
    · decide
    · exact g _ _ h
    · decide
    · exact g _ _ h
    · decide
    · exact g _ _ h
/-- The last four bytes as numbers with points. -/
def tailP (g : Bool) (l : List Nat) : List UInt8 := Lib.join ((List.range 6).map (qd g l) ++ [Lib.join ([l.getD 12 0, l.getD 13 0, l.getD 14 0, l.getD 15 0].map (numF 10 4)) [46]]) [58]
theorem six_tail (g : Bool) (l : List Nat) (hb : ∀ x ∈ l, x < 256) : sixD (tailP g l) = some (pcs l) := by
  have h4 := four_pieces (l.getD 12 0) (l.getD 13 0) (l.getD 14 0) (l.getD 15 0) (getD_small hb _) (getD_small hb _) (getD_small hb _) (getD_small hb _)
  obtain ⟨Q, hQ⟩ : ∃ Q, Lib.join ([l.getD 12 0, l.getD 13 0, l.getD 14 0, l.getD 15 0].map (numF 10 4)) [46] = Q := ⟨_, rfl⟩
  rw [hQ] at h4
  unfold tailP
  rw [hQ]
  have hv : ∀ j, j < 8 → by2 l 16 j = 256 * l.getD (2 * j) 0 + l.getD (2 * j + 1) 0 := fun j hj => by rw [by2, if_pos (by omega)]
  have hq : ∀ j, j < 6 → pc1 (qd g l j) = some [by2 l 16 j] := fun j hj => by
    rw [hv j (by omega)]
    exact (pc1_pair g (l.getD (2 * j) 0) (l.getD (2 * j + 1) 0) (getD_small hb _) (getD_small hb _)).1
  have h1 : ∀ q ∈ qd g l 0 :: [qd g l 1, qd g l 2, qd g l 3, qd g l 4, qd g l 5, Q], q ≠ [] ∧ ∀ c ∈ q, c ≠ 58 := by
    intro q hm
    have hk := qd_ok g hb [0, 1, 2, 3, 4, 5]
    simp only [List.map_cons, List.map_nil] at hk
    simp only [List.mem_cons, List.not_mem_nil, or_false] at hm
    rcases hm with rfl | rfl | rfl | rfl | rfl | rfl | rfl
    · exact hk _ (by simp)
    · exact hk _ (by simp)
    · exact hk _ (by simp)
    · exact hk _ (by simp)
    · exact hk _ (by simp)
    · exact hk _ (by simp)
    · exact ⟨h4.2.2.2, h4.2.2.1⟩
  have he : (List.range 6).map (qd g l) ++ [Q] = qd g l 0 :: [qd g l 1, qd g l 2, qd g l 3, qd g l 4, qd g l 5, Q] := rfl
  rw [he, sixD, cut2_join _ _ h1]
  simp only
  rw [piecesD, if_neg (join_last 58 _ _ h1).1, if_pos rfl, pts_join 58 _ _ (fun q hq => (h1 q hq).2)]
  have hb1 : both1 Q = some [256 * l.getD 12 0 + l.getD 13 0, 256 * l.getD 14 0 + l.getD 15 0] := by rw [both1, h4.1]; exact h4.2.1
  have hev : evs pc1 both1 (qd g l 0 :: [qd g l 1, qd g l 2, qd g l 3, qd g l 4, qd g l 5, Q]) = some (pcs l) := by
    simp only [evs, hq 0 (by omega), hq 1 (by omega), hq 2 (by omega), hq 3 (by omega), hq 4 (by omega), hq 5 (by omega), hb1]
    have e6 := hv 6 (by omega)
    have e7 := hv 7 (by omega)
    simp only [Nat.reduceMul, Nat.reduceAdd] at e6 e7
    rw [← e6, ← e7]
    rfl
  rw [hev]
  rfl

/- What a text of sixteen bytes is made of. -/
def goodC (c : UInt8) : Bool := c == 58 || (decide (48 ≤ c.toNat) && decide (c.toNat ≤ 57)) || (decide (97 ≤ c.toNat) && decide (c.toNat ≤ 102))
/-- No sign that is none, no nought ahead of a piece; p: begins a piece here? -/
def okS : Bool → List UInt8 → Bool
  | _, [] => true
  | p, c :: r => goodC c && !(c == 48 && p && !r.isEmpty && !(r.head? == some 58)) && okS (c == 58) r
/-- How often two colons stand together. -/
def twoS : Bool → List UInt8 → Nat
  | _, [] => 0
  | p, c :: r => (if p && c == 58 then 1 else 0) + twoS (c == 58) r
theorem hd_good : ∀ d : Fin 16, goodC (hd d.1) = true ∧ (hd d.1 == 58) = false := by decide +kernel
def Edge (R : List UInt8) : Prop := R = [] ∨ ∃ r, R = 58 :: r
theorem okS_edge {R : List UInt8} (h : Edge R) (p q : Bool) : okS p R = okS q R := by
  rcases h with rfl | ⟨r, rfl⟩
  · rfl
  · simp [okS]
theorem okS_plain (R : List UInt8) : ∀ q : List UInt8, (∀ c ∈ q, goodC c = true ∧ (c == 58) = false) → okS false (q ++ R) = okS false R
  | [], _ => rfl
  | c :: q, h => by
    rw [List.cons_append, okS, (h c (by simp)).1, (h c (by simp)).2, okS_plain R q (fun x hx => h x (List.mem_cons_of_mem _ hx))]
    simp
theorem numF_good (n : Nat) : ∀ c ∈ numF 16 4 n, goodC c = true ∧ (c == 58) = false := by
  intro c hc
  obtain ⟨d, hd1, rfl⟩ := numF_mem 16 (by omega) (by omega) 4 n c hc
  exact hd_good ⟨d, hd1⟩
theorem okS_num (n : Nat) (hn : n < 65536) (R : List UInt8) (hR : Edge R) (p : Bool) : okS p (numF 16 4 n ++ R) = okS true R := by
  have hg := numF_good n
  have hne := numF_ne 16 4 n (by omega)
  have h48 := numF_len48 (b := 16) (by omega) (by omega) 3 n (by omega)
  cases e : numF 16 4 n with
  | nil => contradiction
  | cons c q =>
    rw [e] at hg h48
    rw [List.cons_append, okS, (hg c (by simp)).1, (hg c (by simp)).2, okS_plain R q (fun x hx => hg x (List.mem_cons_of_mem _ hx)), okS_edge hR false true]
    have : (c == 48 && p && !(q ++ R).isEmpty && !((q ++ R).head? == some 58)) = false := by
      cases hc : c == 48
      · rfl
      · have hc' : c = 48 := by simpa using hc
        have hq := h48 (by rw [hc']; rfl)
        have hq' : q = [] := List.eq_nil_of_length_eq_zero (by simpa using hq)
        subst hq'
        rcases hR with rfl | ⟨r, rfl⟩
        · simp
        · simp
    rw [this]; rfl
theorem twoS_plain (R : List UInt8) : ∀ (q : List UInt8) (p : Bool), q ≠ [] → (∀ c ∈ q, goodC c = true ∧ (c == 58) = false) → twoS p (q ++ R) = twoS false R
  | [], _, h, _ => absurd rfl h
  | [c], p, _, h => by
    rw [List.cons_append, twoS, (h c (by simp)).2]; simp
  | c :: d :: q, p, _, h => by
    rw [List.cons_append, twoS, (h c (by simp)).2, twoS_plain R (d :: q) false (by simp) (fun x hx => h x (List.mem_cons_of_mem _ hx))]
    simp
theorem okS_join (P : List Nat) (hP : ∀ x ∈ P, x < 65536) (R : List UInt8) (hR : Edge R) : ∀ p, okS p (Lib.join (P.map (numF 16 4)) [58] ++ R) = okS true R := by
  induction P with
  | nil => intro p; exact okS_edge hR p true
  | cons n P ih =>
    intro p
    cases P with
    | nil => rw [List.map_singleton, Lib.join_one]; exact okS_num n (hP n (by simp)) R hR p
    | cons m P =>
      have ih' := ih (fun x hx => hP x (List.mem_cons_of_mem _ hx)) true
      rw [List.map_cons, List.map_cons, join_split, List.append_assoc, List.cons_append, okS_num n (hP n (by simp)) _ (.inr ⟨_, rfl⟩), okS]
      rw [List.map_cons] at ih'
      have : ((58 : UInt8) == 58) = true := rfl
      rw [this, ih']
      simp [goodC]
theorem twoS_join (P : List Nat) (R : List UInt8) (hP : P ≠ []) : ∀ p, twoS p (Lib.join (P.map (numF 16 4)) [58] ++ R) = twoS false R := by
  induction P with
  | nil => exact absurd rfl hP
  | cons n P ih =>
    intro p
    cases P with
    | nil => rw [List.map_singleton, Lib.join_one]; exact twoS_plain R _ p (numF_ne _ _ _ (by omega)) (numF_good n)
    | cons m P =>
      have ih' := ih (by simp) true
      rw [List.map_cons] at ih'
      rw [List.map_cons, List.map_cons, join_split, List.append_assoc, twoS_plain _ _ p (numF_ne _ _ _ (by omega)) (numF_good n), List.cons_append, twoS]
      have : ((58 : UInt8) == 58) = true := rfl
      rw [this, ih']
      simp
theorem six_made (l : List Nat) (hb : ∀ x ∈ l, x < 256) : okS true (sixT l) = true ∧ twoS false (sixT l) ≤ 1 ∧ 2 ≤ (sixT l).length ∧ (sixT l).length ≤ 39 := by
  have hP := pcs_small hb
  have h8 : (pcs l).length = 8 := by simp [pcs]
  obtain ⟨hFT, hT⟩ := lrS_bd (pcs l)
  unfold sixT
  generalize (lrS (pcs l) 8).2.1 = F at *
  generalize (lrS (pcs l) 8).2.2 = T at *
  generalize pcs l = P at *
  have h4 : ∀ Q : List Nat, ∀ x ∈ Q.map (numF 16 4), x.length ≤ 4 := fun Q x hx => by
    obtain ⟨n, _, rfl⟩ := List.mem_map.1 hx
    exact numF_len 16 4 n
  split
  · have hne : P ≠ [] := fun e => by rw [e] at h8; cases h8
    refine ⟨?_, ?_, ?_, ?_⟩
    · have := okS_join P hP [] (.inl rfl) true
      rw [List.append_nil] at this
      rw [this]; rfl
    · have := twoS_join P [] hne false
      rw [List.append_nil] at this
      rw [this]; exact Nat.zero_le _
    · match P, h8 with
      | n :: m :: r, _ =>
        rw [List.map_cons, List.map_cons, join_split, List.length_append, List.length_cons]
        have := List.length_pos_iff.2 (numF_ne 16 4 n (by omega))
        omega
    · match P, h8 with
      | n :: r, h8 =>
        have h5 := lens_le4 _ (h4 (n :: r))
        rw [List.map_cons] at h5 ⊢
        rw [Lib.join_length]
        simp only [List.length_cons, List.length_map, List.length_nil] at h5 h8 ⊢
        omega
  · have hF := join_le _ [58] (h4 (P.take F)) (by decide)
    have hD := join_le _ [58] (h4 (P.drop T)) (by decide)
    rw [List.length_map, List.length_take] at hF
    rw [List.length_map, List.length_drop] at hD
    have hB := okS_join (P.drop T) (fun x hx => hP x (List.mem_of_mem_drop hx)) [] (.inl rfl) true
    rw [List.append_nil] at hB
    refine ⟨?_, ?_, ?_, ?_⟩
    · rw [List.append_assoc, okS_join (P.take F) (fun x hx => hP x (List.mem_of_mem_take hx)) ([58, 58] ++ Lib.join ((P.drop T).map (numF 16 4)) [58]) (.inr ⟨_, rfl⟩) true]
      show okS true (58 :: 58 :: Lib.join ((P.drop T).map (numF 16 4)) [58]) = true
      rw [okS, okS]
      have : ((58 : UInt8) == 58) = true := rfl
      rw [this, hB]
      simp [goodC, okS]
    · have e : twoS false (Lib.join ((P.take F).map (numF 16 4)) [58] ++ [58, 58] ++ Lib.join ((P.drop T).map (numF 16 4)) [58]) = twoS false (58 :: 58 :: Lib.join ((P.drop T).map (numF 16 4)) [58]) := by
        by_cases h0 : P.take F = []
        · rw [h0]; rfl
        · rw [List.append_assoc, twoS_join _ _ h0]; rfl
      rw [e, twoS, twoS]
      have e2 : twoS true (Lib.join ((P.drop T).map (numF 16 4)) [58]) = 0 := by
        by_cases h0 : P.drop T = []
        · rw [h0]; rfl
        · have := twoS_join (P.drop T) [] h0 true
          rw [List.append_nil] at this
          rw [this]; rfl
      have : ((58 : UInt8) == 58) = true := rfl
      rw [this, e2]
      simp
    · rw [List.length_append, List.length_append]; simp; omega
    · rw [List.length_append, List.length_append]
      simp only [List.length_cons, List.length_nil]
      omega

end Go.Proofs.YtgmjfnddeogfdabDoor
