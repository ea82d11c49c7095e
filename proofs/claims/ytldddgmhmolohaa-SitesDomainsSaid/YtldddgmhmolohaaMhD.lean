/-
  Plain words on hosts: parts at points, what is asked for part by part, what a host's text says; of no program but for names.
  Plain words: texts that do not look like four bytes; sixteen bytes with all their noughts; what a text of sixteen bytes is made of. Of no program.
  Plain words on hosts: a host that was answered is answered again.
-/
import Derived.Test.YtldddgmhmolohaaMpJ
import Derived.Test.YtldddgmhmolohaaMaA
import Derived.Test.YtldddgmhmolohaaMaD
import Derived.Test.YtldddgmhmolohaaMaG
import Derived.Shelf.Strings.Split
import Derived.Test.YtldddgmhmolohaaMhA
namespace Go.Proofs.Ytldddgmhmolohaa
open Go.RowKit

/- Parts at a byte, as Go's library cuts them. -/
theorem lsplit_eq (a : UInt8) : ∀ l : List UInt8, Lib.split l [a] = pts a l
  | [] => by
    unfold Lib.split
    rw [Lib.count_one]; rfl
  | b :: l => by
    have ih := lsplit_eq a l
    unfold Lib.split at ih ⊢
    by_cases h : b = a
    · subst h
      have hix : Lib.index (b :: l) [b] = 0 := by rw [Lib.index]; simp [List.isPrefixOf]
      rw [Lib.count_cons_eq, Nat.add_comm, pts, if_pos rfl, ← ih, Lib.splitK, hix]
      simp
    · rw [Lib.count_cons_ne b a l h, pts, if_neg h, ← ih]
      have hp : ([a] : List UInt8).isPrefixOf (b :: l) = false := by simp [List.isPrefixOf, Ne.symm h]
      have hix : Lib.index (b :: l) [a] = if Lib.index l [a] == -1 then -1 else Lib.index l [a] + 1 := by rw [Lib.index, hp]; simp
      by_cases hm : Lib.index l [a] = -1
      · rw [Lib.count_miss hm]; rfl
      · have hge := Lib.index_ge l [a]
        obtain ⟨j, hj⟩ : ∃ j : Nat, Lib.index l [a] = j := ⟨(Lib.index l [a]).toNat, by omega⟩
        have hix' : Lib.index (b :: l) [a] = ((j + 1 : Nat) : Int) := by rw [hix, if_neg (fun e => hm (beq_iff_eq.1 e)), hj]; omega
        have hc := Lib.count_hit (s := l) (sub := [a]) (by simp) hj
        rw [hc, Nat.add_comm, Lib.splitK, Lib.splitK, hix', hj]
        have e1 : ((((j + 1 : Nat) : Int)) == -1) = false := beq_eq_false_iff_ne.2 (by omega)
        have e2 : ((j : Int) == -1) = false := beq_eq_false_iff_ne.2 (by omega)
        rw [e1, e2]
        simp [ahd]
/-- A text's parts at a byte. -/
def rawB (a : UInt8) (s : ByteArray) : List ByteArray := Lib.splitB ⟨#[a]⟩ 0 (Lib.countB s ⟨#[a]⟩) s
theorem rawB_data (a : UInt8) (s : ByteArray) : (rawB a s).map (·.data.toList) = pts a s.data.toList := by
  rw [rawB, Lib.splitB_data, ← lsplit_eq]; rfl
theorem rawB_eq (a : UInt8) (s : ByteArray) : rawB a s = (pts a s.data.toList).map asB := by
  rw [← rawB_data, List.map_map]
  conv => lhs; rw [← List.map_id (rawB a s)]
  exact List.map_congr_left (fun x _ => rfl)
/- Parts joined. -/
theorem pts_joinL (a : UInt8) (L : List (List UInt8)) (h : L ≠ []) (hp : ∀ p ∈ L, ∀ c ∈ p, c ≠ a) : pts a (Lib.join L [a]) = L := by
  match L, h with
  | x :: r, _ => exact pts_join a x r hp
/-- Parts with points between. -/
def dotJ (L : List ByteArray) : ByteArray := asB (Lib.join (L.map (·.data.toList)) [46])
/-- A text without the point at its end. -/
def trimD (s : ByteArray) : ByteArray := asB (Lib.trimSuffix s.data.toList [46])
/- What is asked for, part by part; none: a part is refused. -/
def labsT : List ByteArray → Option (List ByteArray)
  | [] => some []
  | p :: ps => if (labT p).2 = 0 then match labsT ps with
      | none => none
      | some L => some ((labT p).1 :: L)
    else none
def foulB (c : UInt8) : Bool := decide (c.toNat ≤ 32) || decide (0 ≤ Lib.indexByte [35, 37, 47, 58, 60, 62, 63, 64, 91, 92, 93, 94, 124, 127] c)
def foulL (l : List UInt8) : Bool := l.any foulB
/-- Four bytes, cell by cell sixteen. -/
def six0 (a : List Nat) : List Nat := a ++ List.replicate 12 0
def fourT (n : ByteArray) : Option ByteArray := match fourD n.data.toList with
  | (false, _) => some n
  | (true, none) => none
  | (true, some a) => some (asB (textD false (six0 a)))
def endT (n : ByteArray) : Option ByteArray := if foulL n.data.toList then none else if 253 < n.size then none else fourT n
def namedT (d : ByteArray) : Option ByteArray := match labsT (rawB 46 (trimD d)) with
  | none => none
  | some L => endT (dotJ L)
def brackT (l : List UInt8) : Option ByteArray := if l.getLast? = some 93 then match sixD l.dropLast with
    | none => none
    | some ps => some (asB ([91] ++ textD true (pb ps) ++ [93]))
  else none
def hostO (s : ByteArray) : Option ByteArray := if s.data.toList.head? = some 91 then brackT (s.data.toList.drop 1) else namedT (decS s)
end Go.Proofs.Ytldddgmhmolohaa
namespace Go.Proofs.Ytldddgmhmolohaa
open Go.RowKit

/- Sixteen bytes with all their noughts. -/
def hx (g : Bool) (d : Nat) : UInt8 := UInt8.ofNat (if d < 10 then 48 + d else if g then 55 + d else 87 + d)
/- What a text of sixteen bytes is made of. -/
def goodC (c : UInt8) : Bool := c == 58 || (decide (48 ≤ c.toNat) && decide (c.toNat ≤ 57)) || (decide (97 ≤ c.toNat) && decide (c.toNat ≤ 102))
/-- No sign that is none, no nought ahead of a piece; p: begins a piece here? -/
def okS : Bool → List UInt8 → Bool
  | _, [] => true
  | p, c :: r => goodC c && !(c == 48 && p && !r.isEmpty && !(r.head? == some 58)) && okS (c == 58) r
/-- How often two colons stand together. -/
def twoS : Bool → List UInt8 → Nat
  | _, [] => 0
  | p, c :: r => (if p && c == 58 then 1 else 0) + twoS (c == 58) r
theorem hd_good : ∀ d : Fin 16, goodC (hd d.1) = true ∧ (hd d.1 == 58) = false := by decide +kernel
def Edge (R : List UInt8) : Prop := R = [] ∨ ∃ r, R = 58 :: r
theorem okS_edge {R : List UInt8} (h : Edge R) (p q : Bool) : okS p R = okS q R := by
  rcases h with rfl | ⟨r, rfl⟩
  · rfl
  · simp [okS]
theorem okS_plain (R : List UInt8) : ∀ q : List UInt8, (∀ c ∈ q, goodC c = true ∧ (c == 58) = false) → okS false (q ++ R) = okS false R
  | [], _ => rfl
  | c :: q, h => by
    rw [List.cons_append, okS, (h c (by simp)).1, (h c (by simp)).2, okS_plain R q (fun x hx => h x (List.mem_cons_of_mem _ hx))]
    simp
theorem numF_good (n : Nat) : ∀ c ∈ numF 16 4 n, goodC c = true ∧ (c == 58) = false := by
  intro c hc
  obtain ⟨d, hd1, rfl⟩ := numF_mem 16 (by omega) (by omega) 4 n c hc
  exact hd_good ⟨d, hd1⟩
theorem okS_num (n : Nat) (hn : n < 65536) (R : List UInt8) (hR : Edge R) (p : Bool) : okS p (numF 16 4 n ++ R) = okS true R := by
  have hg := numF_good n
  have hne := numF_ne 16 4 n (by omega)
  have h48 := numF_len48 (b := 16) (by omega) (by omega) 3 n (by omega)
  cases e : numF 16 4 n with
  | nil => contradiction
  | cons c q =>
    rw [e] at hg h48
    rw [List.cons_append, okS, (hg c (by simp)).1, (hg c (by simp)).2, okS_plain R q (fun x hx => hg x (List.mem_cons_of_mem _ hx)), okS_edge hR false true]
    have : (c == 48 && p && !(q ++ R).isEmpty && !((q ++ R).head? == some 58)) = false := by
      cases hc : c == 48
      · rfl
      · have hc' : c = 48 := by simpa using hc
        have hq := h48 (by rw [hc']; rfl)
        have hq' : q = [] := List.eq_nil_of_length_eq_zero (by simpa using hq)
        subst hq'
        rcases hR with rfl | ⟨r, rfl⟩
        · simp
        · simp
    rw [this]; rfl
theorem twoS_plain (R : List UInt8) : ∀ (q : List UInt8) (p : Bool), q ≠ [] → (∀ c ∈ q, goodC c = true ∧ (c == 58) = false) → twoS p (q ++ R) = twoS false R
  | [], _, h, _ => absurd rfl h
  | [c], p, _, h => by
    rw [List.cons_append, twoS, (h c (by simp)).2]; simp
  | c :: d :: q, p, _, h => by
    rw [List.cons_append, twoS, (h c (by simp)).2, twoS_plain R (d :: q) false (by simp) (fun x hx => h x (List.mem_cons_of_mem _ hx))]
    simp
theorem okS_join (P : List Nat) (hP : ∀ x ∈ P, x < 65536) (R : List UInt8) (hR : Edge R) : ∀ p, okS p (Lib.join (P.map (numF 16 4)) [58] ++ R) = okS true R := by
  induction P with
  | nil => intro p; exact okS_edge hR p true
  | cons n P ih =>
    intro p
    cases P with
    | nil => rw [List.map_singleton, Lib.join_one]; exact okS_num n (hP n (by simp)) R hR p
    | cons m P =>
      have ih' := ih (fun x hx => hP x (List.mem_cons_of_mem _ hx)) true
      rw [List.map_cons, List.map_cons, join_split, List.append_assoc, List.cons_append, okS_num n (hP n (by simp)) _ (.inr ⟨_, rfl⟩), okS]
      rw [List.map_cons] at ih'
      have : ((58 : UInt8) == 58) = true := rfl
      rw [this, ih']
      simp [goodC]
theorem twoS_join (P : List Nat) (R : List UInt8) (hP : P ≠ []) : ∀ p, twoS p (Lib.join (P.map (numF 16 4)) [58] ++ R) = twoS false R := by
  induction P with
  | nil => exact absurd rfl hP
  | cons n P ih =>
    intro p
    cases P with
    | nil => rw [List.map_singleton, Lib.join_one]; exact twoS_plain R _ p (numF_ne _ _ _ (by omega)) (numF_good n)
    | cons m P =>
      have ih' := ih (by simp) true
      rw [List.map_cons] at ih'
      rw [List.map_cons, List.map_cons, join_split, List.append_assoc, twoS_plain _ _ p (numF_ne _ _ _ (by omega)) (numF_good n), List.cons_append, twoS]
      have : ((58 : UInt8) == 58) = true := rfl
      rw [this, ih']
      simp
theorem six_made (l : List Nat) (hb : ∀ x ∈ l, x < 256) : okS true (sixT l) = true ∧ twoS false (sixT l) ≤ 1 ∧ 2 ≤ (sixT l).length ∧ (sixT l).length ≤ 39 := by
  have hP := pcs_small hb
  have h8 : (pcs l).length = 8 := by simp [pcs]
  obtain ⟨hFT, hT⟩ := lrS_bd (pcs l)
  unfold sixT
  generalize (lrS (pcs l) 8).2.1 = F at *
  generalize (lrS (pcs l) 8).2.2 = T at *
  generalize pcs l = P at *
  have h4 : ∀ Q : List Nat, ∀ x ∈ Q.map (numF 16 4), x.length ≤ 4 := fun Q x hx => by
    obtain ⟨n, _, rfl⟩ := List.mem_map.1 hx
    exact numF_len 16 4 n
  split
  · have hne : P ≠ [] := fun e => by rw [e] at h8; cases h8
    refine ⟨?_, ?_, ?_, ?_⟩
    · have := okS_join P hP [] (.inl rfl) true
      rw [List.append_nil] at this
      rw [this]; rfl
    · have := twoS_join P [] hne false
      rw [List.append_nil] at this
      rw [this]; exact Nat.zero_le _
    · match P, h8 with
      | n :: m :: r, _ =>
        rw [List.map_cons, List.map_cons, join_split, List.length_append, List.length_cons]
        have := List.length_pos_iff.2 (numF_ne 16 4 n (by omega))
        omega
    · match P, h8 with
      | n :: r, h8 =>
        have h5 := lens_le4 _ (h4 (n :: r))
        rw [List.map_cons] at h5 ⊢
        rw [Lib.join_length]
        simp only [List.length_cons, List.length_map, List.length_nil] at h5 h8 ⊢
        omega
  · have hF := join_le _ [58] (h4 (P.take F)) (by decide)
    have hD := join_le _ [58] (h4 (P.drop T)) (by decide)
    rw [List.length_map, List.length_take] at hF
    rw [List.length_map, List.length_drop] at hD
    have hB := okS_join (P.drop T) (fun x hx => hP x (List.mem_of_mem_drop hx)) [] (.inl rfl) true
    rw [List.append_nil] at hB
    refine ⟨?_, ?_, ?_, ?_⟩
    · rw [List.append_assoc, okS_join (P.take F) (fun x hx => hP x (List.mem_of_mem_take hx)) ([58, 58] ++ Lib.join ((P.drop T).map (numF 16 4)) [58]) (.inr ⟨_, rfl⟩) true]
      show okS true (58 :: 58 :: Lib.join ((P.drop T).map (numF 16 4)) [58]) = true
      rw [okS, okS]
      have : ((58 : UInt8) == 58) = true := rfl
      rw [this, hB]
      simp [goodC, okS]
    · have e : twoS false (Lib.join ((P.take F).map (numF 16 4)) [58] ++ [58, 58] ++ Lib.join ((P.drop T).map (numF 16 4)) [58]) = twoS false (58 :: 58 :: Lib.join ((P.drop T).map (numF 16 4)) [58]) := by
        by_cases h0 : P.take F = []
        · rw [h0]; rfl
        · rw [List.append_assoc, twoS_join _ _ h0]; rfl
      rw [e, twoS, twoS]
      have e2 : twoS true (Lib.join ((P.drop T).map (numF 16 4)) [58]) = 0 := by
        by_cases h0 : P.drop T = []
        · rw [h0]; rfl
        · have := twoS_join (P.drop T) [] h0 true
          rw [List.append_nil] at this
          rw [this]; rfl
      have : ((58 : UInt8) == 58) = true := rfl
      rw [this, e2]
      simp
    · rw [List.length_append, List.length_append]; simp; omega
    · rw [List.length_append, List.length_append]
      simp only [List.length_cons, List.length_nil]
      omega

end Go.Proofs.Ytldddgmhmolohaa
namespace Go.Proofs.Ytldddgmhmolohaa
open Go.RowKit

/-- What may be asked for, as it is asked for. -/
def GoodB (l : ByteArray) : Prop := labT l = (l, 0) ∧ 1 ≤ l.size ∧ l.size ≤ 63 ∧ plainL l.data.toList = true ∧ lowS l = l ∧ ∀ c ∈ l.data.toList, c ≠ 46
theorem dotJ_data (L : List ByteArray) : (dotJ L).data.toList = Lib.join (L.map (·.data.toList)) [46] := rfl
theorem ne_of_size {l : ByteArray} (h : 1 ≤ l.size) : l.data.toList ≠ [] := by
  intro e
  have := lenB l
  rw [e] at this; simp at this; omega
theorem dot_last {L : List ByteArray} (hne : L ≠ []) (hg : ∀ l ∈ L, GoodB l) : (dotJ L).data.toList ≠ [] ∧ (dotJ L).data.toList.getLast? ≠ some 46 := by
  rw [dotJ_data]
  match L, hne with
  | x :: r, _ =>
    refine join_last 46 x.data.toList (r.map (·.data.toList)) (fun q hq => ?_)
    rw [← List.map_cons (f := fun b : ByteArray => b.data.toList)] at hq
    obtain ⟨l, hl, rfl⟩ := List.mem_map.1 hq
    exact ⟨ne_of_size (hg l hl).2.1, (hg l hl).2.2.2.2.2⟩
theorem rawB_dot {L : List ByteArray} (hne : L ≠ []) (h : ∀ l ∈ L, ∀ c ∈ l.data.toList, c ≠ 46) : rawB 46 (dotJ L) = L := by
  rw [rawB_eq, dotJ_data, pts_joinL 46 _ (by simpa using hne) (fun p hp => by
    obtain ⟨l, hl, rfl⟩ := List.mem_map.1 hp
    exact h l hl), List.map_map]
  conv => rhs; rw [← List.map_id L]
  exact List.map_congr_left (fun x _ => rfl)
/-- Four bytes' text. -/
abbrev four4 (b0 b1 b2 b3 : Nat) : ByteArray := asB (textD false (six0 [b0, b1, b2, b3]))
theorem four4_four {b0 b1 b2 b3 : Nat} (h0 : b0 < 256) (h1 : b1 < 256) (h2 : b2 < 256) (h3 : b3 < 256) : fourD (four4 b0 b1 b2 b3).data.toList = (true, some [b0, b1, b2, b3]) := four_back b0 b1 b2 b3 _ h0 h1 h2 h3
/-- A name that was answered. -/
def NameX (x : ByteArray) : Prop := ∃ L, L ≠ [] ∧ (∀ l ∈ L, GoodB l) ∧ x = dotJ L ∧ foulL x.data.toList = false ∧ x.size ≤ 253 ∧ ((fourD x.data.toList).1 = false ∨ ∃ b0 b1 b2 b3, x = four4 b0 b1 b2 b3 ∧ b0 < 256 ∧ b1 < 256 ∧ b2 < 256 ∧ b3 < 256)
theorem NameX.end {x : ByteArray} (h : NameX x) : endT x = some x := by
  obtain ⟨L, _, _, _, h1, h2, h3⟩ := h
  unfold endT
  rw [h1, if_neg (by simp), if_neg (by omega)]
  unfold fourT
  rcases h3 with h3 | ⟨b0, b1, b2, b3, rfl, g0, g1, g2, g3⟩
  · cases e : fourD x.data.toList with
    | mk u v => rw [e] at h3; simp only at h3; subst h3; rfl
  · rw [four4_four g0 g1 g2 g3]
theorem foul_no {l : List UInt8} (h : foulL l = false) : ∀ c ∈ l, foulB c = false := fun c hc => by
  have := List.any_eq_false.1 h c hc
  simpa using this
theorem NameX.no {x : ByteArray} (h : NameX x) : ∀ c ∈ x.data.toList, foulB c = false := by
  obtain ⟨L, _, _, _, h1, _⟩ := h
  exact foul_no h1
theorem NameX.no91 {x : ByteArray} (h : NameX x) : ∀ c ∈ x.data.toList, c ≠ 91 := fun c hc e => by
  have := h.no c hc
  rw [e] at this
  exact absurd this (by decide)
theorem NameX.ne {x : ByteArray} (h : NameX x) : x.data.toList ≠ [] := by
  obtain ⟨L, hne, hg, rfl, _⟩ := h
  exact (dot_last hne hg).1
theorem head_mem {l : List UInt8} {a : UInt8} (h : l.head? = some a) : a ∈ l := by
  cases l with
  | nil => cases h
  | cons b l => injection h with h; rw [h]; exact List.mem_cons_self
theorem low_dot : ∀ L : List (List UInt8), (∀ l ∈ L, l.map low = l) → (Lib.join L [46]).map low = Lib.join L [46]
  | [], _ => rfl
  | [x], h => by rw [Lib.join_one]; exact h x (by simp)
  | x :: y :: r, h => by
    rw [join_split, List.map_append, List.map_cons, h x (by simp), low_dot (y :: r) (fun l hl => h l (List.mem_cons_of_mem _ hl))]; rfl
theorem NameX.low {x : ByteArray} (h : NameX x) : lowS x = x := by
  obtain ⟨L, _, hg, rfl, _⟩ := h
  refine ba_of ?_
  rw [lowS_data, dotJ_data]
  refine low_dot _ (fun p hp => ?_)
  obtain ⟨l, hl, rfl⟩ := List.mem_map.1 hp
  rw [← lowS_data, (hg l hl).2.2.2.2.1]
theorem plain_dot : ∀ L : List (List UInt8), (∀ l ∈ L, plainL l = true) → plainL (Lib.join L [46]) = true
  | [], _ => rfl
  | [x], h => by rw [Lib.join_one]; exact h x (by simp)
  | x :: y :: r, h => by
    have h1 := h x (by simp)
    have h2 := plain_dot (y :: r) (fun l hl => h l (List.mem_cons_of_mem _ hl))
    rw [join_split]
    unfold plainL at *
    rw [List.all_append, List.all_cons, h1, h2]; rfl
theorem NameX.plain {x : ByteArray} (h : NameX x) : plainL x.data.toList = true := by
  obtain ⟨L, _, hg, rfl, _⟩ := h
  rw [dotJ_data]
  refine plain_dot _ (fun p hp => ?_)
  obtain ⟨l, hl, rfl⟩ := List.mem_map.1 hp
  exact (hg l hl).2.2.2.1
/-- An address in brackets. -/
def BrX (x : ByteArray) : Prop := ∃ l, l.length = 16 ∧ (∀ b ∈ l, b < 256) ∧ x = asB ([91] ++ textD true l ++ [93])
theorem BrX.brack {x : ByteArray} (h : BrX x) : hostO x = some x ∧ x.size ≤ 41 ∧ x.data.toList.head? = some 91 := by
  obtain ⟨l, hl, hb, rfl⟩ := h
  have e : (asB ([91] ++ textD true l ++ [93])).data.toList = 91 :: (textD true l ++ [93]) := by simp [asB]
  refine ⟨?_, ?_, by rw [e]; rfl⟩
  · rw [hostO, e, if_pos (show (91 :: (textD true l ++ [93])).head? = some 91 from rfl), List.drop_succ_cons, List.drop_zero, brackT, if_pos (by simp), List.dropLast_concat]
    rw [show sixD (textD true l) = some (pcs l) from six_back l hb]
    simp only
    rw [pb_pcs l hl hb]
  · rw [asB_size]
    have := (six_made l hb).2.2.2
    have h2 : (textD true l).length ≤ 39 := this
    simp; omega
end Go.Proofs.Ytldddgmhmolohaa
