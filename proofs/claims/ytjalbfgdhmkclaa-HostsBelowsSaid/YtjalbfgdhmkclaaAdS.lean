/-
  Plain words on addresses of sixteen bytes: pieces, four bytes at their end, where nothing stands; what the document asks, what a reader cuts. Of no program.
-/
import Derived.Test.YtjalbfgdhmkclaaAdF
namespace Go.Proofs.Ytjalbfgdhmkclaa
open Go.RowKit

/-- Cuts a piece; a number of one byte; two pieces told by four bytes; either. -/
def rpiece (l : List UInt8) : Option (List Nat × List UInt8) := if 1 ≤ (dgs 16 l).length ∧ (dgs 16 l).length ≤ 4 then some ([fol 16 (dgs 16 l)], l.dropWhile (dig 16)) else none
def rsmall (l : List UInt8) : Option (List Nat × List UInt8) := if (l.head? = some 48 ∧ 1 < (dgs 10 l).length) ∨ 255 < fol 10 (dgs 10 l) then none else if dgs 10 l = [] then none else some ([fol 10 (dgs 10 l)], l.dropWhile (dig 10))
def two4 : List Nat → Option (List Nat)
  | [a, b, c, d] => some [256 * a + b, 256 * c + d]
  | _ => none
def rfour (l : List UInt8) : Option (List Nat × List UInt8) := if (rowG rsmall 46 4 (l.length + 2) [] l).2 = [] then match two4 (rowG rsmall 46 4 (l.length + 2) [] l).1 with
    | some ns => some (ns, [])
    | none => none else none
def rboth (l : List UInt8) : Option (List Nat × List UInt8) := match rfour l with
  | some x => some x
  | none => rpiece l
/-- What the reader makes of a text: eight pieces, or none. -/
def sixP (l : List UInt8) : Option (List Nat) :=
  if (rowG rboth 58 8 (l.length + 2) [] l).1.length = 8 then (if (rowG rboth 58 8 (l.length + 2) [] l).2 = [] then some (rowG rboth 58 8 (l.length + 2) [] l).1 else none)
  else if [58, 58].isPrefixOf (rowG rboth 58 8 (l.length + 2) [] l).2 then
    (if (rowG rboth 58 (7 - (rowG rboth 58 8 (l.length + 2) [] l).1.length) (((rowG rboth 58 8 (l.length + 2) [] l).2.drop 2).length + 2) [] ((rowG rboth 58 8 (l.length + 2) [] l).2.drop 2)).2 = [] then
      some ((rowG rboth 58 8 (l.length + 2) [] l).1 ++ List.replicate (8 - (rowG rboth 58 8 (l.length + 2) [] l).1.length - (rowG rboth 58 (7 - (rowG rboth 58 8 (l.length + 2) [] l).1.length) (((rowG rboth 58 8 (l.length + 2) [] l).2.drop 2).length + 2) [] ((rowG rboth 58 8 (l.length + 2) [] l).2.drop 2)).1.length) 0 ++ (rowG rboth 58 (7 - (rowG rboth 58 8 (l.length + 2) [] l).1.length) (((rowG rboth 58 8 (l.length + 2) [] l).2.drop 2).length + 2) [] ((rowG rboth 58 8 (l.length + 2) [] l).2.drop 2)).1)
    else none)
  else none

/-- A part as a piece, as a number of one byte, as four bytes; the document's pieces. -/
def pc1 (q : List UInt8) : Option (List Nat) := if 1 ≤ q.length ∧ q.length ≤ 4 then match cnt 16 q with
    | some n => some [n]
    | none => none else none
def sm1 (q : List UInt8) : Option (List Nat) := if q = [] ∨ (1 < q.length ∧ q.head? = some 48) then none else match cnt 10 q with
    | some n => if 255 < n then none else some [n]
    | none => none
def four1 (q : List UInt8) : Option (List Nat) := match evs sm1 sm1 (pts 46 q) with
  | some ns => two4 ns
  | none => none
def both1 (q : List UInt8) : Option (List Nat) := match pc1 q with
  | some n => some n
  | none => four1 q
def piecesD (en : Bool) (l : List UInt8) : Option (List Nat) := if l = [] then some [] else evs pc1 (if en then both1 else pc1) (pts 58 l)
/-- What stands ahead of the first two colons together, and behind them. -/
def cut2 : List UInt8 → Option (List UInt8 × List UInt8)
  | [] => none
  | c :: r => if [58, 58].isPrefixOf (c :: r) then some ([], r.drop 1) else match cut2 r with
    | some (a, b) => some (c :: a, b)
    | none => none
def sixD (l : List UInt8) : Option (List Nat) := match cut2 l with
  | none => match piecesD true l with
    | some ps => if ps.length = 8 then some ps else none
    | none => none
  | some (a, b) => match piecesD false a with
    | none => none
    | some x => match piecesD true b with
      | none => none
      | some y => if x.length + y.length ≤ 7 then some (x ++ List.replicate (8 - x.length - y.length) 0 ++ y) else none

theorem piece_reads (q R : List UInt8) (hq : ∀ c ∈ q, c ≠ 58) (hR : Endy R) :
    match pc1 q with
    | some ns => rpiece (q ++ R) = some (ns, R) ∧ ns ≠ []
    | none => rpiece (q ++ R) = none ∨ ∃ ns c r, rpiece (q ++ R) = some (ns, c :: r) ∧ c ≠ 58 ∧ ns ≠ [] := by
  cases h : q.all (dig 16)
  · have hn : pc1 q = none := by rw [pc1, cnt_no h]; split <;> rfl
    rw [hn]
    obtain ⟨c, r, h1, h2, h3, h4⟩ := dgs_some R h
    simp only
    unfold rpiece
    rw [h4]
    split
    · right; exact ⟨_, c, r, rfl, hq c h2, by simp⟩
    · left; rfl
  · obtain ⟨h1, h2⟩ := dgs_all h (hR.dig (by omega))
    by_cases hl : 1 ≤ q.length ∧ q.length ≤ 4
    · have hn : pc1 q = some [fol 16 q] := by rw [pc1, if_pos hl, cnt_all h]
      rw [hn]
      simp only
      rw [rpiece, h1, h2, if_pos hl]
      exact ⟨rfl, by simp⟩
    · have hn : pc1 q = none := by rw [pc1, if_neg hl]
      rw [hn]
      simp only
      left; rw [rpiece, h1, if_neg hl]
theorem small_reads (q R : List UInt8) (hq : ∀ c ∈ q, c ≠ 46) (hR : Endy R) : Reads rsmall 46 sm1 q R := by
  unfold Reads
  by_cases hne : q = []
  · subst hne
    have hn : sm1 [] = none := rfl
    have h1 : dgs 10 R = [] := by
      cases R with
      | nil => rfl
      | cons c R => simp [dgs, hR.dig (b := 10) (by omega) c rfl]
    rw [hn]
    left
    rw [List.nil_append, rsmall, h1]
    simp
  have hh : (q ++ R).head? = q.head? := by
    cases q with
    | nil => contradiction
    | cons c q => rfl
  cases h : q.all (dig 10)
  · have hn : sm1 q = none := by rw [sm1, cnt_no h]; split <;> rfl
    rw [hn]
    obtain ⟨c, r, h1, h2, h3, h4⟩ := dgs_some R h
    simp only
    unfold rsmall
    rw [h4]
    split
    · left; rfl
    · split
      · left; rfl
      · right; exact ⟨_, c, r, rfl, hq c h2, by simp⟩
  · obtain ⟨h1, h2⟩ := dgs_all h (hR.dig (by omega))
    by_cases h3 : (q.head? = some 48 ∧ 1 < q.length) ∨ 255 < fol 10 q
    · have hn : sm1 q = none := by
        rw [sm1]
        split
        · rfl
        · rename_i h5
          rw [cnt_all h]
          rcases h3 with h3 | h3
          · exact absurd (.inr ⟨h3.2, h3.1⟩) h5
          · simp [h3]
      rw [hn]
      left
      rw [rsmall, hh, h1, if_pos h3]
    · have hn : sm1 q = some [fol 10 q] := by
        rw [sm1, if_neg (by rintro (h5 | h5); exact hne h5; exact h3 (.inl ⟨h5.2, h5.1⟩)), cnt_all h]
        simp only
        rw [if_neg (fun h5 => h3 (.inr h5))]
      rw [hn]
      simp only
      rw [rsmall, hh, h1, h2, if_neg h3, if_neg hne]
      exact ⟨rfl, by simp⟩

theorem drop_has {p : UInt8 → Bool} {c : UInt8} (hp : p c = false) : ∀ l : List UInt8, c ∈ l → c ∈ l.dropWhile p
  | [], h => by cases h
  | x :: l, h => by
    rw [List.dropWhile_cons]
    cases hx : p x
    · simpa using h
    · rcases List.mem_cons.1 h with rfl | h
      · rw [hp] at hx; cases hx
      · simpa using drop_has hp l h
/-- A colon is never passed over by numbers with points. -/
theorem row58 : ∀ (f : Nat) (out : List Nat) (l : List UInt8), (58 : UInt8) ∈ l → (58 : UInt8) ∈ (rowG rsmall 46 4 f out l).2
  | 0, _, l, h => h
  | f + 1, out, l, h => by
    rw [rowG]
    split
    · exact h
    · rename_i h1
      split
      · exact h
      · rename_i ns r h2
        split
        · exact h
        · refine row58 f _ r ?_
          have hl : (58 : UInt8) ∈ (if out = [] then l else l.drop 1) := by
            split
            · exact h
            · rename_i ho
              have h3 : l.head? = some 46 := Classical.byContradiction fun h3 => h1 ⟨ho, h3⟩
              cases l with
              | nil => cases h
              | cons x l =>
                have h4 : x = 46 := by simpa using h3
                subst h4
                rcases List.mem_cons.1 h with h | h
                · exact absurd h (by decide)
                · exact h
          generalize (if out = [] then l else l.drop 1) = M at h2 hl
          unfold rsmall at h2
          split at h2
          · cases h2
          · split at h2
            · cases h2
            · injection h2 with h2
              injection h2 with _ h2
              rw [← h2]
              exact drop_has (dig58 (by omega)) _ hl
theorem rfour_58 (l : List UInt8) (h : (58 : UInt8) ∈ l) : rfour l = none := by
  have := row58 (l.length + 2) [] l h
  rw [rfour, if_neg (fun h0 => by rw [h0] at this; cases this)]
theorem rfour_eq (q : List UInt8) : rfour q = match four1 q with
    | some ns => some (ns, [])
    | none => none := by
  by_cases hq : q = []
  · subst hq; rfl
  have key := row_main (next := rsmall) (sep := 46) (evI := sm1) (evL := sm1) (most := 4) (e := [])
    (K := fun _ => True) (Z := fun r => r ≠ [])
    (fun q R hq _ => small_reads q (46 :: R) hq (endy_cons _ (by decide))) (fun q hq _ => small_reads q [] hq endy_nil)
    (fun h => absurd rfl h) (fun c r _ => by simp) (fun q L _ => by simp) (fun q L _ => trivial)
    (q.length + 2) [] q trivial (by omega) (by simpa using hq)
  simp only [if_true, List.append_nil, List.length_nil, Nat.zero_add, List.nil_append] at key
  unfold rfour four1
  cases hev : evs sm1 sm1 (pts 46 q) with
  | none =>
    rw [hev] at key
    rw [if_neg key]
  | some ns =>
    rw [hev] at key
    by_cases h4 : ns.length ≤ 4
    · simp only at key
      rw [if_pos h4] at key
      rw [key]; rfl
    · simp only at key
      rw [if_neg h4] at key
      rw [if_neg key]
      have : two4 ns = none := by
        match ns, h4 with
        | [], h4 => rfl
        | [_], h4 => rfl
        | [_, _], h4 => rfl
        | [_, _, _], h4 => rfl
        | [_, _, _, _], h4 => simp at h4
        | _ :: _ :: _ :: _ :: _ :: _, _ => rfl
      simp only [this]
theorem two4_ne {ns ms : List Nat} (h : two4 ns = some ms) : ms ≠ [] := by
  unfold two4 at h
  split at h
  · injection h with h; subst h; simp
  · cases h
theorem sm1_one {q : List UInt8} {ns : List Nat} (h : sm1 q = some ns) : ∃ n, ns = [n] ∧ n ≤ 255 := by
  unfold sm1 at h
  split at h
  · cases h
  · split at h
    · split at h
      · cases h
      · injection h with h; exact ⟨_, h.symm, by omega⟩
    · cases h
theorem pc1_no46 {q : List UInt8} {ns : List Nat} (h : pc1 q = some ns) : four1 q = none := by
  unfold pc1 at h
  split at h
  · split at h
    · rename_i n hc
      have hall : q.all (dig 16) = true := by
        unfold cnt at hc
        split at hc
        · assumption
        · cases hc
      have hn : ∀ c ∈ q, c ≠ 46 := by
        intro c hc e
        have : dig 16 c = true := by simpa using (List.all_eq_true.1 hall) c hc
        rw [e, dig46 (by omega)] at this; cases this
      unfold four1
      rw [pts_none 46 q hn]
      show (match evs sm1 sm1 [q] with
        | some ns => two4 ns
        | none => none) = none
      rw [show evs sm1 sm1 [q] = sm1 q from rfl]
      cases hs : sm1 q with
      | none => rfl
      | some ns => obtain ⟨n, rfl, _⟩ := sm1_one hs; rfl
    · cases h
  · cases h
theorem both_reads_I (q R : List UInt8) (hq : ∀ c ∈ q, c ≠ 58) : Reads rboth 58 pc1 q (58 :: R) := by
  have h1 : rboth (q ++ 58 :: R) = rpiece (q ++ 58 :: R) := by rw [rboth, rfour_58 _ (by simp)]
  unfold Reads
  rw [h1]
  exact piece_reads q (58 :: R) hq (endy_cons _ (by decide))
theorem both_reads_L (q : List UInt8) (hq : ∀ c ∈ q, c ≠ 58) : Reads rboth 58 both1 q [] := by
  unfold Reads both1
  rw [List.append_nil, rboth, rfour_eq]
  have h := piece_reads q [] hq endy_nil
  rw [List.append_nil] at h
  cases hp : pc1 q with
  | some ns =>
    rw [hp] at h
    rw [pc1_no46 hp]
    exact h
  | none =>
    rw [hp] at h
    cases h4 : four1 q with
    | none => exact h
    | some ns =>
      refine ⟨rfl, ?_⟩
      unfold four1 at h4
      split at h4
      · exact two4_ne h4
      · cases h4
theorem both_reads_L' (q R : List UInt8) (hq : ∀ c ∈ q, c ≠ 58) : Reads rboth 58 pc1 q (58 :: R) := both_reads_I q R hq
theorem rboth58 (r : List UInt8) : rboth (58 :: r) = none := by
  rw [rboth, rfour_58 _ (by simp), rpiece]
  have : dgs 16 (58 :: r) = [] := by simp [dgs, dig58 (b := 16) (by omega)]
  simp [this]
theorem rboth_nil : rboth [] = none := rfl

/-- The rest is a text's end. -/
theorem rboth_suf {l : List UInt8} {ns : List Nat} {r : List UInt8} (h : rboth l = some (ns, r)) : ∃ p, l = p ++ r := by
  unfold rboth at h
  split at h
  · rename_i x hx
    unfold rfour at hx
    split at hx
    · split at hx
      · injection hx with hx; injection h with h
        rw [← hx] at h; injection h with _ h; subst h; exact ⟨l, by simp⟩
      · cases hx
    · cases hx
  · unfold rpiece at h
    split at h
    · injection h with h; injection h with _ h; subst h
      exact ⟨l.takeWhile (dig 16), (List.takeWhile_append_dropWhile (p := dig 16) (l := l)).symm⟩
    · cases h
theorem row_suf (most : Nat) : ∀ (f : Nat) (out : List Nat) (l : List UInt8), ∃ p, l = p ++ (rowG rboth 58 most f out l).2
  | 0, _, l => ⟨[], rfl⟩
  | f + 1, out, l => by
    rw [rowG]
    split
    · exact ⟨[], rfl⟩
    · split
      · exact ⟨[], rfl⟩
      · rename_i ns r h2
        split
        · exact ⟨[], rfl⟩
        · obtain ⟨p, hp⟩ := row_suf most f (out ++ ns) r
          obtain ⟨q, hq⟩ := rboth_suf h2
          have hl : ∃ u, l = u ++ (if out = [] then l else l.drop 1) := by
            split
            · exact ⟨[], rfl⟩
            · exact ⟨l.take 1, (List.take_append_drop 1 l).symm⟩
          obtain ⟨u, hu⟩ := hl
          refine ⟨u ++ (q ++ p), ?_⟩
          rw [List.append_assoc, List.append_assoc, ← hp, ← hq, ← hu]

theorem cut2_none : ∀ (l : List UInt8), cut2 l = none → ∀ p r, l = p ++ r → ([58, 58] : List UInt8).isPrefixOf r = false
  | [], _, p, r, h => by
    have : r = [] := (List.append_eq_nil_iff.1 h.symm).2
    subst this; rfl
  | c :: l, h, p, r, e => by
    rw [cut2] at h
    split at h
    · cases h
    · rename_i h1
      cases p with
      | nil => rw [List.nil_append] at e; rw [← e]; exact eq_false_of_ne_true h1
      | cons d p =>
        split at h
        · cases h
        · rename_i h2
          exact cut2_none l h2 p r (by simpa using (congrArg (List.drop 1) e))
theorem cut2_some : ∀ (l a b : List UInt8), cut2 l = some (a, b) → l = a ++ 58 :: 58 :: b ∧ cut2 a = none ∧ a.getLast? ≠ some 58
  | [], _, _, h => by simp [cut2] at h
  | c :: l, a, b, h => by
    rw [cut2] at h
    split at h
    · rename_i h1
      injection h with h; injection h with h2 h3
      subst h2
      cases l with
      | nil => simp [List.isPrefixOf] at h1
      | cons d l =>
        simp [List.isPrefixOf] at h1
        obtain ⟨rfl, rfl⟩ := h1
        subst h3
        exact ⟨rfl, rfl, by simp⟩
    · rename_i h1
      split at h
      · rename_i x y h2
        injection h with h; injection h with h3 h4
        subst h3; subst h4
        obtain ⟨i1, i2, i3⟩ := cut2_some l x y h2
        refine ⟨by rw [i1]; rfl, ?_, ?_⟩
        · rw [cut2, i2, if_neg]
          intro h5
          apply h1
          rw [i1]
          cases x with
          | nil => simp [List.isPrefixOf] at h5
          | cons d x => simpa [List.isPrefixOf] using h5
        · cases x with
          | nil =>
            intro h5
            apply h1
            have : c = 58 := by simpa using h5
            rw [i1, this]; rfl
          | cons d x => rw [List.getLast?_cons_cons]; exact i3
      · cases h

theorem sixP_eq (l : List UInt8) : sixP l = sixD l := by
  obtain ⟨A, hA⟩ : ∃ A, rowG rboth 58 8 (l.length + 2) [] l = A := ⟨_, rfl⟩
  unfold sixP sixD
  rw [hA]
  cases hc : cut2 l with
  | none =>
    simp only
    have hpre : ([58, 58] : List UInt8).isPrefixOf A.2 = false := by
      obtain ⟨p, hp⟩ := row_suf 8 (l.length + 2) [] l
      rw [hA] at hp
      exact cut2_none l hc p _ hp
    by_cases hl : l = []
    · subst hl
      have : A = ([], []) := by rw [← hA]; rfl
      subst this; rfl
    have key := row_main (next := rboth) (sep := 58) (evI := pc1) (evL := both1) (most := 8) (e := [])
      (K := fun _ => True) (Z := fun r => r ≠ [])
      (fun q R hq _ => both_reads_I q R hq) (fun q hq _ => both_reads_L q hq)
      (fun h => absurd rfl h) (fun c r _ => by simp) (fun q L _ => by simp) (fun q L _ => trivial)
      (l.length + 2) [] l trivial (by omega) (by simpa using hl)
    simp only [if_true, List.append_nil, List.length_nil, Nat.zero_add, List.nil_append] at key
    rw [hA] at key
    rw [piecesD, if_neg hl, if_pos rfl]
    cases hev : evs pc1 both1 (pts 58 l) with
    | none =>
      rw [hev] at key
      simp only at key ⊢
      rw [if_neg key, hpre]
      split <;> rfl
    | some ns =>
      rw [hev] at key
      simp only at key ⊢
      by_cases h8 : ns.length ≤ 8
      · rw [if_pos h8] at key
        subst key
        simp only [if_true]
        rfl
      · rw [if_neg h8] at key
        have h9 : ¬ ns.length = 8 := by omega
        simp [key, hpre, h9]
  | some ab =>
    obtain ⟨a, b⟩ := ab
    obtain ⟨h1, h2, h3⟩ := cut2_some l a b hc
    simp only
    -- the part ahead
    have hleft : match piecesD false a with
        | some ns => if ns.length ≤ 8 then A = (ns, 58 :: 58 :: b) else A.2 ≠ [] ∧ ([58, 58] : List UInt8).isPrefixOf A.2 = false
        | none => A.2 ≠ [] ∧ ([58, 58] : List UInt8).isPrefixOf A.2 = false := by
      by_cases ha : a = []
      · subst ha
        rw [piecesD, if_pos rfl]
        simp only
        rw [if_pos (by simp), ← hA, h1, List.nil_append, rowG, if_neg (by simp), if_pos rfl, rboth58]
      have hno := cut2_none a h2
      have hinner : ∀ q L, a = q ++ 58 :: L → L ≠ [] ∧ L.head? ≠ some 58 := by
        intro q L e
        refine ⟨fun h0 => h3 (by rw [e, h0]; simp), fun h0 => ?_⟩
        have := hno q _ e
        cases L with
        | nil => cases h0
        | cons x L =>
          have : x = 58 := by simpa using h0
          subst this
          simp [List.isPrefixOf] at this
      have key := row_main (next := rboth) (sep := 58) (evI := pc1) (evL := pc1) (most := 8) (e := 58 :: 58 :: b)
        (K := fun L => ∃ p, a = p ++ L) (Z := fun r => r ≠ [] ∧ ([58, 58] : List UInt8).isPrefixOf r = false)
        (fun q R hq _ => both_reads_I q R hq) (fun q hq _ => both_reads_L' q (58 :: b) hq)
        (fun _ => ⟨rfl, rboth58 b⟩) (fun c r hc => ⟨by simp, by simp [List.isPrefixOf, Ne.symm hc]⟩)
        (fun q L ⟨p, hp⟩ => by
          obtain ⟨i1, i2⟩ := hinner (p ++ q) L (by rw [hp]; simp)
          refine ⟨by simp, ?_⟩
          cases L with
          | nil => contradiction
          | cons x L =>
            have : x ≠ 58 := by simpa using i2
            simp [List.isPrefixOf, Ne.symm this])
        (fun q L ⟨p, hp⟩ => ⟨p ++ q ++ [58], by rw [hp]; simp⟩)
        (l.length + 2) [] a ⟨[], rfl⟩ (by rw [h1]; simp; omega) (by
          rw [if_pos rfl]
          refine ⟨by simp, ?_⟩
          cases a with
          | nil => contradiction
          | cons x a =>
            cases a with
            | nil =>
              have : x ≠ 58 := by simpa using h3
              simp [List.isPrefixOf, Ne.symm this]
            | cons y a =>
              have := hno [] (x :: y :: a) rfl
              exact this)
      simp only [if_true, List.length_nil, Nat.zero_add, List.nil_append] at key
      rw [← h1, hA] at key
      rw [piecesD, if_neg ha]
      simp only [Bool.false_eq_true, if_false]
      cases hev : evs pc1 pc1 (pts 58 a) with
      | none => rw [hev] at key; exact key
      | some ns => rw [hev] at key; exact key
    cases hpa : piecesD false a with
    | none =>
      rw [hpa] at hleft
      simp only at hleft ⊢
      rw [if_neg hleft.1, hleft.2]
      split <;> rfl
    | some x =>
      rw [hpa] at hleft
      simp only at hleft ⊢
      by_cases h8 : x.length ≤ 8
      · rw [if_pos h8] at hleft
        subst hleft
        simp only
        by_cases h8' : x.length = 8
        · rw [if_pos h8', if_neg (by simp)]
          cases piecesD true b with
          | none => rfl
          | some y => simp only; rw [if_neg (by omega)]
        · rw [if_neg h8', if_pos (by simp [List.isPrefixOf])]
          rw [show (58 :: 58 :: b : List UInt8).drop 2 = b from rfl]
          obtain ⟨B, hB⟩ : ∃ B, rowG rboth 58 (7 - x.length) (b.length + 2) [] b = B := ⟨_, rfl⟩
          rw [hB]
          by_cases hb : b = []
          · subst hb
            have : B = ([], []) := by
              rw [← hB, rowG, if_neg (by simp), if_pos rfl]; rfl
            subst this
            rw [piecesD, if_pos rfl]
            simp only [if_true]
            rw [if_pos (by simp; omega)]
          have key := row_main (next := rboth) (sep := 58) (evI := pc1) (evL := both1) (most := 7 - x.length) (e := [])
            (K := fun _ => True) (Z := fun r => r ≠ [])
            (fun q R hq _ => both_reads_I q R hq) (fun q hq _ => both_reads_L q hq)
            (fun h => absurd rfl h) (fun c r _ => by simp) (fun q L _ => by simp) (fun q L _ => trivial)
            (b.length + 2) [] b trivial (by omega) (by simpa using hb)
          simp only [if_true, List.append_nil, List.length_nil, Nat.zero_add, List.nil_append] at key
          rw [hB] at key
          rw [piecesD, if_neg hb, if_pos rfl]
          cases hev : evs pc1 both1 (pts 58 b) with
          | none =>
            rw [hev] at key
            simp only at key ⊢
            rw [if_neg key]
          | some y =>
            rw [hev] at key
            simp only at key ⊢
            by_cases hy : y.length ≤ 7 - x.length
            · rw [if_pos hy] at key
              subst key
              simp only [if_true]
              rw [if_pos (by omega)]
            · rw [if_neg hy] at key
              rw [if_neg key, if_neg (by omega)]
      · rw [if_neg h8] at hleft
        rw [if_neg hleft.1, hleft.2]
        cases piecesD true b with
        | none => simp
        | some y =>
          have h9 : ¬ x.length + y.length ≤ 7 := by omega
          simp [h9]

end Go.Proofs.Ytjalbfgdhmkclaa
