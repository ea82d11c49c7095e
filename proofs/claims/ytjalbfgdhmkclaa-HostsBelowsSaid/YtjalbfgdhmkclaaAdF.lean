/-
  Plain words on addresses of four bytes: a part's number, the numbers as bytes, what the document asks, what a reader cuts. Of no program.
-/
import Derived.Test.YtjalbfgdhmkclaaAdM
namespace Go.Proofs.Ytjalbfgdhmkclaa
open Go.RowKit

def isX : List UInt8 → Bool
  | a :: b :: _ => decide (a = 48) && (decide (b = 120) || decide (b = 88))
  | _ => false
/-- A part's number. -/
def numD (l : List UInt8) : Option Nat := if isX l then cnt 16 (l.drop 2) else if 2 ≤ l.length ∧ l.head? = some 48 then cnt 8 (l.drop 1) else if l = [] then none else cnt 10 l
def num1 (l : List UInt8) : Option (List Nat) := match numD l with
  | none => none
  | some n => some [n]
/-- Cuts digits, at least one; cuts a part's number. -/
def rdec (l : List UInt8) : Option (List Nat × List UInt8) := if dgs 10 l = [] then none else some ([fol 10 (dgs 10 l)], l.dropWhile (dig 10))
def rpart (l : List UInt8) : Option (List Nat × List UInt8) :=
  if [48, 120].isPrefixOf l then some ([fol 16 (dgs 16 (l.drop 2))], (l.drop 2).dropWhile (dig 16))
  else if [48].isPrefixOf l then some ([fol 8 (dgs 8 (l.drop 1))], (l.drop 1).dropWhile (dig 8))
  else rdec l

theorem cnt_all {b : Nat} {q : List UInt8} (h : q.all (dig b) = true) : cnt b q = some (fol b q) := by rw [cnt, if_pos h]
theorem cnt_no {b : Nat} {q : List UInt8} (h : q.all (dig b) = false) : cnt b q = none := by rw [cnt, h]; rfl
/-- The rest ahead of which a part stands: nothing, or what begins with a byte that is no digit. -/
def Endy (R : List UInt8) : Prop := ∀ c, R.head? = some c → hexV c = 16
theorem Endy.dig {R : List UInt8} (h : Endy R) {b : Nat} (hb : b ≤ 16) : ∀ c, R.head? = some c → Go.Proofs.Ytjalbfgdhmkclaa.dig b c = false := by
  intro c hc
  have := h c hc
  simp [Go.Proofs.Ytjalbfgdhmkclaa.dig, this]; omega
theorem endy_nil : Endy [] := by intro c h; simp at h
theorem endy_cons {c : UInt8} (r : List UInt8) (h : hexV c = 16) : Endy (c :: r) := by
  intro d hd
  simp at hd
  rw [← hd]; exact h

theorem dec_reads (q R : List UInt8) (sep : UInt8) (hq : ∀ c ∈ q, c ≠ sep) (hR : Endy R) (hne : q ≠ []) :
    match cnt 10 q with
    | some n => rdec (q ++ R) = some ([n], R)
    | none => rdec (q ++ R) = none ∨ ∃ ns c r, rdec (q ++ R) = some (ns, c :: r) ∧ c ≠ sep ∧ ns ≠ [] := by
  cases h : q.all (dig 10)
  · rw [cnt_no h]
    obtain ⟨c, r, h1, h2, h3, h4⟩ := dgs_some R h
    simp only
    by_cases hn : dgs 10 (q ++ R) = []
    · left; rw [rdec, if_pos hn]
    · right; exact ⟨_, c, r, by rw [rdec, if_neg hn, h4], hq c h2, by simp⟩
  · rw [cnt_all h]
    obtain ⟨h1, h2⟩ := dgs_all h (hR.dig (by omega))
    simp only
    rw [rdec, h1, if_neg hne, h2]
theorem oct_reads (b : Nat) (hb : b ≤ 16) (q R : List UInt8) (sep : UInt8) (hq : ∀ c ∈ q, c ≠ sep) (hR : Endy R) :
    match cnt b q with
    | some n => fol b (dgs b (q ++ R)) = n ∧ (q ++ R).dropWhile (dig b) = R
    | none => ∃ c r, (q ++ R).dropWhile (dig b) = c :: r ∧ c ≠ sep := by
  cases h : q.all (dig b)
  · rw [cnt_no h]
    obtain ⟨c, r, h1, h2, h3, h4⟩ := dgs_some R h
    exact ⟨c, r, h4, hq c h2⟩
  · rw [cnt_all h]
    obtain ⟨h1, h2⟩ := dgs_all h (hR.dig hb)
    exact ⟨by rw [h1], h2⟩

theorem part_reads (q R : List UInt8) (hq : ∀ c ∈ q, c ≠ 46) (hx : ∀ c ∈ q, c ≠ 88) (hR : Endy R) (hR2 : R.head? ≠ some 120) : Reads rpart 46 num1 q R := by
  unfold Reads num1
  match q, hq, hx with
  | [], _, _ =>
    have : numD [] = none := rfl
    rw [this]
    left
    have hp : ∀ c, R.head? = some c → c ≠ 48 := fun c hc e => by
      have := hR c hc; rw [e] at this; exact absurd this (by decide)
    have h1 : ([48, 120] : List UInt8).isPrefixOf R = false := by
      cases R with
      | nil => rfl
      | cons c R => simp [List.isPrefixOf, Ne.symm (hp c rfl)]
    have h2 : ([48] : List UInt8).isPrefixOf R = false := by
      cases R with
      | nil => rfl
      | cons c R => simp [List.isPrefixOf, Ne.symm (hp c rfl)]
    have h3 : dgs 10 R = [] := by
      cases R with
      | nil => rfl
      | cons c R => simp [dgs, hR.dig (b := 10) (by omega) c rfl]
    rw [List.nil_append, rpart, h1, h2]
    simp [rdec, h3]
  | [c], hq, hx =>
    have hn : numD [c] = cnt 10 [c] := by simp [numD, isX]
    rw [hn]
    by_cases hc : c = 48
    · subst hc
      have h1 : ([48, 120] : List UInt8).isPrefixOf ([48] ++ R) = false := by
        cases R with
        | nil => rfl
        | cons d R =>
          have : (120 : UInt8) ≠ d := fun e => hR2 (by rw [← e]; rfl)
          simp [List.isPrefixOf, this]
      have h2 : ([48] : List UInt8).isPrefixOf ([48] ++ R) = true := by simp [List.isPrefixOf]
      have h3 : cnt 10 [48] = some 0 := by decide
      have h4 : dgs 8 R = [] := by
        cases R with
        | nil => rfl
        | cons c R => simp [dgs, hR.dig (b := 8) (by omega) c rfl]
      have h5 : R.dropWhile (dig 8) = R := by
        cases R with
        | nil => rfl
        | cons c R => simp [hR.dig (b := 8) (by omega) c rfl]
      rw [h3]
      simp only
      rw [rpart, h1, h2]
      simp [h4, h5, fol]
    · have h1 : ([48, 120] : List UInt8).isPrefixOf ([c] ++ R) = false := by simp [List.isPrefixOf, Ne.symm hc]
      have h2 : ([48] : List UInt8).isPrefixOf ([c] ++ R) = false := by simp [List.isPrefixOf, Ne.symm hc]
      have h := dec_reads [c] R 46 hq hR (by simp)
      have hr : rpart ([c] ++ R) = rdec ([c] ++ R) := by rw [rpart, h1, h2]; rfl
      rw [hr]
      cases hh : cnt 10 [c] with
      | none => rw [hh] at h; exact h
      | some n => rw [hh] at h; exact ⟨h, by simp⟩
  | c :: d :: q, hq, hx =>
    by_cases hc : c = 48
    · subst hc
      by_cases hd : d = 120
      · subst hd
        have hn : numD (48 :: 120 :: q) = cnt 16 q := by simp [numD, isX]
        have hr : rpart (48 :: 120 :: q ++ R) = some ([fol 16 (dgs 16 (q ++ R))], (q ++ R).dropWhile (dig 16)) := by
          rw [rpart, if_pos (by simp [List.isPrefixOf])]; rfl
        have h := oct_reads 16 (by omega) q R 46 (fun c hc => hq c (by simp [hc])) hR
        rw [hn, hr]
        cases hh : cnt 16 q with
        | none =>
          rw [hh] at h
          obtain ⟨c, r, h1, h2⟩ := h
          right; exact ⟨_, c, r, by rw [h1], h2, by simp⟩
        | some n =>
          rw [hh] at h
          obtain ⟨h1, h2⟩ := h
          simp only
          rw [h1, h2]; exact ⟨rfl, by simp⟩
      · have hd2 : d ≠ 88 := hx d (by simp)
        have hn : numD (48 :: d :: q) = cnt 8 (d :: q) := by simp [numD, isX, hd, hd2]
        have hr : rpart (48 :: d :: q ++ R) = some ([fol 8 (dgs 8 (d :: q ++ R))], (d :: q ++ R).dropWhile (dig 8)) := by
          rw [rpart, if_neg (by simp [List.isPrefixOf, Ne.symm hd]), if_pos (by simp [List.isPrefixOf])]; rfl
        have h := oct_reads 8 (by omega) (d :: q) R 46 (fun c hc => hq c (List.mem_cons_of_mem _ hc)) hR
        rw [hn, hr]
        cases hh : cnt 8 (d :: q) with
        | none =>
          rw [hh] at h
          obtain ⟨c, r, h1, h2⟩ := h
          right; exact ⟨_, c, r, by rw [h1], h2, by simp⟩
        | some n =>
          rw [hh] at h
          obtain ⟨h1, h2⟩ := h
          simp only
          rw [h1, h2]; exact ⟨rfl, by simp⟩
    · have hn : numD (c :: d :: q) = cnt 10 (c :: d :: q) := by simp [numD, isX, hc]
      have hr : rpart (c :: d :: q ++ R) = rdec (c :: d :: q ++ R) := by
        rw [rpart, if_neg (by simp [List.isPrefixOf, Ne.symm hc]), if_neg (by simp [List.isPrefixOf, Ne.symm hc])]
      have h := dec_reads (c :: d :: q) R 46 hq hR (by simp)
      rw [hn, hr]
      cases hh : cnt 10 (c :: d :: q) with
      | none => rw [hh] at h; exact h
      | some n => rw [hh] at h; exact ⟨h, by simp⟩

/-- A number as bytes, the highest first. -/
def be : Nat → Nat → List Nat
  | 0, _ => []
  | k + 1, n => be k (n / 256) ++ [n % 256]
theorem be_len : ∀ k n, (be k n).length = k
  | 0, _ => rfl
  | k + 1, n => by rw [be, List.length_append, be_len k]; rfl
theorem be_lt : ∀ k n, ∀ x ∈ be k n, x < 256
  | 0, _, x, h => by simp [be] at h
  | k + 1, n, x, h => by
    rw [be] at h
    rcases List.mem_append.1 h with h | h
    · exact be_lt k _ x h
    · rw [List.mem_singleton.1 h]; omega
/-- Numbers as r bytes: the last one has the room that the others leave. -/
def lay4 : Nat → List Nat → Option (List Nat)
  | r, [] => some (List.replicate r 0)
  | r, [n] => if n < 256 ^ r then some (be r n) else none
  | r, n :: m :: ns => if n < 256 then match lay4 (r - 1) (m :: ns) with
    | none => none
    | some bs => some (n :: bs) else none
theorem lay4_len : ∀ (ns : List Nat) (r : Nat) (bs : List Nat), ns.length ≤ r → lay4 r ns = some bs → bs.length = r ∧ ∀ x ∈ bs, x < 256
  | [], r, bs, _, h => by
    simp [lay4] at h
    subst h
    exact ⟨by simp, fun x hx => by rw [List.eq_of_mem_replicate hx]; omega⟩
  | [n], r, bs, _, h => by
    rw [lay4] at h
    split at h
    · injection h with h; subst h; exact ⟨be_len r n, be_lt r n⟩
    · cases h
  | n :: m :: ns, r, bs, hl, h => by
    rw [lay4] at h
    split at h
    · rename_i hn
      split at h
      · cases h
      · rename_i bs' h'
        injection h with h; subst h
        obtain ⟨h1, h2⟩ := lay4_len (m :: ns) (r - 1) bs' (by simp at hl ⊢; omega) h'
        refine ⟨by simp [h1]; simp at hl; omega, fun x hx => ?_⟩
        rcases List.mem_cons.1 hx with rfl | hx
        · exact hn
        · exact h2 x hx
    · cases h

/-- Without a point at its end. -/
def trimP (l : List UInt8) : List UInt8 := if l.getLast? = some 46 then l.dropLast else l
def looksQ (q : List UInt8) : Bool := (!q.isEmpty && q.all (dig 10)) || (isX q && (numD q).isSome)
def lastQ (P : List (List UInt8)) : List UInt8 := P.getLast?.getD []
/-- Looks a text like four bytes, and which are they? -/
def fourD (l : List UInt8) : Bool × Option (List Nat) :=
  if looksQ (lastQ (pts 46 (trimP l))) then (true, if 4 < (pts 46 (trimP l)).length then none else match evs num1 num1 (pts 46 (trimP l)) with
    | none => none
    | some ns => lay4 4 ns) else (false, none)
/-- What the reader makes of a text that looks like four bytes. -/
def fourP (l : List UInt8) : Option (List Nat) :=
  if (rowG rpart 46 4 (l.length + 2) [] l).2 = [] ∨ (rowG rpart 46 4 (l.length + 2) [] l).2 = [46] then lay4 4 (rowG rpart 46 4 (l.length + 2) [] l).1 else none

theorem num1_len {q : List UInt8} {ns : List Nat} (h : num1 q = some ns) : ns.length = 1 := by
  unfold num1 at h
  split at h
  · cases h
  · injection h with h; subst h; rfl
theorem evs_num_len : ∀ (P : List (List UInt8)) (ns : List Nat), evs num1 num1 P = some ns → ns.length = P.length
  | [], ns, h => by simp [evs] at h
  | [q], ns, h => num1_len h
  | q :: p :: P, ns, h => by
    rw [evs_cons _ _ _ (by simp)] at h
    split at h
    · cases h
    · rename_i ms h1
      split at h
      · cases h
      · rename_i ks h2
        injection h with h; subst h
        rw [List.length_append, num1_len h1, evs_num_len (p :: P) ks h2]; simp; omega

theorem trimP_spec (l : List UInt8) : ∃ e, (e = [] ∨ e = [46]) ∧ l = trimP l ++ e := by
  by_cases h : l.getLast? = some 46
  · refine ⟨[46], .inr rfl, ?_⟩
    rw [trimP, if_pos h]
    obtain ⟨r, rfl⟩ : ∃ r, l = r ++ [46] := by
      rcases List.eq_nil_or_concat l with rfl | ⟨r, x, rfl⟩
      · simp at h
      · rw [List.concat_eq_append] at h ⊢
        simp at h; exact ⟨r, by rw [h]⟩
    simp
  · exact ⟨[], .inl rfl, by rw [trimP, if_neg h, List.append_nil]⟩
theorem getLast_pts (a : UInt8) : ∀ (n : Nat) (l : List UInt8), l.length ≤ n → l ≠ [] → lastQ (pts a l) ≠ [] → l.getLast? ≠ some a
  | 0, l, hn, h, _ => by
    have : l = [] := List.eq_nil_of_length_eq_zero (by omega)
    contradiction
  | n + 1, l, hn, h, hl => by
    rcases pts_cut a l with h' | ⟨q, r, rfl, hq⟩
    · intro e
      exact h' a (List.mem_of_getLast? e) rfl
    · rw [pts_front a q r hq] at hl
      have hl' : lastQ (pts a r) ≠ [] := by
        unfold lastQ at hl ⊢
        have := pts_ne a r
        cases hp : pts a r with
        | nil => contradiction
        | cons x y => rw [hp] at hl; simpa using hl
      by_cases hr : r = []
      · subst hr; simp [pts, lastQ] at hl'
      · have := getLast_pts a n r (by simp at hn; omega) hr hl'
        intro e
        apply this
        rw [List.getLast?_append] at e
        have h2 : (a :: r).getLast? = r.getLast? := by
          cases r with
          | nil => contradiction
          | cons x y => simp [List.getLast?_cons_cons]
        rw [h2] at e
        cases hg : r.getLast? with
        | none => rw [List.getLast?_eq_none_iff] at hg; contradiction
        | some z => rw [hg] at e; simpa using e

theorem fourP_eq (l : List UInt8) (hx : ∀ c ∈ l, c ≠ 88) (hlk : looksQ (lastQ (pts 46 (trimP l))) = true) : fourP l = (fourD l).2 := by
  obtain ⟨e, he, hl⟩ := trimP_spec l
  obtain ⟨T, hT⟩ : ∃ T, trimP l = T := ⟨_, rfl⟩
  have hdt : (fourD l).2 = if 4 < (pts 46 T).length then none else match evs num1 num1 (pts 46 T) with
      | none => none
      | some ns => lay4 4 ns := by rw [fourD, if_pos hlk, hT]
  rw [hdt]
  rw [hT] at hl hlk
  have hlast : lastQ (pts 46 T) ≠ [] := by
    intro h0; rw [h0] at hlk; simp [looksQ, isX] at hlk
  have hTne : T ≠ [] := by
    intro h0; subst h0; exact hlast rfl
  have hTl := getLast_pts 46 T.length T (Nat.le_refl _) hTne hlast
  have hxT : ∀ c ∈ T, c ≠ 88 := fun c hc => hx c (by rw [hl]; exact List.mem_append_left _ hc)
  have hEe : Endy e := by rcases he with rfl | rfl; exact endy_nil; exact endy_cons _ (by decide)
  have key := row_main (next := rpart) (sep := 46) (evI := num1) (evL := num1) (most := 4) (e := e)
    (K := fun L => L ≠ [] ∧ L.getLast? ≠ some 46 ∧ ∀ c ∈ L, c ≠ 88) (Z := fun r => r ≠ [] ∧ r ≠ [46])
    (fun q R hq hk => part_reads q (46 :: R) hq (by
      rcases hk with hk | ⟨r, hk⟩
      · exact hk.2.2
      · exact fun c hc => hk.2.2 c (List.mem_append_left _ hc)) (endy_cons _ (by decide)) (by simp))
    (fun q hq hk => part_reads q e hq hk.2.2 hEe (by rcases he with rfl | rfl <;> simp))
    (fun hne => by
      rcases he with rfl | rfl
      · contradiction
      · exact ⟨rfl, by decide⟩)
    (fun c r hc => ⟨by simp, by simp [hc]⟩)
    (fun q L hk => by
      have hL : L ≠ [] := by
        intro h0; subst h0; apply hk.2.1; simp
      cases L with
      | nil => contradiction
      | cons x L => simp)
    (fun q L hk => by
      have hL : L ≠ [] := by
        intro h0; subst h0; apply hk.2.1; simp
      refine ⟨hL, fun h => hk.2.1 ?_, fun c hc => hk.2.2 c (by simp [hc])⟩
      rw [List.getLast?_append]
      cases L with
      | nil => contradiction
      | cons x L => rw [List.getLast?_cons_cons, h]; rfl)
    (l.length + 2) [] T ⟨hTne, hTl, hxT⟩ (by rw [hl]; simp; omega) (by
      rw [if_pos rfl]
      cases T with
      | nil => contradiction
      | cons x T =>
        refine ⟨by simp, ?_⟩
        intro h
        have h1 : x = 46 := by simpa using congrArg List.head? h
        have h2 : T ++ e = [] := by simpa using congrArg (List.drop 1) h
        have h3 : T = [] := (List.append_eq_nil_iff.1 h2).1
        subst h3; subst h1
        exact hTl rfl)
  simp only [if_true] at key
  rw [← hl] at key
  unfold fourP
  cases hev : evs num1 num1 (pts 46 T) with
  | none =>
    rw [hev] at key
    rw [if_neg (by simp only at key; rintro (h | h); exact key.1 h; exact key.2 h)]
    split <;> rfl
  | some ns =>
    rw [hev] at key
    have hlen := evs_num_len _ _ hev
    simp only [List.length_nil, Nat.zero_add, List.nil_append] at key
    by_cases h4 : ns.length ≤ 4
    · rw [if_pos h4] at key
      rw [key, if_pos he, if_neg (by omega)]
    · rw [if_neg h4] at key
      rw [if_neg (by rintro (h | h); exact key.1 h; exact key.2 h), if_pos (by omega)]

end Go.Proofs.Ytjalbfgdhmkclaa
