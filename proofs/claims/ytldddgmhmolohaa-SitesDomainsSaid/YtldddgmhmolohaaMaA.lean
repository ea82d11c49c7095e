/-
  Plain words on bytes as three signs: sets, encoding, decoding. Of no program.
  Plain words on addresses: digits, numbers, parts, rows that are cut off a text. Of no program.
  Plain words on addresses of four bytes: a part's number, the numbers as bytes, what the document asks, what a reader cuts. Of no program.
  Plain words on addresses of sixteen bytes: pieces, four bytes at their end, where nothing stands; what the document asks, what a reader cuts. Of no program.
  Frames: all that was there is as it was but for named blocks; a block of one text; rows of ints that are put behind a row.
  Texts and lists of bytes.
-/
import Derived.Test.YtldddgmhmolohaaMpA
import Derived.Test.YtldddgmhmolohaaRows
import Derived.WalkSpells
import Derived.WalkLawsBesides
import Derived.OneCell
import Derived.Deep.WholeRow
import Derived.Laws.CopyOwn
import Derived.Deep.QuietTactic
import Derived.BigQuiet
import Derived.Deep.AppendLies
import Derived.ArgAppend
import Derived.RegionTactic
import Derived.Lib.DecodeN
import Derived.Lib.AppendZeros
namespace Go.Proofs.Ytldddgmhmolohaa
open Go.RowKit

/-- What a digit tells; 16: it is none. -/
def hexV (c : UInt8) : Nat := if 48 ≤ c.toNat ∧ c.toNat ≤ 57 then c.toNat - 48 else if 65 ≤ c.toNat ∧ c.toNat ≤ 70 then c.toNat - 55 else if 97 ≤ c.toNat ∧ c.toNat ≤ 102 then c.toNat - 87 else 16
theorem hexV_le (c : UInt8) : hexV c ≤ 16 := by unfold hexV; split <;> (try split) <;> (try split) <;> omega
/-- Does a text begin with three signs? -/
def sig3 : List UInt8 → Bool
  | c :: a :: b :: _ => c == 37 && decide (hexV a < 16) && decide (hexV b < 16)
  | _ => false
/-- The byte that a text tells first. -/
def fstV : List UInt8 → UInt8
  | c :: a :: b :: r => if sig3 (c :: a :: b :: r) then UInt8.ofNat (16 * hexV a + hexV b) else c
  | c :: _ => c
  | [] => 0
def fstW (l : List UInt8) : Nat := if sig3 l then 3 else 1
theorem fstW_pos (l : List UInt8) : 1 ≤ fstW l := by unfold fstW; split <;> omega
/-- Three signs as bytes. -/
def pc_decL : List UInt8 → List UInt8
  | [] => []
  | c :: r => fstV (c :: r) :: pc_decL ((c :: r).drop (fstW (c :: r)))
termination_by l => l.length
decreasing_by
  have := fstW_pos (c :: r)
  simp [List.length_drop]; omega
end Go.Proofs.Ytldddgmhmolohaa
namespace Go.Proofs.Ytldddgmhmolohaa
open Go.RowKit

/-- Puts a byte ahead of the first part. -/
def ahd (c : UInt8) : List (List UInt8) → List (List UInt8)
  | [] => [[c]]
  | p :: ps => (c :: p) :: ps
/-- What stands between the bytes a. -/
def pts (a : UInt8) : List UInt8 → List (List UInt8)
  | [] => [[]]
  | c :: l => if c = a then [] :: pts a l else ahd c (pts a l)
theorem pts_ne (a : UInt8) (l : List UInt8) : pts a l ≠ [] := by
  cases l with
  | nil => simp [pts]
  | cons c l =>
    rw [pts]; split
    · simp
    · cases pts a l <;> simp [ahd]
theorem pts_append (a : UInt8) (r : List UInt8) : ∀ l : List UInt8, pts a (l ++ a :: r) = pts a l ++ pts a r
  | [] => by simp [pts]
  | c :: l => by
    have ih := pts_append a r l
    rw [List.cons_append, pts, pts, ih]
    by_cases h : c = a
    · rw [if_pos h, if_pos h]; rfl
    · rw [if_neg h, if_neg h]
      have hne := pts_ne a l
      cases e : pts a l with
      | nil => contradiction
      | cons q qs => rfl
theorem pts_none (a : UInt8) : ∀ (l : List UInt8), (∀ c ∈ l, c ≠ a) → pts a l = [l]
  | [], _ => rfl
  | c :: l, h => by
    rw [pts, if_neg (h c List.mem_cons_self), pts_none a l fun x hx => h x (List.mem_cons_of_mem _ hx)]; rfl
theorem pts_front (a : UInt8) (q r : List UInt8) (h : ∀ c ∈ q, c ≠ a) : pts a (q ++ a :: r) = q :: pts a r := by
  rw [pts_append, pts_none a q h]; rfl
/-- A text has no such byte, or a first part. -/
theorem pts_cut (a : UInt8) : ∀ l : List UInt8, (∀ c ∈ l, c ≠ a) ∨ ∃ q r, l = q ++ a :: r ∧ ∀ c ∈ q, c ≠ a
  | [] => .inl (by simp)
  | c :: l => by
    by_cases h : c = a
    · exact .inr ⟨[], l, by rw [h]; rfl, by simp⟩
    · rcases pts_cut a l with h' | ⟨q, r, rfl, hq⟩
      · exact .inl fun x hx => by
          rcases List.mem_cons.1 hx with rfl | hx
          · exact h
          · exact h' x hx
      · refine .inr ⟨c :: q, r, rfl, fun x hx => ?_⟩
        rcases List.mem_cons.1 hx with rfl | hx
        · exact h
        · exact hq x hx

/-- Is a byte a digit by a base? What digits tell, 2^32 at most. -/
def dig (b : Nat) (c : UInt8) : Bool := decide (hexV c < b)
def stp (b n : Nat) (c : UInt8) : Nat := min 4294967296 (n * b + hexV c)
def fol (b : Nat) (l : List UInt8) : Nat := l.foldl (stp b) 0
def cnt (b : Nat) (l : List UInt8) : Option Nat := if l.all (dig b) then some (fol b l) else none
theorem fol_snoc (b : Nat) (l : List UInt8) (c : UInt8) : fol b (l ++ [c]) = stp b (fol b l) c := by simp [fol]
theorem fol_le (b : Nat) (l : List UInt8) : fol b l ≤ 4294967296 := by
  refine snocInd (P := fun l => fol b l ≤ 4294967296) (by simp [fol]) (fun l c _ => ?_) l
  rw [fol_snoc, stp]; omega
/-- The digits ahead. -/
def dgs (b : Nat) (l : List UInt8) : List UInt8 := l.takeWhile (dig b)
theorem dgs_drop (b : Nat) (l : List UInt8) : l.drop (dgs b l).length = l.dropWhile (dig b) := by
  have h := List.takeWhile_append_dropWhile (p := dig b) (l := l)
  have := congrArg (List.drop (dgs b l).length) h
  rw [show dgs b l = List.takeWhile (dig b) l from rfl, List.drop_left' rfl] at this
  exact this.symm
theorem dgs_len (b : Nat) (l : List UInt8) : (dgs b l).length ≤ l.length := (List.takeWhile_sublist _).length_le
/-- All of a part are digits: they are the digits ahead of what is none. -/
theorem dgs_all {b : Nat} {q R : List UInt8} (hq : q.all (dig b) = true) (hR : ∀ c, R.head? = some c → dig b c = false) : dgs b (q ++ R) = q ∧ (q ++ R).dropWhile (dig b) = R := by
  have hq' : ∀ x ∈ q, dig b x = true := by simpa using hq
  constructor
  · unfold dgs
    rw [List.takeWhile_append_of_pos hq']
    cases R with
    | nil => simp
    | cons c R => simp [hR c rfl]
  · rw [List.dropWhile_append_of_pos hq']
    cases R with
    | nil => simp
    | cons c R => simp [hR c rfl]
/-- One of a part is none: the digits ahead end within it. -/
theorem dgs_some {b : Nat} {q : List UInt8} (R : List UInt8) (hq : q.all (dig b) = false) : ∃ c r, dig b c = false ∧ c ∈ q ∧ dgs b (q ++ R) = dgs b q ∧ (q ++ R).dropWhile (dig b) = c :: r := by
  induction q with
  | nil => simp at hq
  | cons x q ih =>
    cases hx : dig b x
    · exact ⟨x, q ++ R, hx, List.mem_cons_self, by simp [dgs, hx], by simp [hx]⟩
    · rw [List.all_cons, hx, Bool.true_and] at hq
      obtain ⟨c, r, h1, h2, h3, h4⟩ := ih hq
      exact ⟨c, r, h1, List.mem_cons_of_mem _ h2, by simp only [dgs] at h3 ⊢; simp [hx, h3], by simp [hx, h4]⟩

/-- Reads as long as there is more, and room for it; what stands between is left, if nothing is read behind it. -/
def rowG (next : List UInt8 → Option (List Nat × List UInt8)) (sep : UInt8) (most : Nat) : Nat → List Nat → List UInt8 → List Nat × List UInt8
  | 0, out, l => (out, l)
  | f + 1, out, l =>
    if out ≠ [] ∧ l.head? ≠ some sep then (out, l)
    else match next (if out = [] then l else l.drop 1) with
      | none => (out, l)
      | some (ns, r) => if most < out.length + ns.length then (out, l) else rowG next sep most f (out ++ ns) r

/-- The parts, one by one; the last one otherwise than the others. -/
def evs (evI evL : List UInt8 → Option (List Nat)) : List (List UInt8) → Option (List Nat)
  | [] => none
  | [q] => evL q
  | q :: Q => match evI q with
    | none => none
    | some ns => match evs evI evL Q with
      | none => none
      | some ms => some (ns ++ ms)
theorem evs_cons (evI evL : List UInt8 → Option (List Nat)) (q : List UInt8) {Q : List (List UInt8)} (h : Q ≠ []) : evs evI evL (q :: Q) = match evI q with
    | none => none
    | some ns => match evs evI evL Q with
      | none => none
      | some ms => some (ns ++ ms) := by
  cases Q with
  | nil => contradiction
  | cons p Q => rfl

/-- What is known of a way to read a part, ahead of R. -/
def Reads (next : List UInt8 → Option (List Nat × List UInt8)) (sep : UInt8) (ev : List UInt8 → Option (List Nat)) (q R : List UInt8) : Prop :=
  match ev q with
  | some ns => next (q ++ R) = some (ns, R) ∧ ns ≠ []
  | none => next (q ++ R) = none ∨ ∃ ns c r, next (q ++ R) = some (ns, c :: r) ∧ c ≠ sep ∧ ns ≠ []

theorem row_main {next : List UInt8 → Option (List Nat × List UInt8)} {sep : UInt8} {evI evL : List UInt8 → Option (List Nat)} {most : Nat} {e : List UInt8} {K Z : List UInt8 → Prop}
    (hI : ∀ q R, (∀ c ∈ q, c ≠ sep) → (K q ∨ ∃ r, K (q ++ sep :: r)) → Reads next sep evI q (sep :: R)) (hL : ∀ q, (∀ c ∈ q, c ≠ sep) → K q → Reads next sep evL q e)
    (he : e ≠ [] → e.head? = some sep ∧ next (e.drop 1) = none)
    (z1 : ∀ c r, c ≠ sep → Z (c :: r)) (z2 : ∀ q L, K (q ++ sep :: L) → Z (sep :: (L ++ e))) (hK : ∀ q L, K (q ++ sep :: L) → K L) :
    ∀ (f : Nat) (out : List Nat) (L : List UInt8), K L → L.length + 1 < f → Z ((if out = [] then L else sep :: L) ++ e) →
      match evs evI evL (pts sep L) with
      | some ns => if out.length + ns.length ≤ most then rowG next sep most f out ((if out = [] then L else sep :: L) ++ e) = (out ++ ns, e) else Z (rowG next sep most f out ((if out = [] then L else sep :: L) ++ e)).2
      | none => Z (rowG next sep most f out ((if out = [] then L else sep :: L) ++ e)).2 := by
  intro f
  induction f with
  | zero => intro out L _ h; omega
  | succ f ih =>
    intro out L hKL hf hz
    have hhd : ¬ (out ≠ [] ∧ ((if out = [] then L else sep :: L) ++ e).head? ≠ some sep) := by
      rintro ⟨h1, h2⟩; rw [if_neg h1] at h2; exact h2 rfl
    have hnx : (if out = [] then ((if out = [] then L else sep :: L) ++ e) else ((if out = [] then L else sep :: L) ++ e).drop 1) = L ++ e := by
      split <;> simp_all
    have hgo : ∀ ns r, next (L ++ e) = some (ns, r) → rowG next sep most (f + 1) out ((if out = [] then L else sep :: L) ++ e) = if most < out.length + ns.length then (out, (if out = [] then L else sep :: L) ++ e) else rowG next sep most f (out ++ ns) r := by
      intro ns r h
      rw [rowG, if_neg hhd, hnx, h]
    have hno : next (L ++ e) = none → rowG next sep most (f + 1) out ((if out = [] then L else sep :: L) ++ e) = (out, (if out = [] then L else sep :: L) ++ e) := by
      intro h
      rw [rowG, if_neg hhd, hnx, h]
    have hout : ∀ (ns : List Nat) (c : UInt8) (r : List UInt8), ns ≠ [] → c ≠ sep → next (L ++ e) = some (ns, c :: r) → Z (rowG next sep most (f + 1) out ((if out = [] then L else sep :: L) ++ e)).2 := by
      intro ns c r hns hc h
      rw [hgo _ _ h]
      split
      · exact hz
      · cases f with
        | zero => exact z1 c r hc
        | succ f =>
          rw [rowG, if_pos ⟨by simp [hns], by simpa using hc⟩]
          exact z1 c r hc
    rcases pts_cut sep L with hn | ⟨q, L', rfl, hq⟩
    · rw [pts_none sep L hn]
      have h := hL L hn hKL
      unfold Reads at h
      rw [show evs evI evL [L] = evL L from rfl]
      cases hev : evL L with
      | none =>
        rw [hev] at h
        rcases h with h | ⟨ns, c, r, h1, h2, h3⟩
        · simp only; rw [hno h]; exact hz
        · exact hout ns c r h3 h2 h1
      | some ns =>
        rw [hev] at h
        obtain ⟨h1, h2⟩ := h
        simp only
        rw [hgo _ _ h1]
        by_cases hm : out.length + ns.length ≤ most
        · rw [if_pos hm, if_neg (by omega)]
          obtain ⟨f, rfl⟩ : ∃ g, f = g + 1 := ⟨f - 1, by omega⟩
          by_cases hee : e = []
          · subst hee
            rw [rowG, if_pos ⟨by simp [h2], by simp⟩]
          · obtain ⟨e1, e2⟩ := he hee
            rw [rowG, if_neg (fun hx => hx.2 e1), if_neg (by simp [h2]), e2]
        · rw [if_neg hm, if_pos (by omega)]; exact hz
    · rw [pts_front sep q L' hq, evs_cons _ _ _ (pts_ne _ _)]
      have h := hI q (L' ++ e) hq (.inr ⟨L', hKL⟩)
      unfold Reads at h
      rw [show q ++ sep :: (L' ++ e) = q ++ sep :: L' ++ e by simp] at h
      have hKL' := hK q L' hKL
      cases hev : evI q with
      | none =>
        rw [hev] at h
        rcases h with h | ⟨ns, c, r, h1, h2, h3⟩
        · simp only; rw [hno h]; exact hz
        · exact hout ns c r h3 h2 h1
      | some ns =>
        rw [hev] at h
        obtain ⟨h1, h2⟩ := h
        simp only
        rw [hgo _ _ h1]
        have hne : out ++ ns ≠ [] := by simp [h2]
        by_cases hm : most < out.length + ns.length
        · rw [if_pos hm]
          cases evs evI evL (pts sep L') with
          | none => exact hz
          | some ms =>
            simp only
            rw [if_neg (by simp; omega)]; exact hz
        · rw [if_neg hm]
          have := ih (out ++ ns) L' hKL' (by simp at hf; omega) (by rw [if_neg hne]; exact z2 q L' hKL)
          rw [if_neg hne] at this
          cases hev2 : evs evI evL (pts sep L') with
          | none => rw [hev2] at this; exact this
          | some ms =>
            rw [hev2] at this
            simp only at this ⊢
            rw [List.length_append] at this
            rw [List.length_append, ← Nat.add_assoc]
            rw [← List.append_assoc]
            exact this

end Go.Proofs.Ytldddgmhmolohaa
namespace Go.Proofs.Ytldddgmhmolohaa
open Go.RowKit

def isX : List UInt8 → Bool
  | a :: b :: _ => decide (a = 48) && (decide (b = 120) || decide (b = 88))
  | _ => false
/-- A part's number. -/
def numD (l : List UInt8) : Option Nat := if isX l then cnt 16 (l.drop 2) else if 2 ≤ l.length ∧ l.head? = some 48 then cnt 8 (l.drop 1) else if l = [] then none else cnt 10 l
def num1 (l : List UInt8) : Option (List Nat) := match numD l with
  | none => none
  | some n => some [n]
/-- Cuts digits, at least one; cuts a part's number. -/
def rdec (l : List UInt8) : Option (List Nat × List UInt8) := if dgs 10 l = [] then none else some ([fol 10 (dgs 10 l)], l.dropWhile (dig 10))
def rpart (l : List UInt8) : Option (List Nat × List UInt8) :=
  if [48, 120].isPrefixOf l then some ([fol 16 (dgs 16 (l.drop 2))], (l.drop 2).dropWhile (dig 16))
  else if [48].isPrefixOf l then some ([fol 8 (dgs 8 (l.drop 1))], (l.drop 1).dropWhile (dig 8))
  else rdec l

theorem cnt_all {b : Nat} {q : List UInt8} (h : q.all (dig b) = true) : cnt b q = some (fol b q) := by rw [cnt, if_pos h]
theorem cnt_no {b : Nat} {q : List UInt8} (h : q.all (dig b) = false) : cnt b q = none := by rw [cnt, h]; rfl
/-- The rest ahead of which a part stands: nothing, or what begins with a byte that is no digit. -/
def Endy (R : List UInt8) : Prop := ∀ c, R.head? = some c → hexV c = 16
theorem Endy.dig {R : List UInt8} (h : Endy R) {b : Nat} (hb : b ≤ 16) : ∀ c, R.head? = some c → Go.Proofs.Ytldddgmhmolohaa.dig b c = false := by
  intro c hc
  have := h c hc
  simp [Go.Proofs.Ytldddgmhmolohaa.dig, this]; omega
theorem endy_nil : Endy [] := by intro c h; simp at h
theorem endy_cons {c : UInt8} (r : List UInt8) (h : hexV c = 16) : Endy (c :: r) := by
  intro d hd
  simp at hd
  rw [← hd]; exact h

theorem dec_reads (q R : List UInt8) (sep : UInt8) (hq : ∀ c ∈ q, c ≠ sep) (hR : Endy R) (hne : q ≠ []) :
    match cnt 10 q with
    | some n => rdec (q ++ R) = some ([n], R)
    | none => rdec (q ++ R) = none ∨ ∃ ns c r, rdec (q ++ R) = some (ns, c :: r) ∧ c ≠ sep ∧ ns ≠ [] := by
  cases h : q.all (dig 10)
  · rw [cnt_no h]
    obtain ⟨c, r, h1, h2, h3, h4⟩ := dgs_some R h
    simp only
    by_cases hn : dgs 10 (q ++ R) = []
    · left; rw [rdec, if_pos hn]
    · right; exact ⟨_, c, r, by rw [rdec, if_neg hn, h4], hq c h2, by simp⟩
  · rw [cnt_all h]
    obtain ⟨h1, h2⟩ := dgs_all h (hR.dig (by omega))
    simp only
    rw [rdec, h1, if_neg hne, h2]
theorem oct_reads (b : Nat) (hb : b ≤ 16) (q R : List UInt8) (sep : UInt8) (hq : ∀ c ∈ q, c ≠ sep) (hR : Endy R) :
    match cnt b q with
    | some n => fol b (dgs b (q ++ R)) = n ∧ (q ++ R).dropWhile (dig b) = R
    | none => ∃ c r, (q ++ R).dropWhile (dig b) = c :: r ∧ c ≠ sep := by
  cases h : q.all (dig b)
  · rw [cnt_no h]
    obtain ⟨c, r, h1, h2, h3, h4⟩ := dgs_some R h
    exact ⟨c, r, h4, hq c h2⟩
  · rw [cnt_all h]
    obtain ⟨h1, h2⟩ := dgs_all h (hR.dig hb)
    exact ⟨by rw [h1], h2⟩

theorem part_reads (q R : List UInt8) (hq : ∀ c ∈ q, c ≠ 46) (hx : ∀ c ∈ q, c ≠ 88) (hR : Endy R) (hR2 : R.head? ≠ some 120) : Reads rpart 46 num1 q R := by
  unfold Reads num1
  match q, hq, hx with
  | [], _, _ =>
    have : numD [] = none := rfl
    rw [this]
    left
    have hp : ∀ c, R.head? = some c → c ≠ 48 := fun c hc e => by
      have := hR c hc; rw [e] at this; exact absurd this (by decide)
    have h1 : ([48, 120] : List UInt8).isPrefixOf R = false := by
      cases R with
      | nil => rfl
      | cons c R => simp [List.isPrefixOf, Ne.symm (hp c rfl)]
    have h2 : ([48] : List UInt8).isPrefixOf R = false := by
      cases R with
      | nil => rfl
      | cons c R => simp [List.isPrefixOf, Ne.symm (hp c rfl)]
    have h3 : dgs 10 R = [] := by
      cases R with
      | nil => rfl
      | cons c R => simp [dgs, hR.dig (b := 10) (by omega) c rfl]
    rw [List.nil_append, rpart, h1, h2]
    simp [rdec, h3]
  | [c], hq, hx =>
    have hn : numD [c] = cnt 10 [c] := by simp [numD, isX]
    rw [hn]
    by_cases hc : c = 48
    · subst hc
      have h1 : ([48, 120] : List UInt8).isPrefixOf ([48] ++ R) = false := by
        cases R with
        | nil => rfl
        | cons d R =>
          have : (120 : UInt8) ≠ d := fun e => hR2 (by rw [← e]; rfl)
          simp [List.isPrefixOf, this]
      have h2 : ([48] : List UInt8).isPrefixOf ([48] ++ R) = true := by simp [List.isPrefixOf]
      have h3 : cnt 10 [48] = some 0 := by decide
      have h4 : dgs 8 R = [] := by
        cases R with
        | nil => rfl
        | cons c R => simp [dgs, hR.dig (b := 8) (by omega) c rfl]
      have h5 : R.dropWhile (dig 8) = R := by
        cases R with
        | nil => rfl
        | cons c R => simp [hR.dig (b := 8) (by omega) c rfl]
      rw [h3]
      simp only
      rw [rpart, h1, h2]
      simp [h4, h5, fol]
    · have h1 : ([48, 120] : List UInt8).isPrefixOf ([c] ++ R) = false := by simp [List.isPrefixOf, Ne.symm hc]
      have h2 : ([48] : List UInt8).isPrefixOf ([c] ++ R) = false := by simp [List.isPrefixOf, Ne.symm hc]
      have h := dec_reads [c] R 46 hq hR (by simp)
      have hr : rpart ([c] ++ R) = rdec ([c] ++ R) := by rw [rpart, h1, h2]; rfl
      rw [hr]
      cases hh : cnt 10 [c] with
      | none => rw [hh] at h; exact h
      | some n => rw [hh] at h; exact ⟨h, by simp⟩
  | c :: d :: q, hq, hx =>
    by_cases hc : c = 48
    · subst hc
      by_cases hd : d = 120
      · subst hd
        have hn : numD (48 :: 120 :: q) = cnt 16 q := by simp [numD, isX]
        have hr : rpart (48 :: 120 :: q ++ R) = some ([fol 16 (dgs 16 (q ++ R))], (q ++ R).dropWhile (dig 16)) := by
          rw [rpart, if_pos (by simp [List.isPrefixOf])]; rfl
        have h := oct_reads 16 (by omega) q R 46 (fun c hc => hq c (by simp [hc])) hR
        rw [hn, hr]
        cases hh : cnt 16 q with
        | none =>
          rw [hh] at h
          obtain ⟨c, r, h1, h2⟩ := h
          right; exact ⟨_, c, r, by rw [h1], h2, by simp⟩
        | some n =>
          rw [hh] at h
          obtain ⟨h1, h2⟩ := h
          simp only
          rw [h1, h2]; exact ⟨rfl, by simp⟩
      · have hd2 : d ≠ 88 := hx d (by simp)
        have hn : numD (48 :: d :: q) = cnt 8 (d :: q) := by simp [numD, isX, hd, hd2]
        have hr : rpart (48 :: d :: q ++ R) = some ([fol 8 (dgs 8 (d :: q ++ R))], (d :: q ++ R).dropWhile (dig 8)) := by
          rw [rpart, if_neg (by simp [List.isPrefixOf, Ne.symm hd]), if_pos (by simp [List.isPrefixOf])]; rfl
        have h := oct_reads 8 (by omega) (d :: q) R 46 (fun c hc => hq c (List.mem_cons_of_mem _ hc)) hR
        rw [hn, hr]
        cases hh : cnt 8 (d :: q) with
        | none =>
          rw [hh] at h
          obtain ⟨c, r, h1, h2⟩ := h
          right; exact ⟨_, c, r, by rw [h1], h2, by simp⟩
        | some n =>
          rw [hh] at h
          obtain ⟨h1, h2⟩ := h
          simp only
          rw [h1, h2]; exact ⟨rfl, by simp⟩
    · have hn : numD (c :: d :: q) = cnt 10 (c :: d :: q) := by simp [numD, isX, hc]
      have hr : rpart (c :: d :: q ++ R) = rdec (c :: d :: q ++ R) := by
        rw [rpart, if_neg (by simp [List.isPrefixOf, Ne.symm hc]), if_neg (by simp [List.isPrefixOf, Ne.symm hc])]
      have h := dec_reads (c :: d :: q) R 46 hq hR (by simp)
      rw [hn, hr]
      cases hh : cnt 10 (c :: d :: q) with
      | none => rw [hh] at h; exact h
      | some n => rw [hh] at h; exact ⟨h, by simp⟩

/-- A number as bytes, the highest first. -/
def be : Nat → Nat → List Nat
  | 0, _ => []
  | k + 1, n => be k (n / 256) ++ [n % 256]
theorem be_len : ∀ k n, (be k n).length = k
  | 0, _ => rfl
  | k + 1, n => by rw [be, List.length_append, be_len k]; rfl
theorem be_lt : ∀ k n, ∀ x ∈ be k n, x < 256
  | 0, _, x, h => by simp [be] at h
  | k + 1, n, x, h => by
    rw [be] at h
    rcases List.mem_append.1 h with h | h
    · exact be_lt k _ x h
    · rw [List.mem_singleton.1 h]; omega
/-- Numbers as r bytes: the last one has the room that the others leave. -/
def lay4 : Nat → List Nat → Option (List Nat)
  | r, [] => some (List.replicate r 0)
  | r, [n] => if n < 256 ^ r then some (be r n) else none
  | r, n :: m :: ns => if n < 256 then match lay4 (r - 1) (m :: ns) with
    | none => none
    | some bs => some (n :: bs) else none
theorem lay4_len : ∀ (ns : List Nat) (r : Nat) (bs : List Nat), ns.length ≤ r → lay4 r ns = some bs → bs.length = r ∧ ∀ x ∈ bs, x < 256
  | [], r, bs, _, h => by
    simp [lay4] at h
    subst h
    exact ⟨by simp, fun x hx => by rw [List.eq_of_mem_replicate hx]; omega⟩
  | [n], r, bs, _, h => by
    rw [lay4] at h
    split at h
    · injection h with h; subst h; exact ⟨be_len r n, be_lt r n⟩
    · cases h
  | n :: m :: ns, r, bs, hl, h => by
    rw [lay4] at h
    split at h
    · rename_i hn
      split at h
      · cases h
      · rename_i bs' h'
        injection h with h; subst h
        obtain ⟨h1, h2⟩ := lay4_len (m :: ns) (r - 1) bs' (by simp at hl ⊢; omega) h'
        refine ⟨by simp [h1]; simp at hl; omega, fun x hx => ?_⟩
        rcases List.mem_cons.1 hx with rfl | hx
        · exact hn
        · exact h2 x hx
    · cases h

/-- Without a point at its end. -/
def trimP (l : List UInt8) : List UInt8 := if l.getLast? = some 46 then l.dropLast else l
def looksQ (q : List UInt8) : Bool := (!q.isEmpty && q.all (dig 10)) || (isX q && (numD q).isSome)
def lastQ (P : List (List UInt8)) : List UInt8 := P.getLast?.getD []
/-- Looks a text like four bytes, and which are they? -/
def fourD (l : List UInt8) : Bool × Option (List Nat) :=
  if looksQ (lastQ (pts 46 (trimP l))) then (true, if 4 < (pts 46 (trimP l)).length then none else match evs num1 num1 (pts 46 (trimP l)) with
    | none => none
    | some ns => lay4 4 ns) else (false, none)
/-- What the reader makes of a text that looks like four bytes. -/
def fourP (l : List UInt8) : Option (List Nat) :=
  if (rowG rpart 46 4 (l.length + 2) [] l).2 = [] ∨ (rowG rpart 46 4 (l.length + 2) [] l).2 = [46] then lay4 4 (rowG rpart 46 4 (l.length + 2) [] l).1 else none

theorem num1_len {q : List UInt8} {ns : List Nat} (h : num1 q = some ns) : ns.length = 1 := by
  unfold num1 at h
  split at h
  · cases h
  · injection h with h; subst h; rfl
theorem evs_num_len : ∀ (P : List (List UInt8)) (ns : List Nat), evs num1 num1 P = some ns → ns.length = P.length
  | [], ns, h => by simp [evs] at h
  | [q], ns, h => num1_len h
  | q :: p :: P, ns, h => by
    rw [evs_cons _ _ _ (by simp)] at h
    split at h
    · cases h
    · rename_i ms h1
      split at h
      · cases h
      · rename_i ks h2
        injection h with h; subst h
        rw [List.length_append, num1_len h1, evs_num_len (p :: P) ks h2]; simp; omega

theorem trimP_spec (l : List UInt8) : ∃ e, (e = [] ∨ e = [46]) ∧ l = trimP l ++ e := by
  by_cases h : l.getLast? = some 46
  · refine ⟨[46], .inr rfl, ?_⟩
    rw [trimP, if_pos h]
    obtain ⟨r, rfl⟩ : ∃ r, l = r ++ [46] := by
      rcases List.eq_nil_or_concat l with rfl | ⟨r, x, rfl⟩
      · simp at h
      · rw [List.concat_eq_append] at h ⊢
        simp at h; exact ⟨r, by rw [h]⟩
    simp
  · exact ⟨[], .inl rfl, by rw [trimP, if_neg h, List.append_nil]⟩
theorem getLast_pts (a : UInt8) : ∀ (n : Nat) (l : List UInt8), l.length ≤ n → l ≠ [] → lastQ (pts a l) ≠ [] → l.getLast? ≠ some a
  | 0, l, hn, h, _ => by
    have : l = [] := List.eq_nil_of_length_eq_zero (by omega)
    contradiction
  | n + 1, l, hn, h, hl => by
    rcases pts_cut a l with h' | ⟨q, r, rfl, hq⟩
    · intro e
      exact h' a (List.mem_of_getLast? e) rfl
    · rw [pts_front a q r hq] at hl
      have hl' : lastQ (pts a r) ≠ [] := by
        unfold lastQ at hl ⊢
        have := pts_ne a r
        cases hp : pts a r with
        | nil => contradiction
        | cons x y => rw [hp] at hl; simpa using hl
      by_cases hr : r = []
      · subst hr; simp [pts, lastQ] at hl'
      · have := getLast_pts a n r (by simp at hn; omega) hr hl'
        intro e
        apply this
        rw [List.getLast?_append] at e
        have h2 : (a :: r).getLast? = r.getLast? := by
          cases r with
          | nil => contradiction
          | cons x y => simp [List.getLast?_cons_cons]
        rw [h2] at e
        cases hg : r.getLast? with
        | none => rw [List.getLast?_eq_none_iff] at hg; contradiction
        | some z => rw [hg] at e; simpa using e

theorem fourP_eq (l : List UInt8) (hx : ∀ c ∈ l, c ≠ 88) (hlk : looksQ (lastQ (pts 46 (trimP l))) = true) : fourP l = (fourD l).2 := by
  obtain ⟨e, he, hl⟩ := trimP_spec l
  obtain ⟨T, hT⟩ : ∃ T, trimP l = T := ⟨_, rfl⟩
  have hdt : (fourD l).2 = if 4 < (pts 46 T).length then none else match evs num1 num1 (pts 46 T) with
      | none => none
      | some ns => lay4 4 ns := by rw [fourD, if_pos hlk, hT]
  rw [hdt]
  rw [hT] at hl hlk
  have hlast : lastQ (pts 46 T) ≠ [] := by
    intro h0; rw [h0] at hlk; simp [looksQ, isX] at hlk
  have hTne : T ≠ [] := by
    intro h0; subst h0; exact hlast rfl
  have hTl := getLast_pts 46 T.length T (Nat.le_refl _) hTne hlast
  have hxT : ∀ c ∈ T, c ≠ 88 := fun c hc => hx c (by rw [hl]; exact List.mem_append_left _ hc)
  have hEe : Endy e := by rcases he with rfl | rfl; exact endy_nil; exact endy_cons _ (by decide)
  have key := row_main (next := rpart) (sep := 46) (evI := num1) (evL := num1) (most := 4) (e := e)
    (K := fun L => L ≠ [] ∧ L.getLast? ≠ some 46 ∧ ∀ c ∈ L, c ≠ 88) (Z := fun r => r ≠ [] ∧ r ≠ [46])
    (fun q R hq hk => part_reads q (46 :: R) hq (by
      rcases hk with hk | ⟨r, hk⟩
      · exact hk.2.2
      · exact fun c hc => hk.2.2 c (List.mem_append_left _ hc)) (endy_cons _ (by decide)) (by simp))
    (fun q hq hk => part_reads q e hq hk.2.2 hEe (by rcases he with rfl | rfl <;> simp))
    (fun hne => by
      rcases he with rfl | rfl
      · contradiction
      · exact ⟨rfl, by decide⟩)
    (fun c r hc => ⟨by simp, by simp [hc]⟩)
    (fun q L hk => by
      have hL : L ≠ [] := by
        intro h0; subst h0; apply hk.2.1; simp
      cases L with
      | nil => contradiction
      | cons x L => simp)
    (fun q L hk => by
      have hL : L ≠ [] := by
        intro h0; subst h0; apply hk.2.1; simp
      refine ⟨hL, fun h => hk.2.1 ?_, fun c hc => hk.2.2 c (by simp [hc])⟩
      rw [List.getLast?_append]
      cases L with
      | nil => contradiction
      | cons x L => rw [List.getLast?_cons_cons, h]; rfl)
    (l.length + 2) [] T ⟨hTne, hTl, hxT⟩ (by rw [hl]; simp; omega) (by
      rw [if_pos rfl]
      cases T with
      | nil => contradiction
      | cons x T =>
        refine ⟨by simp, ?_⟩
        intro h
        have h1 : x = 46 := by simpa using congrArg List.head? h
        have h2 : T ++ e = [] := by simpa using congrArg (List.drop 1) h
        have h3 : T = [] := (List.append_eq_nil_iff.1 h2).1
        subst h3; subst h1
        exact hTl rfl)
  simp only [if_true] at key
  rw [← hl] at key
  unfold fourP
  cases hev : evs num1 num1 (pts 46 T) with
  | none =>
    rw [hev] at key
    rw [if_neg (by simp only at key; rintro (h | h); exact key.1 h; exact key.2 h)]
    split <;> rfl
  | some ns =>
    rw [hev] at key
    have hlen := evs_num_len _ _ hev
    simp only [List.length_nil, Nat.zero_add, List.nil_append] at key
    by_cases h4 : ns.length ≤ 4
    · rw [if_pos h4] at key
      rw [key, if_pos he, if_neg (by omega)]
    · rw [if_neg h4] at key
      rw [if_neg (by rintro (h | h); exact key.1 h; exact key.2 h), if_pos (by omega)]

end Go.Proofs.Ytldddgmhmolohaa
namespace Go.Proofs.Ytldddgmhmolohaa
open Go.RowKit

def two4 : List Nat → Option (List Nat)
  | [a, b, c, d] => some [256 * a + b, 256 * c + d]
  | _ => none
/-- A part as a piece, as a number of one byte, as four bytes; the document's pieces. -/
def pc1 (q : List UInt8) : Option (List Nat) := if 1 ≤ q.length ∧ q.length ≤ 4 then match cnt 16 q with
    | some n => some [n]
    | none => none else none
def sm1 (q : List UInt8) : Option (List Nat) := if q = [] ∨ (1 < q.length ∧ q.head? = some 48) then none else match cnt 10 q with
    | some n => if 255 < n then none else some [n]
    | none => none
def four1 (q : List UInt8) : Option (List Nat) := match evs sm1 sm1 (pts 46 q) with
  | some ns => two4 ns
  | none => none
def both1 (q : List UInt8) : Option (List Nat) := match pc1 q with
  | some n => some n
  | none => four1 q
def piecesD (en : Bool) (l : List UInt8) : Option (List Nat) := if l = [] then some [] else evs pc1 (if en then both1 else pc1) (pts 58 l)
/-- What stands ahead of the first two colons together, and behind them. -/
def cut2 : List UInt8 → Option (List UInt8 × List UInt8)
  | [] => none
  | c :: r => if [58, 58].isPrefixOf (c :: r) then some ([], r.drop 1) else match cut2 r with
    | some (a, b) => some (c :: a, b)
    | none => none
def sixD (l : List UInt8) : Option (List Nat) := match cut2 l with
  | none => match piecesD true l with
    | some ps => if ps.length = 8 then some ps else none
    | none => none
  | some (a, b) => match piecesD false a with
    | none => none
    | some x => match piecesD true b with
      | none => none
      | some y => if x.length + y.length ≤ 7 then some (x ++ List.replicate (8 - x.length - y.length) 0 ++ y) else none

end Go.Proofs.Ytldddgmhmolohaa
namespace Go.Proofs.Ytldddgmhmolohaa
open Go.RowKit

/-- All blocks that were there are as they were, but those of X. -/
structure Kp (X : Nat → Prop) (w w' : World) : Prop where
  os : w'.os = w.os
  tape : w'.tape = w.tape
  output : w'.output = w.output
  size : w.heap.size ≤ w'.heap.size
  block : ∀ k, k < w.heap.size → ¬ X k → w'.heap[k]? = w.heap[k]?
theorem Kp.refl (X : Nat → Prop) (w : World) : Kp X w w := ⟨rfl, rfl, rfl, Nat.le_refl _, fun _ _ _ => rfl⟩
theorem Kp.trans {X : Nat → Prop} {a b c : World} (h : Kp X a b) (k : Kp X b c) : Kp X a c :=
  ⟨k.os.trans h.os, k.tape.trans h.tape, k.output.trans h.output, Nat.le_trans h.size k.size, fun i hi hx => (k.block i (Nat.lt_of_lt_of_le hi h.size) hx).trans (h.block i hi hx)⟩
theorem Kp.of_below {X : Nat → Prop} {a b : World} (h : Below a.heap.size a b) : Kp X a b := ⟨h.os, h.tape, h.output, h.size, fun k hk _ => h.block k hk⟩
theorem Kp.alloc {X : Nat → Prop} {a w : World} (h : Kp X a w) (o : Obj) : Kp X a (w.alloc o) := h.trans (.of_below ((Below.refl _ _).alloc (Nat.le_refl _) o))
theorem Kp.drewN {X : Nat → Prop} {a w : World} (h : Kp X a w) (n : Nat) : Kp X a (w.drewN n) := ⟨h.os, h.tape, h.output, h.size, h.block⟩
theorem Kp.drew {X : Nat → Prop} {a w : World} (h : Kp X a w) : Kp X a w.drew := ⟨h.os, h.tape, h.output, h.size, h.block⟩
theorem Kp.setCell {X : Nat → Prop} {a w : World} (h : Kp X a w) {p : Addr} (hp : X p.block) (u : Value) : Kp X a (w.setCell p u) :=
  h.trans ⟨rfl, rfl, rfl, by simp [World.setCell], fun k _ hx => Below.heap_setCell _ _ _ _ (fun e => hx (e ▸ hp))⟩
theorem Kp.mono {X Y : Nat → Prop} {a w : World} (h : Kp X a w) (hxy : ∀ k, X k → Y k) : Kp Y a w := ⟨h.os, h.tape, h.output, h.size, fun k hk hy => h.block k hk (fun hx => hy (hxy k hx))⟩
/-- A frame over new blocks alone. -/
theorem Kp.below {X : Nat → Prop} {a w : World} (h : Kp X a w) {B : Nat} (hB : B ≤ a.heap.size) (hX : ∀ k, X k → B ≤ k) : Below B a w := ⟨h.os, h.tape, h.output, h.size, fun k hk => h.block k (by omega) (fun hx => by have := hX k hx; omega)⟩
theorem Kp.cell {X : Nat → Prop} {a w : World} (h : Kp X a w) {p : Addr} {v : Value} (hc : a.cell? p = some v) (hx : ¬ X p.block) : w.cell? p = some v :=
  (World.cell?_of_block (w := a) (h.block p.block (block_lt_of_cell hc) hx)).trans hc
theorem Kp.at {X : Nat → Prop} {a w : World} (h : Kp X a w) {k : Nat} {o : Obj} (hc : a.heap[k]? = some o) (hx : ¬ X k) : w.heap[k]? = some o :=
  (h.block k (lt_of_block hc) hx).trans hc
theorem Kp.grown {X : Nat → Prop} {a w w' : World} {row : Option Nat} (h : Kp X a w) (hg : w.grownBy w' row) (hr : ∀ q, row = some q → a.heap.size ≤ q) : Kp X a w' :=
  ⟨hg.os.trans h.os, hg.tape.trans h.tape, hg.output.trans h.output, Nat.le_trans h.size hg.size, fun k hk hx => (hg.block k (Nat.lt_of_lt_of_le hk h.size) (fun e => by have := hr k e.symm; omega)).trans (h.block k hk hx)⟩
theorem own_kept {X : Nat → Prop} {w w' : World} {base : Nat} {e : TypeId} {size : Nat} {v : Value} {n : Nat} {xs : List Value} (h : w.ownsRow base e size v n xs) (k : Kp X w w') (hX : ∀ q, base ≤ q → ¬ X q) : w'.ownsRow base e size v n xs := by
  obtain ⟨h1, h2⟩ := h
  refine ⟨h1, ?_⟩
  rcases h2 with h2 | ⟨g, cap, cur, rfl, hg, hh, r⟩
  · exact .inl h2
  · exact .inr ⟨g, cap, cur, rfl, hg, k.at hh (hX g hg), r⟩

/-- One block alone. -/
def Only (b : Nat) : Nat → Prop := fun k => k = b
/-- A block that holds one value. -/
def Holds1 (w : World) (b : Nat) (t : TypeId) (v : Value) : Prop := w.heap[b]? = some (.cells #[v] t (0, 0))
theorem Holds1.cell {w : World} {b : Nat} {t : TypeId} {v : Value} (h : Holds1 w b t v) : w.cell? ⟨b, 0, none⟩ = some v := cell_of_one h
theorem Holds1.free {w : World} {b : Nat} {t : TypeId} {v : Value} (h : Holds1 w b t v) : w.frozen? ⟨b, 0, none⟩ = false := free_of_one h
theorem Holds1.lt {w : World} {b : Nat} {t : TypeId} {v : Value} (h : Holds1 w b t v) : b < w.heap.size := lt_of_block h
theorem Holds1.set {w : World} {b : Nat} {t : TypeId} {v : Value} (h : Holds1 w b t v) (u : Value) : Holds1 (w.setCell ⟨b, 0, none⟩ u) b t u := one_setCell h
theorem Holds1.kept {X : Nat → Prop} {w w' : World} {b : Nat} {t : TypeId} {v : Value} (h : Holds1 w b t v) (k : Kp X w w') (hx : ¬ X b) : Holds1 w' b t v := k.at h hx
theorem Holds1.alloc {w : World} {b : Nat} {t : TypeId} {v : Value} (h : Holds1 w b t v) (o : Obj) : Holds1 (w.alloc o) b t v := h.kept (X := fun _ => False) ((Kp.refl _ _).alloc o) id
theorem Holds1.new (w : World) (t : TypeId) (v : Value) : Holds1 (w.alloc (.cells #[v] t)) w.heap.size t v := heap_alloc_new w _
theorem Holds1.grown {w w' : World} {row : Option Nat} {b : Nat} {t : TypeId} {v : Value} (h : Holds1 w b t v) (hg : w.grownBy w' row) (hne : row ≠ some b) : Holds1 w' b t v :=
  (hg.block b h.lt (fun e => hne e.symm)).trans h

theorem wpL_store_row {P : Program} {ops : Array Oper} {rest : List Oper} {o : Oper} {a : Act} {w : World} {Q : Exit → Act → World → Prop} (hgd : o.guard = none) (ty : TypeId) (x y : Operand) (ho : o.op = .store ty x y)
    (g : Nat) (cells : Array Value) (hx : a.eval x = .pointer (some ⟨g, 0, none⟩)) (hy : a.eval y = .agg cells)
    (t : TypeId) (old : Array Value) (hg : w.heap[g]? = some (.cells old t (0, 0))) (hi : (P.info? ty).map (·.size) = some cells.size)
    (hold : old.size = cells.size) (h1 : cells.all (·.oneCell') = true)
    (h : wpList P ops Q rest (a.put o.dst undef) (w.setRow g cells)) : wpList P ops Q (o :: rest) a w :=
  wpList_plain hgd fun _ hK => wp_store_row ty x y ho g cells hx hy t old hg hi hold h1 (hK _ _ h)
theorem mkfK (fn : Fn) (first cap : Array Value) (w : World) : (Instr.makeFunc fn first cap).run Try.prog w = .ok (.func fn first cap) w := rfl
def k_iv (n : Nat) : Value := .int .i64 (n : Int)
theorem k_infoI : (Try.prog.info? 3).map (fun i => (i.zero, i.size, i.bytes)) = some (some (.int .i64 0), 1, 8) := by kernel_rfl

/-- Ints that lie in a block are put behind a row. -/
theorem k_appI (base q : Nat) (v : Value) (D : List Value) (cs : Array Value) (w : World) (hown : w.ownsRow base 3 1 v D.length D) (hq : w.heap[q]? = some (.cells cs 3 (0, 0))) (hD : D.length + cs.size ≤ 10000000) (h1 : ∀ u ∈ cs.toList, u.oneCell' = true) (hb : base ≤ w.heap.size) :
    ∃ v' w1, (Builtin.append_ #[25, 25] 25 #[v, .slice (some ⟨q, 0, none⟩) cs.size cs.size]).run Try.prog w = .ok v' w1 ∧ w1.ownsRow base 3 1 v' (D ++ cs.toList).length (D ++ cs.toList) ∧ w.grownBy w1 v.ownBlock := by
  obtain ⟨i0, hi, hz0, hz1, hz2⟩ := info_parts k_infoI
  have hnews : ∀ j u, cs.toList[j]? = some u → w.cell? ((⟨q, 0, none⟩ : Addr).add j) = some u :=
    World.news_of_block (cs := cs) (t := 3) (fr := (0, 0)) hq
  obtain ⟨v', w1, hrun, hown', hgrow, _⟩ := run_append_own (P := Try.prog) w base 25 25 3 i0 (.int .i64 0) 1 8 Try.underlying25 hi hz0 hz1 hz2 rfl (by decide)
    v D.length D hown ⟨q, 0, none⟩ cs.size cs.size cs.toList (by simp) hnews h1 (by unfold maxLen; omega) (by omega) hb
  refine ⟨v', w1, hrun, ?_, hgrow⟩
  rw [List.length_append, Array.length_toList]; exact hown'

end Go.Proofs.Ytldddgmhmolohaa
namespace Go.Proofs.Ytldddgmhmolohaa
open Go.RowKit

def asB (l : List UInt8) : ByteArray := ⟨l.toArray⟩
theorem asB_data (l : List UInt8) : (asB l).data.toList = l := rfl
theorem asB_back (t : ByteArray) : asB t.data.toList = t := rfl
theorem asB_size (l : List UInt8) : (asB l).size = l.length := rfl
theorem lenB (t : ByteArray) : t.data.toList.length = t.size := by simp
theorem ext_asB (t : ByteArray) (k : Nat) : t.extract k t.size = asB (t.data.toList.drop k) := by
  apply ByteArray.ext
  apply Array.toList_inj.1
  have hl := lenB t
  rw [asB_data, ByteArray.data_extract, Array.toList_extract, List.extract_eq_take_drop, List.take_of_length_le (by rw [List.length_drop]; omega)]

end Go.Proofs.Ytldddgmhmolohaa
