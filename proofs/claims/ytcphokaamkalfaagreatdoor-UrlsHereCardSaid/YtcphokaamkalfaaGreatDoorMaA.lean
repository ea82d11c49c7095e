/-
  Plain words on bytes as three signs: sets, encoding, decoding. Of no program.
  Plain words on addresses: digits, numbers, parts, rows that are cut off a text. Of no program.
  Plain words on addresses of four bytes: a part's number, the numbers as bytes, what the document asks, what a reader cuts. Of no program.
  Plain words on addresses of sixteen bytes: pieces, four bytes at their end, where nothing stands; what the document asks, what a reader cuts. Of no program.
  Frames: all that was there is as it was but for named blocks; a block of one text; rows of ints that are put behind a row.
  Texts and lists of bytes.
-/
import Derived.Test.YtcphokaamkalfaaGreatDoorMpA
import Derived.Test.YtcphokaamkalfaaGreatDoorRows
import Derived.WalkSpells
import Derived.WalkLawsBesides
import Derived.OneCell
import Derived.Deep.WholeRow
import Derived.Laws.CopyOwn
import Derived.Deep.QuietTactic
import Derived.BigQuiet
import Derived.Deep.AppendLies
import Derived.ArgAppend
import Derived.RegionTactic
import Derived.Lib.DecodeN
import Derived.Lib.AppendZeros
namespace Go.Proofs.YtcphokaamkalfaaGreatDoor
open Go.RowKit

/-- The control bytes below k. -/
def ctlL (k : Nat) : List Nat := (List.range k).filter fun c => decide (c < 32) || decide (126 < c)
theorem ctlL_yes (k : Nat) (h : k < 32 ∨ 126 < k) : ctlL (k + 1) = ctlL k ++ [k] := by
 rw [ctlL, List.range_succ, List.filter_append, ctlL]
 rcases h with h | h <;> simp [h]
theorem ctlL_no (k : Nat) (h0 : 32 ≤ k) (h : k ≤ 126) : ctlL (k + 1) = ctlL k := by
 rw [ctlL, List.range_succ, List.filter_append, ctlL]
 simp; omega
def fragL : List Nat := [32, 34, 60, 62, 96]
def pathL : List Nat := [35, 63, 94, 123, 125]
def userL : List Nat := [47, 58, 59, 61, 64, 91, 92, 93, 124]
def queryL : List Nat := [32, 34, 35, 60, 62, 39]
/-- The places of a set, as the program writes them. -/
def setL : Nat → List Nat
 | 1 => ctlL 256
 | 2 => fragL ++ ctlL 256
 | 3 => queryL ++ ctlL 256
 | 4 => pathL ++ fragL ++ ctlL 256
 | 5 => userL ++ pathL ++ fragL ++ ctlL 256
 | _ => []
/-- Has a set a byte? -/
def hasB (set c : Nat) : Bool := decide (c ∈ setL set)
theorem setL_none (set : Nat) (h : set = 0 ∨ 5 < set) : setL set = [] := by
 match set, h with
 | 0, _ => rfl
 | n + 6, _ => rfl
 | 1, h => omega
 | 2, h => omega
 | 3, h => omega
 | 4, h => omega
 | 5, h => omega
/-- A digit in hexadecimal, great. -/
def hexT : List UInt8 := [48, 49, 50, 51, 52, 53, 54, 55, 56, 57, 65, 66, 67, 68, 69, 70]
def hexD (n : Nat) : UInt8 := hexT.getD n 0
/-- What a digit tells; 16: it is none. -/
def hexV (c : UInt8) : Nat := if 48 ≤ c.toNat ∧ c.toNat ≤ 57 then c.toNat - 48 else if 65 ≤ c.toNat ∧ c.toNat ≤ 70 then c.toNat - 55 else if 97 ≤ c.toNat ∧ c.toNat ≤ 102 then c.toNat - 87 else 16
theorem hexV_le (c : UInt8) : hexV c ≤ 16 := by unfold hexV; split <;> (try split) <;> (try split) <;> omega
/-- A byte as three signs, if the set has it. -/
def encB (set : Nat) (c : UInt8) : List UInt8 := if hasB set c.toNat then [37, hexD (c.toNat / 16), hexD (c.toNat % 16)] else [c]
def encL (set : Nat) (l : List UInt8) : List UInt8 := l.flatMap (encB set)
theorem encB_yes {set : Nat} {c : UInt8} (h : hasB set c.toNat = true) : encB set c = [37, hexD (c.toNat / 16), hexD (c.toNat % 16)] := by rw [encB, if_pos h]
theorem encB_no {set : Nat} {c : UInt8} (h : hasB set c.toNat = false) : encB set c = [c] := by rw [encB, h]; rfl
theorem encL_snoc (set : Nat) (l : List UInt8) (c : UInt8) : encL set (l ++ [c]) = encL set l ++ encB set c := by simp [encL]
theorem encL_cons (set : Nat) (c : UInt8) (l : List UInt8) : encL set (c :: l) = encB set c ++ encL set l := by simp [encL]
theorem encB_len (set : Nat) (c : UInt8) : (encB set c).length ≤ 3 := by unfold encB; split <;> simp
theorem encL_len (set : Nat) (l : List UInt8) : (encL set l).length ≤ 3 * l.length := by
 induction l with
 | nil => simp [encL]
 | cons c l ih => rw [encL_cons, List.length_append, List.length_cons]; have := encB_len set c; omega
/-- Does a text begin with three signs? -/
def sig3 : List UInt8 → Bool
 | c :: a :: b :: _ => c == 37 && decide (hexV a < 16) && decide (hexV b < 16)
 | _ => false
/-- The byte that a text tells first. -/
def fstV : List UInt8 → UInt8
 | c :: a :: b :: r => if sig3 (c :: a :: b :: r) then UInt8.ofNat (16 * hexV a + hexV b) else c
 | c :: _ => c
 | [] => 0
def fstW (l : List UInt8) : Nat := if sig3 l then 3 else 1
theorem fstW_pos (l : List UInt8) : 1 ≤ fstW l := by unfold fstW; split <;> omega
theorem sig3_len {l : List UInt8} (h : sig3 l = true) : 3 ≤ l.length := by
 match l, h with
 | _ :: _ :: _ :: r, _ => simp
theorem fstW_le (l : List UInt8) (h : l ≠ []) : fstW l ≤ l.length := by
 unfold fstW
 split
 ·exact sig3_len ‹_›
 ·exact List.length_pos_iff.2 h
theorem fstV_no {c : UInt8} {r : List UInt8} (h : sig3 (c :: r) = false) : fstV (c :: r) = c := by
 match r, h with
 | [], _ => rfl
 | [_], _ => rfl
 | a :: b :: r, h => simp [fstV, h]
/-- Three signs as bytes. -/
def pc_decL : List UInt8 → List UInt8
 | [] => []
 | c :: r => fstV (c :: r) :: pc_decL ((c :: r).drop (fstW (c :: r)))
termination_by l => l.length
decreasing_by
 have := fstW_pos (c :: r)
 simp [List.length_drop]; omega
theorem pc_decL_nil : pc_decL [] = [] := by rw [pc_decL]
theorem pc_decL_step (l : List UInt8) (h : l ≠ []) : pc_decL l = fstV l :: pc_decL (l.drop (fstW l)) := by
 match l, h with
 | c :: r, _ => rw [pc_decL]
theorem pc_decL_no {c : UInt8} {r : List UInt8} (h : sig3 (c :: r) = false) : pc_decL (c :: r) = c :: pc_decL r := by
 rw [pc_decL_step _ (by simp), fstV_no h, fstW, h]; rfl
theorem sig3_ne {c : UInt8} {r : List UInt8} (h : c ≠ 37) : sig3 (c :: r) = false := by
 match r with
 | [] => rfl
 | [_] => rfl
 | a :: b :: r => simp [sig3, h]
theorem pc_decL_len (l : List UInt8) : (pc_decL l).length ≤ l.length := by
 generalize hn : l.length = n
 induction n using Nat.strongRecOn generalizing l with
 | _ n ih =>
  by_cases h : l = []
  ·subst h; rw [pc_decL_nil]; simp
  ·rw [pc_decL_step l h, List.length_cons]
   have h1 := fstW_pos l
   have h2 := fstW_le l h
   have := ih (l.drop (fstW l)).length (by rw [List.length_drop]; omega) _ rfl
   rw [List.length_drop] at this
   omega
end Go.Proofs.YtcphokaamkalfaaGreatDoor
namespace Go.Proofs.YtcphokaamkalfaaGreatDoor
open Go.RowKit

/-- Puts a byte ahead of the first part. -/
def ahd (c : UInt8) : List (List UInt8) → List (List UInt8)
 | [] => [[c]]
 | p :: ps => (c :: p) :: ps
/-- What stands between the bytes a. -/
def pts (a : UInt8) : List UInt8 → List (List UInt8)
 | [] => [[]]
 | c :: l => if c = a then [] :: pts a l else ahd c (pts a l)
theorem pts_ne (a : UInt8) (l : List UInt8) : pts a l ≠ [] := by
 cases l with
 | nil => simp [pts]
 | cons c l =>
  rw [pts]; split
  ·simp
  ·cases pts a l <;> simp [ahd]
theorem pts_append (a : UInt8) (r : List UInt8) : ∀ l : List UInt8, pts a (l ++ a :: r) = pts a l ++ pts a r
 | [] => by simp [pts]
 | c :: l => by
  have ih := pts_append a r l
  rw [List.cons_append, pts, pts, ih]
  by_cases h : c = a
  ·rw [if_pos h, if_pos h]; rfl
  ·rw [if_neg h, if_neg h]
   have hne := pts_ne a l
   cases e : pts a l with
   | nil => contradiction
   | cons q qs => rfl
theorem pts_none (a : UInt8) : ∀ (l : List UInt8), (∀ c ∈ l, c ≠ a) → pts a l = [l]
 | [], _ => rfl
 | c :: l, h => by
  rw [pts, if_neg (h c List.mem_cons_self), pts_none a l fun x hx => h x (List.mem_cons_of_mem _ hx)]; rfl
theorem pts_front (a : UInt8) (q r : List UInt8) (h : ∀ c ∈ q, c ≠ a) : pts a (q ++ a :: r) = q :: pts a r := by
 rw [pts_append, pts_none a q h]; rfl
/-- A text has no such byte, or a first part. -/
theorem pts_cut (a : UInt8) : ∀ l : List UInt8, (∀ c ∈ l, c ≠ a) ∨ ∃ q r, l = q ++ a :: r ∧ ∀ c ∈ q, c ≠ a
 | [] => .inl (by simp)
 | c :: l => by
  by_cases h : c = a
  ·exact .inr ⟨[], l, by rw [h]; rfl, by simp⟩
  ·rcases pts_cut a l with h' | ⟨q, r, rfl, hq⟩
   ·exact .inl fun x hx => by
     rcases List.mem_cons.1 hx with rfl | hx
     ·exact h
     ·exact h' x hx
   ·refine .inr ⟨c :: q, r, rfl, fun x hx => ?_⟩
    rcases List.mem_cons.1 hx with rfl | hx
    ·exact h
    ·exact hq x hx

/-- Is a byte a digit by a base? What digits tell, 2^32 at most. -/
def dig (b : Nat) (c : UInt8) : Bool := decide (hexV c < b)
def stp (b n : Nat) (c : UInt8) : Nat := min 4294967296 (n * b + hexV c)
def fol (b : Nat) (l : List UInt8) : Nat := l.foldl (stp b) 0
def cnt (b : Nat) (l : List UInt8) : Option Nat := if l.all (dig b) then some (fol b l) else none
theorem fol_snoc (b : Nat) (l : List UInt8) (c : UInt8) : fol b (l ++ [c]) = stp b (fol b l) c := by simp [fol]
theorem fol_le (b : Nat) (l : List UInt8) : fol b l ≤ 4294967296 := by
 refine snocInd (P := fun l => fol b l ≤ 4294967296) (by simp [fol]) (fun l c _ => ?_) l
 rw [fol_snoc, stp]; omega
theorem dig46 {b : Nat} (h : b ≤ 16) : dig b 46 = false := by
 have : hexV 46 = 16 := by decide
 simp [dig, this]; omega
theorem dig58 {b : Nat} (h : b ≤ 16) : dig b 58 = false := by
 have : hexV 58 = 16 := by decide
 simp [dig, this]; omega
/-- The digits ahead. -/
def dgs (b : Nat) (l : List UInt8) : List UInt8 := l.takeWhile (dig b)
theorem dgs_drop (b : Nat) (l : List UInt8) : l.drop (dgs b l).length = l.dropWhile (dig b) := by
 have h := List.takeWhile_append_dropWhile (p := dig b) (l := l)
 have := congrArg (List.drop (dgs b l).length) h
 rw [show dgs b l = List.takeWhile (dig b) l from rfl, List.drop_left' rfl] at this
 exact this.symm
theorem dgs_len (b : Nat) (l : List UInt8) : (dgs b l).length ≤ l.length := (List.takeWhile_sublist _).length_le
/-- All of a part are digits: they are the digits ahead of what is none. -/
theorem dgs_all {b : Nat} {q R : List UInt8} (hq : q.all (dig b) = true) (hR : ∀ c, R.head? = some c → dig b c = false) : dgs b (q ++ R) = q ∧ (q ++ R).dropWhile (dig b) = R := by
 have hq' : ∀ x ∈ q, dig b x = true := by simpa using hq
 constructor
 ·unfold dgs
  rw [List.takeWhile_append_of_pos hq']
  cases R with
  | nil => simp
  | cons c R => simp [hR c rfl]
 ·rw [List.dropWhile_append_of_pos hq']
  cases R with
  | nil => simp
  | cons c R => simp [hR c rfl]
/-- One of a part is none: the digits ahead end within it. -/
theorem dgs_some {b : Nat} {q : List UInt8} (R : List UInt8) (hq : q.all (dig b) = false) : ∃ c r, dig b c = false ∧ c ∈ q ∧ dgs b (q ++ R) = dgs b q ∧ (q ++ R).dropWhile (dig b) = c :: r := by
 induction q with
 | nil => simp at hq
 | cons x q ih =>
  cases hx : dig b x
  ·exact ⟨x, q ++ R, hx, List.mem_cons_self, by simp [dgs, hx], by simp [hx]⟩
  ·rw [List.all_cons, hx, Bool.true_and] at hq
   obtain ⟨c, r, h1, h2, h3, h4⟩ := ih hq
   exact ⟨c, r, h1, List.mem_cons_of_mem _ h2, by simp only [dgs] at h3 ⊢; simp [hx, h3], by simp [hx, h4]⟩

/-- Reads as long as there is more, and room for it; what stands between is left, if nothing is read behind it. -/
def rowG (next : List UInt8 → Option (List Nat × List UInt8)) (sep : UInt8) (most : Nat) : Nat → List Nat → List UInt8 → List Nat × List UInt8
 | 0, out, l => (out, l)
 | f + 1, out, l =>
  if out ≠ [] ∧ l.head? ≠ some sep then (out, l)
  else match next (if out = [] then l else l.drop 1) with
   | none => (out, l)
   | some (ns, r) => if most < out.length + ns.length then (out, l) else rowG next sep most f (out ++ ns) r

/-- The parts, one by one; the last one otherwise than the others. -/
def evs (evI evL : List UInt8 → Option (List Nat)) : List (List UInt8) → Option (List Nat)
 | [] => none
 | [q] => evL q
 | q :: Q => match evI q with
  | none => none
  | some ns => match evs evI evL Q with
   | none => none
   | some ms => some (ns ++ ms)
theorem evs_cons (evI evL : List UInt8 → Option (List Nat)) (q : List UInt8) {Q : List (List UInt8)} (h : Q ≠ []) : evs evI evL (q :: Q) = match evI q with
  | none => none
  | some ns => match evs evI evL Q with
   | none => none
   | some ms => some (ns ++ ms) := by
 cases Q with
 | nil => contradiction
 | cons p Q => rfl

/-- What is known of a way to read a part, ahead of R. -/
def Reads (next : List UInt8 → Option (List Nat × List UInt8)) (sep : UInt8) (ev : List UInt8 → Option (List Nat)) (q R : List UInt8) : Prop :=
 match ev q with
 | some ns => next (q ++ R) = some (ns, R) ∧ ns ≠ []
 | none => next (q ++ R) = none ∨ ∃ ns c r, next (q ++ R) = some (ns, c :: r) ∧ c ≠ sep ∧ ns ≠ []

theorem row_main {next : List UInt8 → Option (List Nat × List UInt8)} {sep : UInt8} {evI evL : List UInt8 → Option (List Nat)} {most : Nat} {e : List UInt8} {K Z : List UInt8 → Prop}
  (hI : ∀ q R, (∀ c ∈ q, c ≠ sep) → (K q ∨ ∃ r, K (q ++ sep :: r)) → Reads next sep evI q (sep :: R)) (hL : ∀ q, (∀ c ∈ q, c ≠ sep) → K q → Reads next sep evL q e)
  (he : e ≠ [] → e.head? = some sep ∧ next (e.drop 1) = none)
  (z1 : ∀ c r, c ≠ sep → Z (c :: r)) (z2 : ∀ q L, K (q ++ sep :: L) → Z (sep :: (L ++ e))) (hK : ∀ q L, K (q ++ sep :: L) → K L) :
  ∀ (f : Nat) (out : List Nat) (L : List UInt8), K L → L.length + 1 < f → Z ((if out = [] then L else sep :: L) ++ e) →
   match evs evI evL (pts sep L) with
   | some ns => if out.length + ns.length ≤ most then rowG next sep most f out ((if out = [] then L else sep :: L) ++ e) = (out ++ ns, e) else Z (rowG next sep most f out ((if out = [] then L else sep :: L) ++ e)).2
   | none => Z (rowG next sep most f out ((if out = [] then L else sep :: L) ++ e)).2 := by
 intro f
 induction f with
 | zero => intro out L _ h; omega
 | succ f ih =>
  intro out L hKL hf hz
  have hhd : ¬ (out ≠ [] ∧ ((if out = [] then L else sep :: L) ++ e).head? ≠ some sep) := by
   rintro ⟨h1, h2⟩; rw [if_neg h1] at h2; exact h2 rfl
  have hnx : (if out = [] then ((if out = [] then L else sep :: L) ++ e) else ((if out = [] then L else sep :: L) ++ e).drop 1) = L ++ e := by
   split <;> simp_all
  have hgo : ∀ ns r, next (L ++ e) = some (ns, r) → rowG next sep most (f + 1) out ((if out = [] then L else sep :: L) ++ e) = if most < out.length + ns.length then (out, (if out = [] then L else sep :: L) ++ e) else rowG next sep most f (out ++ ns) r := by
   intro ns r h
   rw [rowG, if_neg hhd, hnx, h]
  have hno : next (L ++ e) = none → rowG next sep most (f + 1) out ((if out = [] then L else sep :: L) ++ e) = (out, (if out = [] then L else sep :: L) ++ e) := by
   intro h
   rw [rowG, if_neg hhd, hnx, h]
  have hout : ∀ (ns : List Nat) (c : UInt8) (r : List UInt8), ns ≠ [] → c ≠ sep → next (L ++ e) = some (ns, c :: r) → Z (rowG next sep most (f + 1) out ((if out = [] then L else sep :: L) ++ e)).2 := by
   intro ns c r hns hc h
   rw [hgo _ _ h]
   split
   ·exact hz
   ·cases f with
    | zero => exact z1 c r hc
    | succ f =>
     rw [rowG, if_pos ⟨by simp [hns], by simpa using hc⟩]
     exact z1 c r hc
  rcases pts_cut sep L with hn | ⟨q, L', rfl, hq⟩
  ·rw [pts_none sep L hn]
   have h := hL L hn hKL
   unfold Reads at h
   rw [show evs evI evL [L] = evL L from rfl]
   cases hev : evL L with
   | none =>
    rw [hev] at h
    rcases h with h | ⟨ns, c, r, h1, h2, h3⟩
    ·simp only; rw [hno h]; exact hz
    ·exact hout ns c r h3 h2 h1
   | some ns =>
    rw [hev] at h
    obtain ⟨h1, h2⟩ := h
    simp only
    rw [hgo _ _ h1]
    by_cases hm : out.length + ns.length ≤ most
    ·rw [if_pos hm, if_neg (by omega)]
     obtain ⟨f, rfl⟩ : ∃ g, f = g + 1 := ⟨f - 1, by omega⟩
     by_cases hee : e = []
     ·subst hee
      rw [rowG, if_pos ⟨by simp [h2], by simp⟩]
     ·obtain ⟨e1, e2⟩ := he hee
      rw [rowG, if_neg (fun hx => hx.2 e1), if_neg (by simp [h2]), e2]
    ·rw [if_neg hm, if_pos (by omega)]; exact hz
  ·rw [pts_front sep q L' hq, evs_cons _ _ _ (pts_ne _ _)]
   have h := hI q (L' ++ e) hq (.inr ⟨L', hKL⟩)
   unfold Reads at h
   rw [show q ++ sep :: (L' ++ e) = q ++ sep :: L' ++ e by simp] at h
   have hKL' := hK q L' hKL
   cases hev : evI q with
   | none =>
    rw [hev] at h
    rcases h with h | ⟨ns, c, r, h1, h2, h3⟩
    ·simp only; rw [hno h]; exact hz
    ·exact hout ns c r h3 h2 h1
   | some ns =>
    rw [hev] at h
    obtain ⟨h1, h2⟩ := h
    simp only
    rw [hgo _ _ h1]
    have hne : out ++ ns ≠ [] := by simp [h2]
    by_cases hm : most < out.length + ns.length
    ·rw [if_pos hm]
     cases evs evI evL (pts sep L') with
     | none => exact hz
     | some ms =>
      simp only
      rw [if_neg (by simp; omega)]; exact hz
    ·rw [if_neg hm]
     have := ih (out ++ ns) L' hKL' (by simp at hf; omega) (by rw [if_neg hne]; exact z2 q L' hKL)
     rw [if_neg hne] at this
     cases hev2 : evs evI evL (pts sep L') with
     | none => rw [hev2] at this; exact this
     | some ms =>
      rw [hev2] at this
      simp only at this ⊢
      rw [List.length_append] at this
      rw [List.length_append, ← Nat.add_assoc]
      rw [← List.append_assoc]
      exact this

end Go.Proofs.YtcphokaamkalfaaGreatDoor
namespace Go.Proofs.YtcphokaamkalfaaGreatDoor
open Go.RowKit

def isX : List UInt8 → Bool
 | a :: b :: _ => decide (a = 48) && (decide (b = 120) || decide (b = 88))
 | _ => false
/-- A part's number. -/
def numD (l : List UInt8) : Option Nat := if isX l then cnt 16 (l.drop 2) else if 2 ≤ l.length ∧ l.head? = some 48 then cnt 8 (l.drop 1) else if l = [] then none else cnt 10 l
def num1 (l : List UInt8) : Option (List Nat) := match numD l with
 | none => none
 | some n => some [n]
/-- Cuts digits, at least one; cuts a part's number. -/
def rdec (l : List UInt8) : Option (List Nat × List UInt8) := if dgs 10 l = [] then none else some ([fol 10 (dgs 10 l)], l.dropWhile (dig 10))
def rpart (l : List UInt8) : Option (List Nat × List UInt8) :=
 if [48, 120].isPrefixOf l then some ([fol 16 (dgs 16 (l.drop 2))], (l.drop 2).dropWhile (dig 16))
 else if [48].isPrefixOf l then some ([fol 8 (dgs 8 (l.drop 1))], (l.drop 1).dropWhile (dig 8))
 else rdec l

theorem cnt_all {b : Nat} {q : List UInt8} (h : q.all (dig b) = true) : cnt b q = some (fol b q) := by rw [cnt, if_pos h]
theorem cnt_no {b : Nat} {q : List UInt8} (h : q.all (dig b) = false) : cnt b q = none := by rw [cnt, h]; rfl
/-- The rest ahead of which a part stands: nothing, or what begins with a byte that is no digit. -/
def Endy (R : List UInt8) : Prop := ∀ c, R.head? = some c → hexV c = 16
theorem Endy.dig {R : List UInt8} (h : Endy R) {b : Nat} (hb : b ≤ 16) : ∀ c, R.head? = some c → Go.Proofs.YtcphokaamkalfaaGreatDoor.dig b c = false := by
 intro c hc
 have := h c hc
 simp [Go.Proofs.YtcphokaamkalfaaGreatDoor.dig, this]; omega
theorem endy_nil : Endy [] := by intro c h; simp at h
theorem endy_cons {c : UInt8} (r : List UInt8) (h : hexV c = 16) : Endy (c :: r) := by
 intro d hd
 simp at hd
 rw [← hd]; exact h

theorem dec_reads (q R : List UInt8) (sep : UInt8) (hq : ∀ c ∈ q, c ≠ sep) (hR : Endy R) (hne : q ≠ []) :
  match cnt 10 q with
  | some n => rdec (q ++ R) = some ([n], R)
  | none => rdec (q ++ R) = none ∨ ∃ ns c r, rdec (q ++ R) = some (ns, c :: r) ∧ c ≠ sep ∧ ns ≠ [] := by
 cases h : q.all (dig 10)
 ·rw [cnt_no h]
  obtain ⟨c, r, h1, h2, h3, h4⟩ := dgs_some R h
  simp only
  by_cases hn : dgs 10 (q ++ R) = []
  ·left; rw [rdec, if_pos hn]
  ·right; exact ⟨_, c, r, by rw [rdec, if_neg hn, h4], hq c h2, by simp⟩
 ·rw [cnt_all h]
  obtain ⟨h1, h2⟩ := dgs_all h (hR.dig (by omega))
  simp only
  rw [rdec, h1, if_neg hne, h2]
theorem oct_reads (b : Nat) (hb : b ≤ 16) (q R : List UInt8) (sep : UInt8) (hq : ∀ c ∈ q, c ≠ sep) (hR : Endy R) :
  match cnt b q with
  | some n => fol b (dgs b (q ++ R)) = n ∧ (q ++ R).dropWhile (dig b) = R
  | none => ∃ c r, (q ++ R).dropWhile (dig b) = c :: r ∧ c ≠ sep := by
 cases h : q.all (dig b)
 ·rw [cnt_no h]
  obtain ⟨c, r, h1, h2, h3, h4⟩ := dgs_some R h
  exact ⟨c, r, h4, hq c h2⟩
 ·rw [cnt_all h]
  obtain ⟨h1, h2⟩ := dgs_all h (hR.dig hb)
  exact ⟨by rw [h1], h2⟩

theorem part_reads (q R : List UInt8) (hq : ∀ c ∈ q, c ≠ 46) (hx : ∀ c ∈ q, c ≠ 88) (hR : Endy R) (hR2 : R.head? ≠ some 120) : Reads rpart 46 num1 q R := by
 unfold Reads num1
 match q, hq, hx with
 | [], _, _ =>
  have : numD [] = none := rfl
  rw [this]
  left
  have hp : ∀ c, R.head? = some c → c ≠ 48 := fun c hc e => by
   have := hR c hc; rw [e] at this; exact absurd this (by decide)
  have h1 : ([48, 120] : List UInt8).isPrefixOf R = false := by
   cases R with
   | nil => rfl
   | cons c R => simp [List.isPrefixOf, Ne.symm (hp c rfl)]
  have h2 : ([48] : List UInt8).isPrefixOf R = false := by
   cases R with
   | nil => rfl
   | cons c R => simp [List.isPrefixOf, Ne.symm (hp c rfl)]
  have h3 : dgs 10 R = [] := by
   cases R with
   | nil => rfl
   | cons c R => simp [dgs, hR.dig (b := 10) (by omega) c rfl]
  rw [List.nil_append, rpart, h1, h2]
  simp [rdec, h3]
 | [c], hq, hx =>
  have hn : numD [c] = cnt 10 [c] := by simp [numD, isX]
  rw [hn]
  by_cases hc : c = 48
  ·subst hc
   have h1 : ([48, 120] : List UInt8).isPrefixOf ([48] ++ R) = false := by
    cases R with
    | nil => rfl
    | cons d R =>
     have : (120 : UInt8) ≠ d := fun e => hR2 (by rw [← e]; rfl)
     simp [List.isPrefixOf, this]
   have h2 : ([48] : List UInt8).isPrefixOf ([48] ++ R) = true := by simp [List.isPrefixOf]
   have h3 : cnt 10 [48] = some 0 := by decide
   have h4 : dgs 8 R = [] := by
    cases R with
    | nil => rfl
    | cons c R => simp [dgs, hR.dig (b := 8) (by omega) c rfl]
   have h5 : R.dropWhile (dig 8) = R := by
    cases R with
    | nil => rfl
    | cons c R => simp [hR.dig (b := 8) (by omega) c rfl]
   rw [h3]
   simp only
   rw [rpart, h1, h2]
   simp [h4, h5, fol]
  ·have h1 : ([48, 120] : List UInt8).isPrefixOf ([c] ++ R) = false := by simp [List.isPrefixOf, Ne.symm hc]
   have h2 : ([48] : List UInt8).isPrefixOf ([c] ++ R) = false := by simp [List.isPrefixOf, Ne.symm hc]
   have h := dec_reads [c] R 46 hq hR (by simp)
   have hr : rpart ([c] ++ R) = rdec ([c] ++ R) := by rw [rpart, h1, h2]; rfl
   rw [hr]
   cases hh : cnt 10 [c] with
   | none => rw [hh] at h; exact h
   | some n => rw [hh] at h; exact ⟨h, by simp⟩
 | c :: d :: q, hq, hx =>
  by_cases hc : c = 48
  ·subst hc
   by_cases hd : d = 120
   ·subst hd
    have hn : numD (48 :: 120 :: q) = cnt 16 q := by simp [numD, isX]
    have hr : rpart (48 :: 120 :: q ++ R) = some ([fol 16 (dgs 16 (q ++ R))], (q ++ R).dropWhile (dig 16)) := by
     rw [rpart, if_pos (by simp [List.isPrefixOf])]; rfl
    have h := oct_reads 16 (by omega) q R 46 (fun c hc => hq c (by simp [hc])) hR
    rw [hn, hr]
    cases hh : cnt 16 q with
    | none =>
     rw [hh] at h
     obtain ⟨c, r, h1, h2⟩ := h
     right; exact ⟨_, c, r, by rw [h1], h2, by simp⟩
    | some n =>
     rw [hh] at h
     obtain ⟨h1, h2⟩ := h
     simp only
     rw [h1, h2]; exact ⟨rfl, by simp⟩
   ·have hd2 : d ≠ 88 := hx d (by simp)
    have hn : numD (48 :: d :: q) = cnt 8 (d :: q) := by simp [numD, isX, hd, hd2]
    have hr : rpart (48 :: d :: q ++ R) = some ([fol 8 (dgs 8 (d :: q ++ R))], (d :: q ++ R).dropWhile (dig 8)) := by
     rw [rpart, if_neg (by simp [List.isPrefixOf, Ne.symm hd]), if_pos (by simp [List.isPrefixOf])]; rfl
    have h := oct_reads 8 (by omega) (d :: q) R 46 (fun c hc => hq c (List.mem_cons_of_mem _ hc)) hR
    rw [hn, hr]
    cases hh : cnt 8 (d :: q) with
    | none =>
     rw [hh] at h
     obtain ⟨c, r, h1, h2⟩ := h
     right; exact ⟨_, c, r, by rw [h1], h2, by simp⟩
    | some n =>
     rw [hh] at h
     obtain ⟨h1, h2⟩ := h
     simp only
     rw [h1, h2]; exact ⟨rfl, by simp⟩
  ·have hn : numD (c :: d :: q) = cnt 10 (c :: d :: q) := by simp [numD, isX, hc]
   have hr : rpart (c :: d :: q ++ R) = rdec (c :: d :: q ++ R) := by
    rw [rpart, if_neg (by simp [List.isPrefixOf, Ne.symm hc]), if_neg (by simp [List.isPrefixOf, Ne.symm hc])]
   have h := dec_reads (c :: d :: q) R 46 hq hR (by simp)
   rw [hn, hr]
   cases hh : cnt 10 (c :: d :: q) with
   | none => rw [hh] at h; exact h
   | some n => rw [hh] at h; exact ⟨h, by simp⟩

/-- A number as bytes, the highest first. -/
def be : Nat → Nat → List Nat
 | 0, _ => []
 | k + 1, n => be k (n / 256) ++ [n % 256]
theorem be_len : ∀ k n, (be k n).length = k
 | 0, _ => rfl
 | k + 1, n => by rw [be, List.length_append, be_len k]; rfl
theorem be_lt : ∀ k n, ∀ x ∈ be k n, x < 256
 | 0, _, x, h => by simp [be] at h
 | k + 1, n, x, h => by
  rw [be] at h
  rcases List.mem_append.1 h with h | h
  ·exact be_lt k _ x h
  ·rw [List.mem_singleton.1 h]; omega
/-- Numbers as r bytes: the last one has the room that the others leave. -/
def lay4 : Nat → List Nat → Option (List Nat)
 | r, [] => some (List.replicate r 0)
 | r, [n] => if n < 256 ^ r then some (be r n) else none
 | r, n :: m :: ns => if n < 256 then match lay4 (r - 1) (m :: ns) with
  | none => none
  | some bs => some (n :: bs) else none
theorem lay4_len : ∀ (ns : List Nat) (r : Nat) (bs : List Nat), ns.length ≤ r → lay4 r ns = some bs → bs.length = r ∧ ∀ x ∈ bs, x < 256
 | [], r, bs, _, h => by
  simp [lay4] at h
  subst h
  exact ⟨by simp, fun x hx => by rw [List.eq_of_mem_replicate hx]; omega⟩
 | [n], r, bs, _, h => by
  rw [lay4] at h
  split at h
  ·injection h with h; subst h; exact ⟨be_len r n, be_lt r n⟩
  ·cases h
 | n :: m :: ns, r, bs, hl, h => by
  rw [lay4] at h
  split at h
  ·rename_i hn
   split at h
   ·cases h
   ·rename_i bs' h'
    injection h with h; subst h
    obtain ⟨h1, h2⟩ := lay4_len (m :: ns) (r - 1) bs' (by simp at hl ⊢; omega) h'
    refine ⟨by simp [h1]; simp at hl; omega, fun x hx => ?_⟩
    rcases List.mem_cons.1 hx with rfl | hx
    ·exact hn
    ·exact h2 x hx
  ·cases h

/-- Without a point at its end. -/
def trimP (l : List UInt8) : List UInt8 := if l.getLast? = some 46 then l.dropLast else l
def looksQ (q : List UInt8) : Bool := (!q.isEmpty && q.all (dig 10)) || (isX q && (numD q).isSome)
def lastQ (P : List (List UInt8)) : List UInt8 := P.getLast?.getD []
/-- Looks a text like four bytes, and which are they? -/
def fourD (l : List UInt8) : Bool × Option (List Nat) :=
 if looksQ (lastQ (pts 46 (trimP l))) then (true, if 4 < (pts 46 (trimP l)).length then none else match evs num1 num1 (pts 46 (trimP l)) with
  | none => none
  | some ns => lay4 4 ns) else (false, none)
/-- What the reader makes of a text that looks like four bytes. -/
def fourP (l : List UInt8) : Option (List Nat) :=
 if (rowG rpart 46 4 (l.length + 2) [] l).2 = [] ∨ (rowG rpart 46 4 (l.length + 2) [] l).2 = [46] then lay4 4 (rowG rpart 46 4 (l.length + 2) [] l).1 else none

theorem num1_len {q : List UInt8} {ns : List Nat} (h : num1 q = some ns) : ns.length = 1 := by
 unfold num1 at h
 split at h
 ·cases h
 ·injection h with h; subst h; rfl
theorem evs_num_len : ∀ (P : List (List UInt8)) (ns : List Nat), evs num1 num1 P = some ns → ns.length = P.length
 | [], ns, h => by simp [evs] at h
 | [q], ns, h => num1_len h
 | q :: p :: P, ns, h => by
  rw [evs_cons _ _ _ (by simp)] at h
  split at h
  ·cases h
  ·rename_i ms h1
   split at h
   ·cases h
   ·rename_i ks h2
    injection h with h; subst h
    rw [List.length_append, num1_len h1, evs_num_len (p :: P) ks h2]; simp; omega

theorem trimP_spec (l : List UInt8) : ∃ e, (e = [] ∨ e = [46]) ∧ l = trimP l ++ e := by
 by_cases h : l.getLast? = some 46
 ·refine ⟨[46], .inr rfl, ?_⟩
  rw [trimP, if_pos h]
  obtain ⟨r, rfl⟩ : ∃ r, l = r ++ [46] := by
   rcases List.eq_nil_or_concat l with rfl | ⟨r, x, rfl⟩
   ·simp at h
   ·rw [List.concat_eq_append] at h ⊢
    simp at h; exact ⟨r, by rw [h]⟩
  simp
 ·exact ⟨[], .inl rfl, by rw [trimP, if_neg h, List.append_nil]⟩
theorem getLast_pts (a : UInt8) : ∀ (n : Nat) (l : List UInt8), l.length ≤ n → l ≠ [] → lastQ (pts a l) ≠ [] → l.getLast? ≠ some a
 | 0, l, hn, h, _ => by
  have : l = [] := List.eq_nil_of_length_eq_zero (by omega)
  contradiction
 | n + 1, l, hn, h, hl => by
  rcases pts_cut a l with h' | ⟨q, r, rfl, hq⟩
  ·intro e
   exact h' a (List.mem_of_getLast? e) rfl
  ·rw [pts_front a q r hq] at hl
   have hl' : lastQ (pts a r) ≠ [] := by
    unfold lastQ at hl ⊢
    have := pts_ne a r
    cases hp : pts a r with
    | nil => contradiction
    | cons x y => rw [hp] at hl; simpa using hl
   by_cases hr : r = []
   ·subst hr; simp [pts, lastQ] at hl'
   ·have := getLast_pts a n r (by simp at hn; omega) hr hl'
    intro e
    apply this
    rw [List.getLast?_append] at e
    have h2 : (a :: r).getLast? = r.getLast? := by
     cases r with
     | nil => contradiction
     | cons x y => simp [List.getLast?_cons_cons]
    rw [h2] at e
    cases hg : r.getLast? with
    | none => rw [List.getLast?_eq_none_iff] at hg; contradiction
    | some z => rw [hg] at e; simpa using e

theorem fourP_eq (l : List UInt8) (hx : ∀ c ∈ l, c ≠ 88) (hlk : looksQ (lastQ (pts 46 (trimP l))) = true) : fourP l = (fourD l).2 := by
 obtain ⟨e, he, hl⟩ := trimP_spec l
 obtain ⟨T, hT⟩ : ∃ T, trimP l = T := ⟨_, rfl⟩
 have hdt : (fourD l).2 = if 4 < (pts 46 T).length then none else match evs num1 num1 (pts 46 T) with
   | none => none
   | some ns => lay4 4 ns := by rw [fourD, if_pos hlk, hT]
 rw [hdt]
 rw [hT] at hl hlk
 have hlast : lastQ (pts 46 T) ≠ [] := by
  intro h0; rw [h0] at hlk; simp [looksQ, isX] at hlk
 have hTne : T ≠ [] := by
  intro h0; subst h0; exact hlast rfl
 have hTl := getLast_pts 46 T.length T (Nat.le_refl _) hTne hlast
 have hxT : ∀ c ∈ T, c ≠ 88 := fun c hc => hx c (by rw [hl]; exact List.mem_append_left _ hc)
 have hEe : Endy e := by rcases he with rfl | rfl; exact endy_nil; exact endy_cons _ (by decide)
 have key := row_main (next := rpart) (sep := 46) (evI := num1) (evL := num1) (most := 4) (e := e)
  (K := fun L => L ≠ [] ∧ L.getLast? ≠ some 46 ∧ ∀ c ∈ L, c ≠ 88) (Z := fun r => r ≠ [] ∧ r ≠ [46])
  (fun q R hq hk => part_reads q (46 :: R) hq (by
   rcases hk with hk | ⟨r, hk⟩
   ·exact hk.2.2
   ·exact fun c hc => hk.2.2 c (List.mem_append_left _ hc)) (endy_cons _ (by decide)) (by simp))
  (fun q hq hk => part_reads q e hq hk.2.2 hEe (by rcases he with rfl | rfl <;> simp))
  (fun hne => by
   rcases he with rfl | rfl
   ·contradiction
   ·exact ⟨rfl, by decide⟩)
  (fun c r hc => ⟨by simp, by simp [hc]⟩)
  (fun q L hk => by
   have hL : L ≠ [] := by
    intro h0; subst h0; apply hk.2.1; simp
   cases L with
   | nil => contradiction
   | cons x L => simp)
  (fun q L hk => by
   have hL : L ≠ [] := by
    intro h0; subst h0; apply hk.2.1; simp
   refine ⟨hL, fun h => hk.2.1 ?_, fun c hc => hk.2.2 c (by simp [hc])⟩
   rw [List.getLast?_append]
   cases L with
   | nil => contradiction
   | cons x L => rw [List.getLast?_cons_cons, h]; rfl)
  (l.length + 2) [] T ⟨hTne, hTl, hxT⟩ (by rw [hl]; simp; omega) (by
   rw [if_pos rfl]
   cases T with
   | nil => contradiction
   | cons x T =>
    refine ⟨by simp, ?_⟩
    intro h
    have h1 : x = 46 := by simpa using congrArg List.head? h
    have h2 : T ++ e = [] := by simpa using congrArg (List.drop 1) h
    have h3 : T = [] := (List.append_eq_nil_iff.1 h2).1
    subst h3; subst h1
    exact hTl rfl)
 simp only [if_true] at key
 rw [← hl] at key
 unfold fourP
 cases hev : evs num1 num1 (pts 46 T) with
 | none =>
  rw [hev] at key
  rw [if_neg (by simp only at key; rintro (h | h); exact key.1 h; exact key.2 h)]
  split <;> rfl
 | some ns =>
  rw [hev] at key
  have hlen := evs_num_len _ _ hev
  simp only [List.length_nil, Nat.zero_add, List.nil_append] at key
  by_cases h4 : ns.length ≤ 4
  ·rw [if_pos h4] at key
   rw [key, if_pos he, if_neg (by omega)]
  ·rw [if_neg h4] at key
   rw [if_neg (by rintro (h | h); exact key.1 h; exact key.2 h), if_pos (by omega)]

end Go.Proofs.YtcphokaamkalfaaGreatDoor
namespace Go.Proofs.YtcphokaamkalfaaGreatDoor
open Go.RowKit

/-- Cuts a piece; a number of one byte; two pieces told by four bytes; either. -/
def rpiece (l : List UInt8) : Option (List Nat × List UInt8) := if 1 ≤ (dgs 16 l).length ∧ (dgs 16 l).length ≤ 4 then some ([fol 16 (dgs 16 l)], l.dropWhile (dig 16)) else none
def rsmall (l : List UInt8) : Option (List Nat × List UInt8) := if (l.head? = some 48 ∧ 1 < (dgs 10 l).length) ∨ 255 < fol 10 (dgs 10 l) then none else if dgs 10 l = [] then none else some ([fol 10 (dgs 10 l)], l.dropWhile (dig 10))
def two4 : List Nat → Option (List Nat)
 | [a, b, c, d] => some [256 * a + b, 256 * c + d]
 | _ => none
def rfour (l : List UInt8) : Option (List Nat × List UInt8) := if (rowG rsmall 46 4 (l.length + 2) [] l).2 = [] then match two4 (rowG rsmall 46 4 (l.length + 2) [] l).1 with
  | some ns => some (ns, [])
  | none => none else none
def rboth (l : List UInt8) : Option (List Nat × List UInt8) := match rfour l with
 | some x => some x
 | none => rpiece l
/-- What the reader makes of a text: eight pieces, or none. -/
def sixP (l : List UInt8) : Option (List Nat) :=
 if (rowG rboth 58 8 (l.length + 2) [] l).1.length = 8 then (if (rowG rboth 58 8 (l.length + 2) [] l).2 = [] then some (rowG rboth 58 8 (l.length + 2) [] l).1 else none)
 else if [58, 58].isPrefixOf (rowG rboth 58 8 (l.length + 2) [] l).2 then
  (if (rowG rboth 58 (7 - (rowG rboth 58 8 (l.length + 2) [] l).1.length) (((rowG rboth 58 8 (l.length + 2) [] l).2.drop 2).length + 2) [] ((rowG rboth 58 8 (l.length + 2) [] l).2.drop 2)).2 = [] then
   some ((rowG rboth 58 8 (l.length + 2) [] l).1 ++ List.replicate (8 - (rowG rboth 58 8 (l.length + 2) [] l).1.length - (rowG rboth 58 (7 - (rowG rboth 58 8 (l.length + 2) [] l).1.length) (((rowG rboth 58 8 (l.length + 2) [] l).2.drop 2).length + 2) [] ((rowG rboth 58 8 (l.length + 2) [] l).2.drop 2)).1.length) 0 ++ (rowG rboth 58 (7 - (rowG rboth 58 8 (l.length + 2) [] l).1.length) (((rowG rboth 58 8 (l.length + 2) [] l).2.drop 2).length + 2) [] ((rowG rboth 58 8 (l.length + 2) [] l).2.drop 2)).1)
  else none)
 else none

/-- A part as a piece, as a number of one byte, as four bytes; the document's pieces. -/
def pc1 (q : List UInt8) : Option (List Nat) := if 1 ≤ q.length ∧ q.length ≤ 4 then match cnt 16 q with
  | some n => some [n]
  | none => none else none
def sm1 (q : List UInt8) : Option (List Nat) := if q = [] ∨ (1 < q.length ∧ q.head? = some 48) then none else match cnt 10 q with
  | some n => if 255 < n then none else some [n]
  | none => none
def four1 (q : List UInt8) : Option (List Nat) := match evs sm1 sm1 (pts 46 q) with
 | some ns => two4 ns
 | none => none
def both1 (q : List UInt8) : Option (List Nat) := match pc1 q with
 | some n => some n
 | none => four1 q
def piecesD (en : Bool) (l : List UInt8) : Option (List Nat) := if l = [] then some [] else evs pc1 (if en then both1 else pc1) (pts 58 l)
/-- What stands ahead of the first two colons together, and behind them. -/
def cut2 : List UInt8 → Option (List UInt8 × List UInt8)
 | [] => none
 | c :: r => if [58, 58].isPrefixOf (c :: r) then some ([], r.drop 1) else match cut2 r with
  | some (a, b) => some (c :: a, b)
  | none => none
def sixD (l : List UInt8) : Option (List Nat) := match cut2 l with
 | none => match piecesD true l with
  | some ps => if ps.length = 8 then some ps else none
  | none => none
 | some (a, b) => match piecesD false a with
  | none => none
  | some x => match piecesD true b with
   | none => none
   | some y => if x.length + y.length ≤ 7 then some (x ++ List.replicate (8 - x.length - y.length) 0 ++ y) else none

theorem piece_reads (q R : List UInt8) (hq : ∀ c ∈ q, c ≠ 58) (hR : Endy R) :
  match pc1 q with
  | some ns => rpiece (q ++ R) = some (ns, R) ∧ ns ≠ []
  | none => rpiece (q ++ R) = none ∨ ∃ ns c r, rpiece (q ++ R) = some (ns, c :: r) ∧ c ≠ 58 ∧ ns ≠ [] := by
 cases h : q.all (dig 16)
 ·have hn : pc1 q = none := by rw [pc1, cnt_no h]; split <;> rfl
  rw [hn]
  obtain ⟨c, r, h1, h2, h3, h4⟩ := dgs_some R h
  simp only
  unfold rpiece
  rw [h4]
  split
  ·right; exact ⟨_, c, r, rfl, hq c h2, by simp⟩
  ·left; rfl
 ·obtain ⟨h1, h2⟩ := dgs_all h (hR.dig (by omega))
  by_cases hl : 1 ≤ q.length ∧ q.length ≤ 4
  ·have hn : pc1 q = some [fol 16 q] := by rw [pc1, if_pos hl, cnt_all h]
   rw [hn]
   simp only
   rw [rpiece, h1, h2, if_pos hl]
   exact ⟨rfl, by simp⟩
  ·have hn : pc1 q = none := by rw [pc1, if_neg hl]
   rw [hn]
   simp only
   left; rw [rpiece, h1, if_neg hl]
theorem small_reads (q R : List UInt8) (hq : ∀ c ∈ q, c ≠ 46) (hR : Endy R) : Reads rsmall 46 sm1 q R := by
 unfold Reads
 by_cases hne : q = []
 ·subst hne
  have hn : sm1 [] = none := rfl
  have h1 : dgs 10 R = [] := by
   cases R with
   | nil => rfl
   | cons c R => simp [dgs, hR.dig (b := 10) (by omega) c rfl]
  rw [hn]
  left
  rw [List.nil_append, rsmall, h1]
  simp
 have hh : (q ++ R).head? = q.head? := by
  cases q with
  | nil => contradiction
  | cons c q => rfl
 cases h : q.all (dig 10)
 ·have hn : sm1 q = none := by rw [sm1, cnt_no h]; split <;> rfl
  rw [hn]
  obtain ⟨c, r, h1, h2, h3, h4⟩ := dgs_some R h
  simp only
  unfold rsmall
  rw [h4]
  split
  ·left; rfl
  ·split
   ·left; rfl
   ·right; exact ⟨_, c, r, rfl, hq c h2, by simp⟩
 ·obtain ⟨h1, h2⟩ := dgs_all h (hR.dig (by omega))
  by_cases h3 : (q.head? = some 48 ∧ 1 < q.length) ∨ 255 < fol 10 q
  ·have hn : sm1 q = none := by
    rw [sm1]
    split
    ·rfl
    ·rename_i h5
     rw [cnt_all h]
     rcases h3 with h3 | h3
     ·exact absurd (.inr ⟨h3.2, h3.1⟩) h5
     ·simp [h3]
   rw [hn]
   left
   rw [rsmall, hh, h1, if_pos h3]
  ·have hn : sm1 q = some [fol 10 q] := by
    rw [sm1, if_neg (by rintro (h5 | h5); exact hne h5; exact h3 (.inl ⟨h5.2, h5.1⟩)), cnt_all h]
    simp only
    rw [if_neg (fun h5 => h3 (.inr h5))]
   rw [hn]
   simp only
   rw [rsmall, hh, h1, h2, if_neg h3, if_neg hne]
   exact ⟨rfl, by simp⟩

theorem drop_has {p : UInt8 → Bool} {c : UInt8} (hp : p c = false) : ∀ l : List UInt8, c ∈ l → c ∈ l.dropWhile p
 | [], h => by cases h
 | x :: l, h => by
  rw [List.dropWhile_cons]
  cases hx : p x
  ·simpa using h
  ·rcases List.mem_cons.1 h with rfl | h
   ·rw [hp] at hx; cases hx
   ·simpa using drop_has hp l h
/-- A colon is never passed over by numbers with points. -/
theorem row58 : ∀ (f : Nat) (out : List Nat) (l : List UInt8), (58 : UInt8) ∈ l → (58 : UInt8) ∈ (rowG rsmall 46 4 f out l).2
 | 0, _, l, h => h
 | f + 1, out, l, h => by
  rw [rowG]
  split
  ·exact h
  ·rename_i h1
   split
   ·exact h
   ·rename_i ns r h2
    split
    ·exact h
    ·refine row58 f _ r ?_
     have hl : (58 : UInt8) ∈ (if out = [] then l else l.drop 1) := by
      split
      ·exact h
      ·rename_i ho
       have h3 : l.head? = some 46 := Classical.byContradiction fun h3 => h1 ⟨ho, h3⟩
       cases l with
       | nil => cases h
       | cons x l =>
        have h4 : x = 46 := by simpa using h3
        subst h4
        rcases List.mem_cons.1 h with h | h
        ·exact absurd h (by decide)
        ·exact h
     generalize (if out = [] then l else l.drop 1) = M at h2 hl
     unfold rsmall at h2
     split at h2
     ·cases h2
     ·split at h2
      ·cases h2
      ·injection h2 with h2
       injection h2 with _ h2
       rw [← h2]
       exact drop_has (dig58 (by omega)) _ hl
theorem rfour_58 (l : List UInt8) (h : (58 : UInt8) ∈ l) : rfour l = none := by
 have := row58 (l.length + 2) [] l h
 rw [rfour, if_neg (fun h0 => by rw [h0] at this; cases this)]
theorem rfour_eq (q : List UInt8) : rfour q = match four1 q with
  | some ns => some (ns, [])
  | none => none := by
 by_cases hq : q = []
 ·subst hq; rfl
 have key := row_main (next := rsmall) (sep := 46) (evI := sm1) (evL := sm1) (most := 4) (e := [])
  (K := fun _ => True) (Z := fun r => r ≠ [])
  (fun q R hq _ => small_reads q (46 :: R) hq (endy_cons _ (by decide))) (fun q hq _ => small_reads q [] hq endy_nil)
  (fun h => absurd rfl h) (fun c r _ => by simp) (fun q L _ => by simp) (fun q L _ => trivial)
  (q.length + 2) [] q trivial (by omega) (by simpa using hq)
 simp only [if_true, List.append_nil, List.length_nil, Nat.zero_add, List.nil_append] at key
 unfold rfour four1
 cases hev : evs sm1 sm1 (pts 46 q) with
 | none =>
  rw [hev] at key
  rw [if_neg key]
 | some ns =>
  rw [hev] at key
  by_cases h4 : ns.length ≤ 4
  ·simp only at key
   rw [if_pos h4] at key
   rw [key]; rfl
  ·simp only at key
   rw [if_neg h4] at key
   rw [if_neg key]
   have : two4 ns = none := by
    match ns, h4 with
    | [], h4 => rfl
    | [_], h4 => rfl
    | [_, _], h4 => rfl
    | [_, _, _], h4 => rfl
    | [_, _, _, _], h4 => simp at h4
    | _ :: _ :: _ :: _ :: _ :: _, _ => rfl
   simp only [this]
theorem two4_ne {ns ms : List Nat} (h : two4 ns = some ms) : ms ≠ [] := by
 unfold two4 at h
 split at h
 ·injection h with h; subst h; simp
 ·cases h
theorem sm1_one {q : List UInt8} {ns : List Nat} (h : sm1 q = some ns) : ∃ n, ns = [n] ∧ n ≤ 255 := by
 unfold sm1 at h
 split at h
 ·cases h
 ·split at h
  ·split at h
   ·cases h
   ·injection h with h; exact ⟨_, h.symm, by omega⟩
  ·cases h
theorem pc1_no46 {q : List UInt8} {ns : List Nat} (h : pc1 q = some ns) : four1 q = none := by
 unfold pc1 at h
 split at h
 ·split at h
  ·rename_i n hc
   have hall : q.all (dig 16) = true := by
    unfold cnt at hc
    split at hc
    ·assumption
    ·cases hc
   have hn : ∀ c ∈ q, c ≠ 46 := by
    intro c hc e
    have : dig 16 c = true := by simpa using (List.all_eq_true.1 hall) c hc
    rw [e, dig46 (by omega)] at this; cases this
   unfold four1
   rw [pts_none 46 q hn]
   show (match evs sm1 sm1 [q] with
    | some ns => two4 ns
    | none => none) = none
   rw [show evs sm1 sm1 [q] = sm1 q from rfl]
   cases hs : sm1 q with
   | none => rfl
   | some ns => obtain ⟨n, rfl, _⟩ := sm1_one hs; rfl
  ·cases h
 ·cases h
theorem both_reads_I (q R : List UInt8) (hq : ∀ c ∈ q, c ≠ 58) : Reads rboth 58 pc1 q (58 :: R) := by
 have h1 : rboth (q ++ 58 :: R) = rpiece (q ++ 58 :: R) := by rw [rboth, rfour_58 _ (by simp)]
 unfold Reads
 rw [h1]
 exact piece_reads q (58 :: R) hq (endy_cons _ (by decide))
theorem both_reads_L (q : List UInt8) (hq : ∀ c ∈ q, c ≠ 58) : Reads rboth 58 both1 q [] := by
 unfold Reads both1
 rw [List.append_nil, rboth, rfour_eq]
 have h := piece_reads q [] hq endy_nil
 rw [List.append_nil] at h
 cases hp : pc1 q with
 | some ns =>
  rw [hp] at h
  rw [pc1_no46 hp]
  exact h
 | none =>
  rw [hp] at h
  cases h4 : four1 q with
  | none => exact h
  | some ns =>
   refine ⟨rfl, ?_⟩
   unfold four1 at h4
   split at h4
   ·exact two4_ne h4
   ·cases h4
theorem both_reads_L' (q R : List UInt8) (hq : ∀ c ∈ q, c ≠ 58) : Reads rboth 58 pc1 q (58 :: R) := both_reads_I q R hq
theorem rboth58 (r : List UInt8) : rboth (58 :: r) = none := by
 rw [rboth, rfour_58 _ (by simp), rpiece]
 have : dgs 16 (58 :: r) = [] := by simp [dgs, dig58 (b := 16) (by omega)]
 simp [this]
/-- The rest is a text's end. -/
theorem rboth_suf {l : List UInt8} {ns : List Nat} {r : List UInt8} (h : rboth l = some (ns, r)) : ∃ p, l = p ++ r := by
 unfold rboth at h
 split at h
 ·rename_i x hx
  unfold rfour at hx
  split at hx
  ·split at hx
   ·injection hx with hx; injection h with h
    rw [← hx] at h; injection h with _ h; subst h; exact ⟨l, by simp⟩
   ·cases hx
  ·cases hx
 ·unfold rpiece at h
  split at h
  ·injection h with h; injection h with _ h; subst h
   exact ⟨l.takeWhile (dig 16), (List.takeWhile_append_dropWhile (p := dig 16) (l := l)).symm⟩
  ·cases h
theorem row_suf (most : Nat) : ∀ (f : Nat) (out : List Nat) (l : List UInt8), ∃ p, l = p ++ (rowG rboth 58 most f out l).2
 | 0, _, l => ⟨[], rfl⟩
 | f + 1, out, l => by
  rw [rowG]
  split
  ·exact ⟨[], rfl⟩
  ·split
   ·exact ⟨[], rfl⟩
   ·rename_i ns r h2
    split
    ·exact ⟨[], rfl⟩
    ·obtain ⟨p, hp⟩ := row_suf most f (out ++ ns) r
     obtain ⟨q, hq⟩ := rboth_suf h2
     have hl : ∃ u, l = u ++ (if out = [] then l else l.drop 1) := by
      split
      ·exact ⟨[], rfl⟩
      ·exact ⟨l.take 1, (List.take_append_drop 1 l).symm⟩
     obtain ⟨u, hu⟩ := hl
     refine ⟨u ++ (q ++ p), ?_⟩
     rw [List.append_assoc, List.append_assoc, ← hp, ← hq, ← hu]

theorem cut2_none : ∀ (l : List UInt8), cut2 l = none → ∀ p r, l = p ++ r → ([58, 58] : List UInt8).isPrefixOf r = false
 | [], _, p, r, h => by
  have : r = [] := (List.append_eq_nil_iff.1 h.symm).2
  subst this; rfl
 | c :: l, h, p, r, e => by
  rw [cut2] at h
  split at h
  ·cases h
  ·rename_i h1
   cases p with
   | nil => rw [List.nil_append] at e; rw [← e]; exact eq_false_of_ne_true h1
   | cons d p =>
    split at h
    ·cases h
    ·rename_i h2
     exact cut2_none l h2 p r (by simpa using (congrArg (List.drop 1) e))
theorem cut2_some : ∀ (l a b : List UInt8), cut2 l = some (a, b) → l = a ++ 58 :: 58 :: b ∧ cut2 a = none ∧ a.getLast? ≠ some 58
 | [], _, _, h => by simp [cut2] at h
 | c :: l, a, b, h => by
  rw [cut2] at h
  split at h
  ·rename_i h1
   injection h with h; injection h with h2 h3
   subst h2
   cases l with
   | nil => simp [List.isPrefixOf] at h1
   | cons d l =>
    simp [List.isPrefixOf] at h1
    obtain ⟨rfl, rfl⟩ := h1
    subst h3
    exact ⟨rfl, rfl, by simp⟩
  ·rename_i h1
   split at h
   ·rename_i x y h2
    injection h with h; injection h with h3 h4
    subst h3; subst h4
    obtain ⟨i1, i2, i3⟩ := cut2_some l x y h2
    refine ⟨by rw [i1]; rfl, ?_, ?_⟩
    ·rw [cut2, i2, if_neg]
     intro h5
     apply h1
     rw [i1]
     cases x with
     | nil => simp [List.isPrefixOf] at h5
     | cons d x => simpa [List.isPrefixOf] using h5
    ·cases x with
     | nil =>
      intro h5
      apply h1
      have : c = 58 := by simpa using h5
      rw [i1, this]; rfl
     | cons d x => rw [List.getLast?_cons_cons]; exact i3
   ·cases h

theorem sixP_eq (l : List UInt8) : sixP l = sixD l := by
 obtain ⟨A, hA⟩ : ∃ A, rowG rboth 58 8 (l.length + 2) [] l = A := ⟨_, rfl⟩
 unfold sixP sixD
 rw [hA]
 cases hc : cut2 l with
 | none =>
  simp only
  have hpre : ([58, 58] : List UInt8).isPrefixOf A.2 = false := by
   obtain ⟨p, hp⟩ := row_suf 8 (l.length + 2) [] l
   rw [hA] at hp
   exact cut2_none l hc p _ hp
  by_cases hl : l = []
  ·subst hl
   have : A = ([], []) := by rw [← hA]; rfl
   subst this; rfl
  have key := row_main (next := rboth) (sep := 58) (evI := pc1) (evL := both1) (most := 8) (e := [])
   (K := fun _ => True) (Z := fun r => r ≠ [])
   (fun q R hq _ => both_reads_I q R hq) (fun q hq _ => both_reads_L q hq)
   (fun h => absurd rfl h) (fun c r _ => by simp) (fun q L _ => by simp) (fun q L _ => trivial)
   (l.length + 2) [] l trivial (by omega) (by simpa using hl)
  simp only [if_true, List.append_nil, List.length_nil, Nat.zero_add, List.nil_append] at key
  rw [hA] at key
  rw [piecesD, if_neg hl, if_pos rfl]
  cases hev : evs pc1 both1 (pts 58 l) with
  | none =>
   rw [hev] at key
   simp only at key ⊢
   rw [if_neg key, hpre]
   split <;> rfl
  | some ns =>
   rw [hev] at key
   simp only at key ⊢
   by_cases h8 : ns.length ≤ 8
   ·rw [if_pos h8] at key
    subst key
    simp only [if_true]
    rfl
   ·rw [if_neg h8] at key
    have h9 : ¬ ns.length = 8 := by omega
    simp [key, hpre, h9]
 | some ab =>
  obtain ⟨a, b⟩ := ab
  obtain ⟨h1, h2, h3⟩ := cut2_some l a b hc
  simp only
  -- the part ahead
  have hleft : match piecesD false a with
    | some ns => if ns.length ≤ 8 then A = (ns, 58 :: 58 :: b) else A.2 ≠ [] ∧ ([58, 58] : List UInt8).isPrefixOf A.2 = false
    | none => A.2 ≠ [] ∧ ([58, 58] : List UInt8).isPrefixOf A.2 = false := by
   by_cases ha : a = []
   ·subst ha
    rw [piecesD, if_pos rfl]
    simp only
    rw [if_pos (by simp), ← hA, h1, List.nil_append, rowG, if_neg (by simp), if_pos rfl, rboth58]
   have hno := cut2_none a h2
   have hinner : ∀ q L, a = q ++ 58 :: L → L ≠ [] ∧ L.head? ≠ some 58 := by
    intro q L e
    refine ⟨fun h0 => h3 (by rw [e, h0]; simp), fun h0 => ?_⟩
    have := hno q _ e
    cases L with
    | nil => cases h0
    | cons x L =>
     have : x = 58 := by simpa using h0
     subst this
     simp [List.isPrefixOf] at this
   have key := row_main (next := rboth) (sep := 58) (evI := pc1) (evL := pc1) (most := 8) (e := 58 :: 58 :: b)
    (K := fun L => ∃ p, a = p ++ L) (Z := fun r => r ≠ [] ∧ ([58, 58] : List UInt8).isPrefixOf r = false)
    (fun q R hq _ => both_reads_I q R hq) (fun q hq _ => both_reads_L' q (58 :: b) hq)
    (fun _ => ⟨rfl, rboth58 b⟩) (fun c r hc => ⟨by simp, by simp [List.isPrefixOf, Ne.symm hc]⟩)
    (fun q L ⟨p, hp⟩ => by
     obtain ⟨i1, i2⟩ := hinner (p ++ q) L (by rw [hp]; simp)
     refine ⟨by simp, ?_⟩
     cases L with
     | nil => contradiction
     | cons x L =>
      have : x ≠ 58 := by simpa using i2
      simp [List.isPrefixOf, Ne.symm this])
    (fun q L ⟨p, hp⟩ => ⟨p ++ q ++ [58], by rw [hp]; simp⟩)
    (l.length + 2) [] a ⟨[], rfl⟩ (by rw [h1]; simp; omega) (by
     rw [if_pos rfl]
     refine ⟨by simp, ?_⟩
     cases a with
     | nil => contradiction
     | cons x a =>
      cases a with
      | nil =>
       have : x ≠ 58 := by simpa using h3
       simp [List.isPrefixOf, Ne.symm this]
      | cons y a =>
       have := hno [] (x :: y :: a) rfl
       exact this)
   simp only [if_true, List.length_nil, Nat.zero_add, List.nil_append] at key
   rw [← h1, hA] at key
   rw [piecesD, if_neg ha]
   simp only [Bool.false_eq_true, if_false]
   cases hev : evs pc1 pc1 (pts 58 a) with
   | none => rw [hev] at key; exact key
   | some ns => rw [hev] at key; exact key
  cases hpa : piecesD false a with
  | none =>
   rw [hpa] at hleft
   simp only at hleft ⊢
   rw [if_neg hleft.1, hleft.2]
   split <;> rfl
  | some x =>
   rw [hpa] at hleft
   simp only at hleft ⊢
   by_cases h8 : x.length ≤ 8
   ·rw [if_pos h8] at hleft
    subst hleft
    simp only
    by_cases h8' : x.length = 8
    ·rw [if_pos h8', if_neg (by simp)]
     cases piecesD true b with
     | none => rfl
     | some y => simp only; rw [if_neg (by omega)]
    ·rw [if_neg h8', if_pos (by simp [List.isPrefixOf])]
     rw [show (58 :: 58 :: b : List UInt8).drop 2 = b from rfl]
     obtain ⟨B, hB⟩ : ∃ B, rowG rboth 58 (7 - x.length) (b.length + 2) [] b = B := ⟨_, rfl⟩
     rw [hB]
     by_cases hb : b = []
     ·subst hb
      have : B = ([], []) := by
       rw [← hB, rowG, if_neg (by simp), if_pos rfl]; rfl
      subst this
      rw [piecesD, if_pos rfl]
      simp only [if_true]
      rw [if_pos (by simp; omega)]
     have key := row_main (next := rboth) (sep := 58) (evI := pc1) (evL := both1) (most := 7 - x.length) (e := [])
      (K := fun _ => True) (Z := fun r => r ≠ [])
      (fun q R hq _ => both_reads_I q R hq) (fun q hq _ => both_reads_L q hq)
      (fun h => absurd rfl h) (fun c r _ => by simp) (fun q L _ => by simp) (fun q L _ => trivial)
      (b.length + 2) [] b trivial (by omega) (by simpa using hb)
     simp only [if_true, List.append_nil, List.length_nil, Nat.zero_add, List.nil_append] at key
     rw [hB] at key
     rw [piecesD, if_neg hb, if_pos rfl]
     cases hev : evs pc1 both1 (pts 58 b) with
     | none =>
      rw [hev] at key
      simp only at key ⊢
      rw [if_neg key]
     | some y =>
      rw [hev] at key
      simp only at key ⊢
      by_cases hy : y.length ≤ 7 - x.length
      ·rw [if_pos hy] at key
       subst key
       simp only [if_true]
       rw [if_pos (by omega)]
      ·rw [if_neg hy] at key
       rw [if_neg key, if_neg (by omega)]
   ·rw [if_neg h8] at hleft
    rw [if_neg hleft.1, hleft.2]
    cases piecesD true b with
    | none => simp
    | some y =>
     have h9 : ¬ x.length + y.length ≤ 7 := by omega
     simp [h9]

end Go.Proofs.YtcphokaamkalfaaGreatDoor
namespace Go.Proofs.YtcphokaamkalfaaGreatDoor
open Go.RowKit

/-- All blocks that were there are as they were, but those of X. -/
structure Kp (X : Nat → Prop) (w w' : World) : Prop where
 os : w'.os = w.os
 tape : w'.tape = w.tape
 output : w'.output = w.output
 size : w.heap.size ≤ w'.heap.size
 block : ∀ k, k < w.heap.size → ¬ X k → w'.heap[k]? = w.heap[k]?
theorem Kp.refl (X : Nat → Prop) (w : World) : Kp X w w := ⟨rfl, rfl, rfl, Nat.le_refl _, fun _ _ _ => rfl⟩
theorem Kp.trans {X : Nat → Prop} {a b c : World} (h : Kp X a b) (k : Kp X b c) : Kp X a c :=
 ⟨k.os.trans h.os, k.tape.trans h.tape, k.output.trans h.output, Nat.le_trans h.size k.size, fun i hi hx => (k.block i (Nat.lt_of_lt_of_le hi h.size) hx).trans (h.block i hi hx)⟩
theorem Kp.of_below {X : Nat → Prop} {a b : World} (h : Below a.heap.size a b) : Kp X a b := ⟨h.os, h.tape, h.output, h.size, fun k hk _ => h.block k hk⟩
theorem Kp.alloc {X : Nat → Prop} {a w : World} (h : Kp X a w) (o : Obj) : Kp X a (w.alloc o) := h.trans (.of_below ((Below.refl _ _).alloc (Nat.le_refl _) o))
theorem Kp.drewN {X : Nat → Prop} {a w : World} (h : Kp X a w) (n : Nat) : Kp X a (w.drewN n) := ⟨h.os, h.tape, h.output, h.size, h.block⟩
theorem Kp.drew {X : Nat → Prop} {a w : World} (h : Kp X a w) : Kp X a w.drew := ⟨h.os, h.tape, h.output, h.size, h.block⟩
theorem Kp.setCell {X : Nat → Prop} {a w : World} (h : Kp X a w) {p : Addr} (hp : X p.block) (u : Value) : Kp X a (w.setCell p u) :=
 h.trans ⟨rfl, rfl, rfl, by simp [World.setCell], fun k _ hx => Below.heap_setCell _ _ _ _ (fun e => hx (e ▸ hp))⟩
theorem Kp.setNew {X : Nat → Prop} {a w : World} (h : Kp X a w) {p : Addr} (hp : a.heap.size ≤ p.block) (u : Value) : Kp X a (w.setCell p u) :=
 ⟨h.os, h.tape, h.output, by simpa [World.setCell] using h.size, fun k hk hx => by
  rw [Below.heap_setCell _ _ _ _ (by omega)]; exact h.block k hk hx⟩
theorem Kp.mono {X Y : Nat → Prop} {a w : World} (h : Kp X a w) (hxy : ∀ k, X k → Y k) : Kp Y a w := ⟨h.os, h.tape, h.output, h.size, fun k hk hy => h.block k hk (fun hx => hy (hxy k hx))⟩
/-- A frame over new blocks alone. -/
theorem Kp.below {X : Nat → Prop} {a w : World} (h : Kp X a w) {B : Nat} (hB : B ≤ a.heap.size) (hX : ∀ k, X k → B ≤ k) : Below B a w := ⟨h.os, h.tape, h.output, h.size, fun k hk => h.block k (by omega) (fun hx => by have := hX k hx; omega)⟩
theorem Kp.cell {X : Nat → Prop} {a w : World} (h : Kp X a w) {p : Addr} {v : Value} (hc : a.cell? p = some v) (hx : ¬ X p.block) : w.cell? p = some v :=
 (World.cell?_of_block (w := a) (h.block p.block (block_lt_of_cell hc) hx)).trans hc
theorem Kp.at {X : Nat → Prop} {a w : World} (h : Kp X a w) {k : Nat} {o : Obj} (hc : a.heap[k]? = some o) (hx : ¬ X k) : w.heap[k]? = some o :=
 (h.block k (lt_of_block hc) hx).trans hc
theorem Kp.grown {X : Nat → Prop} {a w w' : World} {row : Option Nat} (h : Kp X a w) (hg : w.grownBy w' row) (hr : ∀ q, row = some q → a.heap.size ≤ q) : Kp X a w' :=
 ⟨hg.os.trans h.os, hg.tape.trans h.tape, hg.output.trans h.output, Nat.le_trans h.size hg.size, fun k hk hx => (hg.block k (Nat.lt_of_lt_of_le hk h.size) (fun e => by have := hr k e.symm; omega)).trans (h.block k hk hx)⟩
theorem own_kept {X : Nat → Prop} {w w' : World} {base : Nat} {e : TypeId} {size : Nat} {v : Value} {n : Nat} {xs : List Value} (h : w.ownsRow base e size v n xs) (k : Kp X w w') (hX : ∀ q, base ≤ q → ¬ X q) : w'.ownsRow base e size v n xs := by
 obtain ⟨h1, h2⟩ := h
 refine ⟨h1, ?_⟩
 rcases h2 with h2 | ⟨g, cap, cur, rfl, hg, hh, r⟩
 ·exact .inl h2
 ·exact .inr ⟨g, cap, cur, rfl, hg, k.at hh (hX g hg), r⟩

/-- One block alone. -/
def Only (b : Nat) : Nat → Prop := fun k => k = b
/-- A block that holds one value. -/
def Holds1 (w : World) (b : Nat) (t : TypeId) (v : Value) : Prop := w.heap[b]? = some (.cells #[v] t (0, 0))
theorem Holds1.cell {w : World} {b : Nat} {t : TypeId} {v : Value} (h : Holds1 w b t v) : w.cell? ⟨b, 0, none⟩ = some v := cell_of_one h
theorem Holds1.free {w : World} {b : Nat} {t : TypeId} {v : Value} (h : Holds1 w b t v) : w.frozen? ⟨b, 0, none⟩ = false := free_of_one h
theorem Holds1.lt {w : World} {b : Nat} {t : TypeId} {v : Value} (h : Holds1 w b t v) : b < w.heap.size := lt_of_block h
theorem Holds1.set {w : World} {b : Nat} {t : TypeId} {v : Value} (h : Holds1 w b t v) (u : Value) : Holds1 (w.setCell ⟨b, 0, none⟩ u) b t u := one_setCell h
theorem Holds1.kept {X : Nat → Prop} {w w' : World} {b : Nat} {t : TypeId} {v : Value} (h : Holds1 w b t v) (k : Kp X w w') (hx : ¬ X b) : Holds1 w' b t v := k.at h hx
theorem Holds1.alloc {w : World} {b : Nat} {t : TypeId} {v : Value} (h : Holds1 w b t v) (o : Obj) : Holds1 (w.alloc o) b t v := h.kept (X := fun _ => False) ((Kp.refl _ _).alloc o) id
theorem Holds1.new (w : World) (t : TypeId) (v : Value) : Holds1 (w.alloc (.cells #[v] t)) w.heap.size t v := heap_alloc_new w _
theorem Holds1.grown {w w' : World} {row : Option Nat} {b : Nat} {t : TypeId} {v : Value} (h : Holds1 w b t v) (hg : w.grownBy w' row) (hne : row ≠ some b) : Holds1 w' b t v :=
 (hg.block b h.lt (fun e => hne e.symm)).trans h

theorem wpL_store_row {P : Program} {ops : Array Oper} {rest : List Oper} {o : Oper} {a : Act} {w : World} {Q : Exit → Act → World → Prop} (hgd : o.guard = none) (ty : TypeId) (x y : Operand) (ho : o.op = .store ty x y)
  (g : Nat) (cells : Array Value) (hx : a.eval x = .pointer (some ⟨g, 0, none⟩)) (hy : a.eval y = .agg cells)
  (t : TypeId) (old : Array Value) (hg : w.heap[g]? = some (.cells old t (0, 0))) (hi : (P.info? ty).map (·.size) = some cells.size)
  (hold : old.size = cells.size) (h1 : cells.all (·.oneCell') = true)
  (h : wpList P ops Q rest (a.put o.dst undef) (w.setRow g cells)) : wpList P ops Q (o :: rest) a w :=
 wpList_plain hgd fun _ hK => wp_store_row ty x y ho g cells hx hy t old hg hi hold h1 (hK _ _ h)
theorem mkfK (fn : Fn) (first cap : Array Value) (w : World) : (Instr.makeFunc fn first cap).run Tryz.prog w = .ok (.func fn first cap) w := rfl
def k_iv (n : Nat) : Value := .int .i64 (n : Int)
theorem k_infoI : (Tryz.prog.info? 3).map (fun i => (i.zero, i.size, i.bytes)) = some (some (.int .i64 0), 1, 8) := by kernel_rfl

/-- Ints that lie in a block are put behind a row. -/
theorem k_appI (base q : Nat) (v : Value) (D : List Value) (cs : Array Value) (w : World) (hown : w.ownsRow base 3 1 v D.length D) (hq : w.heap[q]? = some (.cells cs 3 (0, 0))) (hD : D.length + cs.size ≤ 10000000) (h1 : ∀ u ∈ cs.toList, u.oneCell' = true) (hb : base ≤ w.heap.size) :
  ∃ v' w1, (Builtin.append_ #[79, 79] 79 #[v, .slice (some ⟨q, 0, none⟩) cs.size cs.size]).run Tryz.prog w = .ok v' w1 ∧ w1.ownsRow base 3 1 v' (D ++ cs.toList).length (D ++ cs.toList) ∧ w.grownBy w1 v.ownBlock := by
 obtain ⟨i0, hi, hz0, hz1, hz2⟩ := info_parts k_infoI
 have hnews : ∀ j u, cs.toList[j]? = some u → w.cell? ((⟨q, 0, none⟩ : Addr).add j) = some u :=
  World.news_of_block (cs := cs) (t := 3) (fr := (0, 0)) hq
 obtain ⟨v', w1, hrun, hown', hgrow, _⟩ := run_append_own (P := Tryz.prog) w base 79 79 3 i0 (.int .i64 0) 1 8 Tryz.underlying79 hi hz0 hz1 hz2 rfl (by decide)
  v D.length D hown ⟨q, 0, none⟩ cs.size cs.size cs.toList (by simp) hnews h1 (by unfold maxLen; omega) (by omega) hb
 refine ⟨v', w1, hrun, ?_, hgrow⟩
 rw [List.length_append, Array.length_toList]; exact hown'

end Go.Proofs.YtcphokaamkalfaaGreatDoor
namespace Go.Proofs.YtcphokaamkalfaaGreatDoor
open Go.RowKit

def asB (l : List UInt8) : ByteArray := ⟨l.toArray⟩
theorem asB_data (l : List UInt8) : (asB l).data.toList = l := rfl
theorem asB_back (t : ByteArray) : asB t.data.toList = t := rfl
theorem asB_size (l : List UInt8) : (asB l).size = l.length := rfl
theorem lenB (t : ByteArray) : t.data.toList.length = t.size := by simp
theorem ext_asB (t : ByteArray) (k : Nat) : t.extract k t.size = asB (t.data.toList.drop k) := by
 apply ByteArray.ext
 apply Array.toList_inj.1
 have hl := lenB t
 rw [asB_data, ByteArray.data_extract, Array.toList_extract, List.extract_eq_take_drop, List.take_of_length_le (by rw [List.length_drop]; omega)]

end Go.Proofs.YtcphokaamkalfaaGreatDoor
