/-
  Plain words on addresses: digits, numbers, parts, rows that are cut off a text. Of no program.
-/
import Derived.Test.YtjalbfgdhmkclaaPcM
namespace Go.Proofs.Ytjalbfgdhmkclaa
open Go.RowKit

/-- Puts a byte ahead of the first part. -/
def ahd (c : UInt8) : List (List UInt8) → List (List UInt8)
  | [] => [[c]]
  | p :: ps => (c :: p) :: ps
/-- What stands between the bytes a. -/
def pts (a : UInt8) : List UInt8 → List (List UInt8)
  | [] => [[]]
  | c :: l => if c = a then [] :: pts a l else ahd c (pts a l)
theorem pts_ne (a : UInt8) (l : List UInt8) : pts a l ≠ [] := by
  cases l with
  | nil => simp [pts]
  | cons c l =>
    rw [pts]; split
    · simp
    · cases pts a l <;> simp [ahd]
theorem pts_append (a : UInt8) (r : List UInt8) : ∀ l : List UInt8, pts a (l ++ a :: r) = pts a l ++ pts a r
  | [] => by simp [pts]
  | c :: l => by
    have ih := pts_append a r l
    rw [List.cons_append, pts, pts, ih]
    by_cases h : c = a
    · rw [if_pos h, if_pos h]; rfl
    · rw [if_neg h, if_neg h]
      have hne := pts_ne a l
      cases e : pts a l with
      | nil => contradiction
      | cons q qs => rfl
theorem pts_none (a : UInt8) : ∀ (l : List UInt8), (∀ c ∈ l, c ≠ a) → pts a l = [l]
  | [], _ => rfl
  | c :: l, h => by
    rw [pts, if_neg (h c List.mem_cons_self), pts_none a l fun x hx => h x (List.mem_cons_of_mem _ hx)]; rfl
theorem pts_front (a : UInt8) (q r : List UInt8) (h : ∀ c ∈ q, c ≠ a) : pts a (q ++ a :: r) = q :: pts a r := by
  rw [pts_append, pts_none a q h]; rfl
/-- A text has no such byte, or a first part. -/
theorem pts_cut (a : UInt8) : ∀ l : List UInt8, (∀ c ∈ l, c ≠ a) ∨ ∃ q r, l = q ++ a :: r ∧ ∀ c ∈ q, c ≠ a
  | [] => .inl (by simp)
  | c :: l => by
    by_cases h : c = a
    · exact .inr ⟨[], l, by rw [h]; rfl, by simp⟩
    · rcases pts_cut a l with h' | ⟨q, r, rfl, hq⟩
      · exact .inl fun x hx => by
          rcases List.mem_cons.1 hx with rfl | hx
          · exact h
          · exact h' x hx
      · refine .inr ⟨c :: q, r, rfl, fun x hx => ?_⟩
        rcases List.mem_cons.1 hx with rfl | hx
        · exact h
        · exact hq x hx

/-- Is a byte a digit by a base? What digits tell, 2^32 at most. -/
def dig (b : Nat) (c : UInt8) : Bool := decide (hexV c < b)
def stp (b n : Nat) (c : UInt8) : Nat := min 4294967296 (n * b + hexV c)
def fol (b : Nat) (l : List UInt8) : Nat := l.foldl (stp b) 0
def cnt (b : Nat) (l : List UInt8) : Option Nat := if l.all (dig b) then some (fol b l) else none
theorem fol_snoc (b : Nat) (l : List UInt8) (c : UInt8) : fol b (l ++ [c]) = stp b (fol b l) c := by simp [fol]
theorem fol_le (b : Nat) (l : List UInt8) : fol b l ≤ 4294967296 := by
  refine snocInd (P := fun l => fol b l ≤ 4294967296) (by simp [fol]) (fun l c _ => ?_) l
  rw [fol_snoc, stp]; omega
theorem dig46 {b : Nat} (h : b ≤ 16) : dig b 46 = false := by
  have : hexV 46 = 16 := by decide
  simp [dig, this]; omega
theorem dig58 {b : Nat} (h : b ≤ 16) : dig b 58 = false := by
  have : hexV 58 = 16 := by decide
  simp [dig, this]; omega
/-- The digits ahead. -/
def dgs (b : Nat) (l : List UInt8) : List UInt8 := l.takeWhile (dig b)
theorem dgs_drop (b : Nat) (l : List UInt8) : l.drop (dgs b l).length = l.dropWhile (dig b) := by
  have h := List.takeWhile_append_dropWhile (p := dig b) (l := l)
  have := congrArg (List.drop (dgs b l).length) h
  rw [show dgs b l = List.takeWhile (dig b) l from rfl, List.drop_left' rfl] at this
  exact this.symm
theorem dgs_len (b : Nat) (l : List UInt8) : (dgs b l).length ≤ l.length := (List.takeWhile_sublist _).length_le
/-- All of a part are digits: they are the digits ahead of what is none. -/
theorem dgs_all {b : Nat} {q R : List UInt8} (hq : q.all (dig b) = true) (hR : ∀ c, R.head? = some c → dig b c = false) : dgs b (q ++ R) = q ∧ (q ++ R).dropWhile (dig b) = R := by
  have hq' : ∀ x ∈ q, dig b x = true := by simpa using hq
  constructor
  · unfold dgs
    rw [List.takeWhile_append_of_pos hq']
    cases R with
    | nil => simp
    | cons c R => simp [hR c rfl]
  · rw [List.dropWhile_append_of_pos hq']
    cases R with
    | nil => simp
    | cons c R => simp [hR c rfl]
/-- One of a part is none: the digits ahead end within it. -/
theorem dgs_some {b : Nat} {q : List UInt8} (R : List UInt8) (hq : q.all (dig b) = false) : ∃ c r, dig b c = false ∧ c ∈ q ∧ dgs b (q ++ R) = dgs b q ∧ (q ++ R).dropWhile (dig b) = c :: r := by
  induction q with
  | nil => simp at hq
  | cons x q ih =>
    cases hx : dig b x
    · exact ⟨x, q ++ R, hx, List.mem_cons_self, by simp [dgs, hx], by simp [hx]⟩
    · rw [List.all_cons, hx, Bool.true_and] at hq
      obtain ⟨c, r, h1, h2, h3, h4⟩ := ih hq
      exact ⟨c, r, h1, List.mem_cons_of_mem _ h2, by simp only [dgs] at h3 ⊢; simp [hx, h3], by simp [hx, h4]⟩

/-- Reads as long as there is more, and room for it; what stands between is left, if nothing is read behind it. -/
def rowG (next : List UInt8 → Option (List Nat × List UInt8)) (sep : UInt8) (most : Nat) : Nat → List Nat → List UInt8 → List Nat × List UInt8
  | 0, out, l => (out, l)
  | f + 1, out, l =>
    if out ≠ [] ∧ l.head? ≠ some sep then (out, l)
    else match next (if out = [] then l else l.drop 1) with
      | none => (out, l)
      | some (ns, r) => if most < out.length + ns.length then (out, l) else rowG next sep most f (out ++ ns) r

/-- The parts, one by one; the last one otherwise than the others. -/
def evs (evI evL : List UInt8 → Option (List Nat)) : List (List UInt8) → Option (List Nat)
  | [] => none
  | [q] => evL q
  | q :: Q => match evI q with
    | none => none
    | some ns => match evs evI evL Q with
      | none => none
      | some ms => some (ns ++ ms)
theorem evs_cons (evI evL : List UInt8 → Option (List Nat)) (q : List UInt8) {Q : List (List UInt8)} (h : Q ≠ []) : evs evI evL (q :: Q) = match evI q with
    | none => none
    | some ns => match evs evI evL Q with
      | none => none
      | some ms => some (ns ++ ms) := by
  cases Q with
  | nil => contradiction
  | cons p Q => rfl

/-- What is known of a way to read a part, ahead of R. -/
def Reads (next : List UInt8 → Option (List Nat × List UInt8)) (sep : UInt8) (ev : List UInt8 → Option (List Nat)) (q R : List UInt8) : Prop :=
  match ev q with
  | some ns => next (q ++ R) = some (ns, R) ∧ ns ≠ []
  | none => next (q ++ R) = none ∨ ∃ ns c r, next (q ++ R) = some (ns, c :: r) ∧ c ≠ sep ∧ ns ≠ []

theorem row_main {next : List UInt8 → Option (List Nat × List UInt8)} {sep : UInt8} {evI evL : List UInt8 → Option (List Nat)} {most : Nat} {e : List UInt8} {K Z : List UInt8 → Prop}
    (hI : ∀ q R, (∀ c ∈ q, c ≠ sep) → (K q ∨ ∃ r, K (q ++ sep :: r)) → Reads next sep evI q (sep :: R)) (hL : ∀ q, (∀ c ∈ q, c ≠ sep) → K q → Reads next sep evL q e)
    (he : e ≠ [] → e.head? = some sep ∧ next (e.drop 1) = none)
    (z1 : ∀ c r, c ≠ sep → Z (c :: r)) (z2 : ∀ q L, K (q ++ sep :: L) → Z (sep :: (L ++ e))) (hK : ∀ q L, K (q ++ sep :: L) → K L) :
    ∀ (f : Nat) (out : List Nat) (L : List UInt8), K L → L.length + 1 < f → Z ((if out = [] then L else sep :: L) ++ e) →
      match evs evI evL (pts sep L) with
      | some ns => if out.length + ns.length ≤ most then rowG next sep most f out ((if out = [] then L else sep :: L) ++ e) = (out ++ ns, e) else Z (rowG next sep most f out ((if out = [] then L else sep :: L) ++ e)).2
      | none => Z (rowG next sep most f out ((if out = [] then L else sep :: L) ++ e)).2 := by
  intro f
  induction f with
  | zero => intro out L _ h; omega
  | succ f ih =>
    intro out L hKL hf hz
    have hhd : ¬ (out ≠ [] ∧ ((if out = [] then L else sep :: L) ++ e).head? ≠ some sep) := by
      rintro ⟨h1, h2⟩; rw [if_neg h1] at h2; exact h2 rfl
    have hnx : (if out = [] then ((if out = [] then L else sep :: L) ++ e) else ((if out = [] then L else sep :: L) ++ e).drop 1) = L ++ e := by
      split <;> simp_all
    have hgo : ∀ ns r, next (L ++ e) = some (ns, r) → rowG next sep most (f + 1) out ((if out = [] then L else sep :: L) ++ e) = if most < out.length + ns.length then (out, (if out = [] then L else sep :: L) ++ e) else rowG next sep most f (out ++ ns) r := by
      intro ns r h
      rw [rowG, if_neg hhd, hnx, h]
    have hno : next (L ++ e) = none → rowG next sep most (f + 1) out ((if out = [] then L else sep :: L) ++ e) = (out, (if out = [] then L else sep :: L) ++ e) := by
      intro h
      rw [rowG, if_neg hhd, hnx, h]
    have hout : ∀ (ns : List Nat) (c : UInt8) (r : List UInt8), ns ≠ [] → c ≠ sep → next (L ++ e) = some (ns, c :: r) → Z (rowG next sep most (f + 1) out ((if out = [] then L else sep :: L) ++ e)).2 := by
      intro ns c r hns hc h
      rw [hgo _ _ h]
      split
      · exact hz
      · cases f with
        | zero => exact z1 c r hc
        | succ f =>
          rw [rowG, if_pos ⟨by simp [hns], by simpa using hc⟩]
          exact z1 c r hc
    rcases pts_cut sep L with hn | ⟨q, L', rfl, hq⟩
    · rw [pts_none sep L hn]
      have h := hL L hn hKL
      unfold Reads at h
      rw [show evs evI evL [L] = evL L from rfl]
      cases hev : evL L with
      | none =>
        rw [hev] at h
        rcases h with h | ⟨ns, c, r, h1, h2, h3⟩
        · simp only; rw [hno h]; exact hz
        · exact hout ns c r h3 h2 h1
      | some ns =>
        rw [hev] at h
        obtain ⟨h1, h2⟩ := h
        simp only
        rw [hgo _ _ h1]
        by_cases hm : out.length + ns.length ≤ most
        · rw [if_pos hm, if_neg (by omega)]
          obtain ⟨f, rfl⟩ : ∃ g, f = g + 1 := ⟨f - 1, by omega⟩
          by_cases hee : e = []
          · subst hee
            rw [rowG, if_pos ⟨by simp [h2], by simp⟩]
          · obtain ⟨e1, e2⟩ := he hee
            rw [rowG, if_neg (fun hx => hx.2 e1), if_neg (by simp [h2]), e2]
        · rw [if_neg hm, if_pos (by omega)]; exact hz
    · rw [pts_front sep q L' hq, evs_cons _ _ _ (pts_ne _ _)]
      have h := hI q (L' ++ e) hq (.inr ⟨L', hKL⟩)
      unfold Reads at h
      rw [show q ++ sep :: (L' ++ e) = q ++ sep :: L' ++ e by simp] at h
      have hKL' := hK q L' hKL
      cases hev : evI q with
      | none =>
        rw [hev] at h
        rcases h with h | ⟨ns, c, r, h1, h2, h3⟩
        · simp only; rw [hno h]; exact hz
        · exact hout ns c r h3 h2 h1
      | some ns =>
        rw [hev] at h
        obtain ⟨h1, h2⟩ := h
        simp only
        rw [hgo _ _ h1]
        have hne : out ++ ns ≠ [] := by simp [h2]
        by_cases hm : most < out.length + ns.length
        · rw [if_pos hm]
          cases evs evI evL (pts sep L') with
          | none => exact hz
          | some ms =>
            simp only
            rw [if_neg (by simp; omega)]; exact hz
        · rw [if_neg hm]
          have := ih (out ++ ns) L' hKL' (by simp at hf; omega) (by rw [if_neg hne]; exact z2 q L' hKL)
          rw [if_neg hne] at this
          cases hev2 : evs evI evL (pts sep L') with
          | none => rw [hev2] at this; exact this
          | some ms =>
            rw [hev2] at this
            simp only at this ⊢
            rw [List.length_append] at this
            rw [List.length_append, ← Nat.add_assoc]
            rw [← List.append_assoc]
            exact this

end Go.Proofs.Ytjalbfgdhmkclaa
