/-
  Plain words on the document's reading of sixteen bytes: four bytes, pieces, where nothing stands.
-/
import Derived.Test.YtgcebachahodgaaAdS
import Derived.Test.YtgcebachahodgaaAdB
namespace Go.Proofs.Ytgcebachahodgaa
open Go.RowKit

theorem evs_none {f : List UInt8 → Option (List Nat)} : ∀ Q : List (List UInt8), (∃ q ∈ Q, f q = none) → evs f f Q = none
  | [], ⟨q, h, _⟩ => by cases h
  | [q], ⟨p, h, hp⟩ => by rw [List.mem_singleton.1 h] at hp; exact hp
  | q :: p :: Q, ⟨x, h, hx⟩ => by
    rw [evs_cons _ _ _ (by simp)]
    rcases List.mem_cons.1 h with rfl | h
    · rw [hx]
    · rw [evs_none (p :: Q) ⟨x, h, hx⟩]
      cases f q <;> rfl
theorem evs_each {f : List UInt8 → Option (List Nat)} : ∀ (Q : List (List UInt8)) (ns : List Nat), Q ≠ [] → Q.map f = ns.map (fun n => some [n]) → evs f f Q = some ns
  | [], _, h, _ => absurd rfl h
  | [q], ns, _, h => by
    match ns, h with
    | [n], h => have : f q = some [n] := by simpa using h
                exact this
    | [], h => simp at h
    | _ :: _ :: _, h => simp at h
  | q :: p :: Q, ns, _, h => by
    match ns, h with
    | n :: ns, h =>
      obtain ⟨e1, e2⟩ := List.cons.inj (show f q :: (p :: Q).map f = some [n] :: ns.map (fun n => some [n]) from h)
      rw [evs_cons _ _ _ (by simp), evs_each (p :: Q) ns (by simp) e2, e1]; rfl
    | [], h => simp at h
theorem evs_len1 {f : List UInt8 → Option (List Nat)} (hf : ∀ q ns, f q = some ns → ns.length = 1) : ∀ (Q : List (List UInt8)) (ns : List Nat), evs f f Q = some ns → ns.length = Q.length
  | [], ns, h => by cases h
  | [q], ns, h => hf q ns h
  | q :: p :: Q, ns, h => by
    rw [evs_cons _ _ _ (by simp)] at h
    cases h1 : f q with
    | none => rw [h1] at h; cases h
    | some a =>
      rw [h1] at h
      cases h2 : evs f f (p :: Q) with
      | none => rw [h2] at h; cases h
      | some b =>
        rw [h2] at h
        have h := Option.some.inj h
        rw [← h, List.length_append, hf q a h1, evs_len1 hf (p :: Q) b h2]; simp; omega
theorem sm1_is {q : List UInt8} {ns : List Nat} (h : sm1 q = some ns) : ∃ n, ns = [n] ∧ n ≤ 255 := by
  unfold sm1 at h
  split at h
  · cases h
  · split at h
    · split at h
      · cases h
      · rename_i n _ hn
        injection h with h
        exact ⟨n, h.symm, by omega⟩
    · cases h
theorem sm1_bad1 {q : List UInt8} (h : cnt 10 q = none) : sm1 q = none := by
  unfold sm1; rw [h]; split <;> rfl
theorem sm1_bad2 {q : List UInt8} (h : q = []) : sm1 q = none := by subst h; rfl
theorem sm1_bad3 {q : List UInt8} (h1 : 1 < q.length) (h2 : q.head? = some 48) : sm1 q = none := by
  unfold sm1; rw [if_pos (.inr ⟨h1, h2⟩)]
theorem sm1_bad4 {q : List UInt8} {n : Nat} (h1 : cnt 10 q = some n) (h2 : 255 < n) : sm1 q = none := by
  unfold sm1; rw [h1]; simp [h2]
theorem sm1_good {q : List UInt8} {n : Nat} (h0 : q ≠ []) (h1 : ¬ (1 < q.length ∧ q.head? = some 48)) (h2 : cnt 10 q = some n) (h3 : ¬ 255 < n) : sm1 q = some [n] := by
  unfold sm1
  rw [if_neg (by rintro (h | h); exact h0 h; exact h1 h), h2]; simp [h3]
theorem sm1_val {q : List UInt8} {ms : List Nat} (h : sm1 q = some ms) : ∃ n, cnt 10 q = some n ∧ ms = [n] ∧ n ≤ 255 := by
  unfold sm1 at h
  split at h
  · cases h
  · split at h
    · split at h
      · cases h
      · rename_i n hn h3
        injection h with h
        exact ⟨n, hn, h.symm, by omega⟩
    · cases h
/-- Four bytes with points. -/
def byt (q : List UInt8) : Option (List Nat) := match evs sm1 sm1 (pts 46 q) with
  | some ns => if ns.length = 4 then some ns else none
  | none => none
theorem four1_byt (q : List UInt8) : four1 q = match byt q with
    | some ns => two4 ns
    | none => none := by
  unfold four1 byt
  cases evs sm1 sm1 (pts 46 q) with
  | none => rfl
  | some ns =>
    simp only
    by_cases h : ns.length = 4
    · rw [if_pos h]
    · rw [if_neg h]
      match ns, h with
      | [], _ => rfl
      | [_], _ => rfl
      | [_, _], _ => rfl
      | [_, _, _], _ => rfl
      | [_, _, _, _], h => simp at h
      | _ :: _ :: _ :: _ :: _ :: _, _ => rfl
theorem byt_few {q : List UInt8} (h : (pts 46 q).length ≠ 4) : byt q = none := by
  unfold byt
  cases h2 : evs sm1 sm1 (pts 46 q) with
  | none => rfl
  | some ns =>
    simp only
    rw [if_neg]
    rw [evs_len1 (fun q ns h => by obtain ⟨n, rfl, _⟩ := sm1_is h; rfl) _ _ h2]; exact h
theorem byt_none {q : List UInt8} (h : ∃ p ∈ pts 46 q, sm1 p = none) : byt q = none := by
  unfold byt; rw [evs_none _ h]
theorem byt_some {q : List UInt8} {ns : List Nat} (h4 : ns.length = 4) (h : (pts 46 q).map sm1 = ns.map (fun n => some [n])) : byt q = some ns := by
  unfold byt
  rw [evs_each _ ns (by
    intro e
    rw [e] at h
    have := congrArg List.length h
    simp [h4] at this) h]
  simp [h4]

theorem pts_mem_len (a : UInt8) : ∀ (l p : List UInt8), p ∈ pts a l → p.length ≤ l.length := by
  intro l
  induction l with
  | nil => intro p hp; simp [pts] at hp; subst hp; simp
  | cons c l ih =>
    intro p hp
    rw [pts] at hp
    split at hp
    · rcases List.mem_cons.1 hp with rfl | hp
      · simp
      · have := ih p hp; simp; omega
    · cases h : pts a l with
      | nil => exact absurd h (pts_ne a l)
      | cons x y =>
        rw [h] at hp ih
        rcases List.mem_cons.1 hp with rfl | hp
        · have := ih x List.mem_cons_self; simp; omega
        · have := ih p (List.mem_cons_of_mem _ hp); simp; omega

/-- While pieces are read: k of them have told ns. -/
def PcS (f g : List UInt8 → Option (List Nat)) (Q : List (List UInt8)) (k : Nat) (ns : List Nat) : Prop :=
  (k < Q.length → evs f g Q = (evs f g (Q.drop k)).map (ns ++ ·)) ∧ (k = Q.length → evs f g Q = some ns)
theorem pcS_zero {f g : List UInt8 → Option (List Nat)} {Q : List (List UInt8)} (h : Q ≠ []) : PcS f g Q 0 [] :=
  ⟨fun _ => by rw [List.drop_zero]; cases evs f g Q <;> rfl, fun e => absurd (List.eq_nil_of_length_eq_zero e.symm) h⟩
theorem pcS_on {f g : List UInt8 → Option (List Nat)} {Q : List (List UInt8)} {k : Nat} {ns ms : List Nat} (h : PcS f g Q k ns) (hk : k < Q.length) (h1 : k + 1 < Q.length → f Q[k] = some ms) (h2 : k + 1 = Q.length → g Q[k] = some ms) : PcS f g Q (k + 1) (ns ++ ms) := by
  have h0 := h.1 hk
  rw [List.drop_eq_getElem_cons hk] at h0
  refine ⟨fun hl => ?_, fun he => ?_⟩
  · rw [h0, evs_cons _ _ _ (by intro e; have := congrArg List.length e; simp at this; omega), h1 hl]
    cases evs f g (Q.drop (k + 1)) with
    | none => rfl
    | some x => simp
  · rw [h0, List.drop_of_length_le (by omega)]
    show (g Q[k]).map _ = _
    rw [h2 he]; rfl
theorem pcS_no {f g : List UInt8 → Option (List Nat)} {Q : List (List UInt8)} {k : Nat} {ns : List Nat} (h : PcS f g Q k ns) (hk : k < Q.length) (h1 : k + 1 < Q.length → f Q[k] = none) (h2 : k + 1 = Q.length → g Q[k] = none) : evs f g Q = none := by
  have h0 := h.1 hk
  rw [List.drop_eq_getElem_cons hk] at h0
  rw [h0]
  by_cases hl : k + 1 < Q.length
  · rw [evs_cons _ _ _ (by intro e; have := congrArg List.length e; simp at this; omega), h1 hl]; rfl
  · rw [List.drop_of_length_le (by omega)]
    show (g Q[k]).map _ = _
    rw [h2 (by omega)]; rfl

/-- No two colons together up to k. -/
theorem cut2_clear : ∀ l : List UInt8, (∀ i, i + 1 < l.length → ¬ (l[i]? = some 58 ∧ l[i + 1]? = some 58)) → cut2 l = none
  | [], _ => rfl
  | c :: l, h => by
    rw [cut2, if_neg, cut2_clear l (fun i hi hc => h (i + 1) (by simp; omega) (by simpa using hc))]
    intro hp
    cases l with
    | nil => simp [List.isPrefixOf] at hp
    | cons d l =>
      simp [List.isPrefixOf] at hp
      exact h 0 (by simp) (by simp [hp.1.symm, hp.2.symm])
theorem cut2_at : ∀ (l : List UInt8) (k : Nat), k + 1 < l.length → l[k]? = some 58 → l[k + 1]? = some 58 → (∀ i, i < k → ¬ (l[i]? = some 58 ∧ l[i + 1]? = some 58)) → cut2 l = some (l.take k, l.drop (k + 2))
  | [], k, h, _, _, _ => by simp at h
  | c :: l, 0, h, h1, h2, _ => by
    rw [cut2, if_pos]
    · rfl
    · cases l with
      | nil => simp at h
      | cons d l =>
        simp at h1 h2
        subst h1; subst h2
        simp [List.isPrefixOf]
  | c :: l, k + 1, h, h1, h2, hn => by
    rw [cut2, if_neg, cut2_at l k (by simpa using h) (by simpa using h1) (by simpa using h2) (fun i hi hc => hn (i + 1) (by omega) (by simpa using hc))]
    · simp
    · intro hp
      cases l with
      | nil => simp [List.isPrefixOf] at hp
      | cons d l =>
        simp [List.isPrefixOf] at hp
        exact hn 0 (by omega) (by simp [hp.1.symm, hp.2.symm])

end Go.Proofs.Ytgcebachahodgaa
