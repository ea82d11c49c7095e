/-
  What few letters say, as the document counts: the same, as long as there are at most a thousand signs.
-/
import Derived.Test.YtgmjfnddeogfdaaDoorPnN
namespace Go.Proofs.YtgmjfnddeogfdaaDoor
open Go.RowKit

theorem rdN_more (bias c : Nat) : ∀ (r : List UInt8) (i w a n m : Nat), rdN bias r i w (a + c) = some (n, m) → c ≤ n ∧ rdN bias r i w a = some (n - c, m)
  | [], _, _, _, _, _, h => by simp [rdN] at h
  | d :: r, i, w, a, n, m, h => by
    rw [rdN] at h ⊢
    cases hd : digV d with
    | none => rw [hd] at h; simp at h
    | some x =>
      rw [hd] at h
      simp only at h ⊢
      split at h
      · simp at h
      · rw [if_neg (by omega)]
        split at h
        · rename_i hx
          rw [if_pos hx]
          simp at h ⊢
          omega
        · rename_i hx
          rw [if_neg hx]
          rw [show a + c + x * w = a + x * w + c by omega] at h
          exact rdN_more bias c r _ _ _ n m h
theorem rdN_less (bias c : Nat) : ∀ (r : List UInt8) (i w a : Nat), rdN bias r i w (a + c) = none → rdN bias r i w a = none ∨ ∃ n m, rdN bias r i w a = some (n, m) ∧ 2147483647 < n + c
  | [], _, _, _, _ => .inl rfl
  | d :: r, i, w, a, h => by
    rw [rdN] at h ⊢
    cases hd : digV d with
    | none => exact .inl rfl
    | some x =>
      rw [hd] at h
      simp only at h ⊢
      by_cases h1 : 2147483647 < a + x * w
      · rw [if_pos h1]; exact .inl rfl
      · rw [if_neg h1]
        by_cases h2 : 2147483647 < a + c + x * w
        · by_cases h3 : x < stepN (36 * (i + 1)) bias
          · rw [if_pos h3]
            exact .inr ⟨_, _, rfl, by omega⟩
          · rw [if_neg h3]
            cases hq : rdN bias r (i + 1) (w * (36 - stepN (36 * (i + 1)) bias)) (a + x * w) with
            | none => exact .inl rfl
            | some q =>
              obtain ⟨n, m⟩ := q
              have := rdN_bd bias _ _ _ _ _ _ hq
              exact .inr ⟨n, m, rfl, by omega⟩
        · rw [if_neg h2] at h
          by_cases h3 : x < stepN (36 * (i + 1)) bias
          · rw [if_pos h3] at h; simp at h
          · rw [if_neg h3] at h ⊢
            rw [show a + c + x * w = a + x * w + c by omega] at h
            exact rdN_less bias c r _ _ _ h

/-- As the document counts: a number is added to the place that was reached. -/
def decR : Nat → List Nat → List UInt8 → Nat → Nat → Nat → Bool → Option (List Nat)
  | 0, l, r, _, _, _, _ => if r = [] then some l else none
  | f + 1, l, r, place, sign, bias, first =>
    if r = [] then some l else
    match rdN bias r 0 1 place with
    | none => none
    | some (n, m) =>
      if badS (sign + n / (l.length + 1)) then none
      else decR f (insN l (n % (l.length + 1)) (sign + n / (l.length + 1))) (r.drop m) (n % (l.length + 1) + 1) (sign + n / (l.length + 1)) (nb (n - place) (l.length + 1) first) false
theorem decR_nil (f : Nat) (l : List Nat) (place sign bias : Nat) (first : Bool) : decR f l [] place sign bias first = some l := by
  cases f <;> simp [decR]
theorem decR_none {f : Nat} {l : List Nat} {r : List UInt8} {place sign bias : Nat} {first : Bool} (hr : r ≠ []) (h : rdN bias r 0 1 place = none) : decR (f + 1) l r place sign bias first = none := by
  rw [decR, if_neg hr, h]
theorem decR_bad {f : Nat} {l : List Nat} {r : List UInt8} {place sign bias n m : Nat} {first : Bool} (hr : r ≠ []) (h : rdN bias r 0 1 place = some (n, m)) (hb : badS (sign + n / (l.length + 1)) = true) :
    decR (f + 1) l r place sign bias first = none := by
  rw [decR, if_neg hr, h]; simp [hb]
theorem decR_on {f : Nat} {l : List Nat} {r : List UInt8} {place sign bias n m : Nat} {first : Bool} (hr : r ≠ []) (h : rdN bias r 0 1 place = some (n, m)) (hb : badS (sign + n / (l.length + 1)) = false) :
    decR (f + 1) l r place sign bias first = decR f (insN l (n % (l.length + 1)) (sign + n / (l.length + 1))) (r.drop m) (n % (l.length + 1) + 1) (sign + n / (l.length + 1)) (nb (n - place) (l.length + 1) first) false := by
  rw [decR, if_neg hr, h]; simp [hb]

theorem decR_eq : ∀ (f : Nat) (l : List Nat) (r : List UInt8) (place sign bias : Nat) (first : Bool), l.length + r.length ≤ 1900 → decR f l r place sign bias first = decL f l r place sign bias first
  | 0, _, _, _, _, _, _, _ => rfl
  | f + 1, l, r, place, sign, bias, first, hl => by
    by_cases hr : r = []
    · subst hr; rw [decR_nil, decL_nil]
    · have hrl : 0 < r.length := List.length_pos_iff.2 hr
      cases h : rdN bias r 0 1 place with
      | none =>
        rw [decR_none hr h]
        have h' := h
        rw [← Nat.zero_add place] at h'
        rcases rdN_less bias place r 0 1 0 h' with h2 | ⟨n, m, h2, h3⟩
        · rw [decL_none hr h2]
        · rw [decL_bad hr h2]
          rw [badS_true]
          left
          have h4 : 2147483648 / 1901 ≤ (place + n) / (l.length + 1) := by
            refine Nat.le_trans (Nat.div_le_div_left (show l.length + 1 ≤ 1901 by omega) (by omega)) (Nat.div_le_div_right (by omega))
          have : 2147483648 / 1901 = 1129659 := by decide
          omega
      | some q =>
        obtain ⟨n, m⟩ := q
        have h' := h
        rw [← Nat.zero_add place] at h'
        obtain ⟨hc, h2⟩ := rdN_more bias place r 0 1 0 n m h'
        have hbd := rdN_bd bias _ _ _ _ _ _ h
        have e : place + (n - place) = n := by omega
        cases hb : badS (sign + n / (l.length + 1)) with
        | true => rw [decR_bad hr h hb, decL_bad hr h2 (by rw [e]; exact hb)]
        | false =>
          rw [decR_on hr h hb, decL_on hr h2 (by rw [e]; exact hb), e]
          refine decR_eq f _ _ _ _ _ _ ?_
          rw [insN_length, List.length_drop]; omega

end Go.Proofs.YtgmjfnddeogfdaaDoor
