/-
  Plain words on paths of sites: when a path matches another one, and its usual one.
-/
import Derived.Test.YtldddgmhmolohaaMpA
namespace Go.Proofs.Ytldddgmhmolohaa

/-- Whether a path matches another one. -/
def pmchL (p c : List UInt8) : Bool :=
  decide (p = c) || (decide (c <+: p) && (decide (c.length < p.length) && (decide (c.getLast? = some 47) || decide (p[c.length]? = some 47))))
/-- The last slash among the first ones, nought if there is none. -/
def lastK (p : List UInt8) : Nat → Nat
  | 0 => 0
  | k + 1 => if p[k]? = some 47 then k else lastK p k
/-- The usual one of a path. -/
def usualL (p : List UInt8) : List UInt8 :=
  if p.head? = some 47 ∧ lastK p p.length ≠ 0 then p.take (lastK p p.length) else [47]

theorem lastK_lt (p : List UInt8) : ∀ k, lastK p k ≠ 0 → lastK p k < k ∧ p[lastK p k]? = some 47
  | 0, h => absurd rfl h
  | k + 1, h => by
    rw [lastK] at h ⊢
    by_cases e : p[k]? = some 47
    · rw [if_pos e]; exact ⟨Nat.lt_succ_self _, e⟩
    · rw [if_neg e] at h ⊢
      have := lastK_lt p k h
      exact ⟨Nat.lt_succ_of_lt this.1, this.2⟩
theorem lastK_none (p : List UInt8) (k : Nat) (h : ∀ j, j < k → p[j]? ≠ some 47) : lastK p k = 0 := by
  induction k with
  | zero => rfl
  | succ k ih => rw [lastK, if_neg (h k (Nat.lt_succ_self _))]; exact ih (fun j hj => h j (Nat.lt_succ_of_lt hj))
/-- The last slash, told by what stands behind it. -/
theorem lastK_at (p : List UInt8) (i : Nat) (hi : p[i]? = some 47) : ∀ k, i < k → (∀ j, i < j → j < k → p[j]? ≠ some 47) → lastK p k = i
  | 0, h, _ => absurd h (Nat.not_lt_zero _)
  | k + 1, h, hn => by
    rw [lastK]
    by_cases e : i = k
    · subst e; rw [if_pos hi]
    · rw [if_neg (hn k (by omega) (Nat.lt_succ_self _))]
      exact lastK_at p i hi k (by omega) (fun j h1 h2 => hn j h1 (Nat.lt_succ_of_lt h2))

theorem pmchL_iff (p c : List UInt8) : pmchL p c = true ↔ p = c ∨ (c <+: p ∧ c.length < p.length ∧ (c.getLast? = some 47 ∨ p[c.length]? = some 47)) := by
  simp [pmchL]
theorem pmchL_self (p : List UInt8) : pmchL p p = true := (pmchL_iff p p).2 (.inl rfl)
theorem pmchL_slash {p : List UInt8} (h : p.head? = some 47) : pmchL p [47] = true := by
  cases p with
  | nil => cases h
  | cons a t =>
    obtain rfl : a = 47 := by simpa using h
    cases t with
    | nil => exact pmchL_self _
    | cons b t => exact (pmchL_iff _ _).2 (.inr ⟨⟨b :: t, rfl⟩, by simp, .inl rfl⟩)
theorem usualL_head (p : List UInt8) : (usualL p).head? = some 47 := by
  unfold usualL
  split
  · next h =>
    cases p with
    | nil => cases h.1
    | cons a t =>
      have : a = 47 := by simpa using h.1
      subst this
      cases e : lastK (47 :: t) (47 :: t : List UInt8).length with
      | zero => exact absurd e h.2
      | succ k => rfl
  · rfl
theorem usualL_le (p : List UInt8) : (usualL p).length ≤ max p.length 1 := by
  unfold usualL
  split
  · rw [List.length_take]; omega
  · simp; omega
theorem pmchL_usual {p : List UInt8} (h : p.head? = some 47) : pmchL p (usualL p) = true := by
  unfold usualL
  split
  · next hl =>
    obtain ⟨h1, h2⟩ := lastK_lt p p.length hl.2
    refine (pmchL_iff _ _).2 (.inr ⟨List.take_prefix _ _, ?_, .inr ?_⟩)
    · rw [List.length_take]; omega
    · rw [List.length_take, Nat.min_eq_left (by omega)]; exact h2
  · exact pmchL_slash h
theorem pmchL_trans {a b c : List UInt8} (h1 : pmchL a b = true) (h2 : pmchL b c = true) : pmchL a c = true := by
  rcases (pmchL_iff _ _).1 h1 with rfl | ⟨p1, l1, _⟩
  · exact h2
  rcases (pmchL_iff _ _).1 h2 with rfl | ⟨p2, l2, e2⟩
  · exact h1
  refine (pmchL_iff _ _).2 (.inr ⟨p2.trans p1, by omega, e2.imp id fun h => ?_⟩)
  obtain ⟨t, rfl⟩ := p1
  rw [List.getElem?_append_left l2]; exact h
theorem pmchL_behind (p m : List UInt8) : pmchL (p ++ m) p = (decide (m = []) || (decide (p.getLast? = some 47) || decide (m.head? = some 47))) := by
  rw [Bool.eq_iff_iff, pmchL_iff]
  simp only [Bool.or_eq_true, decide_eq_true_eq, List.append_right_eq_self, List.length_append, List.getElem?_append_right (Nat.le_refl _), Nat.sub_self, List.head?_eq_getElem?]
  constructor
  · rintro (h | ⟨_, _, h⟩)
    · exact .inl h
    · exact .inr h
  · rintro (h | h)
    · exact .inl h
    · by_cases hm : m = []
      · exact .inl hm
      · have := List.length_pos_iff.2 hm
        exact .inr ⟨List.prefix_append _ _, by omega, h⟩
theorem pmchL_cut (p m : List UInt8) : pmchL (p ++ 47 :: m) p = true := by
  rw [pmchL_behind]; simp
theorem pmchL_cut2 (p m : List UInt8) : pmchL (p ++ 47 :: m) (p ++ [47]) = true := by
  have : p ++ 47 :: m = (p ++ [47]) ++ m := by simp
  rw [this, pmchL_behind]; simp
theorem pmchL_short {p : List UInt8} (h : 0 < p.length) : pmchL (p.take (p.length - 1)) p = false := by
  rw [Bool.eq_false_iff]
  intro e
  have hl : (p.take (p.length - 1)).length = p.length - 1 := by rw [List.length_take]; omega
  rcases (pmchL_iff _ _).1 e with h1 | ⟨_, h1, _⟩
  · rw [h1] at hl; omega
  · omega

/-- Whether two addresses belong to one site: `ok` the rules may be, `f` tells a host's own name (none: the empty text), `x` and `y` may be, by schemes and hosts. -/
def sameP (ok : Bool) (f : ByteArray → ByteArray) (x y : Bool) (sx hx sy hy : ByteArray) : Bool :=
  ok && (x && (y && (decide (sx = sy) && (decide (hx = hy) || (decide (f hx ≠ ⟨#[]⟩) && decide (f hx = f hy))))))
theorem sameP_iff (ok : Bool) (f : ByteArray → ByteArray) (x y : Bool) (sx hx sy hy : ByteArray) : sameP ok f x y sx hx sy hy = true ↔ ok = true ∧ x = true ∧ y = true ∧ sx = sy ∧ (hx = hy ∨ f hx ≠ ⟨#[]⟩ ∧ f hx = f hy) := by
  simp [sameP]
theorem sameP_self (ok : Bool) (f : ByteArray → ByteArray) (x : Bool) (sx hx : ByteArray) : sameP ok f x x sx hx sx hx = (ok && x) := by
  cases ok <;> cases x <;> simp [sameP]
theorem sameP_comm (ok : Bool) (f : ByteArray → ByteArray) (x y : Bool) (sx hx sy hy : ByteArray) : sameP ok f x y sx hx sy hy = sameP ok f y x sy hy sx hx := by
  rw [Bool.eq_iff_iff, sameP_iff, sameP_iff]
  constructor
  · rintro ⟨h1, h2, h3, h4, h5⟩
    exact ⟨h1, h3, h2, h4.symm, h5.imp Eq.symm (fun ⟨p, q⟩ => ⟨fun e => p (q.trans e), q.symm⟩)⟩
  · rintro ⟨h1, h2, h3, h4, h5⟩
    exact ⟨h1, h3, h2, h4.symm, h5.imp Eq.symm (fun ⟨p, q⟩ => ⟨fun e => p (q.trans e), q.symm⟩)⟩
theorem sameP_trans {ok : Bool} {f : ByteArray → ByteArray} {x y z : Bool} {sx hx sy hy sz hz : ByteArray} (h1 : sameP ok f x y sx hx sy hy = true) (h2 : sameP ok f y z sy hy sz hz = true) : sameP ok f x z sx hx sz hz = true := by
  rw [sameP_iff] at h1 h2 ⊢
  obtain ⟨a1, a2, a3, a4, a5⟩ := h1
  obtain ⟨b1, b2, b3, b4, b5⟩ := h2
  refine ⟨a1, a2, b3, a4.trans b4, ?_⟩
  rcases a5 with rfl | ⟨a5, a6⟩
  · exact b5
  · rcases b5 with rfl | ⟨b5, b6⟩
    · exact .inr ⟨a5, a6⟩
    · exact .inr ⟨a5, a6.trans b6⟩

end Go.Proofs.Ytldddgmhmolohaa
