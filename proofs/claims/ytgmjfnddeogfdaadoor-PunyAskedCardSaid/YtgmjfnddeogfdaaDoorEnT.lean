/-
  The document's Encode: its loops, plainly.
-/
import Derived.Test.YtgmjfnddeogfdaaDoorEnP
import Derived.Test.YtgmjfnddeogfdaaDoorEnR
namespace Go.Proofs.YtgmjfnddeogfdaaDoor
open Go.RowKit

theorem docIn_many (B m : Nat) : ∀ (l : List Nat) (number many bias : Nat), (docIn B m l number many bias).2.2.1 = many + l.countP fun x => decide (x = m)
  | [], _, _, _ => rfl
  | x :: l, number, many, bias => by
    by_cases h1 : x < m
    · rw [docIn, if_pos h1, docIn_many]; simp [show x ≠ m by omega]
    · by_cases h2 : x = m
      · rw [docIn, if_neg h1, if_pos h2]
        show (docIn B m l 0 (many + 1) _).2.2.1 = _
        rw [docIn_many]; simp [h2]; omega
      · rw [docIn, if_neg h1, if_neg h2, docIn_many]; simp [h2]
theorem docIn_number (B m : Nat) : ∀ (l : List Nat) (number many bias : Nat), (docIn B m l number many bias).2.1 ≤ number + l.length
  | [], _, _, _ => Nat.le_refl _
  | x :: l, number, many, bias => by
    by_cases h1 : x < m
    · rw [docIn, if_pos h1]; have := docIn_number B m l (number + 1) many bias; simp; omega
    · by_cases h2 : x = m
      · rw [docIn, if_neg h1, if_pos h2]
        show (docIn B m l 0 (many + 1) _).2.1 ≤ _
        have := docIn_number B m l 0 (many + 1) (nb number (many + 1) (many == B)); simp; omega
      · rw [docIn, if_neg h1, if_neg h2]; have := docIn_number B m l number many bias; simp; omega
/-- Where a sign is told, the number behind is at most as great as the list is long. -/
theorem docIn_reset (B m : Nat) : ∀ (l : List Nat) (number many bias : Nat), 0 < l.countP (fun x => decide (x = m)) → (docIn B m l number many bias).2.1 ≤ l.length
  | [], _, _, _, h => by simp at h
  | x :: l, number, many, bias, h => by
    by_cases h1 : x < m
    · rw [docIn, if_pos h1]
      have := docIn_reset B m l (number + 1) many bias (by simpa [show x ≠ m by omega] using h); simp; omega
    · by_cases h2 : x = m
      · rw [docIn, if_neg h1, if_pos h2]
        show (docIn B m l 0 (many + 1) _).2.1 ≤ _
        have := docIn_number B m l 0 (many + 1) (nb number (many + 1) (many == B)); simp; omega
      · rw [docIn, if_neg h1, if_neg h2]
        have := docIn_reset B m l number many bias (by simpa [h2] using h); simp; omega
theorem docIn_bias (B m : Nat) : ∀ (l : List Nat) (number many bias : Nat), bias ≤ 756 → (docIn B m l number many bias).2.2.2 ≤ 756
  | [], _, _, _, h => h
  | x :: l, number, many, bias, h => by
    by_cases h1 : x < m
    · rw [docIn, if_pos h1]; exact docIn_bias B m l _ _ _ h
    · by_cases h2 : x = m
      · rw [docIn, if_neg h1, if_pos h2]
        exact docIn_bias B m l 0 (many + 1) _ (nb_bd _ _ _)
      · rw [docIn, if_neg h1, if_neg h2]; exact docIn_bias B m l _ _ _ h
theorem docIn_no {B m x : Nat} {l : List Nat} {number many bias : Nat} (h1 : ¬ x < m) (h2 : x ≠ m) : docIn B m (x :: l) number many bias = docIn B m l number many bias := by rw [docIn, if_neg h1, if_neg h2]
theorem docIn_lt {B m x : Nat} {l : List Nat} {number many bias : Nat} (h1 : x < m) : docIn B m (x :: l) number many bias = docIn B m l (number + 1) many bias := by rw [docIn, if_pos h1]
theorem docIn_eq {B m x : Nat} {l : List Nat} {number many bias : Nat} (h2 : x = m) : docIn B m (x :: l) number many bias = (digsL number number 36 bias ++ (docIn B m l 0 (many + 1) (nb number (many + 1) (many == B))).1, (docIn B m l 0 (many + 1) (nb number (many + 1) (many == B))).2) := by
  rw [docIn, if_neg (by omega), if_pos h2]

/-- The plain signs of a list, as bytes; and the document's few letters. -/
def plL (l : List Nat) : List UInt8 := (l.filter fun x => decide (x < 128)).map UInt8.ofNat
theorem plL_snoc_yes {l : List Nat} {x : Nat} (h : x < 128) : plL (l ++ [x]) = plL l ++ [UInt8.ofNat x] := by simp [plL, h]
theorem plL_snoc_no {l : List Nat} {x : Nat} (h : ¬ x < 128) : plL (l ++ [x]) = plL l := by simp [plL, h]
theorem plL_len (l : List Nat) : (plL l).length ≤ l.length := by simp [plL]; exact List.length_filter_le _ _
theorem plL_count (l : List Nat) : (plL l).length = l.countP fun x => decide (x < 128) := by simp [plL, List.countP_eq_length_filter]
def docE (l : List Nat) : List UInt8 := plL l ++ (if plL l = [] then [] else [45]) ++ docOut (plL l).length l l.length 0 128 (plL l).length 72

theorem minS_ge (last : Nat) (l : List Nat) (hb : ∀ x ∈ l, x ≤ 1114111) (hlt : l.countP (fun x => decide (x < last)) < l.length) : last ≤ minS last l ∧ minS last l ∈ l ∧ minS last l ≤ 1114111 ∧ ∀ x ∈ l, last ≤ x → minS last l ≤ x := by
  have hex : ∃ x ∈ l, last ≤ x := by
    refine Classical.byContradiction fun hn => ?_
    have : l.countP (fun x => decide (x < last)) = l.length := by
      rw [List.countP_eq_length]
      intro x hx
      have : ¬ last ≤ x := fun h => hn ⟨x, hx, h⟩
      simp; omega
    omega
  -- the smallest of those
  have hmin : ∀ l : List Nat, (∃ x ∈ l, last ≤ x) → ∃ m ∈ l, last ≤ m ∧ ∀ x ∈ l, last ≤ x → m ≤ x := by
    intro l
    induction l with
    | nil => rintro ⟨x, hx, _⟩; simp at hx
    | cons a l ih =>
      rintro ⟨x, hx, hxl⟩
      by_cases hl : ∃ x ∈ l, last ≤ x
      · obtain ⟨m, hm, hml, hall⟩ := ih hl
        by_cases ha : last ≤ a ∧ a < m
        · refine ⟨a, List.mem_cons_self, ha.1, fun y hy hyl => ?_⟩
          rcases List.mem_cons.1 hy with rfl | hy
          · exact Nat.le_refl _
          · have := hall y hy hyl; omega
        · refine ⟨m, List.mem_cons_of_mem _ hm, hml, fun y hy hyl => ?_⟩
          rcases List.mem_cons.1 hy with rfl | hy
          · omega
          · exact hall y hy hyl
      · rcases List.mem_cons.1 hx with rfl | hx
        · refine ⟨x, List.mem_cons_self, hxl, fun y hy hyl => ?_⟩
          rcases List.mem_cons.1 hy with rfl | hy
          · exact Nat.le_refl _
          · exact absurd ⟨y, hy, hyl⟩ hl
        · exact absurd ⟨x, hx, hxl⟩ hl
  obtain ⟨m, hm, hml, hall⟩ := hmin l hex
  have : minS last l = m := minS_spec last l 1114112 m hall (by have := hb m hm; omega) (.inr ⟨hml, hm⟩)
  rw [this]
  exact ⟨hml, hm, hb m hm, hall⟩
theorem countP_step (l : List Nat) (last m : Nat) (h : ∀ x ∈ l, last ≤ x → m ≤ x) (hl : last ≤ m) : l.countP (fun x => decide (x < m + 1)) = l.countP (fun x => decide (x < last)) + l.countP (fun x => decide (x = m)) := by
  induction l with
  | nil => rfl
  | cons a l ih =>
    rw [List.countP_cons, List.countP_cons, List.countP_cons, ih (fun x hx => h x (List.mem_cons_of_mem _ hx))]
    have ha := h a List.mem_cons_self
    by_cases a1 : a < last
    · simp [a1, show a < m + 1 by omega, show a ≠ m by omega]; omega
    · by_cases a2 : a = m
      · simp [a2, show ¬ m < last by omega]; omega
      · simp [a1, a2, show ¬ a < m + 1 by omega]
theorem minS_snoc (last : Nat) (l : List Nat) (x : Nat) : minS last (l ++ [x]) = if last ≤ x ∧ x < minS last l then x else minS last l := by
  unfold minS; rw [List.foldl_append]; rfl

end Go.Proofs.YtgmjfnddeogfdaaDoor
