/-
  Contracts: slices.symMergeCmpFunc, slices.stableCmpFunc and slices.SortStableFunc over pairs.
-/
import Derived.Test.YtgmjfnddeogfdaaDoorSoG
import Derived.Test.YtgmjfnddeogfdaaDoorSoH
namespace Go.Proofs.YtgmjfnddeogfdaaDoor
open Go.RowKit Go.Sort

theorem merges (g cap : Nat) : ∀ n, Merges g cap n
  | 0 => fun P A B S w N a m b hn hrow hA0 hB0 hA hB hx hN hP hm hb hcap => by omega
  | n + 1 => fun P A B S w N a m b hn hrow hA0 hB0 hA hB hx hN hP hm hb hcap => by
    by_cases h1 : A.length = 1
    · obtain ⟨x, rfl⟩ := List.length_eq_one_iff.1 h1
      have e : P ++ [x] ++ B ++ S = P ++ x :: B ++ S := by simp
      rw [e] at hrow hN
      exact merge_one g cap P B S x w hrow hB0 hB (fun y hy => hx x (by simp) y hy) (by rw [hN]; exact hcap) N a m b hN hP (by simpa using hm) hb
    · by_cases h2 : B.length = 1
      · obtain ⟨y, rfl⟩ := List.length_eq_one_iff.1 h2
        have e : P ++ A ++ [y] ++ S = P ++ A ++ y :: S := by simp
        rw [e] at hrow hN
        exact merge_last g cap P A S y w hrow (by omega) hA (fun x hx' => hx x hx' y (by simp)) (by rw [hN]; exact hcap) N a m b hN hP hm (by simpa using hb)
      · by_cases h3 : (a + b) / 2 < m
        · exact merge_hi g cap P A B S w N a m b n (merges g cap n) hn hrow (by omega) (by omega) hA hB hx hcap hN hP hm hb h3
        · exact merge_lo g cap P A B S w N a m b n (merges g cap n) hn hrow (by omega) (by omega) hA hB hx hcap hN hP hm hb (by omega)

/-- Every place of the one ahead of every place of the other. -/
def Crs (l l' : List Pr) : Prop := ∀ x ∈ l, ∀ y ∈ l', x.2 < y.2
/-- Rows in order, one behind the other. -/
def Good (Bs : List (List Pr)) : Prop := (∀ l ∈ Bs, Srt l) ∧ Bs.Pairwise Crs
theorem ris_split {t R : List Pr} (h : Ris (t ++ R)) : Ris t ∧ Ris R ∧ Crs t R := by
  unfold Ris at h
  rw [List.pairwise_append] at h
  exact h
theorem crs_perm_l {l l2 l' : List Pr} (h : Crs l l') (p : l2.Perm l) : Crs l2 l' := fun x hx y hy => h x (p.mem_iff.1 hx) y hy
theorem crs_perm_r {l l2 l' : List Pr} (h : Crs l' l) (p : l2.Perm l) : Crs l' l2 := fun x hx y hy => h x hx y (p.mem_iff.1 hy)
theorem crs_app_l {l1 l2 l' : List Pr} (h1 : Crs l1 l') (h2 : Crs l2 l') : Crs (l1 ++ l2) l' := fun x hx y hy => by
  rcases List.mem_append.1 hx with h | h
  · exact h1 x h y hy
  · exact h2 x h y hy
theorem crs_app_r {l1 l2 l' : List Pr} (h1 : Crs l' l1) (h2 : Crs l' l2) : Crs l' (l1 ++ l2) := fun x hx y hy => by
  rcases List.mem_append.1 hy with h | h
  · exact h1 x hx y h
  · exact h2 x hx y h
/-- Two rows are merged. -/
theorem good_merge {Ms Rs : List (List Pr)} {l1 l2 R : List Pr} (h : Good (Ms ++ l1 :: l2 :: Rs)) (p : R.Perm (l1 ++ l2)) (s : Srt R) : Good (Ms ++ R :: Rs) := by
  obtain ⟨h1, h2⟩ := h
  rw [List.pairwise_append, List.pairwise_cons, List.pairwise_cons] at h2
  obtain ⟨a1, ⟨a2, a3, a4⟩, a5⟩ := h2
  refine ⟨fun l hl => ?_, ?_⟩
  · rcases List.mem_append.1 hl with hl | hl
    · exact h1 l (by simp [hl])
    · rcases List.mem_cons.1 hl with rfl | hl
      · exact s
      · exact h1 l (by simp [hl])
  · rw [List.pairwise_append, List.pairwise_cons]
    refine ⟨a1, ⟨fun l hl => crs_perm_l (crs_app_l (a2 l (by simp [hl])) (a3 l hl)) p, a4⟩, fun m hm l hl => ?_⟩
    rcases List.mem_cons.1 hl with rfl | hl
    · exact crs_perm_r (crs_app_r (a5 m hm l1 (by simp)) (a5 m hm l2 (by simp))) p
    · exact a5 m hm l (by simp [hl])
theorem good_crs {Ms Rs : List (List Pr)} {l1 l2 : List Pr} (h : Good (Ms ++ l1 :: l2 :: Rs)) : Srt l1 ∧ Srt l2 ∧ Crs l1 l2 := by
  obtain ⟨h1, h2⟩ := h
  rw [List.pairwise_append, List.pairwise_cons] at h2
  exact ⟨h1 l1 (by simp), h1 l2 (by simp), h2.2.1.1 l2 (by simp)⟩
/-- Rows in order, and a rest whose places rise. -/
def Part (Bs : List (List Pr)) (R : List Pr) : Prop := Good Bs ∧ Ris R ∧ ∀ l ∈ Bs, Crs l R
theorem part_start {T : List Pr} (h : Ris T) : Part [] T := ⟨⟨fun l hl => by simp at hl, .nil⟩, h, fun l hl => by simp at hl⟩
theorem part_next {Bs : List (List Pr)} {t R l : List Pr} (h : Part Bs (t ++ R)) (p : l.Perm t) (s : Srt l) : Part (Bs ++ [l]) R := by
  obtain ⟨⟨h1, h2⟩, h3, h4⟩ := h
  obtain ⟨r1, r2, r3⟩ := ris_split h3
  refine ⟨⟨fun m hm => ?_, ?_⟩, r2, fun m hm => ?_⟩
  · rcases List.mem_append.1 hm with hm | hm
    · exact h1 m hm
    · simp at hm; subst hm; exact s
  · rw [List.pairwise_append]
    refine ⟨h2, by simp, fun m hm q hq => ?_⟩
    simp at hq; subst hq
    exact crs_perm_r (fun x hx y hy => h4 m hm x hx y (by simp [hy])) p
  · rcases List.mem_append.1 hm with hm | hm
    · exact fun x hx y hy => h4 m hm x hx y (by simp [hy])
    · simp at hm; subst hm; exact crs_perm_l r3 p

end Go.Proofs.YtgmjfnddeogfdaaDoor
