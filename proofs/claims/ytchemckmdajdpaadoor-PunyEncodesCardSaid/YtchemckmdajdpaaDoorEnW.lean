/-
  The document's Signs are the program's; both few letters are the same.
-/
import Derived.Test.YtchemckmdajdpaaDoorEnQ
import Derived.Test.YtchemckmdajdpaaDoorEnT
import Derived.Test.YtchemckmdajdpaaDoorEnI
import Derived.Lib.TrimUEq
import Derived.Lib.ValidLaws
namespace Go.Proofs.YtchemckmdajdpaaDoor
open Go.RowKit

theorem sgO_valid (s : ByteArray) : ∀ (f p : Nat), s.size ≤ p + f → sgO s f p = if Lib.validD (s.data.toList.drop p) then some ((sgn s f p).map (·.1)) else none
  | 0, p, h => by
    have hd : s.data.toList.drop p = [] := List.drop_eq_nil_of_le (by rw [dLen]; omega)
    rw [hd]; rfl
  | f + 1, p, h => by
    by_cases hp : p < s.size
    · have hne : s.data.toList.drop p ≠ [] := by
        intro e
        have := congrArg List.length e
        rw [List.length_drop, dLen] at this; simp at this; omega
      have hw := width_pos s p
      rw [sgO, if_pos hp, sgn_on s f p hp, Lib.validD_step _ hne, Lib.decodeL_drop, List.drop_drop]
      by_cases hb : (Utf8.decode s p).1 = 65533 ∧ (Utf8.decode s p).2 = 1
      · rw [if_pos hb, if_pos hb]; rfl
      · rw [if_neg hb, if_neg hb, sgO_valid s f _ (by omega)]
        cases Lib.validD (s.data.toList.drop (p + (Utf8.decode s p).2)) <;> simp
    · rw [sgO_end s _ p hp, sgn_end s _ p hp]
      have hd : s.data.toList.drop p = [] := List.drop_eq_nil_of_le (by rw [dLen]; omega)
      rw [hd]; rfl

theorem sgn_mem2 (s : ByteArray) : ∀ f p, ∀ x ∈ sgn s f p, x.1 = (Utf8.decode s x.2).1
  | 0, _, x, h => by simp [sgn] at h
  | f + 1, p, x, h => by
    rw [sgn] at h
    split at h
    · rcases List.mem_cons.1 h with rfl | h
      · rfl
      · exact sgn_mem2 s f _ x h
    · simp at h
theorem plL_map (SG : List Pr) : plL (SG.map (·.1)) = plB SG := by
  induction SG with
  | nil => rfl
  | cons x SG ih =>
    by_cases h : x.1 < 128
    · have h1 : plL ((x :: SG).map (·.1)) = UInt8.ofNat x.1 :: plL (SG.map (·.1)) := by simp [plL, h]
      have h2 : plB (x :: SG) = UInt8.ofNat x.1 :: plB SG := by simp [plB, isPl, h]
      rw [h1, h2, ih]
    · have h1 : plL ((x :: SG).map (·.1)) = plL (SG.map (·.1)) := by simp [plL, h]
      have h2 : plB (x :: SG) = plB SG := by simp [plB, isPl, h]
      rw [h1, h2, ih]

theorem few_doc (s : ByteArray) (R : List Pr) (hp : R.Perm (otL (sgn s s.size 0))) (hs : Srt R) : fewL (sgn s s.size 0) R = docE ((sgn s s.size 0).map (·.1)) := by
  obtain ⟨SG, hSG⟩ : ∃ SG, sgn s s.size 0 = SG := ⟨_, rfl⟩
  have hr : Ris SG := by rw [← hSG]; exact sgn_ris s _ _
  have hb : ∀ x ∈ SG, x.1 ≤ 1114111 := by
    intro x hx
    rw [← hSG] at hx
    rw [(sgn_mem2 s _ _ x hx)]
    exact rune_bd s x.2
  rw [hSG] at hp ⊢
  have hot : otL SG = SG.filter fun x => decide (128 ≤ x.1) := by
    unfold otL
    refine List.filter_congr (fun x _ => ?_)
    rw [Bool.eq_iff_iff]; simp [isPl]
  rw [hot] at hp
  have hcnt : ∀ p, cntLt (plA SG) p = cSp SG 128 p := by
    intro p
    have : ∀ l : List Pr, cntLt (plA l) p = cSp l 128 p := by
      intro l
      unfold cntLt plA cSp
      rw [List.countP_reverse, List.countP_map, List.countP_filter]
      refine List.countP_congr (fun x _ => ?_)
      simp [isPl]
      exact And.comm
    exact this SG
  have hmany : (plB SG).length = cS SG 128 := by
    unfold plB cS
    rw [List.length_map, ← List.countP_eq_length_filter]
    exact List.countP_congr (fun x _ => by simp [isPl])
  have h := outer_eq SG hr hb (plB SG).length SG.length R 0 128 (plB SG).length 72 0 128 0 (plA SG) (by
    rw [hp.length_eq]; exact List.length_filter_le _ _) hs hp hcnt hmany (by omega) (by omega) (by omega)
  unfold fewL docE
  rw [plL_map, List.length_map, h]

end Go.Proofs.YtchemckmdajdpaaDoor
