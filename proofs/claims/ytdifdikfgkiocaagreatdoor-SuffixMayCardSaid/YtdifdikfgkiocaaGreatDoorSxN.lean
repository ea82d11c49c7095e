/-
  Plain words on rules made of parts: with a star or a mark ahead.
-/
import Derived.Test.YtdifdikfgkiocaaGreatDoorSxR
namespace Go.Proofs.YtdifdikfgkiocaaGreatDoor
open Go.RowKit

theorem ex_first {S x : ByteArray} {r : List ByteArray} (h : rawB 46 S = x :: r) (hx : x.data.toList.head? ≠ some 33) : exB S = false := by
  rw [← Bool.not_eq_true]
  intro he
  obtain ⟨t, ht⟩ := List.isPrefixOf_iff_prefix.1 (show List.isPrefixOf [33] S.data.toList = true from he)
  have h1 := rawB_data 46 S
  rw [h, ← ht, List.map_cons] at h1
  have h2 : pts 46 ([33] ++ t) = ahd 33 (pts 46 t) := by
    show pts 46 (33 :: t) = _
    rw [pts, if_neg (by decide)]
  rw [h2] at h1
  cases e : pts 46 t with
  | nil => exact pts_ne 46 t e
  | cons q qs =>
    rw [e, ahd] at h1
    injection h1 with h3 _
    rw [h3] at hx
    exact hx rfl
theorem star_first {S x : ByteArray} {r : List ByteArray} (h : rawB 46 S = x :: r) (hx : x ≠ ⟨#[42]⟩) : starS S = S := by
  have hp : Lib.hasPrefix S.data.toList [42, 46] = false := by
    rw [← Bool.not_eq_true]
    intro hp
    obtain ⟨t, ht⟩ := List.isPrefixOf_iff_prefix.1 hp
    have h1 := rawB_data 46 S
    rw [h, ← ht, List.map_cons] at h1
    have h2 : pts 46 ([42, 46] ++ t) = [42] :: pts 46 t := pts_star t
    rw [h2] at h1
    injection h1 with h3 _
    exact hx (ba_of h3)
  refine ba_of ?_
  show Lib.trimPrefix S.data.toList [42, 46] = _
  rw [Lib.trimPrefix, if_neg (by rw [hp]; simp)]
theorem ruleB_plain {S x : ByteArray} {r : List ByteArray} (h : rawB 46 S = x :: r) (hx : x.data.toList.head? ≠ some 33) (hx2 : x ≠ ⟨#[42]⟩) : ruleB S = partsB S := by
  rw [ruleB, ex_first h hx, if_neg (by simp), star_first h hx2]
/-- Parts that say nothing of stars and marks. -/
def PartsOk (L : List ByteArray) : Prop := ∀ x ∈ L, x ≠ ⟨#[42]⟩ ∧ x.data.toList.head? ≠ some 33 ∧ ∀ c ∈ x.data.toList, c ≠ 46
theorem star_part : partB ⟨#[42]⟩ = false := by decide +kernel
theorem may_facts {L : List ByteArray} (hne : L ≠ []) (h : PartsOk L) (hs : (dotJ L).size ≤ 253) :
    ruleB (dotJ L) = L.all partB ∧ ruleB (⟨#[42, 46]⟩ ++ dotJ L) = L.all partB ∧ ruleB (⟨#[33]⟩ ++ dotJ L) = (L.all partB && decide (1 < L.length)) ∧
    ruleB (⟨#[33, 42, 46]⟩ ++ dotJ L) = false ∧ ruleB (dotJ L ++ ⟨#[46, 42]⟩) = false := by
  have hr : rawB 46 (dotJ L) = L := rawB_dot hne (fun l hl => (h l hl).2.2)
  have hb : partsB (dotJ L) = L.all partB := by rw [partsB, hr, decide_eq_true hs, Bool.true_and]
  obtain ⟨x, r, hL⟩ : ∃ x r, L = x :: r := by
    cases L with
    | nil => exact absurd rfl hne
    | cons x r => exact ⟨x, r, rfl⟩
  have hx := h x (by rw [hL]; exact List.mem_cons_self)
  have hd : ∀ p : List UInt8, (asB p ++ dotJ L).data.toList = p ++ (dotJ L).data.toList := fun p => by
    rw [ByteArray.data_append, Array.toList_append]; rfl
  have hst : (⟨#[42, 46]⟩ ++ dotJ L : ByteArray).data.toList = 42 :: 46 :: (dotJ L).data.toList := hd [42, 46]
  have hmk : (⟨#[33]⟩ ++ dotJ L : ByteArray).data.toList = 33 :: (dotJ L).data.toList := hd [33]
  have hms : (⟨#[33, 42, 46]⟩ ++ dotJ L : ByteArray).data.toList = 33 :: 42 :: 46 :: (dotJ L).data.toList := hd [33, 42, 46]
  refine ⟨?_, ?_, ?_, ?_, ?_⟩
  · rw [ruleB_plain (hr.trans hL) hx.2.1 hx.1, hb]
  · have he : exB (⟨#[42, 46]⟩ ++ dotJ L) = false := by
      rw [exB, hst]; simp [Lib.hasPrefix, List.isPrefixOf]
    have hs2 : starS (⟨#[42, 46]⟩ ++ dotJ L) = dotJ L := by
      refine ba_of ?_
      show Lib.trimPrefix (⟨#[42, 46]⟩ ++ dotJ L : ByteArray).data.toList [42, 46] = _
      rw [hst, Lib.trimPrefix, if_pos (by simp [Lib.hasPrefix, List.isPrefixOf])]; rfl
    rw [ruleB, he, if_neg (by simp), hs2, hb]
  · have he : exB (⟨#[33]⟩ ++ dotJ L) = true := by
      rw [exB, hmk]; simp [Lib.hasPrefix, List.isPrefixOf]
    have hs2 : bareS (⟨#[33]⟩ ++ dotJ L) = dotJ L := by
      refine ba_of ?_
      show Lib.trimPrefix (⟨#[33]⟩ ++ dotJ L : ByteArray).data.toList [33] = _
      rw [hmk, Lib.trimPrefix, if_pos (by simp [Lib.hasPrefix, List.isPrefixOf])]; rfl
    have hp : pointB (dotJ L) = decide (1 < L.length) := by
      rw [Bool.eq_iff_iff, ← raw_two, hr, decide_eq_true_eq]; exact Iff.rfl
    rw [ruleB, he, if_pos rfl, hs2, hb, hp]
  · have he : exB (⟨#[33, 42, 46]⟩ ++ dotJ L) = true := by
      rw [exB, hms]; simp [Lib.hasPrefix, List.isPrefixOf]
    have hs2 : (bareS (⟨#[33, 42, 46]⟩ ++ dotJ L)).data.toList = 42 :: 46 :: (dotJ L).data.toList := by
      show Lib.trimPrefix (⟨#[33, 42, 46]⟩ ++ dotJ L : ByteArray).data.toList [33] = _
      rw [hms, Lib.trimPrefix, if_pos (by simp [Lib.hasPrefix, List.isPrefixOf])]; rfl
    have hr2 : rawB 46 (bareS (⟨#[33, 42, 46]⟩ ++ dotJ L)) = ⟨#[42]⟩ :: rawB 46 (dotJ L) := by
      rw [rawB_eq, rawB_eq, hs2, pts_star]; rfl
    rw [ruleB, he, if_pos rfl, partsB, hr2, List.all_cons, star_part, Bool.false_and, Bool.and_false, Bool.false_and]
  · have hde : (dotJ L ++ ⟨#[46, 42]⟩ : ByteArray).data.toList = (dotJ L).data.toList ++ 46 :: [42] := by
      rw [ByteArray.data_append, Array.toList_append]
    have hr2 : rawB 46 (dotJ L ++ ⟨#[46, 42]⟩) = L ++ [⟨#[42]⟩] := by
      rw [rawB_eq, hde, pts_append, List.map_append, ← rawB_eq, hr]; rfl
    rw [ruleB_plain (x := x) (r := r ++ [⟨#[42]⟩]) (by rw [hr2, hL]; rfl) hx.2.1 hx.1, partsB, hr2, List.all_append, List.all_cons, star_part, Bool.false_and, Bool.and_false, Bool.and_false]
theorem dotJ_szL : ∀ L : List ByteArray, (dotJ L).size ≤ (L.map (·.size)).sum + L.length
  | [] => by rw [dotJ, asB_size]; simp [Lib.join_nil]
  | [x] => by rw [dotJ, asB_size, List.map_cons, List.map_nil, Lib.join_one, lenB]; simp
  | x :: y :: r => by
    have h2 := dotJ_szL (y :: r)
    rw [dotJ, asB_size] at h2 ⊢
    rw [List.map_cons, List.map_cons, join_split, List.length_append, List.length_cons, lenB]
    rw [List.map_cons] at h2
    simp only [List.map_cons, List.sum_cons, List.length_cons] at h2 ⊢
    omega

end Go.Proofs.YtdifdikfgkiocaaGreatDoor
