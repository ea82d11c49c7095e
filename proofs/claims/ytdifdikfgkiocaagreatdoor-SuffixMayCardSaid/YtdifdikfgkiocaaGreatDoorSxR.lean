/-
  Plain words on rules: the document's rule is the program's; a host's last parts, told one by one.
-/
import Derived.Test.YtdifdikfgkiocaaGreatDoorSxM
namespace Go.Proofs.YtdifdikfgkiocaaGreatDoor
open Go.RowKit

/-- The document's rule. -/
def mayR (s : ByteArray) : Bool :=
  if exB s then decide (2 ≤ (bareL s).length) && ((bareL s).all partB && decide (s.size - 1 ≤ 253))
  else if 1 < (rawB 46 s).length ∧ (rawB 46 s)[0]? = some ⟨#[42]⟩ then (rawB 46 s).tail.all partB && decide (s.size - 2 ≤ 253)
  else (rawB 46 s).all partB && decide (s.size ≤ 253)
theorem pts_star (t : List UInt8) : pts 46 (42 :: 46 :: t) = [42] :: pts 46 t := by
  rw [pts, if_neg (by decide), pts, if_pos rfl, ahd]
theorem star_of {s : ByteArray} (h : 1 < (rawB 46 s).length) (h0 : (rawB 46 s)[0]? = some ⟨#[42]⟩) : ∃ t, s.data.toList = 42 :: 46 :: t := by
  have hj := join_pts 46 s.data.toList
  rw [← rawB_data] at hj
  match hr : rawB 46 s with
  | [] => rw [hr] at h; simp at h
  | [x] => rw [hr] at h; simp at h
  | x :: y :: r =>
    rw [hr] at h0 hj
    have hx : x = ⟨#[42]⟩ := by simpa using h0
    subst hx
    rw [List.map_cons, List.map_cons, join_split] at hj
    exact ⟨_, hj.symm⟩
theorem mayR_eq (s : ByteArray) : mayR s = ruleB s := by
  have hl := lenB s
  rw [mayR, ruleB]
  by_cases he : exB s = true
  · rw [if_pos he, if_pos he]
    have hs : (bareS s).size = s.size - 1 := by
      show (Lib.trimPrefix s.data.toList [33]).toArray.size = _
      rw [List.size_toArray, Lib.trimPrefix, if_pos (show Lib.hasPrefix s.data.toList [33] = true from he), List.length_drop, hl]; rfl
    rw [partsB, hs]
    have h2 : decide (2 ≤ (bareL s).length) = pointB (bareS s) := by
      rw [Bool.eq_iff_iff, decide_eq_true_eq]; exact raw_two _
    rw [h2]
    show (pointB (bareS s) && ((bareL s).all partB && decide (s.size - 1 ≤ 253))) = ((decide (s.size - 1 ≤ 253) && (bareL s).all partB) && pointB (bareS s))
    rw [Bool.and_comm (decide _) _, Bool.and_comm]
  · rw [if_neg he, if_neg he]
    by_cases hst : 1 < (rawB 46 s).length ∧ (rawB 46 s)[0]? = some ⟨#[42]⟩
    · rw [if_pos hst]
      obtain ⟨t, ht⟩ := star_of hst.1 hst.2
      have hp : Lib.hasPrefix s.data.toList [42, 46] = true := by rw [ht]; rfl
      have hst2 : (starS s).data.toList = t := by
        show Lib.trimPrefix s.data.toList [42, 46] = t
        rw [Lib.trimPrefix, if_pos hp, ht]; rfl
      have hsz : (starS s).size = s.size - 2 := by
        rw [← lenB (starS s), hst2, ← hl, ht]; rfl
      have hraw : (rawB 46 s).tail = rawB 46 (starS s) := by
        rw [rawB_eq, rawB_eq, hst2, ht, pts_star]; rfl
      rw [partsB, hsz, hraw, Bool.and_comm]
    · rw [if_neg hst]
      have hp : Lib.hasPrefix s.data.toList [42, 46] = false := by
        rw [← Bool.not_eq_true]
        intro hp
        refine hst ?_
        obtain ⟨t, ht⟩ := List.isPrefixOf_iff_prefix.1 hp
        have hr : rawB 46 s = ⟨#[42]⟩ :: (pts 46 t).map asB := by
          rw [rawB_eq, ← ht]
          show List.map asB (pts 46 (42 :: 46 :: t)) = _
          rw [pts_star]; rfl
        rw [hr]
        have hne := List.length_pos_iff.2 (pts_ne 46 t)
        exact ⟨by rw [List.length_cons, List.length_map]; omega, rfl⟩
      have hs : starS s = s := by
        refine ba_of ?_
        show Lib.trimPrefix s.data.toList [42, 46] = _
        rw [Lib.trimPrefix, if_neg (by rw [hp]; simp)]
      rw [hs, partsB, Bool.and_comm]
theorem mayR_all (R : List ByteArray) : R.all mayR = R.all ruleB := by
  congr 1
  exact funext mayR_eq

/- Parts with points between, one by one. -/
theorem sx_join_snoc (x : List UInt8) : ∀ L : List (List UInt8), L ≠ [] → Lib.join (L ++ [x]) [46] = Lib.join L [46] ++ 46 :: x
  | [], h => absurd rfl h
  | [y], _ => by rw [List.cons_append, List.nil_append, join_split, Lib.join_one, Lib.join_one]
  | y :: z :: r, _ => by
    rw [List.cons_append, List.cons_append, join_split, join_split, ← List.cons_append, sx_join_snoc x (z :: r) (by simp)]
    simp
def tkJ (A : List ByteArray) (k : Nat) : ByteArray := dotJ (A.take k)
theorem tkJ_one (A : List ByteArray) (h : 0 < A.length) : tkJ A (0 + 1) = A[0] := by
  rw [tkJ, List.take_succ_eq_append_getElem h]
  refine ba_of ?_
  rw [dotJ_data]
  simp [Lib.join_one]
theorem tkJ_succ (A : List ByteArray) (k : Nat) (h : k < A.length) (hk : 0 < k) : tkJ A (k + 1) = tkJ A k ++ ⟨#[46]⟩ ++ A[k] := by
  refine ba_of ?_
  rw [ByteArray.data_append, ByteArray.data_append, Array.toList_append, Array.toList_append, tkJ, tkJ, dotJ_data, dotJ_data, List.take_succ_eq_append_getElem h, List.map_append, List.map_cons, List.map_nil,
    sx_join_snoc _ _ (by intro e; have := congrArg List.length e; rw [List.length_map, List.length_take, List.length_nil] at this; omega)]
  simp

end Go.Proofs.YtdifdikfgkiocaaGreatDoor
