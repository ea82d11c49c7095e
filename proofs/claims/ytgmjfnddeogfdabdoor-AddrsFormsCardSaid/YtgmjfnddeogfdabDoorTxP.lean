/-
  Plain words on the text of sixteen bytes: the longest run as the document finds it, the text as pieces, colons, two colons. Of no program.
-/
import Derived.Test.YtgmjfnddeogfdabDoorTxE
namespace Go.Proofs.YtgmjfnddeogfdabDoor
open Go.RowKit

/-- The runs over marks: as the program finds them. -/
def lrZ (z : Nat → Bool) : Nat → Nat × Nat × Nat
  | 0 => (0, 0, 0)
  | k + 1 => if z k = false then (k + 1, (lrZ z k).2) else if (lrZ z k).2.2 - (lrZ z k).2.1 < k + 1 - (lrZ z k).1 then ((lrZ z k).1, (lrZ z k).1, k + 1) else lrZ z k
/-- How many marks follow, at most f. -/
def zrZ (z : Nat → Bool) : Nat → Nat → Nat
  | 0, _ => 0
  | f + 1, i => if z i then zrZ z f (i + 1) + 1 else 0
/-- As the document finds them: where, and how many. -/
def rrZ (z : Nat → Bool) : Nat → Nat × Nat
  | 0 => (0, 1)
  | k + 1 => if (rrZ z k).2 < zrZ z (8 - k) k then (k, zrZ z (8 - k) k) else rrZ z k
theorem zrZ_le (z : Nat → Bool) : ∀ f i, zrZ z f i ≤ f
  | 0, _ => Nat.le_refl _
  | f + 1, i => by
    rw [zrZ]
    split
    · have := zrZ_le z f (i + 1); omega
    · omega
theorem lrZ_congr {z y : Nat → Bool} : ∀ k, (∀ i, i < k → z i = y i) → lrZ z k = lrZ y k
  | 0, _ => rfl
  | k + 1, h => by rw [lrZ, lrZ, lrZ_congr k (fun i hi => h i (by omega)), h k (by omega)]
theorem zrZ_congr {z y : Nat → Bool} : ∀ f i, (∀ j, i ≤ j → j < i + f → z j = y j) → zrZ z f i = zrZ y f i
  | 0, _, _ => rfl
  | f + 1, i, h => by rw [zrZ, zrZ, zrZ_congr f (i + 1) (fun j h1 h2 => h j (by omega) (by omega)), h i (Nat.le_refl _) (by omega)]
theorem rrZ_congr {z y : Nat → Bool} (h : ∀ i, i < 8 → z i = y i) : ∀ k, k ≤ 8 → rrZ z k = rrZ y k
  | 0, _ => rfl
  | k + 1, hk => by rw [rrZ, rrZ, rrZ_congr h k (by omega), zrZ_congr (8 - k) k (fun j h1 h2 => h j (by omega))]
def at8 (a b c d e f g h : Bool) (i : Nat) : Bool := [a, b, c, d, e, f, g, h].getD i false
theorem runs8 : ∀ a b c d e f g h : Bool, rrZ (at8 a b c d e f g h) 8 = if (lrZ (at8 a b c d e f g h) 8).2.2 - (lrZ (at8 a b c d e f g h) 8).2.1 < 2 then (0, 1) else ((lrZ (at8 a b c d e f g h) 8).2.1, (lrZ (at8 a b c d e f g h) 8).2.2 - (lrZ (at8 a b c d e f g h) 8).2.1) := by decide +kernel
theorem runs_same (z : Nat → Bool) : rrZ z 8 = if (lrZ z 8).2.2 - (lrZ z 8).2.1 < 2 then (0, 1) else ((lrZ z 8).2.1, (lrZ z 8).2.2 - (lrZ z 8).2.1) := by
  have h : ∀ i, i < 8 → z i = at8 (z 0) (z 1) (z 2) (z 3) (z 4) (z 5) (z 6) (z 7) i := by
    intro i hi
    match i, hi with
    | 0, _ => rfl
    | 1, _ => rfl
    | 2, _ => rfl
    | 3, _ => rfl
    | 4, _ => rfl
    | 5, _ => rfl
    | 6, _ => rfl
    | 7, _ => rfl
  rw [rrZ_congr h 8 (Nat.le_refl _), lrZ_congr 8 h]
  exact runs8 _ _ _ _ _ _ _ _
/-- Is a piece nought? -/
def zP (P : List Nat) (i : Nat) : Bool := P.getD i 0 == 0
theorem lrS_lrZ (P : List Nat) : ∀ k, lrS P k = lrZ (zP P) k
  | 0 => rfl
  | k + 1 => by
    rw [lrS, lrZ, lrS_lrZ P k]
    by_cases h : P.getD k 0 = 0
    · have hz : zP P k = true := by rw [zP, h]; rfl
      rw [hz, h]
      simp
    · have hz : zP P k = false := by rw [zP, beq_eq_false_iff_ne]; exact h
      rw [hz, if_pos h, if_pos rfl]

/-- The text by marks: 8 a colon, 9 two of them, else a piece. -/
def tkL (F L : Nat) : Nat → Nat → List Nat
  | 0, _ => []
  | f + 1, i => if 8 ≤ i then [] else if 1 < L ∧ i = F then 9 :: tkL F L f (F + L) else (if 0 < i ∧ (L = 1 ∨ i ≠ F + L) then [8] else []) ++ i :: tkL F L f (i + 1)
def renT (P : List Nat) (t : Nat) : List UInt8 := if t = 8 then [58] else if t = 9 then [58, 58] else numF 16 4 (P.getD t 0)
def rens (P : List Nat) (l : List Nat) : List UInt8 := (l.map (renT P)).flatten
def joinI : List Nat → List Nat
  | [] => []
  | [i] => [i]
  | i :: j :: r => i :: 8 :: joinI (j :: r)
theorem rens_cons (P : List Nat) (t : Nat) (l : List Nat) : rens P (t :: l) = renT P t ++ rens P l := rfl
theorem rens_append (P : List Nat) (a b : List Nat) : rens P (a ++ b) = rens P a ++ rens P b := by simp [rens]
theorem rens_join (P : List Nat) : ∀ l : List Nat, (∀ i ∈ l, i < 8) → rens P (joinI l) = Lib.join (l.map fun i => numF 16 4 (P.getD i 0)) [58]
  | [], _ => rfl
  | [i], h => by
    have hi := h i (by simp)
    have e : renT P i = numF 16 4 (P.getD i 0) := by rw [renT, if_neg (by omega), if_neg (by omega)]
    rw [joinI, rens_cons, e, List.map_singleton, Lib.join_one]
    simp [rens]
  | i :: j :: r, h => by
    have ih := rens_join P (j :: r) (fun x hx => h x (List.mem_cons_of_mem _ hx))
    have hi := h i (by simp)
    have e : renT P i = numF 16 4 (P.getD i 0) := by rw [renT, if_neg (by omega), if_neg (by omega)]
    rw [joinI, rens_cons, rens_cons, ih, e]
    simp [Lib.join, List.intercalate, renT]
theorem tk_one : tkL 0 1 9 0 = joinI (List.range 8) := by decide
theorem tk_more : ∀ F : Fin 9, ∀ L : Fin 9, F.1 + L.1 ≤ 8 → 2 ≤ L.1 → tkL F.1 L.1 9 0 = joinI (List.range F.1) ++ 9 :: joinI (List.range' (F.1 + L.1) (8 - (F.1 + L.1))) := by decide +kernel
theorem range_take (P : List Nat) (F : Nat) (h : F ≤ P.length) : (List.range F).map (fun i => numF 16 4 (P.getD i 0)) = (P.take F).map (numF 16 4) := by
  apply List.ext_getElem?
  intro i
  rw [List.getElem?_map, List.getElem?_map]
  by_cases hi : i < F
  · rw [List.getElem?_range hi, List.getElem?_take_of_lt hi]
    simp [List.getD_eq_getElem?_getD, List.getElem?_eq_getElem (show i < P.length by omega)]
  · rw [List.getElem?_eq_none (by simp; omega), List.getElem?_eq_none (by simp; omega)]; rfl
theorem range_drop (P : List Nat) (T : Nat) (h : T ≤ 8) (h8 : P.length = 8) : (List.range' T (8 - T)).map (fun i => numF 16 4 (P.getD i 0)) = (P.drop T).map (numF 16 4) := by
  apply List.ext_getElem?
  intro i
  rw [List.getElem?_map, List.getElem?_map]
  by_cases hi : i < 8 - T
  · rw [List.getElem?_range' hi, List.getElem?_drop]
    simp [List.getD_eq_getElem?_getD, List.getElem?_eq_getElem (show T + i < P.length by omega)]
  · rw [List.getElem?_eq_none (by simp; omega), List.getElem?_eq_none (by simp; omega)]; rfl
theorem lrS_bd (P : List Nat) : (lrS P 8).2.1 ≤ (lrS P 8).2.2 ∧ (lrS P 8).2.2 ≤ 8 := ⟨(lrS_ok P 8).2.1, (lrS_ok P 8).2.2⟩
/-- The document's text is the program's. -/
theorem doc_six (l : List Nat) : rens (pcs l) (tkL (rrZ (zP (pcs l)) 8).1 (rrZ (zP (pcs l)) 8).2 9 0) = sixT l := by
  have h8 : (pcs l).length = 8 := by simp [pcs]
  obtain ⟨hFT, hT⟩ := lrS_bd (pcs l)
  rw [runs_same, ← lrS_lrZ]
  unfold sixT
  by_cases h : (lrS (pcs l) 8).2.2 - (lrS (pcs l) 8).2.1 < 2
  · rw [if_pos h, if_pos h]
    show rens _ (tkL 0 1 9 0) = _
    rw [tk_one, rens_join _ _ (fun i hi => by simpa using hi), range_take _ _ (by omega), List.take_of_length_le (by omega)]
  · rw [if_neg h, if_neg h]
    generalize (lrS (pcs l) 8).2.1 = F at *
    generalize (lrS (pcs l) 8).2.2 = T at *
    have := tk_more ⟨F, by omega⟩ ⟨T - F, by omega⟩ (by show F + (T - F) ≤ 8; omega) (by show 2 ≤ T - F; omega)
    simp only at this
    rw [show F + (T - F) = T by omega] at this
    show rens _ (tkL F (T - F) 9 0) = _
    rw [this, rens_append, rens_cons, rens_join _ _ (fun i hi => by have := List.mem_range.1 hi; omega), rens_join _ _ (fun i hi => by have := List.mem_range'_1.1 hi; omega), range_take _ _ (by omega), range_drop _ _ hT h8]
    rw [List.append_assoc]; rfl

end Go.Proofs.YtgmjfnddeogfdabDoor
