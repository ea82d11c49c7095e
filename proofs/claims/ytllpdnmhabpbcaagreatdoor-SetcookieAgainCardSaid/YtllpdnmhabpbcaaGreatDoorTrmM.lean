/-
  Plain facts: a trimmed text, and blanks around it.
-/
import Derived.Test.YtllpdnmhabpbcaaGreatDoorTrimA
namespace Go.Proofs.YtllpdnmhabpbcaaGreatDoor

theorem cutL_head (l : List UInt8) : ∀ c, (cutL l).head? = some c → bl c = false := by
  induction l with
  | nil => intro c hc; cases hc
  | cons b l ih =>
    intro c hc
    unfold cutL at hc ih
    rw [List.dropWhile_cons] at hc
    cases hb : bl b
    · rw [hb] at hc; simp at hc; rw [← hc]; exact hb
    · rw [hb] at hc; exact ih c (by simpa using hc)
theorem cutR_last (l : List UInt8) : ∀ c, (cutR l).getLast? = some c → bl c = false := by
  intro c hc
  rw [cutR, List.getLast?_reverse] at hc
  exact cutL_head l.reverse c hc
theorem cutL_suffix (l : List UInt8) : ∃ x, l = x ++ cutL l := ⟨l.takeWhile bl, (List.takeWhile_append_dropWhile).symm⟩
theorem trimL_head (l : List UInt8) : ∀ c, (trimL l).head? = some c → bl c = false := by
  rw [trimL_eq]; exact cutL_head _
theorem trimL_last (l : List UInt8) : ∀ c, (trimL l).getLast? = some c → bl c = false := by
  intro c hc
  rw [trimL_eq] at hc
  obtain ⟨x, hx⟩ := cutL_suffix (cutR l)
  refine cutR_last l c ?_
  rw [hx, List.getLast?_append, hc]; rfl
theorem trimL_trimL (l : List UInt8) : trimL (trimL l) = trimL l := trimL_of (trimL_head l) (trimL_last l)
theorem trimL_ahead (b l : List UInt8) (h : ∀ c ∈ b, bl c = true) : trimL (b ++ l) = trimL l := by
  induction b with
  | nil => rfl
  | cons c b ih =>
    rw [List.cons_append, trimL_cons _ _ (h c (List.mem_cons_self ..)), ih (fun d hd => h d (List.mem_cons_of_mem _ hd))]
theorem trimL_behind (l b : List UInt8) (h : ∀ c ∈ b, bl c = true) : trimL (l ++ b) = trimL l := by
  revert h
  refine snocInd (P := fun b => (∀ c ∈ b, bl c = true) → trimL (l ++ b) = trimL l) (fun _ => by rw [List.append_nil]) (fun b c ih h => ?_) b
  rw [← List.append_assoc, trimL_snoc _ _ (h c (by simp)), ih (fun d hd => h d (by simp [hd]))]
/-- So many blanks, by turns. -/
def roundL : Nat → List UInt8
  | 0 => []
  | k + 1 => roundL k ++ [if k % 2 = 0 then 32 else 9]
theorem roundL_bl (k : Nat) : ∀ c ∈ roundL k, bl c = true := by
  induction k with
  | zero => intro c hc; cases hc
  | succ k ih =>
    intro c hc
    rw [roundL] at hc
    rcases List.mem_append.1 hc with hc | hc
    · exact ih c hc
    · rw [List.mem_singleton.1 hc]; split <;> rfl
theorem roundL_len (k : Nat) : (roundL k).length = k := by
  induction k with
  | zero => rfl
  | succ k ih => rw [roundL, List.length_append, ih]; rfl
def roundS (k : Nat) : ByteArray := ⟨(roundL k).toArray⟩
theorem cat_toList (a b : ByteArray) : (a ++ b).data.toList = a.data.toList ++ b.data.toList := by rw [ByteArray.data_append, Array.toList_append]
theorem text_ext {a b : ByteArray} (h : a.data.toList = b.data.toList) : a = b := by
  cases a; cases b; simp only at h; congr 1; exact Array.toList_inj.1 h
theorem roundS_succ_even (k : Nat) (h : k % 2 = 0) : roundS k ++ ⟨#[32]⟩ = roundS (k + 1) := text_ext (by
  rw [cat_toList]; show roundL k ++ [32] = roundL (k + 1); rw [roundL, if_pos h])
theorem roundS_succ_odd (k : Nat) (h : k % 2 = 1) : roundS k ++ ⟨#[9]⟩ = roundS (k + 1) := text_ext (by
  rw [cat_toList]; show roundL k ++ [9] = roundL (k + 1); rw [roundL, if_neg (by omega)])
theorem roundS_size (k : Nat) : (roundS k).size = k := by
  show (roundL k).toArray.size = k
  rw [List.size_toArray, roundL_len]
theorem trimA_trimA (s : ByteArray) : trimA (trimA s) = trimA s := text_ext (trimL_trimL _)
theorem trimA_ahead (k : Nat) (s : ByteArray) : trimA (roundS k ++ s) = trimA s := text_ext (by
  show trimL (roundS k ++ s).data.toList = trimL s.data.toList
  rw [cat_toList]; exact trimL_ahead _ _ (roundL_bl k))
theorem trimA_behind (k : Nat) (s : ByteArray) : trimA (s ++ roundS k) = trimA s := text_ext (by
  show trimL (s ++ roundS k).data.toList = trimL s.data.toList
  rw [cat_toList]; exact trimL_behind _ _ (roundL_bl k))
theorem bl_no (c : UInt8) (h : bl c = false) : ((c.toNat : Int) == 32) = false ∧ ((c.toNat : Int) == 9) = false := by
  refine ⟨beq_eq_false_iff_ne.2 (fun e => ?_), beq_eq_false_iff_ne.2 (fun e => ?_)⟩
  · have : c = 32 := UInt8.toNat_inj.1 (by simp; omega)
    subst this; cases h
  · have : c = 9 := UInt8.toNat_inj.1 (by simp; omega)
    subst this; cases h
theorem trimA_ends (s : ByteArray) (h : 0 < (trimA s).size) : bl (trimA s)[0] = false ∧ bl ((trimA s)[(trimA s).size - 1]'(by omega)) = false := by
  have hl : (trimL s.data.toList).length = (trimA s).size := by simp [trimA, ByteArray.size]
  refine ⟨trimL_head s.data.toList _ ?_, trimL_last s.data.toList _ ?_⟩
  · rw [List.head?_eq_getElem?, List.getElem?_eq_getElem (by omega)]; rfl
  · rw [List.getLast?_eq_getElem?, hl, List.getElem?_eq_getElem (by omega)]; rfl

end Go.Proofs.YtllpdnmhabpbcaaGreatDoor
