/-
  Of no program: a text's cut at a byte, a text with a byte for another one, in plain words.
-/
import Derived.Lib.Replace
import Derived.Lib.IndexMore
import Derived.Lib.SplitLaws
import Derived.Test.YtllpdnmhabpbcaaGreatDoorMath
namespace Go.Proofs.YtllpdnmhabpbcaaGreatDoor
open Go.RowKit

theorem ix_hit (a : UInt8) (l : List UInt8) : Lib.index (a :: l) [a] = 0 := by rw [Lib.index]; simp [List.isPrefixOf]
theorem ix_miss {a b : UInt8} (h : b ≠ a) (l : List UInt8) : Lib.index (b :: l) [a] = if Lib.index l [a] == -1 then -1 else Lib.index l [a] + 1 := by
  have hp : ([a] : List UInt8).isPrefixOf (b :: l) = false := by simp [List.isPrefixOf, Ne.symm h]
  rw [Lib.index, hp]; simp
/-- What Cut answers at one byte. -/
def cutP (a : UInt8) : List UInt8 → List UInt8 × List UInt8 × Bool
  | [] => ([], [], false)
  | c :: l => if c = a then ([], l, true) else (c :: (cutP a l).1, (cutP a l).2)
theorem cut_one (a : UInt8) : ∀ l : List UInt8, Lib.cut l [a] = cutP a l
  | [] => rfl
  | c :: l => by
    have ih := cut_one a l
    unfold Lib.cut at ih ⊢
    by_cases h : c = a
    · subst h
      rw [ix_hit, cutP, if_pos rfl]; rfl
    · rw [ix_miss h, cutP, if_neg h, ← ih]
      have hge := Lib.index_ge l [a]
      by_cases hm : Lib.index l [a] = -1
      · rw [hm]; rfl
      · obtain ⟨j, hj⟩ : ∃ j : Nat, Lib.index l [a] = j := ⟨(Lib.index l [a]).toNat, by omega⟩
        rw [hj]
        have e2 : ((j : Int) == -1) = false := beq_eq_false_iff_ne.2 (by omega)
        rw [e2]
        simp only [Bool.false_eq_true, if_false]
        rw [if_pos (by omega), if_pos (by omega)]
        have e3 : ((j : Int) + 1).toNat = j + 1 := by omega
        rw [e3]
        simp
theorem replaceK_miss {old new : List UInt8} {k : Nat} {s : List UInt8} (h : Lib.index s old = -1) : Lib.replaceK old new k s = s := by
  cases k with
  | zero => rfl
  | succ k => rw [Lib.replaceK, h]; rfl
theorem replaceK_one (a : UInt8) (new : List UInt8) : ∀ l : List UInt8, Lib.replaceK [a] new (Lib.count l [a]) l = l.flatMap fun c => if c = a then new else [c]
  | [] => replaceK_miss rfl
  | c :: l => by
    have ih := replaceK_one a new l
    rw [List.flatMap_cons]
    by_cases h : c = a
    · subst h
      rw [if_pos rfl, Lib.count_cons_eq, Nat.add_comm, Lib.replaceK_hit _ _ _ _ 0 (ix_hit c l), ← ih]
      simp
    · rw [if_neg h, Lib.count_cons_ne c a l h, ← ih]
      have hge := Lib.index_ge l [a]
      by_cases hm : Lib.index l [a] = -1
      · rw [replaceK_miss hm, replaceK_miss (by rw [ix_miss h, hm]; rfl)]; rfl
      · obtain ⟨j, hj⟩ : ∃ j : Nat, Lib.index l [a] = j := ⟨(Lib.index l [a]).toNat, by omega⟩
        have hc := Lib.count_hit (s := l) (sub := [a]) (by simp) hj
        have e2 : ((j : Int) == -1) = false := beq_eq_false_iff_ne.2 (by omega)
        have hix : Lib.index (c :: l) [a] = ((j + 1 : Nat) : Int) := by rw [ix_miss h, hj, e2]; simp
        rw [hc, Nat.add_comm, Lib.replaceK_hit _ _ _ _ _ hix, Lib.replaceK_hit _ _ _ _ _ hj]
        simp
theorem replace_one (a : UInt8) (new l : List UInt8) : Lib.replaceAll l [a] new = l.flatMap fun c => if c = a then new else [c] := by
  unfold Lib.replaceAll Lib.replace
  by_cases h : ([a] == new) = true
  · rw [if_pos h]
    obtain rfl := beq_iff_eq.1 h
    rw [show (fun c : UInt8 => if c = a then [a] else [c]) = fun c => [c] from funext fun c => by split <;> simp_all]
    induction l with
    | nil => rfl
    | cons c l ih => rw [List.flatMap_cons, ← ih]; rfl
  · rw [if_neg h, show Lib.replaceNum l [a] (-1) = Lib.count l [a] by unfold Lib.replaceNum; rw [if_pos (.inl (by decide))], replaceK_one]
theorem flat_drop (a : UInt8) : ∀ l : List UInt8, (l.flatMap fun c => if c = a then [] else [c]) = l.filter fun c => c != a
  | [] => rfl
  | c :: l => by
    rw [List.flatMap_cons, flat_drop a l, List.filter_cons]
    by_cases h : c = a
    · subst h; simp
    · simp [h]
theorem flat_swap (a b : UInt8) : ∀ l : List UInt8, (l.flatMap fun c => if c = a then [b] else [c]) = l.map fun c => if c = a then b else c
  | [] => rfl
  | c :: l => by
    rw [List.flatMap_cons, flat_swap a b l, List.map_cons]
    by_cases h : c = a
    · subst h; simp
    · simp [h]

end Go.Proofs.YtllpdnmhabpbcaaGreatDoor
