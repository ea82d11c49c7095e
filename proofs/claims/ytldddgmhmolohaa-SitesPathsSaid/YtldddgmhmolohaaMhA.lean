/-
  Addresses that are compared.
  Plain words on hosts: a machine, below another one.
-/
import Derived.Test.YtldddgmhmolohaaMaC
import Derived.Laws.StructEq
import Derived.ChangeKeysEq
import Derived.Test.YtldddgmhmolohaaMaF
import Derived.Test.YtldddgmhmolohaaMrA
import Derived.Test.YtldddgmhmolohaaMaA
namespace Go.Proofs.Ytldddgmhmolohaa
open Go.RowKit

end Go.Proofs.Ytldddgmhmolohaa
namespace Go.Proofs.Ytldddgmhmolohaa
open Go.RowKit

theorem ba_of {s t : ByteArray} (h : s.data.toList = t.data.toList) : s = t := ByteArray.ext (Array.toList_inj.1 h)
theorem keepW {w w' w'' : World} (h : Below w.heap.size w w') (k : Below w'.heap.size w' w'') : Below w.heap.size w w'' := h.trans (k.mono h.size)
/-- What Four answers, and whether it is four bytes. -/
theorem fourV_mach (l : List UInt8) : ∃ (C : Array Value) (b : Bool) (c : Int), fourV (fourD l) = .tuple #[.agg C, .bool b, .int .i64 c] ∧ C.size = 17 ∧ C.all (·.oneCell') = true ∧
    (b = false ∧ c = 0 ∨ b = true ∧ c = 5 ∨ b = true ∧ c = 0) ∧ (fourD l).1 = b ∧ ((fourD l).2.isSome && b) = (b && (c == 0)) := by
  match h : fourD l with
  | (false, o) => exact ⟨_, _, _, rfl, zeroA_size, zeroA_one, .inl ⟨rfl, rfl⟩, rfl, by simp⟩
  | (true, none) => exact ⟨_, _, _, rfl, zeroA_size, zeroA_one, .inr (.inl ⟨rfl, rfl⟩), rfl, rfl⟩
  | (true, some a) =>
    have hl : a.length = 4 := by
      unfold fourD at h
      split at h
      · injection h with _ h
        split at h
        · cases h
        · rename_i h4
          split at h
          · cases h
          · rename_i ns hns
            have hl := evs_num_len _ _ hns
            exact (lay4_len ns 4 a (by omega) h).1
      · injection h with h _; cases h
    exact ⟨_, _, _, rfl, by rw [cellsA_size, List.length_append, hl]; rfl, cellsA_one _ _, .inr (.inr ⟨rfl, rfl⟩), rfl, rfl⟩
/-- Is a host a machine? -/
def machB (s : ByteArray) : Bool := decide (s.data.toList.head? = some 91) || ((fourD s.data.toList).1 && (fourD s.data.toList).2.isSome)
theorem pre_one (l : List UInt8) (a : UInt8) : Lib.hasPrefix l [a] = decide (l.head? = some a) := by
  cases l with
  | nil => rfl
  | cons c l =>
    by_cases e : a = c
    · subst e; simp [Lib.hasPrefix, List.isPrefixOf]
    · simp [Lib.hasPrefix, List.isPrefixOf, e, Ne.symm e]
/-- Is a host another one, or below it? -/
def belowB (a b : ByteArray) : Bool := decide (a = b) || (decide (0 < b.size) && !machB a && !machB b && Lib.hasSuffix a.data.toList (46 :: b.data.toList))
theorem suf_short {a b : ByteArray} (h : a.size ≤ b.size) : Lib.hasSuffix a.data.toList (46 :: b.data.toList) = false := by
  rw [← Bool.not_eq_true]
  intro hs
  have := (List.isSuffixOf_iff_suffix.1 hs).length_le
  have h1 := lenB a
  have h2 := lenB b
  simp only [List.length_cons] at this
  omega
theorem suf_cut {a b : ByteArray} (n : Nat) (hn : a.size = b.size + (n + 1)) : Lib.hasSuffix a.data.toList (46 :: b.data.toList) = (decide (a[n]'(by omega) = 46) && decide (a.extract (n + 1) a.size = b)) := by
  have h1 := lenB a
  have h2 := lenB b
  have hlt : n < a.data.toList.length := by omega
  have hd : a.data.toList.drop n = a[n]'(by omega) :: a.data.toList.drop (n + 1) := by
    rw [List.drop_eq_getElem_cons hlt]; rfl
  have he : (a.extract (n + 1) a.size).data.toList = a.data.toList.drop (n + 1) := by
    rw [ext_mid a (n + 1) a.size (Nat.le_refl _), List.take_of_length_le (by rw [List.length_drop]; omega)]
  rw [Bool.eq_iff_iff, Bool.and_eq_true, decide_eq_true_eq, decide_eq_true_eq]
  show List.isSuffixOf _ _ = true ↔ _
  rw [List.isSuffixOf_iff_suffix, List.suffix_iff_eq_drop, List.length_cons, show a.data.toList.length - (b.data.toList.length + 1) = n by omega, hd]
  constructor
  · intro h
    injection h with h3 h4
    exact ⟨h3.symm, ba_of (by rw [he, h4])⟩
  · rintro ⟨h3, h4⟩
    rw [h3, ← he, h4]
theorem below_self (a : ByteArray) : belowB a a = true := by simp [belowB]
theorem below_ne {a b : ByteArray} (h : a ≠ b) : belowB a b = (decide (0 < b.size) && !machB a && !machB b && Lib.hasSuffix a.data.toList (46 :: b.data.toList)) := by simp [belowB, h]
theorem neL {a b : ByteArray} (h : a ≠ b) : (a.toList == b.toList) = false := by
  rw [beq_eq_false_iff_ne, ByteArray.toList_eq, ByteArray.toList_eq]
  exact fun e => h (ba_of e)
theorem emF {s : ByteArray} (h : 0 < s.size) : s.toList.isEmpty = false := by
  rw [ByteArray.toList_eq, List.isEmpty_eq_false_iff, ← List.length_pos_iff, lenB]; exact h
theorem emT {s : ByteArray} (h : s.size = 0) : s.toList.isEmpty = true := by
  rw [ByteArray.toList_eq, List.isEmpty_iff, ← List.length_eq_zero_iff, lenB]; omega

end Go.Proofs.Ytldddgmhmolohaa
