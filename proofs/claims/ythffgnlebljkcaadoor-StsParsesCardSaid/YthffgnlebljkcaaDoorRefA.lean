/-
  Contracts of the document's Digit and Number.
-/
import Derived.Test.YthffgnlebljkcaaDoorBeyond
import Derived.Test.YthffgnlebljkcaaDoorRDg
namespace Go.Proofs.YthffgnlebljkcaaDoor
open Go.RowKit

theorem num_take' (s : ByteArray) (k : Nat) (hk : k ≤ 17) (hks : k ≤ s.size) (h : allR 48 57 (s.data.toList.take k) = true) : 0 ≤ num (s.data.toList.take k) ∧ num (s.data.toList.take k) < 100000000000000000 := by
  have hb := num_bd _ h
  have hl : (s.data.toList.take k).length = k := by simp; omega
  rw [hl] at hb
  refine ⟨hb.1, Int.lt_of_lt_of_le hb.2 ?_⟩
  have : (10 : Int) ^ 17 = 100000000000000000 := by decide
  rw [← this]
  exact_mod_cast Nat.pow_le_pow_right (by decide) hk

end Go.Proofs.YthffgnlebljkcaaDoor
