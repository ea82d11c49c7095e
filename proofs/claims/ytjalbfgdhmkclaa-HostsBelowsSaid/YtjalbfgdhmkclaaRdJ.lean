/-
  Contracts: put, fourOf.
-/
import Derived.Test.YtjalbfgdhmkclaaRdI
import Derived.Test.YtjalbfgdhmkclaaAdV
namespace Go.Proofs.Ytjalbfgdhmkclaa
open Go.RowKit

set_option maxRecDepth 100000 in
set_option maxHeartbeats 1000000 in
theorem put_any (g o k cap n : Nat) (C : Array Value) (t : TypeId) (w : World) (hg : w.heap[g]? = some (.cells C t (0, 0))) (hk : o + k ≤ C.size) (hC : C.size ≤ 100) (hn : n ≤ 4294967296) :
    Calls Try.prog 32 #[.slice (some ⟨g, o, none⟩) k cap, .int .i64 (n : Int)] w fun e w' => e = .returned (.tuple #[]) ∧ Kp (Only g) w w' ∧ ∃ D, w'.heap[g]? = some (.cells D t (0, 0)) ∧ D.size = C.size ∧ (∀ j, ¬ (o ≤ j ∧ j < o + k) → D[j]? = C[j]?) ∧ (∀ j, j < k → D[o + k - 1 - j]? = some (byteN n j)) := by
  have Hg := Lib.hid hg
  clear hg
  go_enter Try.func32, Try.ntmps32
  go_wp2
  go_loopw [1, 4, 7] (fun x _ i wr => ∃ (j : Nat) (D : Array Value), j ≤ k ∧ i = .int .i64 j ∧ x = .int .i64 ((n / 256 ^ j : Nat) : Int) ∧ Hid (Kp (Only g) w wr) ∧ Hid (wr.heap[g]? = some (.cells D t (0, 0))) ∧ D.size = C.size ∧ Hid (∀ i, ¬ (o ≤ i ∧ i < o + k) → D[i]? = C[i]?) ∧ Hid (∀ i, i < j → D[o + k - 1 - i]? = some (byteN n i))) (fun _ _ i _ => k - (intOf i).toNat)
  case atStart => exact ⟨0, C, Nat.zero_le _, rfl, by simp, Lib.hid (Kp.refl _ _), Hg, rfl, Lib.hid (fun _ _ => rfl), Lib.hid (fun i h => absurd h (Nat.not_lt_zero _))⟩
  case round =>
    obtain ⟨j, D, hj, rfl, rfl, HK, HG, hD, H1, H2⟩ := hrel
    by_cases hlt : j < k
    · have hc := frozen_of_row wr g (o + (k - 1 - j)) D _ HG.out
      obtain ⟨v, hv⟩ : ∃ v, D[o + (k - 1 - j)]? = some v := ⟨_, Array.getElem?_eq_getElem (by omega)⟩
      have hcl : wr.cell? ⟨g, o + (k - 1 - j), none⟩ = some v := (cell_of_row wr g _ D _ _ HG.out).trans hv
      obtain ⟨m, HM⟩ : ∃ m, Hid (n / 256 ^ j = m) := ⟨_, Lib.hid rfl⟩
      have hm : m ≤ 4294967296 := by rw [← HM.out]; exact Nat.le_trans (Nat.div_le_self _ _) hn
      have HG2 := Lib.hid (heap_setCell_same wr g (o + (k - 1 - j)) D _ (.int .u8 ((m : Int) % 256)) HG.out)
      rw [HM.out]
      clear hv
      go_wp2
      refine ⟨⟨j + 1, D.setIfInBounds (o + (k - 1 - j)) (.int .u8 ((m : Int) % 256)), by omega, by go_num, ?_, Lib.hid (HK.out.setCell (X := Only g) (p := ⟨g, o + (k - 1 - j), none⟩) rfl _), HG2, by simpa using hD, Lib.hid ?_, Lib.hid ?_⟩, by simp [intOf]; omega⟩
      · rw [Nat.pow_succ, ← Nat.div_div_eq_div_mul, HM.out]
        congr 1
      · intro i hi
        rw [Array.getElem?_setIfInBounds, if_neg (by omega)]
        exact H1.out i hi
      · intro i hi
        rw [Array.getElem?_setIfInBounds]
        by_cases e : i = j
        · subst e
          rw [if_pos (by omega), if_pos (by omega), byteN, HM.out]
          rfl
        · rw [if_neg (by omega)]
          exact H2.out i (by omega)
    · obtain rfl : j = k := by omega
      go_wp2
      go_end0
      exact ⟨rfl, HK.out, D, HG.out, hD, H1.out, H2.out⟩

end Go.Proofs.Ytjalbfgdhmkclaa
