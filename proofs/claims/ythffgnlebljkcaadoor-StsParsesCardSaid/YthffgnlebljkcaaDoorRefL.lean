/-
  Contracts: the document's Lower, Same.
-/
import Derived.Test.YthffgnlebljkcaaDoorLowB
namespace Go.Proofs.YthffgnlebljkcaaDoor
open Go.RowKit

theorem low_yes' (c : UInt8) (h1 : 65 ≤ c.toNat) (h2 : c.toNat ≤ 90) : (c.toNat : Int) + 32 = (low c).toNat := by
  rw [low_yes c h1 h2]; omega

set_option maxHeartbeats 1000000 in
theorem RefLower_any (s : ByteArray) (w : World) (hs : s.size ≤ maxLen) :
    Calls Tryd.prog 39 #[.string s] w fun e w' => e = .returned (.string (lowS s)) ∧ Below w.heap.size w w' := by
  unfold maxLen at hs
  have hcv := fun (w : World) => run_bytes_of_string (P := Tryd.prog) w 9 39 5 s Tryd.underlying9 Tryd.underlying39 Tryd.underlying5
  have hge := grownCap_ge w s.size 0 5
  have HM : Hid ((bytesRow s (grownCap w s.size 0 5)).size = grownCap w s.size 0 5) := by
    have := lowRow_size s 0 (grownCap w s.size 0 5) (Nat.zero_le _) hge
    rw [lowTo_zero] at this
    exact Lib.hid this
  go_enter Tryd.func39, Tryd.ntmps39
  go_wp2
  clear hcv
  rw [HM.out]
  generalize grownCap w s.size 0 5 = cap at *
  go_loopw [4] (fun i wr => ∃ k : Nat, k ≤ s.size ∧ i = .int .i64 k ∧ wr = (w.alloc (.cells (bytesRow (lowTo s k) cap) 5 (cap, cap + 1))).drew) (fun i _ => s.size - (intOf i).toNat)
  case atStart => exact ⟨0, Nat.zero_le _, rfl, by rw [lowTo_zero]⟩
  case round =>
    obtain ⟨k, hk, rfl, rfl⟩ := hrel
    obtain ⟨R, HR⟩ : ∃ R, Hid (R = bytesRow (lowTo s k) cap) := ⟨_, rfl⟩
    rw [← HR.out]
    by_cases hlt : k < s.size
    · have hc : (w.alloc (.cells R 5 (cap, cap + 1))).cell? ⟨w.heap.size, k, none⟩ = some (.int .u8 (s[k].toNat : Int)) := by rw [World.cell?_alloc_mark, HR.out, lowRow_at s k k cap hlt hk, if_neg (by omega)]
      have hf : (w.alloc (.cells R 5 (cap, cap + 1))).frozen? ⟨w.heap.size, k, none⟩ = false := frozen_alloc_mark _ _ _ _ _ (by omega)
      have HS := Lib.hid (lowRow_set s k cap hlt hge)
      have hset : ∀ v, low s[k] = s[k] → R.setIfInBounds k v = R.setIfInBounds k v := fun _ _ => rfl
      clear hset
      have hsame : low s[k] = s[k] → R = bytesRow (lowTo s (k + 1)) cap := by
        intro e
        rw [← HS.out, e, ← HR.out]
        apply Array.ext_getElem?
        intro j
        rw [Array.getElem?_setIfInBounds]
        by_cases hj : k = j
        · subst hj
          rw [World.cell?_alloc_mark] at hc
          rw [if_pos rfl, hc]
          have : k < R.size := by
            rcases Nat.lt_or_ge k R.size with h | h
            · exact h
            · rw [Array.getElem?_eq_none h] at hc; cases hc
          rw [if_pos this]
        · rw [if_neg hj]
      have HSame := Lib.hid hsame
      clear hsame
      by_cases h1 : 65 ≤ s[k].toNat
      · by_cases h2 : s[k].toNat ≤ 90
        · have HL := Lib.hid (low_yes' s[k] h1 h2)
          have g1 : 65 ≤ (s[k].toNat : Int) := by omega
          have g2 : (s[k].toNat : Int) ≤ 90 := by omega
          clear h1 h2
          go_wp2
          refine ⟨⟨k + 1, by omega, by go_num, ?_⟩, by simp [intOf]; omega⟩
          rw [setCell_alloc_mark, HR.out, HL.out, HS.out]
        · have HL := Lib.hid (HSame.out (low_no s[k] (by omega)))
          have g1 : 65 ≤ (s[k].toNat : Int) := by omega
          have g2 : 90 < (s[k].toNat : Int) := by omega
          clear h1 h2
          go_wp2
          refine ⟨⟨k + 1, by omega, by go_num, ?_⟩, by simp [intOf]; omega⟩
          rw [HL.out]
      · have HL := Lib.hid (HSame.out (low_no s[k] (by omega)))
        have g1 : (s[k].toNat : Int) < 65 := by omega
        clear h1
        go_wp2
        refine ⟨⟨k + 1, by omega, by go_num, ?_⟩, by simp [intOf]; omega⟩
        rw [HL.out]
    · obtain rfl : k = s.size := by omega
      have hb := run_convert_bytes_back (P := Tryd.prog) (w.alloc (.cells R 5 (cap, cap + 1))).drew 39 9 5 ⟨w.heap.size, 0, none⟩ cap (s.data.toList.map low) Tryd.underlying39 Tryd.underlying5 Tryd.underlying9 (fun j hj => by
        have hj' : j < s.size := by simpa using hj
        have e : (⟨w.heap.size, 0, none⟩ : Addr).add j = ⟨w.heap.size, j, none⟩ := by unfold Addr.add; split <;> simp_all
        rw [World.cell?_drew, e, World.cell?_alloc_mark, HR.out, lowRow_at s s.size j cap hj' (Nat.le_refl _), if_pos hj']
        simp [ByteArray.getElem_eq_getElem_data])
      rw [show (s.data.toList.map low).length = s.size by simp] at hb
      go_wp2
      go_ret
      exact ⟨rfl, ((Below.refl _ _).alloc (Nat.le_refl _) _).drew⟩

end Go.Proofs.YthffgnlebljkcaaDoor
