/-
  The walk of footmanlaw01.AsciiAgain.
-/
import Derived.Test.YtjeejpgkhjblnaaDoorAlive
namespace Go.Proofs.YtjeejpgkhjblnaaDoor
open Go.RowKit

theorem low_small (c : UInt8) : ¬ (65 ≤ (low c).toNat ∧ (low c).toNat ≤ 90) := by
  by_cases h : 65 ≤ c.toNat ∧ c.toNat ≤ 90
  · have := low_yes c h.1 h.2; omega
  · rw [low_no c h]; exact h
theorem low_low (c : UInt8) : low (low c) = low c := low_no _ (low_small c)
theorem lowS_lowS (s : ByteArray) : lowS (lowS s) = lowS s := by
  simp only [lowS, List.map_map]
  congr 3
  funext c; exact low_low c
theorem sameS_low (s : ByteArray) : sameS s (lowS s) = true ∧ sameS (lowS s) s = true := by
  simp [sameS, lowS_lowS]
theorem lowS_at (s : ByteArray) (k : Nat) (h : k < (lowS s).size) : ¬ (65 ≤ (lowS s)[k].toNat ∧ (lowS s)[k].toNat ≤ 90) := by
  have hm : (lowS s)[k] ∈ s.data.toList.map low := by
    have e : (lowS s)[k] = (lowS s).data[k]'h := rfl
    rw [e]
    have : (lowS s).data.toList = s.data.toList.map low := rfl
    rw [← this]; simp
  obtain ⟨c, _, hc⟩ := List.mem_map.1 hm
  rw [← hc]; exact low_small c

set_option maxHeartbeats 1000000 in
theorem again_walk (s : ByteArray) (m : Int) (w : World) (hs : s.size ≤ maxLen) (hm : w.cell? ⟨2, 0, none⟩ = some (.int .i64 m)) :
    Calls Tryd.prog 5 #[.string s] w fun e w' => e = .returned (.bool true) ∧ Below w.heap.size w w' := by
  have HM := Lib.hid hm; clear hm
  by_cases hb : 1048576 < s.size
  · go_enter Tryd.func5, Tryd.ntmps5
    go_wp2_with fail
    refine (alive_any m _ HM.out).mono ?_
    rintro e w1 ⟨rfl, b1⟩
    have B1 := Lib.hid b1; clear b1
    go_wp2_with fail
    refine (Beyond1_yes w1.heap.size s.size _ hs (by simp) hb).mono ?_
    rintro e w2 ⟨rfl, rfl⟩
    go_wp2_with fail
    refine (alive_any m _ (cell_old _ (kept_cell B1.out HM.out (Nat.le_refl _)))).mono ?_
    rintro e w2 ⟨rfl, b2⟩
    have B2 := Lib.hid b2; clear b2
    go_wp2
    go_ret
    have h1 := B1.out.size
    exact ⟨rfl, (B1.out.trans ((Below.refl _ _).alloc h1 _)).trans (B2.out.mono (by simp; omega))⟩
  · go_enter Tryd.func5, Tryd.ntmps5
    go_wp2_with fail
    refine (alive_any m _ HM.out).mono ?_
    rintro e w1 ⟨rfl, b1⟩
    have B1 := Lib.hid b1; clear b1
    go_wp2_with fail
    refine (Beyond1_no w1.heap.size s.size _ (by simp) (by omega)).mono ?_
    rintro e w2 ⟨rfl, rfl⟩
    go_wp2_with fail
    refine (Lower_any s _ hs).mono ?_
    rintro e w2 ⟨rfl, b2⟩
    have B2 : Hid (Below w.heap.size w w2) := Lib.hid (by
      have h1 := B1.out.size
      have h2 := b2
      exact (B1.out.trans ((Below.refl _ _).alloc h1 _)).trans (h2.mono (by simp; omega)))
    clear b2 B1
    have hts : (lowS s).size ≤ 1048576 := by rw [lowS_size]; omega
    have hts' : (lowS s).size ≤ maxLen := by unfold maxLen; omega
    have HL := Lib.hid (lowS_size s)
    have HLL := Lib.hid (lowS_lowS s)
    have HSm := Lib.hid (sameS_low s)
    have HAt := Lib.hid (lowS_at s)
    go_wp2
    generalize lowS s = t at *
    go_loop [4] (fun i => ∃ k : Nat, k ≤ t.size ∧ i = .int .i64 k) (fun i => t.size - (intOf i).toNat)
    case atStart => exact ⟨0, Nat.zero_le _, rfl⟩
    case round =>
      obtain ⟨k, hk, rfl⟩ := hrel
      by_cases hlt : k < t.size
      · have ha := HAt.out k hlt
        by_cases h1 : 65 ≤ (t[k].toNat : Int)
        · have h2 : 90 < (t[k].toNat : Int) := by omega
          clear ha
          go_wp2
          go_round
          case rel => exact ⟨k + 1, by omega, by go_num⟩
          case measure => simp [intOf]; omega
        · clear ha
          go_wp2
          go_round
          case rel => exact ⟨k + 1, by omega, by go_num⟩
          case measure => simp [intOf]; omega
      · have hsz : ((t.size : Int) == (s.size : Int)) = true := beq_iff_eq.2 (by rw [HL.out])
        go_wp2_with fail
        refine (Lower_any t _ hts').mono ?_
        rw [HLL.out]
        rintro e w3 ⟨rfl, b3⟩
        have B3 := Lib.hid b3; clear b3
        go_wp2_with fail
        refine (Same_any s t _ hs hts').mono ?_
        rw [HSm.out.1]
        rintro e w4 ⟨rfl, b4⟩
        have B4 := Lib.hid b4; clear b4
        go_wp2_with fail
        refine (Same_any t s _ hts' hs).mono ?_
        rw [HSm.out.2]
        rintro e w5 ⟨rfl, b5⟩
        have B5 := Lib.hid b5; clear b5
        go_wp2
        go_ret
        have g2 := B2.out.size
        have g3 := B3.out.size
        have g4 := B4.out.size
        exact ⟨rfl, ((B2.out.trans (B3.out.mono (by omega))).trans (B4.out.mono (by omega))).trans (B5.out.mono (by omega))⟩

end Go.Proofs.YtjeejpgkhjblnaaDoor
