/-
  The walk of footmanlaw01.AsciiTrimmed.
-/
import Derived.Test.YtjeejpgkhjblnaaDoorTrmM
import Derived.Test.YtjeejpgkhjblnaaDoorAlive
namespace Go.Proofs.YtjeejpgkhjblnaaDoor
open Go.RowKit

theorem cat_size (a b : ByteArray) : (a ++ b).size = a.size + b.size := by simp

set_option maxHeartbeats 1000000 in
set_option maxRecDepth 100000 in
theorem trimmed_walk (s : ByteArray) (u : UInt8) (m : Int) (w : World) (hs : s.size ≤ maxLen) (hm : w.cell? ⟨2, 0, none⟩ = some (.int .i64 m)) :
    Calls Tryd.prog 6 #[.string s, .int .u8 u.toNat] w fun e w' => e = .returned (.bool true) ∧ Below w.heap.size w w' := by
  have HM := Lib.hid hm; clear hm
  by_cases hb : 1048576 < s.size
  · go_enter Tryd.func6, Tryd.ntmps6
    go_wp2_with fail
    refine (alive_any m _ HM.out).mono ?_
    rintro e w1 ⟨rfl, b1⟩
    have B1 := Lib.hid b1; clear b1
    go_wp2_with fail
    refine (Beyond1_yes w1.heap.size s.size _ hs (by simp) hb).mono ?_
    rintro e w2 ⟨rfl, rfl⟩
    go_wp2_with fail
    refine (alive_any m _ (cell_old _ (kept_cell B1.out HM.out (Nat.le_refl _)))).mono ?_
    rintro e w2 ⟨rfl, b2⟩
    have B2 := Lib.hid b2; clear b2
    go_wp2
    go_ret
    have h1 := B1.out.size
    exact ⟨rfl, (B1.out.trans ((Below.refl _ _).alloc h1 _)).trans (B2.out.mono (by simp; omega))⟩
  · obtain ⟨t, hT, hle, HE, HTT, HA, HBh⟩ : ∃ t, trimA s = t ∧ t.size ≤ s.size ∧ Hid (∀ h : 0 < t.size, bl t[0] = false ∧ bl (t[t.size - 1]'(by omega)) = false) ∧ Hid (trimA t = t) ∧ Hid (∀ k, trimA (roundS k ++ s) = t) ∧ Hid (∀ k, trimA (s ++ roundS k) = t) :=
      ⟨trimA s, rfl, trimA_le s, trimA_ends s, trimA_trimA s, fun k => trimA_ahead k s, fun k => trimA_behind k s⟩
    have HT := Lib.hid hT; clear hT
    have hul := byte_lt u
    go_enter Tryd.func6, Tryd.ntmps6
    go_wp2_with fail
    refine (alive_any m _ HM.out).mono ?_
    rintro e w1 ⟨rfl, b1⟩
    have B1 := Lib.hid b1; clear b1
    go_wp2_with fail
    refine (Beyond1_no w1.heap.size s.size _ (by simp) (by omega)).mono ?_
    rintro e w2 ⟨rfl, rfl⟩
    go_wp2_with fail
    refine (Trim_any s _ hs).mono ?_
    rw [HT.out]
    rintro e w2 ⟨rfl, b2⟩
    have B2 : Hid (Below w.heap.size w w2) := Lib.hid (by
      have h1 := B1.out.size
      have h2 := b2
      exact (B1.out.trans ((Below.refl _ _).alloc h1 _)).trans (h2.mono (by simp; omega)))
    clear b2 B1
    by_cases h0 : 0 < t.size
    · have e1 := (bl_no _ (HE.out h0).1).1
      have e2 := (bl_no _ (HE.out h0).1).2
      have e3 := (bl_no _ (HE.out h0).2).1
      have e4 := (bl_no _ (HE.out h0).2).2
      have hdec : decide (s.size < t.size) = false := by simp; omega
      go_wp2
      go_loopw [7, 8] (fun v i wr => ∃ k : Nat, k ≤ u.toNat % 9 ∧ i = .int .i64 k ∧ v = .string (roundS k) ∧ Below w.heap.size w wr) (fun _ i _ => u.toNat % 9 - (intOf i).toNat)
      case atStart => exact ⟨0, Nat.zero_le _, rfl, rfl, B2.out⟩
      case round =>
        obtain ⟨k, hk, rfl, rfl, hbel⟩ := hrel
        have HB := Lib.hid hbel; clear hbel
        have hrs := roundS_size k
        have HRS := Lib.hid hrs
        clear hrs
        have hrl : (roundS k).size ≤ 9 := by rw [HRS.out]; omega
        by_cases hlt : k < u.toNat % 9
        · have hlt' : (k : Int) < (u.toNat : Int) % 9 := by omega
          rcases (show k % 2 = 0 ∨ k % 2 = 1 from by omega) with hp | hp
          · have HP := Lib.hid (roundS_succ_even k hp)
            have hp' : ((k : Int) % 2) = 0 := by omega
            go_wp2
            refine ⟨⟨k + 1, by omega, by go_num, by rw [HP.out], ?_⟩, by simp [intOf]; omega⟩
            exact HB.out.alloc HB.out.size _
          · have HP := Lib.hid (roundS_succ_odd k hp)
            have hp' : ((k : Int) % 2) = 1 := by omega
            go_wp2
            refine ⟨⟨k + 1, by omega, by go_num, by rw [HP.out], ?_⟩, by simp [intOf]; omega⟩
            exact HB.out.alloc HB.out.size _
        · have hlt' : (u.toNat : Int) % 9 ≤ (k : Int) := by omega
          go_wp2_with fail
          refine (Trim_any t _ (by unfold maxLen; omega)).mono ?_
          rw [HTT.out]
          rintro e w3 ⟨rfl, b3⟩
          have B3 := Lib.hid b3; clear b3
          go_wp2_with fail
          refine (Trim_any (roundS k ++ s) _ (by rw [cat_size]; unfold maxLen; omega)).mono ?_
          rw [HA.out k]
          rintro e w4 ⟨rfl, b4⟩
          have B4 := Lib.hid b4; clear b4
          go_wp2_with fail
          refine (Trim_any (s ++ roundS k) _ (by rw [cat_size]; unfold maxLen; omega)).mono ?_
          rw [HBh.out k]
          rintro e w5 ⟨rfl, b5⟩
          have B5 := Lib.hid b5; clear b5
          go_wp2
          go_ret
          have g1 := HB.out.size
          have g3 := B3.out.size
          have g4 := B4.out.size
          exact ⟨rfl, ((HB.out.trans (B3.out.mono (by omega))).trans (B4.out.mono (by omega))).trans (B5.out.mono (by omega))⟩
    · have hdec : decide (s.size < t.size) = false := by simp; omega
      go_wp2
      go_loopw [7, 8] (fun v i wr => ∃ k : Nat, k ≤ u.toNat % 9 ∧ i = .int .i64 k ∧ v = .string (roundS k) ∧ Below w.heap.size w wr) (fun _ i _ => u.toNat % 9 - (intOf i).toNat)
      case atStart => exact ⟨0, Nat.zero_le _, rfl, rfl, B2.out⟩
      case round =>
        obtain ⟨k, hk, rfl, rfl, hbel⟩ := hrel
        have HB := Lib.hid hbel; clear hbel
        have hrs := roundS_size k
        have HRS := Lib.hid hrs
        clear hrs
        have hrl : (roundS k).size ≤ 9 := by rw [HRS.out]; omega
        by_cases hlt : k < u.toNat % 9
        · have hlt' : (k : Int) < (u.toNat : Int) % 9 := by omega
          rcases (show k % 2 = 0 ∨ k % 2 = 1 from by omega) with hp | hp
          · have HP := Lib.hid (roundS_succ_even k hp)
            have hp' : ((k : Int) % 2) = 0 := by omega
            go_wp2
            refine ⟨⟨k + 1, by omega, by go_num, by rw [HP.out], ?_⟩, by simp [intOf]; omega⟩
            exact HB.out.alloc HB.out.size _
          · have HP := Lib.hid (roundS_succ_odd k hp)
            have hp' : ((k : Int) % 2) = 1 := by omega
            go_wp2
            refine ⟨⟨k + 1, by omega, by go_num, by rw [HP.out], ?_⟩, by simp [intOf]; omega⟩
            exact HB.out.alloc HB.out.size _
        · have hlt' : (u.toNat : Int) % 9 ≤ (k : Int) := by omega
          go_wp2_with fail
          refine (Trim_any t _ (by unfold maxLen; omega)).mono ?_
          rw [HTT.out]
          rintro e w3 ⟨rfl, b3⟩
          have B3 := Lib.hid b3; clear b3
          go_wp2_with fail
          refine (Trim_any (roundS k ++ s) _ (by rw [cat_size]; unfold maxLen; omega)).mono ?_
          rw [HA.out k]
          rintro e w4 ⟨rfl, b4⟩
          have B4 := Lib.hid b4; clear b4
          go_wp2_with fail
          refine (Trim_any (s ++ roundS k) _ (by rw [cat_size]; unfold maxLen; omega)).mono ?_
          rw [HBh.out k]
          rintro e w5 ⟨rfl, b5⟩
          have B5 := Lib.hid b5; clear b5
          go_wp2
          go_ret
          have g1 := HB.out.size
          have g3 := B3.out.size
          have g4 := B4.out.size
          exact ⟨rfl, ((HB.out.trans (B3.out.mono (by omega))).trans (B4.out.mono (by omega))).trans (B5.out.mono (by omega))⟩

theorem byte_of' (n : Int) (h : (Lit.int .u8 n).wf = true) : ∃ u : UInt8, n = (u.toNat : Int) := by
  have a1 : IntKind.u8.min = 0 := rfl
  have a2 : IntKind.u8.max = 255 := rfl
  simp only [Lit.wf, Bool.and_eq_true, decide_eq_true_eq] at h
  refine ⟨UInt8.ofNat n.toNat, ?_⟩
  rw [UInt8.toNat_ofNat']
  omega
theorem trimmed_all (s : ByteArray) (c : Int) (m : Int) (w : World) (hs : s.size ≤ maxLen) (hc : (Lit.int .u8 c).wf = true) (hm : w.cell? ⟨2, 0, none⟩ = some (.int .i64 m)) :
    Calls Tryd.prog 6 #[.string s, .int .u8 c] w fun e w' => e = .returned (.bool true) ∧ Below w.heap.size w w' := by
  obtain ⟨u, rfl⟩ := byte_of' c hc
  exact trimmed_walk s u m w hs hm

end Go.Proofs.YtjeejpgkhjblnaaDoor
