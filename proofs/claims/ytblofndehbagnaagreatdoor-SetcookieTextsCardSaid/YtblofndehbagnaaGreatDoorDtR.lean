/-
  Contracts: the document's days and seconds.
-/
import Derived.Test.YtblofndehbagnaaGreatDoorDtP
namespace Go.Proofs.YtblofndehbagnaaGreatDoor
open Go.RowKit

set_option maxHeartbeats 1000000 in
theorem RefLeap_any (y : Nat) (hy : y ≤ 100000) (w : World) :
    Calls Tryz.prog 107 #[.int .i64 (y : Int)] w fun e w' => e = .returned (.bool (leapN y)) ∧ w = w' := by
  obtain ⟨a1, a2, _, _⟩ := mod_facts y 4
  obtain ⟨_, _, b1, b2⟩ := mod_facts y 100
  obtain ⟨c1, c2, _, _⟩ := mod_facts y 400
  by_cases h4 : y % 4 = 0
  · have g4 : ((y : Int) % 4 == 0) = true := a1.2 h4
    by_cases h1 : y % 100 = 0
    · have g1 : ((y : Int) % 100 != 0) = false := b2.2 h1
      by_cases h0 : y % 400 = 0
      · have g0 : ((y : Int) % 400 == 0) = true := c1.2 h0
        rw [(leap_iff y).2 ⟨h4, .inr h0⟩]
        clear a1 a2 b1 b2 c1 c2 h4 h1 h0
        go_enter Tryz.func107, Tryz.ntmps107
        go_wp2
        go_ret
        exact ⟨rfl, rfl⟩
      · have g0 : ((y : Int) % 400 == 0) = false := c2.2 h0
        rw [(leap_not y).2 (fun h => by omega)]
        clear a1 a2 b1 b2 c1 c2 h4 h1 h0
        go_enter Tryz.func107, Tryz.ntmps107
        go_wp2
        go_ret
        exact ⟨rfl, rfl⟩
    · have g1 : ((y : Int) % 100 != 0) = true := b1.2 h1
      rw [(leap_iff y).2 ⟨h4, .inl h1⟩]
      clear a1 a2 b1 b2 c1 c2 h4 h1
      go_enter Tryz.func107, Tryz.ntmps107
      go_wp2
      go_ret
      exact ⟨rfl, rfl⟩
  · have g4 : ((y : Int) % 4 == 0) = false := a2.2 h4
    rw [(leap_not y).2 (fun h => h4 h.1)]
    clear a1 a2 b1 b2 c1 c2 h4
    go_enter Tryz.func107, Tryz.ntmps107
    go_wp2
    go_ret
    exact ⟨rfl, rfl⟩

set_option maxHeartbeats 4000000 in
theorem RefDays_any (y m : Nat) (hy : y ≤ 100000) (m1 : 1 ≤ m) (m2 : m ≤ 12) (w : World) :
    Calls Tryz.prog 82 #[.int .i64 (y : Int), .int .i64 (m : Int)] w fun e w' => e = .returned (.int .i64 (daysN y m : Nat)) ∧ w = w' := by
  by_cases h2 : m = 2
  · subst h2
    have hl := RefLeap_any y hy w
    cases hb : leapN y with
    | true =>
      rw [hb] at hl
      have hd : daysN y 2 = 29 := by simp [daysN, hb]
      rw [hd]
      go_enter Tryz.func82, Tryz.ntmps82
      go_wp2_with fail
      refine hl.mono ?_
      rintro e w' ⟨rfl, rfl⟩
      go_wp2
      go_ret
      exact ⟨rfl, rfl⟩
    | false =>
      rw [hb] at hl
      have hd : daysN y 2 = 28 := by simp [daysN, hb]
      rw [hd]
      go_enter Tryz.func82, Tryz.ntmps82
      go_wp2_with fail
      refine hl.mono ?_
      rintro e w' ⟨rfl, rfl⟩
      go_wp2
      go_ret
      exact ⟨rfl, rfl⟩
  · have : m = 1 ∨ m = 3 ∨ m = 4 ∨ m = 5 ∨ m = 6 ∨ m = 7 ∨ m = 8 ∨ m = 9 ∨ m = 10 ∨ m = 11 ∨ m = 12 := by omega
    clear h2 m1 m2
    rcases this with rfl | rfl | rfl | rfl | rfl | rfl | rfl | rfl | rfl | rfl | rfl
    all_goals
      go_enter Tryz.func82, Tryz.ntmps82
      go_wp2
      go_ret
      exact ⟨rfl, rfl⟩

set_option maxHeartbeats 1000000 in
theorem RefBefore_any (y : Nat) (y1 : 1 ≤ y) (hy : y ≤ 100000) (w : World) :
    Calls Tryz.prog 81 #[.int .i64 (y : Int)] w fun e w' => e = .returned (.int .i64 (bef y : Nat)) ∧ w = w' := by
  obtain ⟨x, rfl⟩ : ∃ x, y = x + 1 := ⟨y - 1, by omega⟩
  have hx : (x : Int) ≤ 100000 := by omega
  have hb : ((bef (x + 1) : Nat) : Int) = 365 * (x : Int) + (x : Int) / 4 - (x : Int) / 100 + (x : Int) / 400 := by
    unfold bef
    rw [Nat.add_sub_cancel]
    have : x / 100 ≤ x / 4 := by omega
    omega
  rw [hb]
  clear hb
  go_enter Tryz.func81, Tryz.ntmps81
  go_wp2
  go_ret
  exact ⟨rfl, rfl⟩

set_option maxHeartbeats 4000000 in
set_option maxRecDepth 100000 in
theorem RefSeconds_any (y m d h i s : Int) (w : World) :
    Calls Tryz.prog 76 #[.int .i64 y, .int .i64 m, .int .i64 d, .int .i64 h, .int .i64 i, .int .i64 s] w fun e w' => e = .returned (.tuple #[.int .i64 (secR y m d h i s), .bool (secB y m d h i s)]) ∧ w = w' := by
  by_cases c0 : y < 1
  · have hb : secB y m d h i s = false := by
      cases hb : secB y m d h i s with
      | false => rfl
      | true =>
        obtain ⟨h1, h2, h3, h4⟩ := secB_iff.1 hb
        obtain ⟨h5, h6, h7⟩ := dayB_iff.1 h1
        omega
    have HBf := Lib.hid hb; clear hb
    go_enter Tryz.func76, Tryz.ntmps76
    go_wp2
    go_ret2
    exact ⟨sec_no HBf.out, rfl⟩
  by_cases c1 : 9999 < y
  · have hb : secB y m d h i s = false := by
      cases hb : secB y m d h i s with
      | false => rfl
      | true =>
        obtain ⟨h1, h2, h3, h4⟩ := secB_iff.1 hb
        obtain ⟨h5, h6, h7⟩ := dayB_iff.1 h1
        omega
    have HBf := Lib.hid hb; clear hb
    go_enter Tryz.func76, Tryz.ntmps76
    go_wp2
    go_ret2
    exact ⟨sec_no HBf.out, rfl⟩
  by_cases c2 : m < 1
  · have hb : secB y m d h i s = false := by
      cases hb : secB y m d h i s with
      | false => rfl
      | true =>
        obtain ⟨h1, h2, h3, h4⟩ := secB_iff.1 hb
        obtain ⟨h5, h6, h7⟩ := dayB_iff.1 h1
        omega
    have HBf := Lib.hid hb; clear hb
    go_enter Tryz.func76, Tryz.ntmps76
    go_wp2
    go_ret2
    exact ⟨sec_no HBf.out, rfl⟩
  by_cases c3 : 12 < m
  · have hb : secB y m d h i s = false := by
      cases hb : secB y m d h i s with
      | false => rfl
      | true =>
        obtain ⟨h1, h2, h3, h4⟩ := secB_iff.1 hb
        obtain ⟨h5, h6, h7⟩ := dayB_iff.1 h1
        omega
    have HBf := Lib.hid hb; clear hb
    go_enter Tryz.func76, Tryz.ntmps76
    go_wp2
    go_ret2
    exact ⟨sec_no HBf.out, rfl⟩
  by_cases c4 : d < 1
  · have hb : secB y m d h i s = false := by
      cases hb : secB y m d h i s with
      | false => rfl
      | true =>
        obtain ⟨h1, h2, h3, h4⟩ := secB_iff.1 hb
        obtain ⟨h5, h6, h7⟩ := dayB_iff.1 h1
        omega
    have HBf := Lib.hid hb; clear hb
    go_enter Tryz.func76, Tryz.ntmps76
    go_wp2
    go_ret2
    exact ⟨sec_no HBf.out, rfl⟩
  obtain ⟨Y, rfl⟩ : ∃ Y : Nat, y = Y := ⟨y.toNat, by omega⟩
  obtain ⟨M, rfl⟩ : ∃ M : Nat, m = M := ⟨m.toNat, by omega⟩
  obtain ⟨N, HN⟩ : ∃ N, Hid (daysN Y M = N) := ⟨_, Lib.hid rfl⟩
  have hdn := RefDays_any Y M (by omega) (by omega) (by omega) w
  rw [HN.out] at hdn
  have hN31 : N ≤ 31 := by rw [← HN.out]; exact (days_pos Y M).2
  by_cases c5 : (N : Int) < d
  · have hb : secB (Y : Int) (M : Int) d h i s = false := by
      cases hb : secB (Y : Int) (M : Int) d h i s with
      | false => rfl
      | true =>
        obtain ⟨h1, h2, h3, h4⟩ := secB_iff.1 hb
        obtain ⟨h5, h6, h7⟩ := dayB_iff.1 h1
        rw [Int.toNat_natCast, Int.toNat_natCast, HN.out] at h7
        omega
    have HBf := Lib.hid hb; clear hb
    go_enter Tryz.func76, Tryz.ntmps76
    go_wp2_with fail
    refine hdn.mono ?_
    rintro e w' ⟨rfl, rfl⟩
    go_wp2
    go_ret2
    exact ⟨sec_no HBf.out, rfl⟩
  by_cases c6 : h < 0
  · have hb : secB (Y : Int) (M : Int) d h i s = false := by
      cases hb : secB (Y : Int) (M : Int) d h i s with
      | false => rfl
      | true =>
        obtain ⟨h1, h2, h3, h4⟩ := secB_iff.1 hb
        obtain ⟨h5, h6, h7⟩ := dayB_iff.1 h1
        rw [Int.toNat_natCast, Int.toNat_natCast, HN.out] at h7
        omega
    have HBf := Lib.hid hb; clear hb
    go_enter Tryz.func76, Tryz.ntmps76
    go_wp2_with fail
    refine hdn.mono ?_
    rintro e w' ⟨rfl, rfl⟩
    go_wp2
    go_ret2
    exact ⟨sec_no HBf.out, rfl⟩
  by_cases c7 : 23 < h
  · have hb : secB (Y : Int) (M : Int) d h i s = false := by
      cases hb : secB (Y : Int) (M : Int) d h i s with
      | false => rfl
      | true =>
        obtain ⟨h1, h2, h3, h4⟩ := secB_iff.1 hb
        obtain ⟨h5, h6, h7⟩ := dayB_iff.1 h1
        rw [Int.toNat_natCast, Int.toNat_natCast, HN.out] at h7
        omega
    have HBf := Lib.hid hb; clear hb
    go_enter Tryz.func76, Tryz.ntmps76
    go_wp2_with fail
    refine hdn.mono ?_
    rintro e w' ⟨rfl, rfl⟩
    go_wp2
    go_ret2
    exact ⟨sec_no HBf.out, rfl⟩
  by_cases c8 : i < 0
  · have hb : secB (Y : Int) (M : Int) d h i s = false := by
      cases hb : secB (Y : Int) (M : Int) d h i s with
      | false => rfl
      | true =>
        obtain ⟨h1, h2, h3, h4⟩ := secB_iff.1 hb
        obtain ⟨h5, h6, h7⟩ := dayB_iff.1 h1
        rw [Int.toNat_natCast, Int.toNat_natCast, HN.out] at h7
        omega
    have HBf := Lib.hid hb; clear hb
    go_enter Tryz.func76, Tryz.ntmps76
    go_wp2_with fail
    refine hdn.mono ?_
    rintro e w' ⟨rfl, rfl⟩
    go_wp2
    go_ret2
    exact ⟨sec_no HBf.out, rfl⟩
  by_cases c9 : 59 < i
  · have hb : secB (Y : Int) (M : Int) d h i s = false := by
      cases hb : secB (Y : Int) (M : Int) d h i s with
      | false => rfl
      | true =>
        obtain ⟨h1, h2, h3, h4⟩ := secB_iff.1 hb
        obtain ⟨h5, h6, h7⟩ := dayB_iff.1 h1
        rw [Int.toNat_natCast, Int.toNat_natCast, HN.out] at h7
        omega
    have HBf := Lib.hid hb; clear hb
    go_enter Tryz.func76, Tryz.ntmps76
    go_wp2_with fail
    refine hdn.mono ?_
    rintro e w' ⟨rfl, rfl⟩
    go_wp2
    go_ret2
    exact ⟨sec_no HBf.out, rfl⟩
  by_cases c10 : s < 0
  · have hb : secB (Y : Int) (M : Int) d h i s = false := by
      cases hb : secB (Y : Int) (M : Int) d h i s with
      | false => rfl
      | true =>
        obtain ⟨h1, h2, h3, h4⟩ := secB_iff.1 hb
        obtain ⟨h5, h6, h7⟩ := dayB_iff.1 h1
        rw [Int.toNat_natCast, Int.toNat_natCast, HN.out] at h7
        omega
    have HBf := Lib.hid hb; clear hb
    go_enter Tryz.func76, Tryz.ntmps76
    go_wp2_with fail
    refine hdn.mono ?_
    rintro e w' ⟨rfl, rfl⟩
    go_wp2
    go_ret2
    exact ⟨sec_no HBf.out, rfl⟩
  by_cases c11 : 59 < s
  · have hb : secB (Y : Int) (M : Int) d h i s = false := by
      cases hb : secB (Y : Int) (M : Int) d h i s with
      | false => rfl
      | true =>
        obtain ⟨h1, h2, h3, h4⟩ := secB_iff.1 hb
        obtain ⟨h5, h6, h7⟩ := dayB_iff.1 h1
        rw [Int.toNat_natCast, Int.toNat_natCast, HN.out] at h7
        omega
    have HBf := Lib.hid hb; clear hb
    go_enter Tryz.func76, Tryz.ntmps76
    go_wp2_with fail
    refine hdn.mono ?_
    rintro e w' ⟨rfl, rfl⟩
    go_wp2
    go_ret2
    exact ⟨sec_no HBf.out, rfl⟩
  have hb : secB (Y : Int) (M : Int) d h i s = true := secB_iff.2 ⟨dayB_iff.2 ⟨by omega, by omega, by rw [Int.toNat_natCast, Int.toNat_natCast, HN.out]; omega⟩, by omega, by omega, by omega⟩
  have hY9 : Y ≤ 9999 := by omega
  have hY1 : 1 ≤ Y := by omega
  have hM9 : M ≤ 12 := by omega
  have hM1 : 1 ≤ M := by omega
  have hbb := bef_mono Y 9999 (by omega) (by omega)
  have hb9 : bef 9999 = 3651694 := by decide
  have hB : bef Y ≤ 3651694 := by omega
  clear hbb hb9
  obtain ⟨B, HB⟩ : ∃ B, Hid (bef Y = B) := ⟨_, Lib.hid rfl⟩
  have hA := RefBefore_any Y hY1 (by omega) w
  rw [HB.out] at hA hB
  go_enter Tryz.func76, Tryz.ntmps76
  go_wp2_with fail
  refine hdn.mono ?_
  rintro e w' ⟨rfl, rfl⟩
  go_wp2_with fail
  refine hA.mono ?_
  rintro e w' ⟨rfl, rfl⟩
  go_wp2
  go_loop [14, 15] (fun v k => ∃ (n c : Nat), n ≤ M ∧ 1 ≤ n ∧ k = .int .i64 n ∧ Hid (c = cumN Y n) ∧ c ≤ 400 ∧ v = .int .i64 ((B : Int) + d - 1 + c)) (fun _ k => 12 - (intOf k).toNat)
  case atStart => exact ⟨1, 0, hM1, Nat.le_refl _, rfl, Lib.hid rfl, by omega, by go_num⟩
  case round =>
    obtain ⟨n, c, hnM, hn1, rfl, HC, hc4, rfl⟩ := hrel
    by_cases hlt : n < M
    · have hdq := RefDays_any Y n (by omega) hn1 (by omega) w
      obtain ⟨q, HQ⟩ : ∃ q, Hid (daysN Y n = q) := ⟨_, Lib.hid rfl⟩
      rw [HQ.out] at hdq
      have hq : q ≤ 31 := by rw [← HQ.out]; exact (days_pos Y n).2
      have HC2 : Hid (c + q = cumN Y (n + 1)) := Lib.hid (by rw [cum_succ Y n hn1, ← HC.out, HQ.out])
      have hc2 : c + q ≤ 400 := by rw [HC2.out]; have := cum_up Y (n + 1) (by omega); omega
      go_wp2_with fail
      refine hdq.mono ?_
      rintro e w' ⟨rfl, rfl⟩
      go_wp2
      go_round
      case rel => exact ⟨n + 1, c + q, by omega, by omega, by go_num, HC2, hc2, by go_num⟩
      case measure => simp [intOf]; omega
    · have hnm : n = M := by omega
      subst hnm
      have HV : Hid (secR Y n d h i s = -62135596800 + ((B : Int) + d - 1 + c) * 86400 + h * 3600 + i * 60 + s) := Lib.hid (by
        rw [secR, if_pos hb, secV, Int.toNat_natCast, Int.toNat_natCast, HB.out, ← HC.out]
        omega)
      go_wp2
      go_ret2
      exact ⟨by rw [HV.out]; rfl, rfl⟩

end Go.Proofs.YtblofndehbagnaaGreatDoor
