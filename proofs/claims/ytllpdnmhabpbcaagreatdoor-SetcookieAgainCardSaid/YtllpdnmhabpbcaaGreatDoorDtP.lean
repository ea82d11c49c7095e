/-
  Contracts: is there such a day, and which seconds it begins at, of package dates.
-/
import Derived.Test.YtllpdnmhabpbcaaGreatDoorDtS
namespace Go.Proofs.YtllpdnmhabpbcaaGreatDoor
open Go.RowKit

/-- Is there such a day; such an hour of it; its seconds. -/
def dayB (y m d : Int) : Bool := inR 1 9999 y && (inR 1 12 m && inR 1 (daysN y.toNat m.toNat : Nat) d)
def secB (y m d h i s : Int) : Bool := dayB y m d && (inR 0 23 h && (inR 0 59 i && inR 0 59 s))
def secV (y m d h i s : Int) : Int := -62135596800 + ((bef y.toNat : Nat) + (cumN y.toNat m.toNat : Nat) + d - 1) * 86400 + h * 3600 + i * 60 + s
def secR (y m d h i s : Int) : Int := if secB y m d h i s then secV y m d h i s else 0
theorem dayB_iff {y m d : Int} : dayB y m d = true ↔ (1 ≤ y ∧ y ≤ 9999) ∧ (1 ≤ m ∧ m ≤ 12) ∧ (1 ≤ d ∧ d ≤ (daysN y.toNat m.toNat : Nat)) := by
  simp only [dayB, Bool.and_eq_true, inR_true]
theorem secB_iff {y m d h i s : Int} : secB y m d h i s = true ↔ dayB y m d = true ∧ (0 ≤ h ∧ h ≤ 23) ∧ (0 ≤ i ∧ i ≤ 59) ∧ (0 ≤ s ∧ s ≤ 59) := by
  simp only [secB, Bool.and_eq_true, inR_true]

set_option maxHeartbeats 1000000 in
theorem isDay_any (y m d : Int) (w : World) :
    Calls Tryz.prog 120 #[.int .i64 y, .int .i64 m, .int .i64 d] w fun e w' => e = .returned (.bool (dayB y m d)) ∧ w = w' := by
  cases hy : inR 1 9999 y with
  | false =>
    rw [show dayB y m d = false by simp [dayB, hy]]
    go_enter Tryz.func120, Tryz.ntmps120
    go_wp2_with fail
    refine (dWithin_any _ _ _ _).mono ?_
    rw [hy]
    rintro e w' ⟨rfl, rfl⟩
    go_wp2
    go_ret
    exact ⟨rfl, rfl⟩
  | true =>
    cases hm : inR 1 12 m with
    | false =>
      rw [show dayB y m d = false by simp [dayB, hm]]
      go_enter Tryz.func120, Tryz.ntmps120
      go_wp2_with fail
      refine (dWithin_any _ _ _ _).mono ?_
      rw [hy]
      rintro e w' ⟨rfl, rfl⟩
      go_wp2_with fail
      refine (dWithin_any _ _ _ _).mono ?_
      rw [hm]
      rintro e w' ⟨rfl, rfl⟩
      go_wp2
      go_ret
      exact ⟨rfl, rfl⟩
    | true =>
      have hY := inR_true.1 hy
      have hM := inR_true.1 hm
      obtain ⟨Y, rfl⟩ : ∃ Y : Nat, y = Y := ⟨y.toNat, by omega⟩
      obtain ⟨M, rfl⟩ : ∃ M : Nat, m = M := ⟨m.toNat, by omega⟩
      obtain ⟨N, hN⟩ : ∃ N, N = daysN Y M := ⟨_, rfl⟩
      have hd := daysOf_any Y M (by omega) (by omega) (by omega) w
      have he : dayB Y M d = inR 1 (N : Nat) d := by simp only [dayB, hy, hm, Bool.true_and, Int.toNat_natCast, hN]
      rw [he]
      rw [← hN] at hd
      go_enter Tryz.func120, Tryz.ntmps120
      go_wp2_with fail
      refine (dWithin_any _ _ _ _).mono ?_
      rw [hy]
      rintro e w' ⟨rfl, rfl⟩
      go_wp2_with fail
      refine (dWithin_any _ _ _ _).mono ?_
      rw [hm]
      rintro e w' ⟨rfl, rfl⟩
      go_wp2_with fail
      refine hd.mono ?_
      rintro e w' ⟨rfl, rfl⟩
      go_wp2_with fail
      refine (dWithin_any _ _ _ _).mono ?_
      rintro e w' ⟨rfl, rfl⟩
      go_wp2
      go_ret
      exact ⟨by rw [hN]; rfl, rfl⟩

theorem sec_no {y m d h i s : Int} (hb : secB y m d h i s = false) : Ending.returned (.tuple #[.int .i64 0, .bool false]) = .returned (.tuple #[.int .i64 (secR y m d h i s), .bool (secB y m d h i s)]) := by
  rw [secR, hb]; rfl
set_option maxHeartbeats 2000000 in
theorem Seconds_any (y m d h i s : Int) (w : World) :
    Calls Tryz.prog 103 #[.int .i64 y, .int .i64 m, .int .i64 d, .int .i64 h, .int .i64 i, .int .i64 s] w fun e w' => e = .returned (.tuple #[.int .i64 (secR y m d h i s), .bool (secB y m d h i s)]) ∧ w = w' := by
  cases hd : dayB y m d with
  | false =>
    have hb : secB y m d h i s = false := by simp [secB, hd]
    go_enter Tryz.func103, Tryz.ntmps103
    go_wp2_with fail
    refine (isDay_any _ _ _ _).mono ?_
    rw [hd]
    rintro e w' ⟨rfl, rfl⟩
    go_wp2
    go_ret2
    exact ⟨sec_no hb, rfl⟩
  | true =>
    cases hh : inR 0 23 h with
    | false =>
      have hb : secB y m d h i s = false := by simp [secB, hh]
      go_enter Tryz.func103, Tryz.ntmps103
      go_wp2_with fail
      refine (isDay_any _ _ _ _).mono ?_
      rw [hd]
      rintro e w' ⟨rfl, rfl⟩
      go_wp2_with fail
      refine (dWithin_any _ _ _ _).mono ?_
      rw [hh]
      rintro e w' ⟨rfl, rfl⟩
      go_wp2
      go_ret2
      exact ⟨sec_no hb, rfl⟩
    | true =>
      cases hi : inR 0 59 i with
      | false =>
        have hb : secB y m d h i s = false := by simp [secB, hi]
        go_enter Tryz.func103, Tryz.ntmps103
        go_wp2_with fail
        refine (isDay_any _ _ _ _).mono ?_
        rw [hd]
        rintro e w' ⟨rfl, rfl⟩
        go_wp2_with fail
        refine (dWithin_any _ _ _ _).mono ?_
        rw [hh]
        rintro e w' ⟨rfl, rfl⟩
        go_wp2_with fail
        refine (dWithin_any _ _ _ _).mono ?_
        rw [hi]
        rintro e w' ⟨rfl, rfl⟩
        go_wp2
        go_ret2
        exact ⟨sec_no hb, rfl⟩
      | true =>
        cases hs : inR 0 59 s with
        | false =>
          have hb : secB y m d h i s = false := by simp [secB, hs]
          go_enter Tryz.func103, Tryz.ntmps103
          go_wp2_with fail
          refine (isDay_any _ _ _ _).mono ?_
          rw [hd]
          rintro e w' ⟨rfl, rfl⟩
          go_wp2_with fail
          refine (dWithin_any _ _ _ _).mono ?_
          rw [hh]
          rintro e w' ⟨rfl, rfl⟩
          go_wp2_with fail
          refine (dWithin_any _ _ _ _).mono ?_
          rw [hi]
          rintro e w' ⟨rfl, rfl⟩
          go_wp2_with fail
          refine (dWithin_any _ _ _ _).mono ?_
          rw [hs]
          rintro e w' ⟨rfl, rfl⟩
          go_wp2
          go_ret2
          exact ⟨sec_no hb, rfl⟩
        | true =>
          have hb : secB y m d h i s = true := by simp [secB, hd, hh, hi, hs]
          obtain ⟨hY, hM, hD⟩ := dayB_iff.1 hd
          have hH := inR_true.1 hh
          have hI := inR_true.1 hi
          have hS := inR_true.1 hs
          obtain ⟨Y, rfl⟩ : ∃ Y : Nat, y = Y := ⟨y.toNat, by omega⟩
          obtain ⟨M, rfl⟩ : ∃ M : Nat, m = M := ⟨m.toNat, by omega⟩
          have hd31 : d ≤ 31 := by have := (days_pos Y M).2; have := hD.2; simp only [Int.toNat_natCast] at this; omega
          have hY9 : Y ≤ 9999 := by omega
          have hY1 : 1 ≤ Y := by omega
          have hM9 : M ≤ 12 := by omega
          have hM1 : 1 ≤ M := by omega
          have hd1 : 1 ≤ d := hD.1
          have hbb := bef_mono Y 9999 (by omega) (by omega)
          have hb9 : bef 9999 = 3651694 := by decide
          have hB : bef Y ≤ 3651694 := by omega
          clear hbb hb9 hD hY hM
          obtain ⟨B, HB⟩ : ∃ B, Hid (bef Y = B) := ⟨_, Lib.hid rfl⟩
          have hA := daysAhead_any Y hY1 (by omega) w
          rw [HB.out] at hA hB
          go_enter Tryz.func103, Tryz.ntmps103
          go_wp2_with fail
          refine (isDay_any _ _ _ _).mono ?_
          rw [hd]
          rintro e w' ⟨rfl, rfl⟩
          go_wp2_with fail
          refine (dWithin_any _ _ _ _).mono ?_
          rw [hh]
          rintro e w' ⟨rfl, rfl⟩
          go_wp2_with fail
          refine (dWithin_any _ _ _ _).mono ?_
          rw [hi]
          rintro e w' ⟨rfl, rfl⟩
          go_wp2_with fail
          refine (dWithin_any _ _ _ _).mono ?_
          rw [hs]
          rintro e w' ⟨rfl, rfl⟩
          go_wp2_with fail
          refine hA.mono ?_
          rintro e w' ⟨rfl, rfl⟩
          go_wp2
          go_loop [14, 15] (fun v k => ∃ (n c : Nat), n ≤ M ∧ 1 ≤ n ∧ k = .int .i64 n ∧ Hid (c = cumN Y n) ∧ c ≤ 400 ∧ v = .int .i64 ((B : Int) + d - 1 + c)) (fun _ k => 12 - (intOf k).toNat)
          case atStart => exact ⟨1, 0, hM1, Nat.le_refl _, rfl, Lib.hid rfl, by omega, by go_num⟩
          case round =>
            obtain ⟨n, c, hnM, hn1, rfl, HC, hc4, rfl⟩ := hrel
            by_cases hlt : n < M
            · have hdn := daysOf_any Y n (by omega) hn1 (by omega) w
              obtain ⟨q, HQ⟩ : ∃ q, Hid (daysN Y n = q) := ⟨_, Lib.hid rfl⟩
              rw [HQ.out] at hdn
              have hq : q ≤ 31 := by rw [← HQ.out]; exact (days_pos Y n).2
              have HC2 : Hid (c + q = cumN Y (n + 1)) := Lib.hid (by rw [cum_succ Y n hn1, ← HC.out, HQ.out])
              have hc2 : c + q ≤ 400 := by rw [HC2.out]; have := cum_up Y (n + 1) (by omega); omega
              go_wp2_with fail
              refine hdn.mono ?_
              rintro e w' ⟨rfl, rfl⟩
              go_wp2
              go_round
              case rel => exact ⟨n + 1, c + q, by omega, by omega, by go_num, HC2, hc2, by go_num⟩
              case measure => simp [intOf]; omega
            · have hnm : n = M := by omega
              subst hnm
              have HV : Hid (secR Y n d h i s = -62135596800 + ((B : Int) + d - 1 + c) * 86400 + h * 3600 + i * 60 + s) := Lib.hid (by
                rw [secR, if_pos hb, secV, Int.toNat_natCast, Int.toNat_natCast, HB.out, ← HC.out]
                omega)
              go_wp2
              go_ret2
              exact ⟨by rw [HV.out]; rfl, rfl⟩

end Go.Proofs.YtllpdnmhabpbcaaGreatDoor
