/-
  Contract: the document's day of seconds.
-/
import Derived.Test.YtkekidjnedmpjaaDoorDtR
import Derived.Test.YtkekidjnedmpjaaDoorDtY
namespace Go.Proofs.YtkekidjnedmpjaaDoor
open Go.RowKit

set_option maxHeartbeats 1000000 in
set_option maxRecDepth 100000 in
theorem RefDay_no (n : Int) (hn : inR (-62135596800) 253402300799 n = false) (w : World) :
    Calls Tryd.prog 29 #[.int .i64 n] w fun e w' => e = .returned (dayV 0 0 0 0) ∧ w = w' := by
  by_cases h : n < -62135596800
  · go_enter Tryd.func29, Tryd.ntmps29
    go_wp2
    refine bodyPost_ret (results_tmp4 rfl _ _ _) rfl ?_
    exact ⟨rfl, rfl⟩
  · have h2 : 253402300799 < n := by rcases inR_false.1 hn with h3 | h3 <;> omega
    clear hn
    go_enter Tryd.func29, Tryd.ntmps29
    go_wp2
    refine bodyPost_ret (results_tmp4 rfl _ _ _) rfl ?_
    exact ⟨rfl, rfl⟩

set_option maxHeartbeats 2000000 in
set_option maxRecDepth 100000 in
theorem RefDay_any (n : Int) (D Y M d : Nat) (hI : IsDay D Y M d) (h1 : -62135596800 ≤ n) (h2 : (n + 62135596800) / 86400 = (D : Int)) (w : World) :
    Calls Tryd.prog 29 #[.int .i64 n] w fun e w' => e = .returned (dayV Y M d ((D + 1) % 7)) ∧ w = w' := by
  have hD := hI.lt
  have hn2 : n ≤ 253402300799 := by omega
  have hn1 : ¬ n < -62135596800 := by omega
  have hn3 : ¬ 253402300799 < n := by omega
  have y1 := hI.y1
  have y2 := hI.y2
  have m1 := hI.m1
  have m2 := hI.m2
  have hlo := hI.lo
  have hhi := hI.hi
  have hst : D / 366 + 1 ≤ Y := by
    rcases Nat.lt_or_ge Y (D / 366 + 1) with h | h
    · have a1 := bef_mono (Y + 1) (D / 366 + 1) (by omega) (by omega)
      have a2 := bef_up (D / 366)
      omega
    · exact h
  obtain ⟨B, HB⟩ : ∃ B, Hid (bef Y = B) := ⟨_, Lib.hid rfl⟩
  have hDA := fun w => RefBefore_any Y y1 (by omega) w
  rw [HB.out] at hDA hlo
  have HI := Lib.hid hI
  clear hI
  go_enter Tryd.func29, Tryd.ntmps29
  go_wp2
  go_loop [7] (fun v => ∃ y : Nat, 1 ≤ y ∧ y ≤ Y ∧ v = .int .i64 (y : Int)) (fun v => 10000 - (intOf v).toNat)
  case atStart => exact ⟨D / 366 + 1, by omega, hst, by go_num⟩
  case round =>
    obtain ⟨y, hy1, hyY, rfl⟩ := hrel
    have hdb := fun w => RefBefore_any (y + 1) (by omega) (by omega) w
    obtain ⟨q, HQ⟩ : ∃ q, Hid (bef (y + 1) = q) := ⟨_, Lib.hid rfl⟩
    rw [HQ.out] at hdb
    have hdb' : ∀ w, Calls Tryd.prog 44 #[.int .i64 ((y : Int) + 1)] w fun e w' => e = .returned (.int .i64 (q : Int)) ∧ w = w' := fun w => by
      have := hdb w
      rwa [show (((y + 1 : Nat) : Nat) : Int) = (y : Int) + 1 by omega] at this
    clear hdb
    by_cases hlt : y < Y
    · have hqD : q ≤ D := by
        have := bef_mono (y + 1) Y (by omega) hlt
        rw [HQ.out, HB.out] at this
        omega
      go_wp2_with fail
      refine (hdb' _).mono ?_
      rintro e w' ⟨rfl, rfl⟩
      go_wp2
      go_round
      case rel => exact ⟨y + 1, by omega, by omega, by go_num⟩
      case measure => simp [intOf]; omega
    · have hyy : y = Y := by omega
      subst hyy
      have hqD : ¬ q ≤ D := by rw [← HQ.out]; omega
      clear hhi hst
      go_wp2_with fail
      refine (hdb' _).mono ?_
      rintro e w' ⟨rfl, rfl⟩
      go_wp2_with fail
      refine (hDA _).mono ?_
      rintro e w' ⟨rfl, rfl⟩
      clear hDA hdb'
      go_wp2
      go_loop [8, 9] (fun v k => ∃ (m z : Nat), 1 ≤ m ∧ m ≤ M ∧ k = .int .i64 (m : Int) ∧ v = .int .i64 (z : Int) ∧ z ≤ 3660000 ∧ Hid (z + B + cumN y m = D)) (fun _ k => 12 - (intOf k).toNat)
      case atStart => exact ⟨1, D - B, Nat.le_refl _, m1, rfl, by go_num, by omega, Lib.hid (by rw [cum_one]; omega)⟩
      case round =>
        obtain ⟨m, z, hm1, hmM, rfl, rfl, hz, HZ⟩ := hrel
        have hdn := fun w => RefDays_any y m (by omega) hm1 (by omega) w
        obtain ⟨q, HQ⟩ : ∃ q, Hid (daysN y m = q) := ⟨_, Lib.hid rfl⟩
        rw [HQ.out] at hdn
        have hq : q ≤ 31 := by rw [← HQ.out]; exact (days_pos y m).2
        by_cases hlt : m < M
        · have hzq : q ≤ z := by
            have a1 := cum_mono y (m + 1) M (by omega) hlt
            rw [cum_succ y m hm1, HQ.out] at a1
            have a2 := HI.out.mlo
            have a3 := HZ.out
            rw [HB.out] at a2
            omega
          go_wp2_with fail
          refine (hdn _).mono ?_
          rintro e w' ⟨rfl, rfl⟩
          go_wp2_with fail
          refine (hdn _).mono ?_
          rintro e w' ⟨rfl, rfl⟩
          go_wp2
          go_round
          case rel => exact ⟨m + 1, z - q, by omega, by omega, by go_num, by go_num, by omega, Lib.hid (by rw [cum_succ y m hm1, HQ.out]; have := HZ.out; omega)⟩
          case measure => simp [intOf]; omega
        · have hmm : m = M := by omega
          subst hmm
          have hzq : ¬ q ≤ z := by
            have a2 := HI.out.mhi
            have a3 := HZ.out
            rw [HB.out, HQ.out] at a2
            omega
          go_wp2_with fail
          refine (hdn _).mono ?_
          rintro e w' ⟨rfl, rfl⟩
          go_wp2
          refine bodyPost_ret (results_tmp4 rfl _ _ _) rfl ?_
          refine ⟨?_, rfl⟩
          have a1 := HI.out.dd
          have a3 := HZ.out
          rw [HB.out] at a1
          have e1 : d = z + 1 := by omega
          rw [e1]
          rfl

/-- Of seconds a day is answered, all four noughts where they are of no year. -/
theorem day_some (n : Int) : ∃ Y M d k : Nat, (∀ w, Calls Tryd.prog 18 #[.int .i64 n] w fun e w' => e = .returned (dayV Y M d k) ∧ Below w.heap.size w w') ∧ (∀ w, Calls Tryd.prog 29 #[.int .i64 n] w fun e w' => e = .returned (dayV Y M d k) ∧ w = w') := by
  cases hn : inR (-62135596800) 253402300799 n with
  | false => exact ⟨0, 0, 0, 0, fun w => Day_no n hn w, fun w => RefDay_no n hn w⟩
  | true =>
    obtain ⟨h1, h2⟩ := inR_true.1 hn
    obtain ⟨D, hD⟩ : ∃ D : Nat, (n + 62135596800) / 86400 = (D : Int) := ⟨((n + 62135596800) / 86400).toNat, by omega⟩
    obtain ⟨Y, M, d, hI⟩ := isDay_some D (by omega)
    exact ⟨Y, M, d, _, fun w => Day_any n D Y M d hI h1 hD w, fun w => RefDay_any n D Y M d hI h1 hD w⟩

end Go.Proofs.YtkekidjnedmpjaaDoor
