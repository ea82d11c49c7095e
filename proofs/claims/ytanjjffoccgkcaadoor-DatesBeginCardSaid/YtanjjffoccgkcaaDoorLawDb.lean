/-
  The walk of DatesBegin.
-/
import Derived.Test.YtanjjffoccgkcaaDoorDtA
namespace Go.Proofs.YtanjjffoccgkcaaDoor
open Go.RowKit

theorem sec_at {D Y M d : Nat} (hI : IsDay D Y M d) (h i s : Int) (hh : 0 ≤ h ∧ h ≤ 23) (hi : 0 ≤ i ∧ i ≤ 59) (hs : 0 ≤ s ∧ s ≤ 59) :
    secR (Y : Int) (M : Int) (d : Int) h i s = -62135596800 + (D : Int) * 86400 + h * 3600 + i * 60 + s ∧ secB (Y : Int) (M : Int) (d : Int) h i s = true := by
  have y1 := hI.y1
  have y2 := hI.y2
  have m1 := hI.m1
  have m2 := hI.m2
  have hd := hI.d1
  have hb := hI.back
  have hB : secB (Y : Int) (M : Int) (d : Int) h i s = true :=
    secB_iff.2 ⟨dayB_iff.2 ⟨by omega, by omega, by rw [Int.toNat_natCast, Int.toNat_natCast]; omega⟩, hh, hi, hs⟩
  refine ⟨?_, hB⟩
  rw [secR, if_pos hB, secV, Int.toNat_natCast, Int.toNat_natCast]
  omega

set_option maxHeartbeats 4000000 in
set_option maxRecDepth 100000 in
theorem begin_walk (n : Nat) (hn : n < 18446744073709551616) (m : Int) (w : World) (hw : DtG m w) :
    Calls Tryd.prog 6 #[.int .u64 (n : Int)] w fun e w' => e = .returned (.bool true) ∧ Below w.heap.size w w' := by
  have HG := Lib.hid hw
  have HAl := Lib.hid (fun w hw => alive7_any m w hw)
  obtain ⟨k, hk⟩ : ∃ k, n % 315537897600 = k := ⟨_, rfl⟩
  have hkI : (n : Int) % 315537897600 = (k : Int) := by omega
  have hk9 : k < 315537897600 := by omega
  obtain ⟨Y, M, d, hI⟩ := isDay_some (k / 86400) (by omega)
  obtain ⟨T, HT⟩ : ∃ T : Int, Hid ((k : Int) - 62135596800 = T) := ⟨_, Lib.hid rfl⟩
  have hTlo : -62135596800 ≤ T := by rw [← HT.out]; omega
  have hThi : T ≤ 253402300799 := by rw [← HT.out]; omega
  have HD := Lib.hid (fun w => Day_any T (k / 86400) Y M d hI hTlo (by rw [← HT.out]; omega) w)
  unfold dayV at HD
  have s1 := sec_at hI 0 0 0 (by omega) (by omega) (by omega)
  have s2 := sec_at hI 23 59 59 (by omega) (by omega) (by omega)
  have S1 := Lib.hid (fun w => Seconds_any (Y : Int) (M : Int) (d : Int) 0 0 0 w)
  have S2 := Lib.hid (fun w => Seconds_any (Y : Int) (M : Int) (d : Int) 23 59 59 w)
  rw [s1.1, s1.2] at S1
  rw [s2.1, s2.2] at S2
  obtain ⟨A, HA⟩ : ∃ A : Int, Hid (-62135596800 + ((k / 86400 : Nat) : Int) * 86400 + 0 * 3600 + 0 * 60 + 0 = A) := ⟨_, Lib.hid rfl⟩
  obtain ⟨B, HB⟩ : ∃ B : Int, Hid (-62135596800 + ((k / 86400 : Nat) : Int) * 86400 + 23 * 3600 + 59 * 60 + 59 = B) := ⟨_, Lib.hid rfl⟩
  rw [HA.out] at S1
  rw [HB.out] at S2
  obtain ⟨q, Hq⟩ : ∃ q : Nat, Hid ((k / 86400 + 1) % 7 = q) := ⟨_, Lib.hid rfl⟩
  rw [Hq.out] at HD
  have a1 : A ≤ T := by rw [← HA.out, ← HT.out]; omega
  have a2 : T ≤ B := by rw [← HB.out, ← HT.out]; omega
  have a3 : (B == A + 86399) = true := beq_iff_eq.2 (by rw [← HA.out, ← HB.out]; omega)
  have a4 : (1 : Int) ≤ (Y : Int) := by have := hI.y1; omega
  have a5 : (Y : Int) ≤ 9999 := by have := hI.y2; omega
  have a6 : (1 : Int) ≤ (M : Int) := by have := hI.m1; omega
  have a7 : (M : Int) ≤ 12 := by have := hI.m2; omega
  have a8 : (1 : Int) ≤ (d : Int) := by have := hI.d1; omega
  have a9 : (d : Int) ≤ 31 := by have := hI.d1; have := (days_pos Y M).2; omega
  have a10 : (0 : Int) ≤ (q : Int) := by omega
  have a11 : (q : Int) ≤ 6 := by rw [← Hq.out]; omega
  have a12 : A + 86399 = B := (beq_iff_eq.1 a3).symm
  have a13 : A ≤ 253402300799 := by omega
  have a14 : -62135596800 ≤ A := by rw [← HA.out]; omega
  have hT2 : (k : Int) - 62135596800 = T := HT.out
  clear s1 s2 hI hw hk
  go_enter Tryd.func6, Tryd.ntmps6
  go_wp2_with fail
  refine (HD.out _).mono ?_
  rintro e w1 ⟨rfl, b1⟩
  have B1 := Lib.hid b1
  clear b1
  go_wp2_with fail
  refine (S1.out _).mono ?_
  rintro e w' ⟨rfl, rfl⟩
  go_wp2_with fail
  refine (S2.out _).mono ?_
  rintro e w' ⟨rfl, rfl⟩
  go_wp2_with fail
  refine (HAl.out _ (HG.out.below B1.out)).mono ?_
  rintro e w2 ⟨rfl, b2⟩
  go_wp2
  go_ret
  exact ⟨rfl, B1.out.trans (b2.mono B1.out.size)⟩

end Go.Proofs.YtanjjffoccgkcaaDoor
