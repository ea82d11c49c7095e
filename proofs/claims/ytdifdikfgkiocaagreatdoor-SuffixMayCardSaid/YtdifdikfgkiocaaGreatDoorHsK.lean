/-
  Contracts: hosts.Machine, hosts.Below.
-/
import Derived.Test.YtdifdikfgkiocaaGreatDoorMhA
import Derived.Test.YtdifdikfgkiocaaGreatDoorMaF
import Derived.Test.YtdifdikfgkiocaaGreatDoorMrF
import Derived.Test.YtdifdikfgkiocaaGreatDoorShelfS
namespace Go.Proofs.YtdifdikfgkiocaaGreatDoor
open Go.RowKit

set_option maxRecDepth 100000 in
set_option maxHeartbeats 1000000 in
theorem Machine_any (s : ByteArray) (w : World) (hs : s.size ≤ 1048600) :
    Calls Tryz.prog 21 #[.string s] w fun e w' => e = .returned (.bool (machB s)) ∧ Below w.heap.size w w' := by
  obtain ⟨C, b, c, hv, hsz, hone, hcase⟩ := fourV_mach s.data.toList
  obtain ⟨hz, hi⟩ := zero_of_info infoA
  have HI := Lib.hid hi; clear hi
  have HF : Hid (∀ w, Calls Tryz.prog 38 #[.string s] w fun e w' => e = .returned (.tuple #[.agg C, .bool b, .int .i64 c]) ∧ Below w.heap.size w w') := Lib.hid (fun w => by
    have := Four_any s w hs
    rwa [hv] at this)
  have HD : Hid ((Tryz.prog.info? 50).map (·.size) = some C.size) := Lib.hid (by rw [HI.out, hsz])
  have HY : Hid (zeroA.size = C.size) := Lib.hid (by rw [hsz]; exact zeroA_size)
  have HO := Lib.hid hone
  have HCs := Lib.hid hcase
  clear hv hsz hone hcase
  obtain ⟨p, Hp⟩ : ∃ p, Hid (decide (s.data.toList.head? = some 91) = p) := ⟨_, Lib.hid rfl⟩
  obtain ⟨M, HM⟩ : ∃ M, Hid (machB s = M) := ⟨_, Lib.hid rfl⟩
  have HMM : Hid (M = (p || (b && (c == 0)))) := Lib.hid (by rw [← HM.out, machB, Hp.out, ← HCs.out.2.2, HCs.out.2.1, Bool.and_comm b])
  have HP : Hid (Calls Tryz.prog 37 #[.string s, .string ⟨#[91]⟩] w fun e w' => e = .returned (.bool p) ∧ w' = w) := Lib.hid (by
    have := Tryz.strings_HasPrefix s ⟨#[91]⟩ w
    rw [show Lib.hasPrefix s.data.toList (⟨#[91]⟩ : ByteArray).data.toList = p from (pre_one _ _).trans Hp.out] at this
    exact this)
  rw [HM.out]
  have HC2 := Lib.hid HCs.out.1
  clear HCs
  cases p
  · rcases HC2.out with ⟨rfl, rfl⟩ | ⟨rfl, rfl⟩ | ⟨rfl, rfl⟩
    all_goals
      go_enter Tryz.func21, Tryz.ntmps21
      go_wp2_with fail
      refine HP.out.mono ?_
      rintro e w0 ⟨rfl, rfl⟩
      go_wp2_with fail
      refine (HF.out _).mono ?_
      rintro e w1 ⟨rfl, b1⟩
      have B1 : Hid (Below w0.heap.size w0 (w1.alloc (.cells C 50))) := Lib.hid (b1.alloc b1.size _)
      clear b1
      go_wp2_with (refine wpL_store_row rfl 50 _ _ rfl w1.heap.size C ?_ ?_ 50 zeroA ?_ ?_ ?_ ?_ ?_; exact rfl; exact rfl; exact heap_alloc_new w1 _; exact HD.out; exact HY.out; exact HO.out; rw [World.setRow_alloc_new])
      go_ret
      exact ⟨ret_bool (by rw [HMM.out]; rfl), B1.out⟩
  · have HR : Hid (M = true) := Lib.hid (by rw [HMM.out]; rfl)
    go_enter Tryz.func21, Tryz.ntmps21
    go_wp2_with fail
    refine HP.out.mono ?_
    rintro e w0 ⟨rfl, rfl⟩
    go_wp2
    go_ret
    exact ⟨ret_bool HR.out.symm, Below.refl _ _⟩
set_option maxRecDepth 100000 in
set_option maxHeartbeats 1000000 in
theorem Below5_any (a b : ByteArray) (w : World) (ha : a.size ≤ 1048600) (hb : b.size ≤ 1048600) :
    Calls Tryz.prog 18 #[.string a, .string b] w fun e w' => e = .returned (.bool (belowB a b)) ∧ Below w.heap.size w w' := by
  obtain ⟨R, HR⟩ : ∃ R, Hid (belowB a b = R) := ⟨_, Lib.hid rfl⟩
  rw [HR.out]
  by_cases hab : a = b
  · have HT : Hid (R = true) := Lib.hid (by rw [← HR.out, hab, below_self])
    subst hab
    go_enter Tryz.func18, Tryz.ntmps18
    go_wp2
    go_ret
    exact ⟨ret_bool HT.out.symm, Below.refl _ _⟩
  have hne := neL hab
  have HB : Hid (R = (decide (0 < b.size) && !machB a && !machB b && Lib.hasSuffix a.data.toList (46 :: b.data.toList))) := Lib.hid (by rw [← HR.out, below_ne hab])
  clear hab HR
  by_cases h0 : b.size = 0
  · have hem := emT h0
    have HF : Hid (R = false) := Lib.hid (by rw [HB.out, h0]; rfl)
    clear HB h0
    go_enter Tryz.func18, Tryz.ntmps18
    go_wp2
    go_ret
    exact ⟨ret_bool HF.out.symm, Below.refl _ _⟩
  have hem := emF (s := b) (by omega)
  obtain ⟨ma, HMa⟩ : ∃ m, Hid (machB a = m) := ⟨_, Lib.hid rfl⟩
  obtain ⟨mb, HMb⟩ : ∃ m, Hid (machB b = m) := ⟨_, Lib.hid rfl⟩
  obtain ⟨sf, HSf⟩ : ∃ m, Hid (Lib.hasSuffix a.data.toList (46 :: b.data.toList) = m) := ⟨_, Lib.hid rfl⟩
  have HB2 : Hid (R = (!ma && !mb && sf)) := Lib.hid (by rw [HB.out, HMa.out, HMb.out, HSf.out, decide_eq_true (by omega : 0 < b.size), Bool.true_and])
  have CA : Hid (∀ w, Calls Tryz.prog 21 #[.string a] w fun e w' => e = .returned (.bool ma) ∧ Below w.heap.size w w') := Lib.hid (fun w => by rw [← HMa.out]; exact Machine_any a w ha)
  have CB : Hid (∀ w, Calls Tryz.prog 21 #[.string b] w fun e w' => e = .returned (.bool mb) ∧ Below w.heap.size w w') := Lib.hid (fun w => by rw [← HMb.out]; exact Machine_any b w hb)
  have CS : Hid (∀ w, Calls Tryz.prog 32 #[.string a, .string (⟨#[46]⟩ ++ b)] w fun e w' => e = .returned (.bool sf) ∧ w' = w) := Lib.hid (fun w => by
    have := Tryz.strings_HasSuffix a (⟨#[46]⟩ ++ b) w (by omega)
    rwa [show ((⟨#[46]⟩ : ByteArray) ++ b).data.toList = 46 :: b.data.toList by rw [ByteArray.data_append, Array.toList_append]; rfl, HSf.out] at this)
  have hz1 : ¬ 9223372036854775807 < 1 + b.size := by omega
  clear HB h0 HMa HMb HSf
  go_enter Tryz.func18, Tryz.ntmps18
  go_wp2_with fail
  refine (CA.out _).mono ?_
  rintro e w1 ⟨rfl, b1⟩
  have B1 := Lib.hid b1; clear b1
  cases ma
  · go_wp2_with fail
    refine (CB.out _).mono ?_
    rintro e w2 ⟨rfl, b2⟩
    have B2 : Hid (Below w.heap.size w w2) := Lib.hid (keepW B1.out b2)
    clear b2
    cases mb
    · have HF : Hid (R = sf) := Lib.hid (by rw [HB2.out]; rfl)
      go_wp2_with fail
      refine (CS.out _).mono ?_
      rintro e w3 ⟨rfl, rfl⟩
      go_wp2
      go_ret
      exact ⟨ret_bool HF.out.symm, B2.out⟩
    · have HF : Hid (R = false) := Lib.hid (by rw [HB2.out]; rfl)
      go_wp2
      go_ret
      exact ⟨ret_bool HF.out.symm, B2.out⟩
  · have HF : Hid (R = false) := Lib.hid (by rw [HB2.out]; rfl)
    go_wp2
    go_ret
    exact ⟨ret_bool HF.out.symm, B1.out⟩

end Go.Proofs.YtdifdikfgkiocaaGreatDoor
