/-
  footmanlaw07.alive returns true.
-/
import Derived.Test.YtkekidjnedmpjaaDoorDtQ
namespace Go.Proofs.YtkekidjnedmpjaaDoor
open Go.RowKit

abbrev al1 : ByteArray := ⟨#[83, 117, 110, 100, 97, 121, 44, 32, 48, 54, 45, 78, 111, 118, 45, 57, 52, 32, 48, 56, 58, 52, 57, 58, 51, 55, 32, 71, 77, 84]⟩
abbrev al2 : ByteArray := ⟨#[51, 48, 32, 70, 101, 98, 32, 50, 48, 48, 48, 32, 48, 58, 48, 58, 48]⟩
abbrev al3 : ByteArray := ⟨#[83, 117, 110, 44, 32, 48, 54, 32, 78, 111, 118, 32, 49, 57, 57, 52, 32, 48, 56, 58, 52, 57, 58, 51, 55, 32, 71, 77, 84]⟩
theorem al1_told : cookR (toldT al1) = 784111777 ∧ cookB (toldT al1) = true := by decide +kernel
theorem al2_told : cookR (toldT al2) = 0 ∧ cookB (toldT al2) = false := by decide +kernel
theorem al3_txt : IsTxt 784111777 al3.data.toList :=
  ⟨784111777, 728237, 1994, 11, 6, rfl, by decide, IsDay.of (by decide) (by decide) (by decide) (by decide) (by decide) (by decide +kernel) (by decide +kernel), by decide +kernel⟩
theorem al_sec : secR 2000 2 29 0 0 0 = 951782400 ∧ secB 2000 2 29 0 0 0 = true := by decide +kernel
theorem al_day : IsDay 719161 1969 12 31 := IsDay.of (by decide) (by decide) (by decide) (by decide) (by decide) (by decide +kernel) (by decide +kernel)

set_option maxHeartbeats 4000000 in
set_option maxRecDepth 100000 in
theorem alive7_any (m : Int) (w : World) (hw : DtG m w) :
    Calls Tryd.prog 17 #[] w fun e w' => e = .returned (.bool true) ∧ Below w.heap.size w w' := by
  have HG := Lib.hid hw
  have H1 := Lib.hid (fun w h => Cookie_any al1 (by decide) m w h)
  have H2 := Lib.hid (fun w h => Cookie_any al2 (by decide) m w h)
  rw [al1_told.1, al1_told.2] at H1
  rw [al2_told.1, al2_told.2] at H2
  have H3 := Lib.hid (fun w h => Text_yes al3_txt m w h)
  rw [asB_back] at H3
  have H4 := Lib.hid (fun w h => Parse_yes al3_txt (by decide) m w h)
  have H5 := Lib.hid (fun w => Seconds_any 2000 2 29 0 0 0 w)
  rw [al_sec.1, al_sec.2] at H5
  have H6 := Lib.hid (fun w => Day_any (-1) 719161 1969 12 31 al_day (by decide) (by decide) w)
  unfold dayV at H6
  clear hw
  have E := beq_self_eq_true al3.toList
  go_enter Tryd.func17, Tryd.ntmps17
  go_wp2_with fail
  refine (H1.out _ HG.out.c0).mono ?_
  rintro e w1 ⟨rfl, b1⟩
  have B1 := Lib.hid b1
  clear b1
  go_wp2_with fail
  refine (H2.out _ (HG.out.below B1.out).c0).mono ?_
  rintro e w2 ⟨rfl, b2⟩
  have B2 := Lib.hid (B1.out.trans (b2.mono B1.out.size))
  clear b2
  go_wp2_with fail
  refine (H3.out _ (HG.out.below B2.out)).mono ?_
  rintro e w3 ⟨rfl, b3⟩
  have B3 := Lib.hid (B2.out.trans (b3.mono B2.out.size))
  clear b3
  go_wp2_with fail
  refine (H4.out _ (HG.out.below B3.out)).mono ?_
  rintro e w4 ⟨rfl, b4⟩
  have B4 := Lib.hid (B3.out.trans (b4.mono B3.out.size))
  clear b4
  go_wp2_with fail
  refine (H5.out _).mono ?_
  rintro e w5 ⟨rfl, rfl⟩
  go_wp2_with fail
  refine (H6.out _).mono ?_
  rintro e w6 ⟨rfl, b6⟩
  have B6 := Lib.hid (B4.out.trans (b6.mono B4.out.size))
  clear b6
  go_wp2
  go_ret
  exact ⟨rfl, B6.out⟩

end Go.Proofs.YtkekidjnedmpjaaDoor
