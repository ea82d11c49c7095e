/-
  Contracts: some, is, alive of suffix's statements.
-/
import Derived.Test.YtdifdikfgkiocaaGreatDoorSxD
namespace Go.Proofs.YtdifdikfgkiocaaGreatDoor
open Go.RowKit

def someL : List ByteArray := [⟨#[99, 111, 109]⟩, ⟨#[106, 112]⟩, ⟨#[97, 99, 46, 106, 112]⟩, ⟨#[42, 46, 107, 111, 98, 101, 46, 106, 112]⟩, ⟨#[33, 99, 105, 116, 121, 46, 107, 111, 98, 101, 46, 106, 112]⟩, ⟨#[42, 46, 99, 107]⟩, ⟨#[33, 119, 119, 119, 46, 99, 107]⟩, ⟨#[117, 107]⟩, ⟨#[99, 111, 46, 117, 107]⟩]
theorem some_any (w : World) : Calls Tryz.prog 30 #[] w fun e w' => ∃ g, e = .returned (.slice (some ⟨g, 0, none⟩) 9 9) ∧ TxAt someL (some ⟨g, 0, none⟩) g 0 w' ∧ Below w.heap.size w w' := by
  go_enter Tryz.func30, Tryz.ntmps30
  go_wp2
  go_ret
  refine ⟨_, rfl, ⟨fun _ => rfl, fun j hj => ?_⟩, (Below.refl _ _).alloc (Nat.le_refl _) _⟩
  have hj' : j < 9 := hj
  rw [cell_of_row _ _ _ _ _ _ (heap_alloc_new w _), Nat.zero_add]
  rcases (show j = 0 ∨ j = 1 ∨ j = 2 ∨ j = 3 ∨ j = 4 ∨ j = 5 ∨ j = 6 ∨ j = 7 ∨ j = 8 by omega) with rfl | rfl | rfl | rfl | rfl | rfl | rfl | rfl | rfl <;> rfl
theorem someL_small : ∀ r ∈ someL, r.size ≤ 50000 := by decide

theorem SufOk (h E : ByteArray) (w : World) (g : Nat) (hT : TxAt someL (some ⟨g, 0, none⟩) g 0 w) (hh : h.size ≤ 1000) (c : Int) (hE : sufT someL h 0 = (E, c)) (hW : Hw w) :
    Calls Tryz.prog 12 #[.slice (some ⟨g, 0, none⟩) 9 9, .string h] w fun e w' => e = .returned (.tuple #[.string E, .int .i64 c]) ∧ Below w.heap.size w w' := by
  have := Suffix_any someL _ g 0 9 h w hT ⟨by decide, someL_small, hh⟩ hW
  rwa [hE] at this
theorem OwnOk (h E : ByteArray) (w : World) (g : Nat) (hT : TxAt someL (some ⟨g, 0, none⟩) g 0 w) (hh : h.size ≤ 1000) (c : Int) (hE : sufT someL h 1 = (E, c)) (hW : Hw w) :
    Calls Tryz.prog 15 #[.slice (some ⟨g, 0, none⟩) 9 9, .string h] w fun e w' => e = .returned (.tuple #[.string E, .int .i64 c]) ∧ Below w.heap.size w w' := by
  have := Own_any someL _ g 0 9 h w hT ⟨by decide, someL_small, hh⟩ hW
  rwa [hE] at this
set_option maxRecDepth 100000 in
set_option maxHeartbeats 1000000 in
theorem is8_yes (h E O : ByteArray) (w : World) (hh : h.size ≤ 1000) (hE : sufT someL h 0 = (E, 0)) (hO : sufT someL h 1 = (O, 0)) (hW : Hw w) :
    Calls Tryz.prog 31 #[.string h, .string E, .string O] w fun e w' => e = .returned (.bool true) ∧ Below w.heap.size w w' := by
  have HW := Lib.hid hW; clear hW
  have C1 := Lib.hid (fun w g hT hW => SufOk h E w g hT hh 0 hE hW)
  have C2 := Lib.hid (fun w g hT hW => OwnOk h O w g hT hh 0 hO hW)
  clear hE hO
  go_enter Tryz.func31, Tryz.ntmps31
  go_wp2_with fail
  refine (some_any _).mono ?_
  rintro e w1 ⟨g1, rfl, t1, b1⟩
  have Z1 : Hid (Below w.heap.size w w1) := Lib.hid b1
  have T1 := Lib.hid t1
  clear b1 t1
  go_wp2_with fail
  refine (C1.out _ g1 T1.out (HW.out.later Z1.out)).mono ?_
  rintro e w2 ⟨rfl, b2⟩
  have Z2 : Hid (Below w.heap.size w w2) := Lib.hid (keepW Z1.out b2)
  clear b2
  go_wp2_with fail
  refine (some_any _).mono ?_
  rintro e w3 ⟨g3, rfl, t3, b3⟩
  have Z3 : Hid (Below w.heap.size w w3) := Lib.hid (keepW Z2.out b3)
  have T3 := Lib.hid t3
  clear b3 t3
  go_wp2_with fail
  refine (C2.out _ g3 T3.out (HW.out.later Z3.out)).mono ?_
  rintro e w4 ⟨rfl, b4⟩
  have Z4 : Hid (Below w.heap.size w w4) := Lib.hid (keepW Z3.out b4)
  clear b4
  go_wp2
  go_ret
  exact ⟨rfl, Z4.out⟩

/- Some answers that the document fixes. -/
theorem s8_mach : sufT someL ⟨#[49, 46, 50, 46, 51, 46, 52]⟩ 0 = (⟨#[]⟩, 5) := by decide +kernel
theorem s8_arg : sufT [⟨#[33, 99, 111, 109]⟩] ⟨#[97, 46, 99, 111, 109]⟩ 1 = (⟨#[]⟩, 1) := by decide +kernel
theorem s8_chk : rulesB someL = true := by decide +kernel
theorem s8_s0 : sufT someL ⟨#[99, 111, 109]⟩ 0 = (⟨#[99, 111, 109]⟩, 0) := by decide +kernel
theorem s8_o0 : sufT someL ⟨#[99, 111, 109]⟩ 1 = (⟨#[]⟩, 0) := by decide +kernel
theorem s8_s1 : sufT someL ⟨#[98, 46, 101, 120, 97, 109, 112, 108, 101, 46, 99, 111, 109]⟩ 0 = (⟨#[99, 111, 109]⟩, 0) := by decide +kernel
theorem s8_o1 : sufT someL ⟨#[98, 46, 101, 120, 97, 109, 112, 108, 101, 46, 99, 111, 109]⟩ 1 = (⟨#[101, 120, 97, 109, 112, 108, 101, 46, 99, 111, 109]⟩, 0) := by decide +kernel
theorem s8_s2 : sufT someL ⟨#[98, 46, 99, 46, 107, 111, 98, 101, 46, 106, 112]⟩ 0 = (⟨#[99, 46, 107, 111, 98, 101, 46, 106, 112]⟩, 0) := by decide +kernel
theorem s8_o2 : sufT someL ⟨#[98, 46, 99, 46, 107, 111, 98, 101, 46, 106, 112]⟩ 1 = (⟨#[98, 46, 99, 46, 107, 111, 98, 101, 46, 106, 112]⟩, 0) := by decide +kernel
theorem s8_s3 : sufT someL ⟨#[99, 46, 107, 111, 98, 101, 46, 106, 112]⟩ 0 = (⟨#[99, 46, 107, 111, 98, 101, 46, 106, 112]⟩, 0) := by decide +kernel
theorem s8_o3 : sufT someL ⟨#[99, 46, 107, 111, 98, 101, 46, 106, 112]⟩ 1 = (⟨#[]⟩, 0) := by decide +kernel
theorem s8_s4 : sufT someL ⟨#[119, 119, 119, 46, 99, 105, 116, 121, 46, 107, 111, 98, 101, 46, 106, 112]⟩ 0 = (⟨#[107, 111, 98, 101, 46, 106, 112]⟩, 0) := by decide +kernel
theorem s8_o4 : sufT someL ⟨#[119, 119, 119, 46, 99, 105, 116, 121, 46, 107, 111, 98, 101, 46, 106, 112]⟩ 1 = (⟨#[99, 105, 116, 121, 46, 107, 111, 98, 101, 46, 106, 112]⟩, 0) := by decide +kernel
theorem s8_s5 : sufT someL ⟨#[119, 119, 119, 46, 119, 119, 119, 46, 99, 107]⟩ 0 = (⟨#[99, 107]⟩, 0) := by decide +kernel
theorem s8_o5 : sufT someL ⟨#[119, 119, 119, 46, 119, 119, 119, 46, 99, 107]⟩ 1 = (⟨#[119, 119, 119, 46, 99, 107]⟩, 0) := by decide +kernel
theorem s8_s6 : sufT someL ⟨#[97, 46, 98, 46, 101, 120, 97, 109, 112, 108, 101, 46, 101, 120, 97, 109, 112, 108, 101]⟩ 0 = (⟨#[101, 120, 97, 109, 112, 108, 101]⟩, 0) := by decide +kernel
theorem s8_o6 : sufT someL ⟨#[97, 46, 98, 46, 101, 120, 97, 109, 112, 108, 101, 46, 101, 120, 97, 109, 112, 108, 101]⟩ 1 = (⟨#[101, 120, 97, 109, 112, 108, 101, 46, 101, 120, 97, 109, 112, 108, 101]⟩, 0) := by decide +kernel
set_option maxRecDepth 100000 in
set_option maxHeartbeats 4000000 in
theorem alive8_any (w : World) (hW : Hw w) : Calls Tryz.prog 17 #[] w fun e w' => e = .returned (.bool true) ∧ Below w.heap.size w w' := by
  have HW := Lib.hid hW; clear hW
  have CA : Hid (∀ w g, TxAt [⟨#[33, 99, 111, 109]⟩] (some ⟨g, 0, none⟩) g 0 w → Hw w → Calls Tryz.prog 15 #[.slice (some ⟨g, 0, none⟩) 1 1, .string ⟨#[97, 46, 99, 111, 109]⟩] w fun e w' => e = .returned (.tuple #[.string ⟨#[]⟩, .int .i64 1]) ∧ Below w.heap.size w w') := Lib.hid (fun w g hT hW => by
    have := Own_any [⟨#[33, 99, 111, 109]⟩] _ g 0 1 ⟨#[97, 46, 99, 111, 109]⟩ w hT ⟨by decide, by decide, by decide⟩ hW
    rwa [s8_arg] at this)
  have CC : Hid (∀ w g, TxAt someL (some ⟨g, 0, none⟩) g 0 w → Hw w → Calls Tryz.prog 24 #[.slice (some ⟨g, 0, none⟩) 9 9] w fun e w' => e = .returned (.bool true) ∧ Below w.heap.size w w') := Lib.hid (fun w g hT hW => by
    obtain ⟨m, hm⟩ := hW.ml
    have := Check_any someL _ g 0 9 m w hT (by decide) someL_small hm
    rwa [s8_chk] at this)
  go_enter Tryz.func17, Tryz.ntmps17
  go_wp2_with fail
  refine (some_any _).mono ?_
  rintro e w1 ⟨g1, rfl, t1, b1⟩
  have Z1 : Hid (Below w.heap.size w w1) := Lib.hid b1
  have T1 := Lib.hid t1
  clear b1 t1
  go_wp2_with fail
  refine (SufOk _ _ _ g1 T1.out (by decide) 5 s8_mach (HW.out.later Z1.out)).mono ?_
  rintro e w2 ⟨rfl, b2⟩
  have Z2 : Hid (Below w.heap.size w w2) := Lib.hid (keepW Z1.out b2)
  clear b2
  have ZA : Hid (Below w.heap.size w (w2.alloc (.cells #[.string ⟨#[33, 99, 111, 109]⟩] 9))) := Lib.hid (Z2.out.alloc Z2.out.size _)
  have TA : Hid (TxAt [⟨#[33, 99, 111, 109]⟩] (some ⟨w2.heap.size, 0, none⟩) w2.heap.size 0 (w2.alloc (.cells #[.string ⟨#[33, 99, 111, 109]⟩] 9))) := Lib.hid ⟨fun _ => rfl, fun j hj => by
    have hj' : j < 1 := hj
    obtain rfl : j = 0 := by omega
    rw [cell_of_row _ _ _ _ _ _ (heap_alloc_new w2 _)]; rfl⟩
  go_wp2_with fail
  refine (CA.out _ _ TA.out (HW.out.later ZA.out)).mono ?_
  rintro e w3 ⟨rfl, b3⟩
  have Z3 : Hid (Below w.heap.size w w3) := Lib.hid (keepW ZA.out b3)
  clear b3
  go_wp2_with fail
  refine (some_any _).mono ?_
  rintro e w4 ⟨g4, rfl, t4, b4⟩
  have Z4 : Hid (Below w.heap.size w w4) := Lib.hid (keepW Z3.out b4)
  have T4 := Lib.hid t4
  clear b4 t4
  go_wp2_with fail
  refine (CC.out _ g4 T4.out (HW.out.later Z4.out)).mono ?_
  rintro e w5 ⟨rfl, b5⟩
  have Z5 : Hid (Below w.heap.size w w5) := Lib.hid (keepW Z4.out b5)
  clear b5
  go_wp2_with fail
  refine (is8_yes _ _ _ _ (by decide) s8_s0 s8_o0 (HW.out.later Z5.out)).mono ?_
  rintro e w6 ⟨rfl, b6⟩
  have Z6 : Hid (Below w.heap.size w w6) := Lib.hid (keepW Z5.out b6)
  clear b6
  go_wp2_with fail
  refine (is8_yes _ _ _ _ (by decide) s8_s1 s8_o1 (HW.out.later Z6.out)).mono ?_
  rintro e w7 ⟨rfl, b7⟩
  have Z7 : Hid (Below w.heap.size w w7) := Lib.hid (keepW Z6.out b7)
  clear b7
  go_wp2_with fail
  refine (is8_yes _ _ _ _ (by decide) s8_s2 s8_o2 (HW.out.later Z7.out)).mono ?_
  rintro e w8 ⟨rfl, b8⟩
  have Z8 : Hid (Below w.heap.size w w8) := Lib.hid (keepW Z7.out b8)
  clear b8
  go_wp2_with fail
  refine (is8_yes _ _ _ _ (by decide) s8_s3 s8_o3 (HW.out.later Z8.out)).mono ?_
  rintro e w9 ⟨rfl, b9⟩
  have Z9 : Hid (Below w.heap.size w w9) := Lib.hid (keepW Z8.out b9)
  clear b9
  go_wp2_with fail
  refine (is8_yes _ _ _ _ (by decide) s8_s4 s8_o4 (HW.out.later Z9.out)).mono ?_
  rintro e w10 ⟨rfl, b10⟩
  have Z10 : Hid (Below w.heap.size w w10) := Lib.hid (keepW Z9.out b10)
  clear b10
  go_wp2_with fail
  refine (is8_yes _ _ _ _ (by decide) s8_s5 s8_o5 (HW.out.later Z10.out)).mono ?_
  rintro e w11 ⟨rfl, b11⟩
  have Z11 : Hid (Below w.heap.size w w11) := Lib.hid (keepW Z10.out b11)
  clear b11
  go_wp2_with fail
  refine (is8_yes _ _ _ _ (by decide) s8_s6 s8_o6 (HW.out.later Z11.out)).mono ?_
  rintro e w12 ⟨rfl, b12⟩
  have Z12 : Hid (Below w.heap.size w w12) := Lib.hid (keepW Z11.out b12)
  clear b12
  go_wp2
  go_ret
  exact ⟨rfl, Z12.out⟩

end Go.Proofs.YtdifdikfgkiocaaGreatDoor
