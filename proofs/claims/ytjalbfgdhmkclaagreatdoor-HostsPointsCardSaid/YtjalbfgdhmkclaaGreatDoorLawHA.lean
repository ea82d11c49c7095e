/-
  The walk of HostsAgain.
-/
import Derived.Test.YtjalbfgdhmkclaaGreatDoorHsT
namespace Go.Proofs.YtjalbfgdhmkclaaGreatDoor
open Go.RowKit

theorem BrX.size {x : ByteArray} (h : BrX x) : 0 < x.size ∧ x.size ≤ 41 := by
  obtain ⟨_, h2, h3⟩ := h.brack
  refine ⟨?_, h2⟩
  rw [← lenB]
  cases e : x.data.toList with
  | nil => rw [e] at h3; cases h3
  | cons a l => simp
theorem BrX.first {x : ByteArray} (h : BrX x) (h0 : 0 < x.size) : ((x[0].toNat : Int) == 91) = true := by
  obtain ⟨_, _, h3⟩ := h.brack
  rw [List.head?_eq_getElem?, List.getElem?_eq_getElem (by rw [lenB]; exact h0)] at h3
  injection h3 with h3
  have : x[0] = 91 := h3
  rw [this]; rfl
theorem NameX.first {x : ByteArray} (h : NameX x) (h0 : 0 < x.size) : ((x[0].toNat : Int) == 91) = false := by
  have := h.byte 0 h0
  exact beq_eq_false_iff_ne.2 (by omega)
theorem NameX.point {x : ByteArray} (h : NameX x) : hostO (x ++ ⟨#[46]⟩) = some x := by
  have := h.host.2
  rwa [show asB (x.data.toList ++ [46]) = x ++ ⟨#[46]⟩ from ba_of (by rw [asB_data, ByteArray.data_append, Array.toList_append])] at this

set_option maxRecDepth 100000 in
set_option maxHeartbeats 2000000 in
theorem hagain_walk (s : ByteArray) (w : World) (hs : s.size ≤ 140737488351232) (hW : Hw w) :
    Calls Tryz.prog 5 #[.string s] w fun e w' => e = .returned (.bool true) ∧ Below w.heap.size w w' := by
  have HW := Lib.hid hW; clear hW
  by_cases h1000 : 1000 < s.size
  · go_enter Tryz.func5, Tryz.ntmps5
    go_wp2_with fail
    refine (alive5_any _ HW.out).mono ?_
    rintro e w1 ⟨rfl, b1⟩
    have Z1 : Hid (Below w.heap.size w w1) := Lib.hid b1
    clear b1
    have hI : (1000 : Int) < (s.size : Int) := by omega
    go_wp2_with fail
    refine (alive5_any _ (HW.out.later Z1.out)).mono ?_
    rintro e w2 ⟨rfl, b2⟩
    have Z2 : Hid (Below w.heap.size w w2) := Lib.hid (keepW Z1.out b2)
    clear b2
    go_wp2
    go_ret
    exact ⟨rfl, Z2.out⟩
  have hI : (s.size : Int) ≤ 1000 := by omega
  have hs1 : s.size ≤ 1000 := by omega
  clear h1000
  cases hO : hostO s with
  | none =>
    have C1 := Lib.hid (fun w hW => Parse_none (s := s) w hs1 hO hW)
    clear hO
    go_enter Tryz.func5, Tryz.ntmps5
    go_wp2_with fail
    refine (alive5_any _ HW.out).mono ?_
    rintro e w1 ⟨rfl, b1⟩
    have Z1 : Hid (Below w.heap.size w w1) := Lib.hid b1
    clear b1
    go_wp2_with fail
    refine (C1.out _ (HW.out.later Z1.out)).mono ?_
    rintro e w2 ⟨rfl, b2⟩
    have Z2 : Hid (Below w.heap.size w w2) := Lib.hid (keepW Z1.out b2)
    clear b2
    go_wp2
    go_ret
    exact ⟨rfl, Z2.out⟩
  | some x =>
    have C1 := Lib.hid (fun w hW => Parse_some (s := s) (x := x) w hs1 hO hW)
    have hm := host_made hs1 hO
    clear hO
    rcases hm with hN | hB
    · obtain ⟨h0, hx⟩ := hN.size
      have h91 := hN.first h0
      have C2 := Lib.hid (fun w hW => is5_yes x x w (by omega) hN.host.1 hW)
      have C3 := Lib.hid (fun w hW => is5_yes (x ++ ⟨#[46]⟩) x w (by rw [ByteArray.size_append]; show x.size + 1 ≤ 1000; omega) hN.point hW)
      have C4 : Hid (∀ w, Calls Tryz.prog 22 #[.string x] w fun e w' => e = .returned (.string x) ∧ Below w.heap.size w w') := Lib.hid (fun w => by
        have := Lower_any x w (by unfold maxLen; omega)
        rwa [hN.low] at this)
      have hz1 : ¬ 9223372036854775807 < x.size + 1 := by omega
      clear hN
      go_enter Tryz.func5, Tryz.ntmps5
      go_wp2_with fail
      refine (alive5_any _ HW.out).mono ?_
      rintro e w1 ⟨rfl, b1⟩
      have Z1 : Hid (Below w.heap.size w w1) := Lib.hid b1
      clear b1
      go_wp2_with fail
      refine (C1.out _ (HW.out.later Z1.out)).mono ?_
      rintro e w2 ⟨rfl, b2⟩
      have Z2 : Hid (Below w.heap.size w w2) := Lib.hid (keepW Z1.out b2)
      clear b2
      go_wp2_with fail
      refine (C2.out _ (HW.out.later Z2.out)).mono ?_
      rintro e w3 ⟨rfl, b3⟩
      have Z3 : Hid (Below w.heap.size w w3) := Lib.hid (keepW Z2.out b3)
      clear b3
      go_wp2_with fail
      refine (C3.out _ (HW.out.later Z3.out)).mono ?_
      rintro e w4 ⟨rfl, b4⟩
      have Z4 : Hid (Below w.heap.size w w4) := Lib.hid (keepW Z3.out b4)
      clear b4
      go_wp2_with fail
      refine (C4.out _).mono ?_
      rintro e w5 ⟨rfl, b5⟩
      have Z5 : Hid (Below w.heap.size w w5) := Lib.hid (keepW Z4.out b5)
      clear b5
      go_wp2
      go_ret
      exact ⟨rfl, Z5.out⟩
    · obtain ⟨h0, hx⟩ := hB.size
      have h91 := hB.first h0
      have C2 := Lib.hid (fun w hW => is5_yes x x w (by omega) hB.brack.1 hW)
      clear hB
      go_enter Tryz.func5, Tryz.ntmps5
      go_wp2_with fail
      refine (alive5_any _ HW.out).mono ?_
      rintro e w1 ⟨rfl, b1⟩
      have Z1 : Hid (Below w.heap.size w w1) := Lib.hid b1
      clear b1
      go_wp2_with fail
      refine (C1.out _ (HW.out.later Z1.out)).mono ?_
      rintro e w2 ⟨rfl, b2⟩
      have Z2 : Hid (Below w.heap.size w w2) := Lib.hid (keepW Z1.out b2)
      clear b2
      go_wp2_with fail
      refine (C2.out _ (HW.out.later Z2.out)).mono ?_
      rintro e w3 ⟨rfl, b3⟩
      have Z3 : Hid (Below w.heap.size w w3) := Lib.hid (keepW Z2.out b3)
      clear b3
      go_wp2
      go_ret
      exact ⟨rfl, Z3.out⟩

end Go.Proofs.YtjalbfgdhmkclaaGreatDoor
