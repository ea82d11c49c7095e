/-
  The document's Domain; the walk of SitesDomains.
-/
import Derived.Test.YtldddgmhmolohaaLawHB
import Derived.Test.YtldddgmhmolohaaStQ
namespace Go.Proofs.Ytldddgmhmolohaa
open Go.RowKit

set_option maxHeartbeats 1000000 in
theorem RefDomain_any (a b : ByteArray) (w : World) (ha : a.size ≤ 1048600) (hb : b.size ≤ 1048600) :
    Calls Try.prog 11 #[.string a, .string b] w fun e w' => e = .returned (.bool (decide (0 < b.size) && belowB a b)) ∧ Below w.heap.size w w' := by
  obtain ⟨R, HR⟩ : ∃ R, Hid (belowB a b = R) := ⟨_, Lib.hid rfl⟩
  have C1 : Hid (Calls Try.prog 17 #[.string a, .string b] w fun e w' => e = .returned (.bool R) ∧ Below w.heap.size w w') := Lib.hid (by rw [← HR.out]; exact RefBelow5_any a b w ha hb)
  rw [HR.out]
  by_cases h0 : b.size = 0
  · have hem := emT h0
    have HF : Hid ((decide (0 < b.size) && R) = false) := Lib.hid (by rw [h0]; rfl)
    rw [HF.out]
    clear HF h0
    go_enter Try.func11, Try.ntmps11
    go_wp2
    go_ret
    exact ⟨rfl, Below.refl _ _⟩
  · have hem := emF (s := b) (by omega)
    have HF : Hid ((decide (0 < b.size) && R) = R) := Lib.hid (by rw [decide_eq_true (by omega : 0 < b.size), Bool.true_and])
    rw [HF.out]
    clear HF h0
    go_enter Try.func11, Try.ntmps11
    go_wp2_with fail
    refine C1.out.mono ?_
    rintro e w1 ⟨rfl, b1⟩
    have B1 := Lib.hid b1; clear b1
    go_wp2
    go_ret
    exact ⟨rfl, B1.out⟩

set_option maxHeartbeats 1000000 in
theorem sdomains_walk (a b : ByteArray) (w : World) (ha : a.size ≤ 140737488351232) (hb : b.size ≤ 140737488351232) :
    Calls Try.prog 4 #[.string a, .string b] w fun e w' => e = .returned (.bool true) ∧ Below w.heap.size w w' := by
  by_cases hbg : 1048576 < a.size + b.size
  · go_enter Try.func4, Try.ntmps4
    go_wp2_with fail
    refine (pc_Beyond2_yes w.heap.size a.size b.size _ (by simp) (by simp) hbg (by unfold maxLen; omega)).mono ?_
    rintro e w1 ⟨rfl, rfl⟩
    go_wp2
    go_ret
    exact ⟨rfl, (Below.refl _ _).alloc (Nat.le_refl _) _⟩
  · obtain ⟨R, HR⟩ : ∃ R, Hid ((decide (0 < b.size) && belowB a b) = R) := ⟨_, Lib.hid rfl⟩
    have C1 : Hid (∀ w, Calls Try.prog 10 #[.string a, .string b] w fun e w' => e = .returned (.bool R) ∧ Below w.heap.size w w') := Lib.hid (fun w => by rw [← HR.out]; exact Domain_any a b w (by omega) (by omega))
    have C2 : Hid (∀ w, Calls Try.prog 11 #[.string a, .string b] w fun e w' => e = .returned (.bool R) ∧ Below w.heap.size w w') := Lib.hid (fun w => by rw [← HR.out]; exact RefDomain_any a b w (by omega) (by omega))
    go_enter Try.func4, Try.ntmps4
    go_wp2_with fail
    refine (pc_Beyond2_no w.heap.size a.size b.size _ (by simp) (by simp) (by omega)).mono ?_
    rintro e w1 ⟨rfl, rfl⟩
    have B0 : Hid (Below w.heap.size w (w.alloc (.cells #[.int .i64 (a.size : Int), .int .i64 (b.size : Int)] 3))) := Lib.hid ((Below.refl _ _).alloc (Nat.le_refl _) _)
    go_wp2_with fail
    refine (C1.out _).mono ?_
    rintro e w1 ⟨rfl, b1⟩
    have B1 : Hid (Below w.heap.size w w1) := Lib.hid (keepW B0.out b1)
    clear b1
    go_wp2_with fail
    refine (C2.out _).mono ?_
    rintro e w2 ⟨rfl, b2⟩
    have B2 : Hid (Below w.heap.size w w2) := Lib.hid (keepW B1.out b2)
    clear b2
    go_wp2
    go_ret
    exact ⟨ret_bool (by simp), B2.out⟩

end Go.Proofs.Ytldddgmhmolohaa
