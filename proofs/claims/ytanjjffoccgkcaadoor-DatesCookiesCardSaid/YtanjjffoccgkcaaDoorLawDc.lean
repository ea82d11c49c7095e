/-
  The walk of DatesCookies.
-/
import Derived.Test.YtanjjffoccgkcaaDoorDrE
import Derived.Test.YtanjjffoccgkcaaDoorDtU
import Derived.Test.YtanjjffoccgkcaaDoorBeyond
namespace Go.Proofs.YtanjjffoccgkcaaDoor
open Go.RowKit

set_option maxHeartbeats 1000000 in
theorem cookies_walk (s : ByteArray) (m : Int) (w : World) (hs : s.size ≤ 140737488351232) (hw : DtC0 m w) :
    Calls Tryd.prog 3 #[.string s] w fun e w' => e = .returned (.bool true) ∧ Below w.heap.size w w' := by
  by_cases hb : 1048576 < s.size
  · go_enter Tryd.func3, Tryd.ntmps3
    go_wp2_with fail
    refine (Beyond1_yes w.heap.size s.size _ (by unfold maxLen; omega) (by simp) hb).mono ?_
    rintro e w1 ⟨rfl, rfl⟩
    go_wp2
    go_ret
    exact ⟨rfl, (Below.refl _ _).alloc (Nat.le_refl _) _⟩
  · have HW := Lib.hid hw
    clear hw
    have HC := Lib.hid (fun w hw => Cookie_any s (by omega) m w hw)
    have HR := Lib.hid (fun w => RefCookie_any s (by omega) w)
    obtain ⟨r, Hr⟩ : ∃ r, Hid (cookR (toldT s) = r) := ⟨_, Lib.hid rfl⟩
    obtain ⟨b, Hb⟩ : ∃ b, Hid (cookB (toldT s) = b) := ⟨_, Lib.hid rfl⟩
    rw [Hr.out, Hb.out] at HC HR
    go_enter Tryd.func3, Tryd.ntmps3
    go_wp2_with fail
    refine (Beyond1_no w.heap.size s.size _ (by simp) (by omega)).mono ?_
    rintro e w1 ⟨rfl, rfl⟩
    have E1 := beq_self_eq_true r
    have B0 : Hid (∀ o, Below w.heap.size w (w.alloc o)) := Lib.hid (fun o => (Below.refl _ _).alloc (Nat.le_refl _) o)
    go_wp2_with fail
    refine (HC.out _ (HW.out.below (B0.out _))).mono ?_
    rintro e w1 ⟨rfl, b1⟩
    have B1 := Lib.hid ((B0.out _).trans (b1.mono (by simp)))
    clear b1
    go_wp2_with fail
    refine (HR.out _).mono ?_
    rintro e w2 ⟨rfl, b2⟩
    have B2 := Lib.hid (B1.out.trans (b2.mono B1.out.size))
    clear b2
    cases b
    all_goals
      go_wp2
      go_ret
      exact ⟨rfl, B2.out⟩

end Go.Proofs.YtanjjffoccgkcaaDoor
