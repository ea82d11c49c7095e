/-
  The walk of DatesSeconds, and a day and an hour as an argument.
-/
import Derived.Test.YtanjjffoccgkcaaDtR
import Derived.ChangeSame
import Derived.WideShapes
namespace Go.Proofs.Ytanjjffoccgkcaa
open Go.RowKit

def momV (y m d h i s : Int) : Value := .agg #[.int .i64 y, .int .i64 m, .int .i64 d, .int .i64 h, .int .i64 i, .int .i64 s]
set_option maxHeartbeats 2000000 in
set_option maxRecDepth 100000 in
theorem secs_walk (y m d h i s : Int) (w : World) :
    Calls Try.prog 4 #[momV y m d h i s] w fun e w' => e = .returned (.bool true) ∧ Below w.heap.size w w' := by
  obtain ⟨R, HR⟩ : ∃ R, Hid (secR y m d h i s = R) := ⟨_, Lib.hid rfl⟩
  obtain ⟨B, HB⟩ : ∃ B, Hid (secB y m d h i s = B) := ⟨_, Lib.hid rfl⟩
  have e1 : (R == R) = true := beq_iff_eq.2 rfl
  have e2 : (B == B) = true := beq_iff_eq.2 rfl
  unfold momV
  go_enter Try.func4, Try.ntmps4
  go_wp2_with fail
  refine (Seconds_any y m d h i s _).mono ?_
  rw [HR.out, HB.out]
  rintro e w' ⟨rfl, rfl⟩
  go_wp2_with fail
  refine (RefSeconds_any y m d h i s _).mono ?_
  rw [HR.out, HB.out]
  rintro e w' ⟨rfl, rfl⟩
  go_wp2
  go_ret
  exact ⟨rfl, (Below.refl _ _).alloc (Nat.le_refl _) _⟩

end Go.Proofs.Ytanjjffoccgkcaa
