/-
  Package setcookie: Until; and the document's.
-/
import Derived.Test.YtllpdnmhabpbcaaGreatDoorMath
import Derived.OneCell
import Derived.Test.YtllpdnmhabpbcaaGreatDoorRows
namespace Go.Proofs.YtllpdnmhabpbcaaGreatDoor
open Go.RowKit

/-- When a cookie ends. -/
def nowP (n : Int) : Int := if n < 0 then 0 else if 1099511627775 < n then 1099511627775 else n
def untP (ex : Int) (hx : Bool) (ag : Int) (ha : Bool) (n : Int) : Int :=
  if ha then (if ag ≤ 0 then 0 else nowP n + (if ag ≤ 34560000 then ag else 34560000))
  else if hx then (if ex ≤ nowP n then 0 else if ex ≤ nowP n + 34560000 then ex else nowP n + 34560000) else -1
theorem nowP_bd (n : Int) : 0 ≤ nowP n ∧ nowP n ≤ 1099511627775 := by unfold nowP; split <;> (try split) <;> omega

set_option maxHeartbeats 1000000 in
theorem Until_any (nm vl dm pa : ByteArray) (ex ag si : Int) (hx ha se hi : Bool) (n : Int) (w : World) :
    Calls Tryz.prog 9 #[.agg #[.string nm, .string vl, .string dm, .string pa, .int .i64 ex, .bool hx, .int .i64 ag, .bool ha, .bool se, .bool hi, .int .u8 si], .int .i64 n] w fun e w' => e = .returned (.int .i64 (untP ex hx ag ha n)) ∧ Below w.heap.size w w' := by
  go_enter Tryz.func9, Tryz.ntmps9
  go_wp2
  all_goals go_ret
  all_goals refine ⟨ret_int ?_, (Below.refl _ _).alloc (Nat.le_refl _) _⟩
  all_goals subst_vars
  all_goals simp only [untP, nowP, Bool.false_eq_true, if_true, if_false]
  all_goals repeat' split
  all_goals omega

end Go.Proofs.YtllpdnmhabpbcaaGreatDoor
