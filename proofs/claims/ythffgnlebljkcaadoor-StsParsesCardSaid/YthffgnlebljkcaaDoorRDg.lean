/-
  Contract: the document's Digit.
-/
import Derived.Test.YthffgnlebljkcaaDoorRows
import Derived.Test.YthffgnlebljkcaaDoorMath
import Derived.WalkSpells
import Derived.WalkLawsBesides
import Derived.Deep.QuietTactic
import Derived.BigQuiet
namespace Go.Proofs.YthffgnlebljkcaaDoor
open Go.RowKit

set_option maxHeartbeats 400000 in
theorem Digit_any (c : Int) (w : World) :
    Calls Tryd.prog 42 #[.int .u8 c] w fun e w' => e = .returned (.bool (inR 48 57 c)) ∧ w = w' := by
  by_cases h1 : 48 ≤ c
  all_goals
    go_enter Tryd.func42, Tryd.ntmps42
    go_wp2
    go_ret
    exact ⟨ret_bool (by simp [inR]; omega), rfl⟩

end Go.Proofs.YthffgnlebljkcaaDoor
