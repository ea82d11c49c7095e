/-
  Contract: the document's Digit.
-/
import Derived.Test.YtgcebachahodgaaRows
import Derived.Test.YtgcebachahodgaaMath
import Derived.WalkSpells
import Derived.WalkLawsBesides
import Derived.Deep.QuietTactic
import Derived.BigQuiet
namespace Go.Proofs.Ytgcebachahodgaa
open Go.RowKit

set_option maxHeartbeats 400000 in
theorem Digit_any (c : Int) (w : World) :
    Calls Try.prog 31 #[.int .u8 c] w fun e w' => e = .returned (.bool (inR 48 57 c)) ∧ w = w' := by
  by_cases h1 : 48 ≤ c
  all_goals
    go_enter Try.func31, Try.ntmps31
    go_wp2
    go_ret
    exact ⟨ret_bool (by simp [inR]; omega), rfl⟩

end Go.Proofs.Ytgcebachahodgaa
