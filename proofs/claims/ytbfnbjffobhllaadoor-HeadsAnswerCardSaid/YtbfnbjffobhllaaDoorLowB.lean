/-
  Contract: Same.
-/
import Derived.Test.YtbfnbjffobhllaaDoorLowC
namespace Go.Proofs.YtbfnbjffobhllaaDoor
open Go.RowKit

def sameS (a b : ByteArray) : Bool := (lowS a).toList == (lowS b).toList

set_option maxHeartbeats 400000 in
theorem Same_any (a b : ByteArray) (w : World) (ha : a.size ≤ maxLen) (hb : b.size ≤ maxLen) :
    Calls Tryd.prog 27 #[.string a, .string b] w fun e w' => e = .returned (.bool (sameS a b)) ∧ Below w.heap.size w w' := by
  go_enter Tryd.func27, Tryd.ntmps27
  go_wp2_with fail
  refine (Lower_any a _ ha).mono ?_
  rintro e w1 ⟨rfl, hb1⟩
  go_wp2_with fail
  refine (Lower_any b _ hb).mono ?_
  rintro e w2 ⟨rfl, hb2⟩
  go_wp2
  go_ret
  exact ⟨rfl, hb1.trans (hb2.mono hb1.size)⟩

end Go.Proofs.YtbfnbjffobhllaaDoor
