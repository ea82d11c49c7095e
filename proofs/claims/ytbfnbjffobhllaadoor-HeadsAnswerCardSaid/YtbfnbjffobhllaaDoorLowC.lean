/-
  Contract: Lower.
-/
import Derived.Test.YtbfnbjffobhllaaDoorLowA
namespace Go.Proofs.YtbfnbjffobhllaaDoor
open Go.RowKit

/-- A text in small letters. -/
def lowS (s : ByteArray) : ByteArray := ⟨(s.data.toList.map low).toArray⟩
theorem lowS_size (s : ByteArray) : (lowS s).size = s.size := by
  show (s.data.toList.map low).toArray.size = s.data.size
  rw [List.size_toArray, List.length_map, Array.length_toList]
set_option maxHeartbeats 400000 in
theorem Lower_any (s : ByteArray) (w : World) (hs : s.size ≤ maxLen) :
    Calls Tryd.prog 28 #[.string s] w fun e w' => e = .returned (.string (lowS s)) ∧ Below w.heap.size w w' := by
  go_enter Tryd.func28, Tryd.ntmps28
  go_wp2_with fail
  refine (moved_any _).mono ?_
  rintro e w1 ⟨rfl, hb, hL, hz⟩
  have HZ := Lib.hid hz; clear hz
  go_wp2_with fail
  refine (changed_any s _ _ _ _ _ _ hs hL).mono ?_
  rintro e w2 ⟨rfl, hb2⟩
  go_wp2
  go_ret
  exact ⟨rfl, hb.trans (hb2.mono hb.size)⟩

end Go.Proofs.YtbfnbjffobhllaaDoor
