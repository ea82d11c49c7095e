/-
  Contract: the document's Decode.
-/
import Derived.Test.YtgmjfnddeogfdaaDoorPnVa
import Derived.Test.YtgmjfnddeogfdaaDoorPnVb
namespace Go.Proofs.YtgmjfnddeogfdaaDoor
open Go.RowKit

set_option maxHeartbeats 1000000 in
/-- The document's Decode. -/
theorem RefDecode_any (s : ByteArray) (w : World) (hs : s.size ≤ maxLen) (hs2 : s.size ≤ 1000 ∨ 65536 < s.size) :
    Calls Tryd.prog 28 #[.string s] w fun e w' => e = .returned (.tuple #[.string (decT s).1, .int .i64 (decT s).2]) ∧ Below w.heap.size w w' := by
  by_cases h1 : 65536 < s.size
  · have HF : Hid (decT s = (⟨#[]⟩, 3)) := Lib.hid (by rw [decT, if_pos h1])
    unfold maxLen at hs
    go_enter Tryd.func28, Tryd.ntmps28
    go_wp2
    go_ret2
    exact ⟨by rw [HF.out]; rfl, Below.refl _ _⟩
  · by_cases hC : 0 < (lastI s.data.toList).toNat
    · exact RefDecode_cut s w (by omega) hC
    · exact RefDecode_all s w (by omega) (by omega)

end Go.Proofs.YtgmjfnddeogfdaaDoor
