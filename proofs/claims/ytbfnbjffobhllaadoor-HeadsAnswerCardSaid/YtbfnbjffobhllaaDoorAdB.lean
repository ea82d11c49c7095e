/-
  Texts and lists of bytes.
-/
import Derived.Test.YtbfnbjffobhllaaDoorMath
namespace Go.Proofs.YtbfnbjffobhllaaDoor
open Go.RowKit

def asB (l : List UInt8) : ByteArray := ⟨l.toArray⟩
theorem asB_data (l : List UInt8) : (asB l).data.toList = l := rfl
theorem asB_back (t : ByteArray) : asB t.data.toList = t := rfl
theorem asB_size (l : List UInt8) : (asB l).size = l.length := rfl
theorem lenB (t : ByteArray) : t.data.toList.length = t.size := by simp
theorem ext_asB (t : ByteArray) (k : Nat) : t.extract k t.size = asB (t.data.toList.drop k) := by
  apply ByteArray.ext
  apply Array.toList_inj.1
  have hl := lenB t
  rw [asB_data, ByteArray.data_extract, Array.toList_extract, List.extract_eq_take_drop, List.take_of_length_le (by rw [List.length_drop]; omega)]

end Go.Proofs.YtbfnbjffobhllaaDoor
