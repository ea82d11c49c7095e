/-
  Addresses that are compared.
  Plain words on hosts: a machine, below another one.
-/
import Derived.Test.YtdifdikfgkiocaaDoorMaC
import Derived.Laws.StructEq
import Derived.ChangeKeysEq
import Derived.Test.YtdifdikfgkiocaaDoorMaF
import Derived.Test.YtdifdikfgkiocaaDoorMrA
import Derived.Test.YtdifdikfgkiocaaDoorMaA
namespace Go.Proofs.YtdifdikfgkiocaaDoor
open Go.RowKit

end Go.Proofs.YtdifdikfgkiocaaDoor
namespace Go.Proofs.YtdifdikfgkiocaaDoor
open Go.RowKit

theorem ba_of {s t : ByteArray} (h : s.data.toList = t.data.toList) : s = t := ByteArray.ext (Array.toList_inj.1 h)
theorem keepW {w w' w'' : World} (h : Below w.heap.size w w') (k : Below w'.heap.size w' w'') : Below w.heap.size w w'' := h.trans (k.mono h.size)
theorem emF {s : ByteArray} (h : 0 < s.size) : s.toList.isEmpty = false := by
  rw [ByteArray.toList_eq, List.isEmpty_eq_false_iff, ← List.length_pos_iff, lenB]; exact h
theorem emT {s : ByteArray} (h : s.size = 0) : s.toList.isEmpty = true := by
  rw [ByteArray.toList_eq, List.isEmpty_iff, ← List.length_eq_zero_iff, lenB]; omega

end Go.Proofs.YtdifdikfgkiocaaDoor
