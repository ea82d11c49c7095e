/-
  A start in which all five listed tables lie as they are listed.
-/
import Derived.Test.YtjeejpgkhjblnaaDoorDoor
namespace Go.Proofs.YtjeejpgkhjblnaaDoor
open Go.ChangeShapes Go.WideShapes Go.ChangeAt Go.RowKit

noncomputable def laidWorld5 (os : Os) : World :=
  let w0 := World.holding Tryd.prog os ⟨#[], #[], []⟩
  { w0 with heap := ((((w0.heap.modify 0 (putCells (flatD 3 Rows.laid_unicode_utf8_first))).modify 1 (putCells (flatD 3 Rows.laid_unicode_utf8_acceptRanges))).modify 3 (putCells (flatD 3 Rows.laid_internal_strconv_uint64pow10))).modify 4 (putCells (flatD 3 Rows.laid_math_bits_deBruijn32tab))).modify 5 (putCells (flatD 3 Rows.laid_math_bits_deBruijn64tab)) }
theorem laid_met5 (os : Os) (args : Array Value) : laidMetH Tryd.prog Rows.asciiSplitsRow.laid ((laidWorld5 os).forCall (fun _ _ => 0) ⟨#[], args, []⟩).memory :=
  laidMetH_of_parts3 (fuel := 8) (laidMet_of_run3 8 (by kernel_rfl) (by kernel_rfl) (by kernel_rfl)) (by kernel_rfl) (by kernel_rfl)

end Go.Proofs.YtjeejpgkhjblnaaDoor
