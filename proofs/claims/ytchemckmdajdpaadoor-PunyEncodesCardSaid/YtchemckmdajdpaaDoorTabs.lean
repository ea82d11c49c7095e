/-
  The two tables of utf8, out of what the row lists.
-/
import Derived.Test.YtchemckmdajdpaaDoorDoorP
import Derived.Test.YtchemckmdajdpaaDoorShelfV
import Derived.Lib.LaidIn
import Derived.Lib.LaidU8T
import Derived.MakeChecks
namespace Go.Proofs.YtchemckmdajdpaaDoor
open Go.ChangeShapes Go.WideShapes Go.ChangeAt Go.RowKit Go.Lib

theorem first_eq : (Rows.laid_unicode_utf8_first : DataW Unit) = Lib.firstData := by kernel_rfl
theorem accept_eq : (Rows.laid_unicode_utf8_acceptRanges : DataW Unit) = Lib.acceptData := by kernel_rfl

theorem tabs_of {w : World} (h : laidMetH Tryd.prog Rows.punyEncodesRow.laid w) : Lib.Utf8Tabs (Tryd.lays196_ren.g 3) (Tryd.lays196_ren.g 4) w := by
  rw [Go.MakeChecks.laidMetH_plain _ _ _ (by kernel_rfl)] at h
  have h1 := Lib.laidMet.reads h (.head _)
  have h2 := Lib.laidMet.reads h (.tail _ (.head _))
  rw [accept_eq] at h1
  rw [first_eq] at h2
  exact utf8Tabs_of_readsT (U8Types.of196 Tryd.lays196) ⟨by kernel_rfl, by kernel_rfl, by kernel_rfl, by kernel_rfl, by kernel_rfl, by kernel_rfl, by kernel_rfl⟩ h2 h1

end Go.Proofs.YtchemckmdajdpaaDoor
