/-
  Plain words on the document's reading of sixteen bytes: four bytes, pieces, where nothing stands.
  Contract: the document's four bytes.
  Contract: the document's pieces.
  Contract: the document's Six.
-/
import Derived.Test.YtdifdikfgkiocaaDoorMaA
import Derived.Test.YtdifdikfgkiocaaDoorMrF
import Derived.Test.YtdifdikfgkiocaaDoorMaC
import Derived.Deep.DeepCutAuto
import Derived.Test.YtdifdikfgkiocaaDoorMaG
import Derived.Test.YtdifdikfgkiocaaDoorMhB
namespace Go.Proofs.YtdifdikfgkiocaaDoor
open Go.RowKit

end Go.Proofs.YtdifdikfgkiocaaDoor
namespace Go.Proofs.YtdifdikfgkiocaaDoor
open Go.RowKit

/-- What is answered of four bytes. -/
def BytPost (o : Option (List Nat)) (w : World) (e : Ending) (w' : World) : Prop :=
  Below w.heap.size w w' ∧ match o with
  | some ns => ∃ v, e = .returned (.tuple #[v, .bool true]) ∧ w'.ownsRow w.heap.size 5 1 v 4 (ns.map u8v)
  | none => e = .returned (.tuple #[.slice none 0 0, .bool false])
theorem BytPost.no {o : Option (List Nat)} {w w' : World} (h : o = none) (b : Below w.heap.size w w') : BytPost o w (.returned (.tuple #[.slice none 0 0, .bool false])) w' := by subst h; exact ⟨b, rfl⟩

end Go.Proofs.YtdifdikfgkiocaaDoor
namespace Go.Proofs.YtdifdikfgkiocaaDoor
open Go.RowKit

/-- What is answered of pieces. -/
def PcsPost (o : Option (List Nat)) (w : World) (e : Ending) (w' : World) : Prop :=
  Below w.heap.size w w' ∧ match o with
  | some ns => ∃ v, e = .returned (.tuple #[v, .bool true]) ∧ w'.ownsRow w.heap.size 5 1 v (pb ns).length ((pb ns).map u8v)
  | none => e = .returned (.tuple #[.slice none 0 0, .bool false])
theorem PcsPost.no {o : Option (List Nat)} {w w' : World} (h : o = none) (b : Below w.heap.size w w') : PcsPost o w (.returned (.tuple #[.slice none 0 0, .bool false])) w' := by subst h; exact ⟨b, rfl⟩

end Go.Proofs.YtdifdikfgkiocaaDoor
namespace Go.Proofs.YtdifdikfgkiocaaDoor
open Go.RowKit

end Go.Proofs.YtdifdikfgkiocaaDoor
