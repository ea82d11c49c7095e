/-
  Contracts of Go's library at this program: utf8.ValidString.
-/
import Derived.Shelf.Lay
import Derived.Shelf.LaySoft
import Derived.Shelf.Unicode.ValidAny
import Derived.Test.YtdifdikfgkiocaaDoorProg
namespace Go.Proofs
end Go.Proofs
