/-
  Contracts of Go's library at this program: strings.HasSuffix.
-/
import Derived.Shelf.Lay
import Derived.Shelf.LaySoft
import Derived.Shelf.Small.Strs
import Derived.Shelf.Small.Wraps
import Derived.Shelf.Strings.Prefix
import Derived.Test.YtdifdikfgkiocaaDoorProg
namespace Go.Proofs
end Go.Proofs
