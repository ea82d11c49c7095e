/-
  Contracts of Go's library at this program: strconv.FormatInt at base 10, strings.Join.
-/
import Derived.Shelf.Lay
import Derived.Shelf.LaySoft
import Derived.Shelf.Strconv.Itoa4
import Derived.Shelf.Strings.OnBuilder
import Derived.Test.YtldddgmhmolohaaProg
