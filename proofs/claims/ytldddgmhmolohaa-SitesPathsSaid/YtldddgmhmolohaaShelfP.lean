/-
  Contracts of Go's library at this program: utf8.RuneCountInString.
-/
import Derived.Shelf.Lay
import Derived.Shelf.LaySoft
import Derived.Shelf.Utf8.RuneCount
import Derived.Shelf.Strings.Prefix
import Derived.Shelf.Small.Strs
import Derived.Shelf.Small.Wraps
import Derived.Test.YtldddgmhmolohaaProg
import Derived.Test.YtldddgmhmolohaaShelfA
