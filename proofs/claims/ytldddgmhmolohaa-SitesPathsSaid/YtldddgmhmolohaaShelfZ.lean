/-
  Contracts of Go's library at this program: bits.TrailingZeros.
-/
import Derived.Shelf.Lay
import Derived.Shelf.LaySoft
import Derived.Shelf.Spec.TrailingZeros
import Derived.Ground.Names7Prog
import Derived.Test.YtldddgmhmolohaaProg
