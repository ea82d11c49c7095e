/-
  Contracts of the library: they stand in one text.
-/
import Derived.Test.YtbfnbjffobhllaaDoorShelfF
