/-
  Contract: the reader's part.
  Function values that read; the reader's row over any of them.
  Ways to read: part, decimal, piece, small as function values; contract: the reader's four.
  Addresses as values: their cells, what is answered.
-/
import Derived.Test.YtdifdikfgkiocaaDoorMaB
import Derived.Laws.Bits64b
import Derived.Shelf.Abstract
import Derived.Test.YtdifdikfgkiocaaDoorMaA
import Derived.Laws.ResultCell
import Derived.Laws.Rows
import Derived.Laws.Tables
namespace Go.Proofs.YtdifdikfgkiocaaDoor
open Go.RowKit

end Go.Proofs.YtdifdikfgkiocaaDoor
namespace Go.Proofs.YtdifdikfgkiocaaDoor
open Go.RowKit

end Go.Proofs.YtdifdikfgkiocaaDoor
namespace Go.Proofs.YtdifdikfgkiocaaDoor
open Go.RowKit

end Go.Proofs.YtdifdikfgkiocaaDoor
namespace Go.Proofs.YtdifdikfgkiocaaDoor
open Go.RowKit

def u8v (n : Nat) : Value := .int .u8 (n : Int)
end Go.Proofs.YtdifdikfgkiocaaDoor
