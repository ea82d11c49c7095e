/-
  Contracts: the reader's cut and digits.
  Contract: the reader's digits.
  Contracts: what the reader reads: part, decimal, piece, small.
-/
import Derived.Test.YtdifdikfgkiocaaDoorMaA
import Derived.Test.YtdifdikfgkiocaaDoorShelfA
namespace Go.Proofs.YtdifdikfgkiocaaDoor
open Go.RowKit

/-- No letter of it is great. -/
def Sml (l : List UInt8) : Prop := ∀ c ∈ l, ¬ (65 ≤ c.toNat ∧ c.toNat ≤ 90)
theorem Sml.drop {l : List UInt8} (h : Sml l) (k : Nat) : Sml (l.drop k) := fun c hc => h c (List.mem_of_mem_drop hc)
theorem Sml.suf {l p r : List UInt8} (h : Sml l) (e : l = p ++ r) : Sml r := fun c hc => h c (by rw [e]; exact List.mem_append_right _ hc)

end Go.Proofs.YtdifdikfgkiocaaDoor
namespace Go.Proofs.YtdifdikfgkiocaaDoor
open Go.RowKit

end Go.Proofs.YtdifdikfgkiocaaDoor
namespace Go.Proofs.YtdifdikfgkiocaaDoor
open Go.RowKit

/-- A slice of just these ints, in a block of its own. -/
def NumsAt (w : World) (base : Nat) (v : Value) (ns : List Nat) : Prop := ∃ g, base ≤ g ∧ v = .slice (some ⟨g, 0, none⟩) ns.length ns.length ∧ w.heap[g]? = some (.cells (ns.map k_iv).toArray 3 (0, 0))
end Go.Proofs.YtdifdikfgkiocaaDoor
