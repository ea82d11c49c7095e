/-
  Plain words on hosts: below another one; labels.
  Plain words on hosts: a name that was answered, its labels, and the names above it.
  Contracts: hosts.Machine, hosts.Below.
  Contracts: hosts.Labels, hosts.Parse in two cases.
-/
import Derived.Test.YtdifdikfgkiocaaDoorMhC
import Derived.Test.YtdifdikfgkiocaaDoorMhA
import Derived.Test.YtdifdikfgkiocaaDoorMaF
import Derived.Test.YtdifdikfgkiocaaDoorMrF
import Derived.Test.YtdifdikfgkiocaaDoorShelfS
import Derived.Test.YtdifdikfgkiocaaDoorHsC
namespace Go.Proofs.YtdifdikfgkiocaaDoor
open Go.RowKit

end Go.Proofs.YtdifdikfgkiocaaDoor
namespace Go.Proofs.YtdifdikfgkiocaaDoor
open Go.RowKit

theorem NameX.size {x : ByteArray} (h : NameX x) : 0 < x.size ∧ x.size ≤ 253 := by
  have h1 := List.length_pos_iff.2 h.ne
  rw [lenB] at h1
  obtain ⟨_, _, _, _, _, h2, _⟩ := h
  exact ⟨h1, h2⟩
/-- No machine, and no part is empty. -/
structure NoMach (L : List ByteArray) : Prop where
  good : ∀ l ∈ L, GoodB l
  last : looksQ (lastQ (L.map (·.data.toList))) = false
  no91 : ∀ l ∈ L, ∀ c ∈ l.data.toList, c ≠ 91
theorem NoMach.drop {L : List ByteArray} (h : NoMach L) (i : Nat) (hi : i < L.length) : NoMach (L.drop i) := by
  refine ⟨fun l hl => h.good l (List.mem_of_mem_drop hl), ?_, fun l hl => h.no91 l (List.mem_of_mem_drop hl)⟩
  have := h.last
  rw [lastQ, List.getLast?_map] at this ⊢
  rwa [List.getLast?_drop, if_neg (by omega)]
end Go.Proofs.YtdifdikfgkiocaaDoor
namespace Go.Proofs.YtdifdikfgkiocaaDoor
open Go.RowKit

end Go.Proofs.YtdifdikfgkiocaaDoor
namespace Go.Proofs.YtdifdikfgkiocaaDoor
open Go.RowKit


end Go.Proofs.YtdifdikfgkiocaaDoor
