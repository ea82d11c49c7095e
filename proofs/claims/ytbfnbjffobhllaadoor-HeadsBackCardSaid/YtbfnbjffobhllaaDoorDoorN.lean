/-
  Bytes that come in, as heads' laws take them.
-/
import Derived.Test.YtbfnbjffobhllaaDoorDoorL
import Derived.Test.YtbfnbjffobhllaaDoorHdL
namespace Go.Proofs.YtbfnbjffobhllaaDoor
open Go.ChangeShapes Go.WideShapes Go.ChangeAt Go.RowKit Go.Lib Go.Deep

theorem open_bytes {H : Type} {enc : TypeId × Value → H} {W : World} {a0 : Option Addr} {len cap fuel : Nat} {x : DataW H × List MemPlace}
    (hf : DataW.trod enc Tryd.prog W 0 (fun _ => true) true fuel 24 [.slice a0 len cap] = some x) (hwt : ∀ n ∈ DataW.weights Tryd.prog 24 x.1, n ≤ reachBytes) :
    ∃ (b off : Nat) (D : List UInt8), D.length = len ∧ BxAt D a0 cap b off W ∧ cap ≤ maxLen ∧ D.length ≤ 140737488355328 := by
  obtain ⟨hcp, hcm, hnl⟩ : len ≤ cap ∧ cap ≤ maxLen ∧ (a0 = none → cap = 0) := by
    rcases open_ints Tryd.underlying24 Tryd.underlying5 (by kernel_rfl) hf with ⟨hcs, _⟩ | ⟨a, len', cap', zs, hcs, _, hl, hm, _⟩
    · injection hcs with hcs _
      injection hcs with h1 h2 h3
      subst h2; subst h3
      exact ⟨Nat.le_refl _, by unfold maxLen; omega, fun _ => rfl⟩
    · injection hcs with hcs _
      injection hcs with h1 h2 h3
      subst h1; subst h2; subst h3
      exact ⟨hl, hm, fun h => by cases h⟩
  obtain ⟨b, off, D, hD, h0, hcell, hDl⟩ := open_u8s hf hwt
  exact ⟨b, off, D, hD, ⟨h0, hcell, by rw [hD]; exact hcp, hnl⟩, hcm, hDl⟩

end Go.Proofs.YtbfnbjffobhllaaDoor
