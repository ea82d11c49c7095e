/-
  Contract: the document's Hex.
-/
import Derived.Test.YtjalbfgdhmkclaaRows
import Derived.Test.YtjalbfgdhmkclaaPcM
import Derived.WalkSpells
import Derived.WalkLawsBesides
import Derived.Deep.QuietTactic
import Derived.BigQuiet
namespace Go.Proofs.Ytjalbfgdhmkclaa
open Go.RowKit

/-- What the document's Hex answers. -/
def hexI (c : UInt8) : Int := if hexV c < 16 then (hexV c : Int) else -1
theorem hexI_yes {c : UInt8} (h : hexV c < 16) : hexI c = (hexV c : Int) := by rw [hexI, if_pos h]
theorem hexI_no {c : UInt8} (h : ¬ hexV c < 16) : hexI c = -1 := by rw [hexI, if_neg h]

set_option maxRecDepth 100000 in
set_option maxHeartbeats 400000 in
theorem Hex_any (c : UInt8) (w : World) :
    Calls Try.prog 44 #[.int .u8 c.toNat] w fun e w' => e = .returned (.int .i64 (hexI c)) ∧ w = w' := by
  have hby := byte_lt c
  by_cases h1 : 48 ≤ c.toNat ∧ c.toNat ≤ 57
  · have HR : Hid (hexI c = (c.toNat : Int) - 48) := Lib.hid (by
      have hv : hexV c = c.toNat - 48 := by rw [hexV, if_pos h1]
      rw [hexI_yes (by rw [hv]; omega), hv]; omega)
    obtain ⟨a1, a2⟩ := h1
    go_enter Try.func44, Try.ntmps44
    go_wp2
    go_ret
    exact ⟨ret_int HR.out.symm, rfl⟩
  · by_cases h2 : 65 ≤ c.toNat ∧ c.toNat ≤ 70
    · have HR : Hid (hexI c = (c.toNat : Int) - 65 + 10) := Lib.hid (by
        have hv : hexV c = c.toNat - 55 := by rw [hexV, if_neg h1, if_pos h2]
        rw [hexI_yes (by rw [hv]; omega), hv]; omega)
      obtain ⟨a1, a2⟩ := h2
      have a0 : 57 < c.toNat := by omega
      have a3 : c.toNat < 97 := by omega
      clear h1
      go_enter Try.func44, Try.ntmps44
      go_wp2
      go_ret
      exact ⟨ret_int HR.out.symm, rfl⟩
    · by_cases h3 : 97 ≤ c.toNat ∧ c.toNat ≤ 102
      · have HR : Hid (hexI c = (c.toNat : Int) - 97 + 10) := Lib.hid (by
          have hv : hexV c = c.toNat - 87 := by rw [hexV, if_neg h1, if_neg h2, if_pos h3]
          rw [hexI_yes (by rw [hv]; omega), hv]; omega)
        obtain ⟨a1, a2⟩ := h3
        have a0 : 70 < c.toNat := by omega
        clear h1 h2
        go_enter Try.func44, Try.ntmps44
        go_wp2
        go_ret
        exact ⟨ret_int HR.out.symm, rfl⟩
      · have HR : Hid (hexI c = -1) := Lib.hid (by
          have hv : hexV c = 16 := by rw [hexV, if_neg h1, if_neg h2, if_neg h3]
          rw [hexI_no (by rw [hv]; omega)])
        go_enter Try.func44, Try.ntmps44
        go_wp2
        all_goals first
          | omega
          | (go_ret; exact ⟨ret_int HR.out.symm, rfl⟩)

end Go.Proofs.Ytjalbfgdhmkclaa
