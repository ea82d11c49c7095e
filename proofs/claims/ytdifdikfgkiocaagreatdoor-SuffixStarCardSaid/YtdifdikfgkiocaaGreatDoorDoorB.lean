/-
  Bytes that come in, for tied cards.
-/
import Derived.Test.YtdifdikfgkiocaaGreatDoorDoorG
import Derived.ChangeSlices
namespace Go.Proofs.YtdifdikfgkiocaaGreatDoor
open Go.ChangeShapes Go.WideShapes Go.ChangeAt Go.RowKit

theorem u8_wf (n : Int) (h : (Lit.int .u8 n).wf = true) : 0 ≤ n ∧ n < 256 := by
  have h1 : IntKind.min .u8 = 0 := by decide
  have h2 : IntKind.max .u8 = 255 := by decide
  simp [Lit.wf, h1, h2] at h
  omega
theorem u8_cast (z : Int) (h : 0 ≤ z ∧ z < 256) : ((UInt8.ofNat z.toNat).toNat : Int) = z := by
  have : (UInt8.ofNat z.toNat).toNat = z.toNat % 256 := rfl
  rw [this]; omega
/-- Bytes that come in, none or some. -/
theorem open_u8s {H : Type} {enc : TypeId × Value → H} {W : World} {a0 : Option Addr} {len cap fuel : Nat} {x : DataW H × List MemPlace}
    (hf : DataW.trod enc Tryz.prog W 0 (fun _ => true) true fuel 34 [.slice a0 len cap] = some x) (hwt : ∀ n ∈ DataW.weights Tryz.prog 34 x.1, n ≤ reachBytes) :
    ∃ (b off : Nat) (D : List UInt8), D.length = len ∧ (0 < D.length → a0 = some ⟨b, off, none⟩) ∧ (∀ j (h : j < D.length), W.cell? ⟨b, off + j, none⟩ = some (.int .u8 (D[j].toNat : Int))) ∧ D.length ≤ 140737488355328 := by
  rcases open_ints Tryz.underlying34 Tryz.underlying5 (by kernel_rfl) hf with ⟨hcs, hx⟩ | ⟨a, len', cap', zs, hcs, _, hl, hm, hz, hx, hcell, hwf⟩
  · injection hcs with hcs _
    injection hcs with h1 h2 h3
    subst h2
    exact ⟨0, 0, [], rfl, fun h => absurd h (Nat.not_lt_zero _), fun j h => absurd h (Nat.not_lt_zero _), Nat.zero_le _⟩
  · injection hcs with hcs _
    injection hcs with h1 h2 h3
    subst h1; subst h2; subst h3
    simp only [if_true] at hz
    subst hx
    simp only [DataW.weights, Tryz.underlying34] at hwt
    have hwl := hwt _ (List.mem_cons_self)
    have hb1 : Tryz.prog.bytesOf 5 = 1 := by kernel_rfl
    rw [hb1] at hwl
    have hll : len ≤ 140737488355328 := by
      have h1 : (lits (H := H) .u8 (zs.take len)).length = len := by rw [lits, List.length_map, List.length_take]; omega
      rw [h1] at hwl
      unfold reachBytes at hwl
      omega
    obtain ⟨b, off, spot⟩ := a
    have hsp : 0 < len → spot = none := fun h0 => by simpa [Addr.add] using World.cell?_spot (hcell 0 (by omega))
    refine ⟨b, off, (zs.take len).map fun z => UInt8.ofNat z.toNat, by rw [List.length_map, List.length_take]; omega, fun h0 => ?_, fun j hj => ?_, by rw [List.length_map, List.length_take]; omega⟩
    · rw [List.length_map, List.length_take] at h0
      have := hsp (by omega)
      subst this; rfl
    · have hj' : j < len := by rw [List.length_map, List.length_take] at hj; omega
      have := hsp (by omega)
      subst this
      have h4 := hcell j (by omega)
      have hz4 : zs.getD j 0 = zs[j]'(by omega) := by rw [List.getD_eq_getElem?_getD, List.getElem?_eq_getElem (by omega)]; rfl
      have hw4 := hwf (zs[j]'(by omega)) (List.getElem_mem _)
      rw [List.getElem_map, List.getElem_take, u8_cast _ (u8_wf _ hw4)]
      rw [add_plain, hz4] at h4
      exact h4

end Go.Proofs.YtdifdikfgkiocaaGreatDoor
