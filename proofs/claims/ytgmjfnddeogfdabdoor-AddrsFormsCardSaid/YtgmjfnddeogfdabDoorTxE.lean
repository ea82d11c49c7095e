/-
  Contract: Text.
-/
import Derived.Test.YtgmjfnddeogfdabDoorTxD
namespace Go.Proofs.YtgmjfnddeogfdabDoor
open Go.RowKit

/-- The pieces of sixteen bytes. -/
def pcs (l : List Nat) : List Nat := (List.range 8).map (by2 l 16)
/-- The text of an address: the four bytes', the sixteen's. -/
def four1T (l : List Nat) : List UInt8 := Lib.join ((l.take 4).map (numF 10 4)) [46]
def sixT (l : List Nat) : List UInt8 :=
  if (lrS (pcs l) 8).2.2 - (lrS (pcs l) 8).2.1 < 2 then Lib.join ((pcs l).map (numF 16 4)) [58]
  else Lib.join (((pcs l).take (lrS (pcs l) 8).2.1).map (numF 16 4)) [58] ++ [58, 58] ++ Lib.join (((pcs l).drop (lrS (pcs l) 8).2.2).map (numF 16 4)) [58]

set_option maxRecDepth 100000 in
set_option maxHeartbeats 1000000 in
theorem Text4_any (l : List Nat) (w : World) (hl : l.length = 16) (hb : ∀ x ∈ l, x < 256) (hF : Fmt 10 256 w) :
    Calls Tryd.prog 9 #[.agg (cellsA false l)] w fun e w' => e = .returned (.string (asB (four1T l))) ∧ Below w.heap.size w w' := by
  obtain ⟨C, HC⟩ : ∃ C, Hid (cellsA false l = C) := ⟨_, Lib.hid rfl⟩
  rw [HC.out]
  have hC0 : C[0]? = some (.bool false) := by rw [← HC.out]; rfl
  have hW0 : (w.alloc (.cells C 24)).cell? ⟨w.heap.size, 0, none⟩ = some (.bool false) := (cell_of_row _ _ _ C _ _ (heap_alloc_new w _)).trans hC0
  have HB0 : Hid (Below w.heap.size w (w.alloc (.cells C 24))) := Lib.hid ((Below.refl _ _).alloc (Nat.le_refl _) _)
  have HNum := Lib.hid (numbers4 w.heap.size 16 (l.take 4) (w.alloc (.cells C 24)) (by rw [List.length_take]; omega) (fun x hx => hb x (List.mem_of_mem_take hx)) (fun j hj => by
    rw [cell_of_row _ _ _ C _ _ (heap_alloc_new w _), ← HC.out, Nat.add_comm 1 j, cellsA_at]
    rw [List.getElem_take, List.getElem?_eq_getElem (by rw [List.length_take] at hj; omega)]; rfl))
  have HF := Lib.hid hF
  clear hF
  go_enter Tryd.func9, Tryd.ntmps9
  go_wp2_with fail
  refine HNum.out.mono ?_
  rintro e w2 ⟨rfl, c2, b2⟩
  have HB2 : Hid (Below w.heap.size w w2) := Lib.hid (HB0.out.trans (b2.mono (by simp)))
  have hl4 : (l.take 4).length = 4 := by rw [List.length_take]; omega
  have HJ : Hid (Calls Tryd.prog 17 #[.slice (some ⟨w.heap.size + 1, 0, none⟩) 4 4, .string ⟨#[46]⟩, .int .i64 10] w2 fun e w' => e = .returned (.string (asB (four1T l))) ∧ Below w2.heap.size w2 w') := Lib.hid (by
    have h := joined_any 10 256 (w.heap.size + 1) 0 4 (l.take 4) ⟨#[46]⟩ w2 (HF.out.later HB2.out) (fun x hx => hb x (List.mem_of_mem_take hx)) (by omega) (by decide) (fun j hj => by rw [Nat.zero_add]; have := c2 j hj; rwa [World.size_alloc] at this)
    rw [hl4] at h
    exact h)
  clear b2 c2
  simp only [World.size_alloc]
  go_wp2_with fail
  refine HJ.out.mono ?_
  rintro e w3 ⟨rfl, b3⟩
  have HB3 := Lib.hid (HB2.out.trans (b3.mono HB2.out.size))
  clear b3
  go_wp2
  go_ret
  exact ⟨rfl, HB3.out⟩

end Go.Proofs.YtgmjfnddeogfdabDoor
