/-
  Contracts: numbersOf at four bytes, and at sixteen by two.
-/
import Derived.Test.YtgmjfnddeogfdabDoorRdF
import Derived.Test.YtgmjfnddeogfdabDoorTxC
namespace Go.Proofs.YtgmjfnddeogfdabDoor
open Go.RowKit

theorem make_ints (n : Nat) (w : World) (hn : n ≤ 10000000) : (Instr.makeSlice 49 (.int .i64 (n : Int)) (.int .i64 (n : Int))).run Tryd.prog w = .ok (.slice (some ⟨w.heap.size, 0, none⟩) n n) (w.alloc (.cells (madeCells (Value.int .i64 0).cells n) 3)) := by
  obtain ⟨i0, hi, hz0, hz1, hz2⟩ := info_parts infoI
  have h := run_makeSlice (P := Tryd.prog) w 49 3 i0 _ Tryd.underlying49 hi hz0 .i64 .i64 (n : Int) (n : Int) (by omega) (by omega) (by rw [hz1]; simp; omega) (by rw [hz2]; omega) (by omega)
  rw [hz1] at h
  simpa using h

theorem made_at (n j : Nat) (h : j < n) : (madeCells (Value.int .i64 0).cells n)[j]? = some (.int .i64 0) := by
  simp [madeCells, Value.cells]
  exact ⟨j, by rw [Array.getElem?_eq_getElem (by simpa using h)]; simp, by rw [Nat.mod_one]; rfl⟩

set_option maxRecDepth 100000 in
set_option maxHeartbeats 1000000 in
theorem numbers4 (g cap : Nat) (l : List Nat) (w : World) (hl : l.length = 4) (hb : ∀ x ∈ l, x < 256) (hc : ∀ j (hj : j < l.length), w.cell? ⟨g, 1 + j, none⟩ = some (.int .u8 (l[j] : Int))) :
    Calls Tryd.prog 18 #[.slice (some ⟨g, 1, none⟩) 4 cap, .int .i64 1] w fun e w' => e = .returned (.slice (some ⟨w.heap.size, 0, none⟩) 4 4) ∧ (∀ j (hj : j < l.length), w'.cell? ⟨w.heap.size, j, none⟩ = some (.int .i64 (l[j] : Int))) ∧ Below w.heap.size w w' := by
  have HC := Lib.hid hc; have HBd := Lib.hid hb
  clear hc hb
  obtain ⟨Z, HZ⟩ : ∃ Z, Hid (madeCells (Value.int .i64 0).cells 4 = Z) := ⟨_, Lib.hid rfl⟩
  have HZs : Hid (Z.size = 4) := Lib.hid (by rw [← HZ.out, size_madeCells])
  have HZa : Hid (∀ j, j < 4 → Z[j]? = some (.int .i64 0)) := Lib.hid (fun j hj => by rw [← HZ.out]; exact made_at 4 j hj)
  have hmk : ∀ w, (Instr.makeSlice 49 (.int .i64 4) (.int .i64 4)).run Tryd.prog w = .ok (.slice (some ⟨w.heap.size, 0, none⟩) 4 4) (w.alloc (.cells Z 3)) := fun w => by
    rw [← HZ.out]; exact make_ints 4 w (by omega)
  have HG0 := Lib.hid (heap_alloc_new w (.cells Z 3))
  have HB0 : Hid (Below w.heap.size w (w.alloc (.cells Z 3))) := Lib.hid ((Below.refl _ _).alloc (Nat.le_refl _) _)
  go_enter Tryd.func18, Tryd.ntmps18
  go_wp2
  go_loopw [6, 7, 15] (fun _ _ i wr => ∃ (k : Nat) (C : Array Value), k ≤ 4 ∧ i = .int .i64 k ∧ Hid (C.size = 4) ∧ Hid (∀ j, j < k → C[j]? = (l[j]?).map iv) ∧ Hid (∀ j, k ≤ j → j < 4 → C[j]? = some (.int .i64 0)) ∧ Hid (wr.heap[w.heap.size]? = some (.cells C 3 (0, 0))) ∧ Hid (Below w.heap.size w wr)) (fun _ _ i _ => 4 - (intOf i).toNat)
  case atStart => exact ⟨0, Z, Nat.zero_le _, rfl, HZs, Lib.hid (fun j h => absurd h (Nat.not_lt_zero _)), Lib.hid (fun j _ h => HZa.out j h), HG0, HB0⟩
  case round =>
    obtain ⟨k, C, hk, rfl, HCs, HCa, HCz, HG, HB⟩ := hrel
    by_cases hlt : k < 4
    · have hkl : k < l.length := by omega
      obtain ⟨x, HX⟩ : ∃ x, Hid (l[k] = x) := ⟨_, Lib.hid rfl⟩
      have hx : x < 256 := by rw [← HX.out]; exact HBd.out _ (List.getElem_mem _)
      have hcell : wr.cell? ⟨g, 1 + k, none⟩ = some (.int .u8 (x : Int)) := by
        have := HC.out k hkl
        rw [HB.out.cell (p := ⟨g, 1 + k, none⟩) (block_lt_of_cell this), this, HX.out]
      have hcl : wr.cell? ⟨w.heap.size, k, none⟩ = some (.int .i64 0) := (cell_of_row wr _ _ C _ _ HG.out).trans (HCz.out k (Nat.le_refl _) hlt)
      have hfr := frozen_of_row wr w.heap.size k C _ HG.out
      have hor : bits .or .i64 0 (x : Int) = (x : Int) := by
        have := or_byte 0 x (by omega) hx
        simpa using this
      have HG1 := Lib.hid (heap_setCell_same wr w.heap.size k C _ (.int .i64 (x : Int)) HG.out)
      have HB1 : Hid (Below w.heap.size w (wr.setCell ⟨w.heap.size, k, none⟩ (.int .i64 (x : Int)))) := Lib.hid (HB.out.setCell (Nat.le_refl _) _)
      have HC1 : Hid (∀ j, j < k + 1 → (C.setIfInBounds k (.int .i64 (x : Int)))[j]? = (l[j]?).map iv) := Lib.hid (fun j hj => by
        rw [Array.getElem?_setIfInBounds]
        by_cases e : k = j
        · subst e
          rw [if_pos rfl, if_pos (by rw [HCs.out]; exact hlt), List.getElem?_eq_getElem hkl, HX.out]; rfl
        · rw [if_neg e]; exact HCa.out j (by omega))
      have HC2 : Hid (∀ j, k + 1 ≤ j → j < 4 → (C.setIfInBounds k (.int .i64 (x : Int)))[j]? = some (.int .i64 0)) := Lib.hid (fun j hj h4 => by
        rw [Array.getElem?_setIfInBounds, if_neg (by omega)]; exact HCz.out j (by omega) h4)
      go_wp2
      go_region
      all_goals
        go_wp2
        exact ⟨⟨k + 1, _, by omega, by go_num, Lib.hid (by simpa using HCs.out), HC1, HC2, Lib.hid HG1.out, Lib.hid HB1.out.drew⟩, by simp [intOf]; omega⟩
    · obtain rfl : k = 4 := by omega
      go_wp2
      go_ret
      refine ⟨rfl, fun j hj => ?_, HB.out⟩
      rw [cell_of_row wr _ _ C _ _ HG.out, HCa.out j (by omega), List.getElem?_eq_getElem hj]; rfl
/-- Sixteen bytes by two, while k of them are read. -/
def by2 (l : List Nat) (k j : Nat) : Nat := if 2 * j + 1 < k then 256 * l.getD (2 * j) 0 + l.getD (2 * j + 1) 0 else if 2 * j < k then l.getD (2 * j) 0 else 0

set_option maxRecDepth 100000 in
set_option maxHeartbeats 1000000 in
theorem numbers16 (g cap : Nat) (l : List Nat) (w : World) (hl : l.length = 16) (hb : ∀ x ∈ l, x < 256) (hc : ∀ j (hj : j < l.length), w.cell? ⟨g, 1 + j, none⟩ = some (.int .u8 (l[j] : Int))) :
    Calls Tryd.prog 18 #[.slice (some ⟨g, 1, none⟩) 16 cap, .int .i64 2] w fun e w' => e = .returned (.slice (some ⟨w.heap.size, 0, none⟩) 8 8) ∧ (∀ j, j < 8 → w'.cell? ⟨w.heap.size, j, none⟩ = some (iv (by2 l 16 j))) ∧ Below w.heap.size w w' := by
  have HC := Lib.hid hc; have HBd := Lib.hid hb
  clear hc hb
  obtain ⟨Z, HZ⟩ : ∃ Z, Hid (madeCells (Value.int .i64 0).cells 8 = Z) := ⟨_, Lib.hid rfl⟩
  have HZs : Hid (Z.size = 8) := Lib.hid (by rw [← HZ.out, size_madeCells])
  have HZa : Hid (∀ j, j < 8 → Z[j]? = some (.int .i64 0)) := Lib.hid (fun j hj => by rw [← HZ.out]; exact made_at 8 j hj)
  have hmk : ∀ w, (Instr.makeSlice 49 (.int .i64 8) (.int .i64 8)).run Tryd.prog w = .ok (.slice (some ⟨w.heap.size, 0, none⟩) 8 8) (w.alloc (.cells Z 3)) := fun w => by
    rw [← HZ.out]; exact make_ints 8 w (by omega)
  have HG0 := Lib.hid (heap_alloc_new w (.cells Z 3))
  have HB0 : Hid (Below w.heap.size w (w.alloc (.cells Z 3))) := Lib.hid ((Below.refl _ _).alloc (Nat.le_refl _) _)
  go_enter Tryd.func18, Tryd.ntmps18
  go_wp2
  go_loopw [6, 7, 15] (fun _ _ i wr => ∃ (k : Nat) (C : Array Value), k ≤ 16 ∧ i = .int .i64 k ∧ Hid (C.size = 8) ∧ Hid (∀ j, j < 8 → C[j]? = some (iv (by2 l k j))) ∧ Hid (wr.heap[w.heap.size]? = some (.cells C 3 (0, 0))) ∧ Hid (Below w.heap.size w wr)) (fun _ _ i _ => 16 - (intOf i).toNat)
  case atStart => exact ⟨0, Z, Nat.zero_le _, rfl, HZs, Lib.hid (fun j h => by rw [HZa.out j h, by2, if_neg (by omega), if_neg (by omega)]; rfl), HG0, HB0⟩
  case round =>
    obtain ⟨k, C, hk, rfl, HCs, HCa, HG, HB⟩ := hrel
    by_cases hlt : k < 16
    · have hkl : k < l.length := by omega
      obtain ⟨x, HX⟩ : ∃ x, Hid (l[k] = x) := ⟨_, Lib.hid rfl⟩
      have hx : x < 256 := by rw [← HX.out]; exact HBd.out _ (List.getElem_mem _)
      have HXd : Hid (l.getD k 0 = x) := Lib.hid (by rw [List.getD_eq_getElem?_getD, List.getElem?_eq_getElem hkl, HX.out]; rfl)
      have hcell : wr.cell? ⟨g, 1 + k, none⟩ = some (.int .u8 (x : Int)) := by
        have := HC.out k hkl
        rw [HB.out.cell (p := ⟨g, 1 + k, none⟩) (block_lt_of_cell this), this, HX.out]
      obtain ⟨j, hj⟩ : ∃ j, k = 2 * j ∨ k = 2 * j + 1 := ⟨k / 2, by omega⟩
      have hj8 : j < 8 := by omega
      have hq : (k : Int) / 2 = (j : Int) := by omega
      obtain ⟨y, HY⟩ : ∃ y, Hid (by2 l k j = y) := ⟨_, Lib.hid rfl⟩
      have hy : y < 256 := by
        rw [← HY.out, by2, if_neg (by omega)]
        split
        · rw [List.getD_eq_getElem?_getD, List.getElem?_eq_getElem (by omega)]
          exact HBd.out _ (List.getElem_mem _)
        · omega
      have HJ := Lib.hid hj
      have hcl : wr.cell? ⟨w.heap.size, j, none⟩ = some (.int .i64 (y : Int)) := (cell_of_row wr _ _ C _ _ HG.out).trans (by rw [HCa.out j hj8, HY.out]; rfl)
      have hfr := frozen_of_row wr w.heap.size j C _ HG.out
      obtain ⟨z, HZz⟩ : ∃ z, Hid (256 * y + x = z) := ⟨_, Lib.hid rfl⟩
      have hor : bits .or .i64 ((y : Int) * 256) (x : Int) = (z : Int) := by rw [or_byte y x (by omega) hx, HZz.out]
      have HG1 := Lib.hid (heap_setCell_same wr w.heap.size j C _ (.int .i64 (z : Int)) HG.out)
      have HB1 : Hid (Below w.heap.size w (wr.setCell ⟨w.heap.size, j, none⟩ (.int .i64 (z : Int)))) := Lib.hid (HB.out.setCell (Nat.le_refl _) _)
      have HC1 : Hid (∀ i, i < 8 → (C.setIfInBounds j (.int .i64 (z : Int)))[i]? = some (iv (by2 l (k + 1) i))) := Lib.hid (fun i hi => by
        rw [Array.getElem?_setIfInBounds]
        by_cases e : j = i
        · subst e
          rw [if_pos rfl, if_pos (by rw [HCs.out]; exact hi)]
          have : by2 l (k + 1) j = z := by
            rw [← HZz.out, ← HY.out, ← HXd.out]
            rcases HJ.out with rfl | rfl
            · unfold by2
              rw [if_neg (by omega), if_pos (by omega), if_neg (by omega), if_neg (by omega), Nat.mul_zero, Nat.zero_add]
            · simp [by2]
          rw [this]; rfl
        · rw [if_neg e, HCa.out i hi]
          have : by2 l (k + 1) i = by2 l k i := by
            unfold by2
            rcases HJ.out with rfl | rfl
            · by_cases h : i < j
              · rw [if_pos (by omega), if_pos (by omega)]
              · rw [if_neg (by omega), if_neg (by omega), if_neg (by omega), if_neg (by omega)]
            · by_cases h : i < j
              · rw [if_pos (by omega), if_pos (by omega)]
              · rw [if_neg (by omega), if_neg (by omega), if_neg (by omega), if_neg (by omega)]
          rw [this])
      clear hj
      go_wp2
      go_region
      all_goals
        go_wp2
        exact ⟨⟨k + 1, _, by omega, by go_num, Lib.hid (by simpa using HCs.out), HC1, Lib.hid HG1.out, Lib.hid HB1.out.drew⟩, by simp [intOf]; omega⟩
    · obtain rfl : k = 16 := by omega
      go_wp2
      go_ret
      refine ⟨rfl, fun j hj => ?_, HB.out⟩
      rw [cell_of_row wr _ _ C _ _ HG.out, HCa.out j hj]
end Go.Proofs.YtgmjfnddeogfdabDoor
