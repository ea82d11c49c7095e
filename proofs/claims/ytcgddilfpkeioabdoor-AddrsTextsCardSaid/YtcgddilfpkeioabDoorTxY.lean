/-
  Text of any address: the program's and the document's; the walk of AddrsTexts.
-/
import Derived.Test.YtcgddilfpkeioabDoorTxX
namespace Go.Proofs.YtcgddilfpkeioabDoor
open Go.RowKit

/-- The text of an address. -/
def textD (six : Bool) (l : List Nat) : List UInt8 := if six then sixT l else four1T l
theorem Text_any (six : Bool) (l : List Nat) (w : World) (hl : l.length = 16) (hb : ∀ x ∈ l, x < 256) (h10 : Fmt 10 256 w) (h16 : Fmt 16 65536 w) :
    Calls Tryd.prog 9 #[.agg (cellsA six l)] w fun e w' => e = .returned (.string (asB (textD six l))) ∧ Below w.heap.size w w' := by
  cases six
  · exact Text4_any l w hl hb h10
  · exact Text6_any l w hl hb h16
theorem RefText_any (six : Bool) (l : List Nat) (w : World) (hl : l.length = 16) (hb : ∀ x ∈ l, x < 256) :
    Calls Tryd.prog 10 #[.agg (cellsA six l)] w fun e w' => e = .returned (.string (asB (textD six l))) ∧ Below w.heap.size w w' := by
  cases six
  · match l, hl, hb with
    | a :: b :: c :: d :: r, hl, hb => exact RefText4_any a b c d r w (hb a (by simp)) (hb b (by simp)) (hb c (by simp)) (hb d (by simp)) (by simpa using hl)
  · exact RefText6_any l w hl hb
/-- The cells of an address, one by one. -/
def lit16 (six : Bool) (a0 a1 a2 a3 a4 a5 a6 a7 a8 a9 b0 b1 b2 b3 b4 b5 : Nat) : Array Value := cellsA six [a0, a1, a2, a3, a4, a5, a6, a7, a8, a9, b0, b1, b2, b3, b4, b5]
theorem list16 {l : List Nat} (h : l.length = 16) : ∃ a0 a1 a2 a3 a4 a5 a6 a7 a8 a9 b0 b1 b2 b3 b4 b5, l = [a0, a1, a2, a3, a4, a5, a6, a7, a8, a9, b0, b1, b2, b3, b4, b5] := by
  match l, h with
  | [a0, a1, a2, a3, a4, a5, a6, a7, a8, a9, b0, b1, b2, b3, b4, b5], _ => exact ⟨a0, a1, a2, a3, a4, a5, a6, a7, a8, a9, b0, b1, b2, b3, b4, b5, rfl⟩
/-- A block is read cell by cell, in every later world. -/
theorem cells_later {W : World} {g : Nat} {C : Array Value} {t : TypeId} (hG : W.heap[g]? = some (.cells C t (0, 0))) (w' : World) (hb : Below W.heap.size W w') (j : Nat) : w'.cell? ⟨g, j, none⟩ = C[j]? := by
  rw [hb.cell (p := ⟨g, j, none⟩) (lt_of_block hG), cell_of_row _ _ _ C _ _ hG]

set_option maxRecDepth 100000 in
set_option maxHeartbeats 1000000 in
theorem texts_in (six : Bool) (a0 a1 a2 a3 a4 a5 a6 a7 a8 a9 b0 b1 b2 b3 b4 b5 : Nat) (w : World) (hb : ∀ x ∈ [a0, a1, a2, a3, a4, a5, a6, a7, a8, a9, b0, b1, b2, b3, b4, b5], x < 256) (h10 : Fmt 10 256 w) (h16 : Fmt 16 65536 w) :
    Calls Tryd.prog 3 #[.agg #[.bool six, .int .u8 (a0 : Int), .int .u8 (a1 : Int), .int .u8 (a2 : Int), .int .u8 (a3 : Int), .int .u8 (a4 : Int), .int .u8 (a5 : Int), .int .u8 (a6 : Int), .int .u8 (a7 : Int), .int .u8 (a8 : Int), .int .u8 (a9 : Int), .int .u8 (b0 : Int), .int .u8 (b1 : Int), .int .u8 (b2 : Int), .int .u8 (b3 : Int), .int .u8 (b4 : Int), .int .u8 (b5 : Int)]] w fun e w' => e = .returned (.bool true) ∧ Below w.heap.size w w' := by
  obtain ⟨l, hll⟩ : ∃ l, [a0, a1, a2, a3, a4, a5, a6, a7, a8, a9, b0, b1, b2, b3, b4, b5] = l := ⟨_, rfl⟩
  have hl : l.length = 16 := by rw [← hll]; rfl
  have HL := Lib.hid hll
  have HF10 := Lib.hid h10; have HF16 := Lib.hid h16
  have HBd : Hid (∀ x ∈ l, x < 256) := Lib.hid (by rw [← hll]; exact hb)
  obtain ⟨T, HT⟩ : ∃ T, Hid (asB (textD six l) = T) := ⟨_, Lib.hid rfl⟩
  have HC : Hid (cellsA six l = #[.bool six, .int .u8 (a0 : Int), .int .u8 (a1 : Int), .int .u8 (a2 : Int), .int .u8 (a3 : Int), .int .u8 (a4 : Int), .int .u8 (a5 : Int), .int .u8 (a6 : Int), .int .u8 (a7 : Int), .int .u8 (a8 : Int), .int .u8 (a9 : Int), .int .u8 (b0 : Int), .int .u8 (b1 : Int), .int .u8 (b2 : Int), .int .u8 (b3 : Int), .int .u8 (b4 : Int), .int .u8 (b5 : Int)]) := Lib.hid (by rw [← hll]; rfl)
  clear h10 h16 hb hll
  obtain ⟨W, HW⟩ : ∃ W, Hid (w.alloc (.cells #[.bool six, .int .u8 (a0 : Int), .int .u8 (a1 : Int), .int .u8 (a2 : Int), .int .u8 (a3 : Int), .int .u8 (a4 : Int), .int .u8 (a5 : Int), .int .u8 (a6 : Int), .int .u8 (a7 : Int), .int .u8 (a8 : Int), .int .u8 (a9 : Int), .int .u8 (b0 : Int), .int .u8 (b1 : Int), .int .u8 (b2 : Int), .int .u8 (b3 : Int), .int .u8 (b4 : Int), .int .u8 (b5 : Int)] 24) = W) := ⟨_, Lib.hid rfl⟩
  have HB0 : Hid (Below w.heap.size w W) := Lib.hid (by rw [← HW.out]; exact (Below.refl _ _).alloc (Nat.le_refl _) _)
  have hcl := fun w' hb' j => cells_later (W := W) (g := w.heap.size) (by rw [← HW.out]; exact heap_alloc_new w _) w' hb' j
  have C1 : Hid (∀ w', Below W.heap.size W w' → Calls Tryd.prog 9 #[.agg #[.bool six, .int .u8 (a0 : Int), .int .u8 (a1 : Int), .int .u8 (a2 : Int), .int .u8 (a3 : Int), .int .u8 (a4 : Int), .int .u8 (a5 : Int), .int .u8 (a6 : Int), .int .u8 (a7 : Int), .int .u8 (a8 : Int), .int .u8 (a9 : Int), .int .u8 (b0 : Int), .int .u8 (b1 : Int), .int .u8 (b2 : Int), .int .u8 (b3 : Int), .int .u8 (b4 : Int), .int .u8 (b5 : Int)]] w' fun e w'' => e = .returned (.string T) ∧ Below w'.heap.size w' w'') := Lib.hid (fun w' hb' => by
    have hbw := HB0.out.trans (hb'.mono HB0.out.size)
    have := Text_any six l w' hl HBd.out (HF10.out.later hbw) (HF16.out.later hbw)
    rwa [HC.out, HT.out] at this)
  have C2 : Hid (∀ w', Calls Tryd.prog 10 #[.agg #[.bool six, .int .u8 (a0 : Int), .int .u8 (a1 : Int), .int .u8 (a2 : Int), .int .u8 (a3 : Int), .int .u8 (a4 : Int), .int .u8 (a5 : Int), .int .u8 (a6 : Int), .int .u8 (a7 : Int), .int .u8 (a8 : Int), .int .u8 (a9 : Int), .int .u8 (b0 : Int), .int .u8 (b1 : Int), .int .u8 (b2 : Int), .int .u8 (b3 : Int), .int .u8 (b4 : Int), .int .u8 (b5 : Int)]] w' fun e w'' => e = .returned (.string T) ∧ Below w'.heap.size w' w'') := Lib.hid (fun w' => by
    have := RefText_any six l w' hl HBd.out
    rwa [HC.out, HT.out] at this)
  go_enter Tryd.func3, Tryd.ntmps3
  go_wp2_with fail
  rw [HW.out]
  have hbb : Below W.heap.size W W.drew := (Below.refl W.heap.size W).drew
  go_region_held3 (fun w' => Below W.heap.size W w') (first | assumption | exact keepB (by assumption) (by assumption) | go_keep)
    (first
      | (go_at_call 9; (with_reducible refine (C1.out _ ?_).mono ?_); (first | assumption | fail); rintro e w' ⟨rfl, bT⟩)
      | (go_at_call 10; (with_reducible refine (C2.out _).mono ?_); rintro e w' ⟨rfl, bT⟩))
  all_goals
    go_wp2_with fail
    go_ret
    refine ⟨rfl, HB0.out.trans (Below.mono (by assumption) HB0.out.size)⟩
theorem texts_walk (six : Bool) (l : List Nat) (w : World) (hl : l.length = 16) (hb : ∀ x ∈ l, x < 256) (h10 : Fmt 10 256 w) (h16 : Fmt 16 65536 w) :
    Calls Tryd.prog 3 #[.agg (cellsA six l)] w fun e w' => e = .returned (.bool true) ∧ Below w.heap.size w w' := by
  obtain ⟨a0, a1, a2, a3, a4, a5, a6, a7, a8, a9, b0, b1, b2, b3, b4, b5, rfl⟩ := list16 hl
  exact texts_in six a0 a1 a2 a3 a4 a5 a6 a7 a8 a9 b0 b1 b2 b3 b4 b5 w hb h10 h16

end Go.Proofs.YtcgddilfpkeioabDoor
