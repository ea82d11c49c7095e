/-
  Contracts: the document's Text.
-/
import Derived.Test.YtcgddilfpkeioabDoorTxR
import Derived.Test.YtcgddilfpkeioabDoorTxP
namespace Go.Proofs.YtcgddilfpkeioabDoor
open Go.RowKit

theorem Digs10 (n : Nat) (w : World) (h : n < 256) : Calls Tryd.prog 20 #[.int .i64 n, .int .i64 10] w fun e w' => e = .returned (.string (asB (numF 10 4 n))) ∧ Below w.heap.size w w' :=
  Digs_any 10 (by omega) (by omega) 3 n w (by omega) (by omega) (by omega)
theorem Digs16 (n : Nat) (w : World) (h : n < 65536) : Calls Tryd.prog 20 #[.int .i64 n, .int .i64 16] w fun e w' => e = .returned (.string (asB (numF 16 4 n))) ∧ Below w.heap.size w w' :=
  Digs_any 16 (by omega) (by omega) 3 n w (by omega) (by omega) (by omega)
theorem asB_split (a b : List UInt8) : asB (a ++ b) = asB a ++ asB b := (asB_cat a b).symm

set_option maxRecDepth 100000 in
set_option maxHeartbeats 2000000 in
theorem RefText4_any (a b c d : Nat) (r : List Nat) (w : World) (ha : a < 256) (hb : b < 256) (hc : c < 256) (hd : d < 256) (hr : r.length = 12) :
    Calls Tryd.prog 10 #[.agg (cellsA false (a :: b :: c :: d :: r))] w fun e w' => e = .returned (.string (asB (four1T (a :: b :: c :: d :: r)))) ∧ Below w.heap.size w w' := by
  obtain ⟨C, HC⟩ : ∃ C, Hid (cellsA false (a :: b :: c :: d :: r) = C) := ⟨_, Lib.hid rfl⟩
  rw [HC.out]
  obtain ⟨R, HR⟩ : ∃ R, Hid (four1T (a :: b :: c :: d :: r) = R) := ⟨_, Lib.hid rfl⟩
  rw [HR.out]
  have hC0 : C[0]? = some (.bool false) := by rw [← HC.out]; rfl
  have hW0 : (w.alloc (.cells C 24)).cell? ⟨w.heap.size, 0, none⟩ = some (.bool false) := (cell_of_row _ _ _ C _ _ (heap_alloc_new w _)).trans hC0
  obtain ⟨W, HW⟩ : ∃ W, Hid (w.alloc (.cells C 24) = W) := ⟨_, Lib.hid rfl⟩
  have HG : Hid (W.heap[w.heap.size]? = some (.cells C 24 (0, 0))) := Lib.hid (by rw [← HW.out]; exact heap_alloc_new w _)
  have HB0 : Hid (Below w.heap.size w W) := Lib.hid (by rw [← HW.out]; exact (Below.refl _ _).alloc (Nat.le_refl _) _)
  have hcell : ∀ j v, C[j]? = some v → ∀ w', Below W.heap.size W w' → w'.cell? ⟨w.heap.size, j, none⟩ = some v := fun j v hv w' hb' => by
    have h1 : W.cell? ⟨w.heap.size, j, none⟩ = some v := (cell_of_row _ _ _ C _ _ HG.out).trans hv
    rw [hb'.cell (p := ⟨w.heap.size, j, none⟩) (block_lt_of_cell h1)]; exact h1
  have k1 := hcell 1 (.int .u8 (a : Int)) (by rw [← HC.out]; rfl)
  have k2 := hcell 2 (.int .u8 (b : Int)) (by rw [← HC.out]; rfl)
  have k3 := hcell 3 (.int .u8 (c : Int)) (by rw [← HC.out]; rfl)
  have k4 := hcell 4 (.int .u8 (d : Int)) (by rw [← HC.out]; rfl)
  clear hcell
  obtain ⟨S1, HS1⟩ : ∃ S, Hid (asB (numF 10 4 a) = S) := ⟨_, Lib.hid rfl⟩
  obtain ⟨S2, HS2⟩ : ∃ S, Hid (asB (numF 10 4 b) = S) := ⟨_, Lib.hid rfl⟩
  obtain ⟨S3, HS3⟩ : ∃ S, Hid (asB (numF 10 4 c) = S) := ⟨_, Lib.hid rfl⟩
  obtain ⟨S4, HS4⟩ : ∃ S, Hid (asB (numF 10 4 d) = S) := ⟨_, Lib.hid rfl⟩
  have z1 : S1.size ≤ 4 := by rw [← HS1.out, asB_size]; exact numF_len _ _ _
  have z2 : S2.size ≤ 4 := by rw [← HS2.out, asB_size]; exact numF_len _ _ _
  have z3 : S3.size ≤ 4 := by rw [← HS3.out, asB_size]; exact numF_len _ _ _
  have z4 : S4.size ≤ 4 := by rw [← HS4.out, asB_size]; exact numF_len _ _ _
  have q1 : ¬ 9223372036854775807 < S1.size + 1 := by omega
  have q2 : ¬ 9223372036854775807 < S1.size + 1 + S2.size := by omega
  have q3 : ¬ 9223372036854775807 < S1.size + 1 + S2.size + 1 := by omega
  have q4 : ¬ 9223372036854775807 < S1.size + 1 + S2.size + 1 + S3.size := by omega
  have q5 : ¬ 9223372036854775807 < S1.size + 1 + S2.size + 1 + S3.size + 1 := by omega
  have q6 : ¬ 9223372036854775807 < S1.size + 1 + S2.size + 1 + S3.size + 1 + S4.size := by omega
  clear z1 z2 z3 z4
  have HF : Hid (S1 ++ (⟨#[46]⟩ : ByteArray) ++ S2 ++ (⟨#[46]⟩ : ByteArray) ++ S3 ++ (⟨#[46]⟩ : ByteArray) ++ S4 = asB R) := Lib.hid (by
    rw [← HR.out, ← HS1.out, ← HS2.out, ← HS3.out, ← HS4.out]
    show asB _ ++ asB [46] ++ asB _ ++ asB [46] ++ asB _ ++ asB [46] ++ asB _ = _
    rw [asB_cat, asB_cat, asB_cat, asB_cat, asB_cat, asB_cat]
    congr 1
    show _ = Lib.join [numF 10 4 a, numF 10 4 b, numF 10 4 c, numF 10 4 d] [46]
    simp [Lib.join, List.intercalate])
  have C1 : Hid (∀ w, Calls Tryd.prog 20 #[.int .i64 (a : Int), .int .i64 10] w fun e w' => e = .returned (.string S1) ∧ Below w.heap.size w w') := Lib.hid (fun w => by rw [← HS1.out]; exact Digs10 a w ha)
  have C2 : Hid (∀ w, Calls Tryd.prog 20 #[.int .i64 (b : Int), .int .i64 10] w fun e w' => e = .returned (.string S2) ∧ Below w.heap.size w w') := Lib.hid (fun w => by rw [← HS2.out]; exact Digs10 b w hb)
  have C3 : Hid (∀ w, Calls Tryd.prog 20 #[.int .i64 (c : Int), .int .i64 10] w fun e w' => e = .returned (.string S3) ∧ Below w.heap.size w w') := Lib.hid (fun w => by rw [← HS3.out]; exact Digs10 c w hc)
  have C4 : Hid (∀ w, Calls Tryd.prog 20 #[.int .i64 (d : Int), .int .i64 10] w fun e w' => e = .returned (.string S4) ∧ Below w.heap.size w w') := Lib.hid (fun w => by rw [← HS4.out]; exact Digs10 d w hd)
  go_enter Tryd.func10, Tryd.ntmps10
  go_wp2_with fail
  rw [HW.out]
  have hbb : Below W.heap.size W W.drew := (Below.refl W.heap.size W).drew
  have v1 : IntKind.i64.wrap (a : Int) = (a : Int) := IntWalk.i64_in _ (by omega)
  have v2 : IntKind.i64.wrap (b : Int) = (b : Int) := IntWalk.i64_in _ (by omega)
  have v3 : IntKind.i64.wrap (c : Int) = (c : Int) := IntWalk.i64_in _ (by omega)
  have v4 : IntKind.i64.wrap (d : Int) = (d : Int) := IntWalk.i64_in _ (by omega)
  go_region_held3 (fun w' => Below W.heap.size W w') (first | assumption | exact keepB (by assumption) (by assumption) | go_keep)
    (first
      | (go_at_call 20; (with_reducible refine (C1.out _).mono ?_); rintro e w' ⟨rfl, bT⟩)
      | (go_at_call 20; (with_reducible refine (C2.out _).mono ?_); rintro e w' ⟨rfl, bT⟩)
      | (go_at_call 20; (with_reducible refine (C3.out _).mono ?_); rintro e w' ⟨rfl, bT⟩)
      | (go_at_call 20; (with_reducible refine (C4.out _).mono ?_); rintro e w' ⟨rfl, bT⟩))
  all_goals
    go_wp2_with fail
    go_ret
    refine ⟨congrArg (fun z => Ending.returned (Value.string z)) HF.out, HB0.out.trans (Below.mono (by assumption) HB0.out.size)⟩

end Go.Proofs.YtcgddilfpkeioabDoor
