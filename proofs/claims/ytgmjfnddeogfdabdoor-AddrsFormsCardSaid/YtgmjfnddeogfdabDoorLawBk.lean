/-
  The walk of AddrsBack.
-/
import Derived.Test.YtgmjfnddeogfdabDoorAl4
import Derived.Test.YtgmjfnddeogfdabDoorGd
import Derived.Test.YtgmjfnddeogfdabDoorTxV
namespace Go.Proofs.YtgmjfnddeogfdabDoor
open Go.RowKit

theorem infoB : (Tryd.prog.info? 22).map (fun i => (i.zero, i.size)) = some (some (.agg (.replicate 16 (.int .u8 0))), 16) := by kernel_rfl
theorem built_six (l : List Nat) (hl : l.length = 16) : Tryd.prog.built 24 [(0, .bool true), (1, .agg (l.map u8v).toArray)] = some (cellsA true l) := by
  obtain ⟨a0, a1, a2, a3, a4, a5, a6, a7, a8, a9, b0, b1, b2, b3, b4, b5, rfl⟩ := list16 hl
  exact built_S true _ _ _ _ _ _ _ _ _ _ _ _ _ _ _ _
theorem bk_six (l : List Nat) (w : World) (hl : l.length = 16) (hb : ∀ x ∈ l, x < 256) :
    Calls Tryd.prog 8 #[.string (asB (textD true l))] w fun e w' => e = .returned (.tuple #[.agg (cellsA true l), .int .i64 0]) ∧ Below w.heap.size w w' := by
  have h := Six_any (asB (textD true l)) w (by rw [asB_size]; exact Nat.le_trans (six_made l hb).2.2.2 (by omega))
  have e : sixD (asB (textD true l)).data.toList = some (pcs l) := six_back l hb
  rw [e, sixV, pb_pcs l hl hb] at h
  exact h
theorem len_four (l : List Nat) : (four1T l).length ≤ 100 := by
  have := join_le ((l.take 4).map (numF 10 4)) [46] (fun x hx => by obtain ⟨n, _, rfl⟩ := List.mem_map.1 hx; exact numF_len 10 4 n) (by decide)
  rw [List.length_map, List.length_take] at this
  unfold four1T; omega
/-- Four bytes as an address. -/
abbrev qd4 (a b c d : Nat) : List Nat := [a, b, c, d, 0, 0, 0, 0, 0, 0, 0, 0, 0, 0, 0, 0]
theorem bk_four (a b c d : Nat) (w : World) (ha : a < 256) (hb : b < 256) (hc : c < 256) (hd : d < 256) :
    Calls Tryd.prog 10 #[.string (asB (textD false (qd4 a b c d)))] w fun e w' => e = .returned (.tuple #[.agg (cellsA false (qd4 a b c d)), .bool true, .int .i64 0]) ∧ Below w.heap.size w w' := by
  have h := Four_any (asB (textD false (qd4 a b c d))) w (by rw [asB_size]; exact Nat.le_trans (len_four _) (by omega))
  have e : fourD (asB (textD false (qd4 a b c d))).data.toList = (true, some [a, b, c, d]) := four_back a b c d _ ha hb hc hd
  rw [e] at h
  exact h
theorem bk_no (a b c d : Nat) (w : World) (ha : a < 256) (hb : b < 256) (hc : c < 256) (hd : d < 256) :
    Calls Tryd.prog 8 #[.string (asB (textD false (qd4 a b c d)))] w fun e w' => e = .returned (.tuple #[.agg zeroA, .int .i64 5]) ∧ Below w.heap.size w w' := by
  have h := Six_any (asB (textD false (qd4 a b c d))) w (by rw [asB_size]; exact Nat.le_trans (len_four _) (by omega))
  have e : sixD (asB (textD false (qd4 a b c d))).data.toList = none := four_no_six a b c d _ ha hb hc hd
  rw [e] at h
  exact h

set_option maxRecDepth 100000 in
set_option maxHeartbeats 4000000 in
theorem back_in (a0 a1 a2 a3 : Nat) (r : List Nat) (w : World) (hr : r.length = 12) (hb : ∀ x ∈ a0 :: a1 :: a2 :: a3 :: r, x < 256) (h10 : Fmt 10 256 w) (h16 : Fmt 16 65536 w) :
    Calls Tryd.prog 3 #[.agg ((a0 :: a1 :: a2 :: a3 :: r).map u8v).toArray] w fun e w' => e = .returned (.bool true) ∧ Below w.heap.size w w' := by
  obtain ⟨l, HL⟩ : ∃ l, Hid (a0 :: a1 :: a2 :: a3 :: r = l) := ⟨_, Lib.hid rfl⟩
  have Hl : Hid (l.length = 16) := Lib.hid (by rw [← HL.out]; simp [hr])
  have HF10 := Lib.hid h10; have HF16 := Lib.hid h16
  have HBd : Hid (∀ x ∈ l, x < 256) := Lib.hid (by rw [← HL.out]; exact hb)
  have Ha : Hid (a0 < 256 ∧ a1 < 256 ∧ a2 < 256 ∧ a3 < 256) := Lib.hid ⟨hb a0 (by simp), hb a1 (by simp), hb a2 (by simp), hb a3 (by simp)⟩
  rw [HL.out]
  obtain ⟨B, HB⟩ : ∃ B, Hid ((l.map u8v).toArray = B) := ⟨_, Lib.hid rfl⟩
  rw [HB.out]
  have HB0 : Hid (B[0]? = some (.int .u8 (a0 : Int))) := Lib.hid (by rw [← HB.out, ← HL.out]; rfl)
  have HB1 : Hid (B[1]? = some (.int .u8 (a1 : Int))) := Lib.hid (by rw [← HB.out, ← HL.out]; rfl)
  have HB2 : Hid (B[2]? = some (.int .u8 (a2 : Int))) := Lib.hid (by rw [← HB.out, ← HL.out]; rfl)
  have HB3 : Hid (B[3]? = some (.int .u8 (a3 : Int))) := Lib.hid (by rw [← HB.out, ← HL.out]; rfl)
  have HBs : Hid (B.size = 16) := Lib.hid (by rw [← HB.out]; simp [Hl.out])
  obtain ⟨hzB, hiB⟩ := zero_of_info infoB
  have HDB : Hid ((Tryd.prog.info? 22).map (·.size) = some B.size) := Lib.hid (by rw [hiB, HBs.out])
  clear hiB hzB h10 h16 hb hr
  obtain ⟨hz, hi⟩ := zero_of_info infoA
  have HI := Lib.hid hi; clear hi
  obtain ⟨CT, HCT⟩ : ∃ C, Hid (cellsA true l = C) := ⟨_, Lib.hid rfl⟩
  obtain ⟨CF, HCF⟩ : ∃ C, Hid (cellsA false (qd4 a0 a1 a2 a3) = C) := ⟨_, Lib.hid rfl⟩
  obtain ⟨CZ, HCZ⟩ : ∃ C, Hid (zeroA = C) := ⟨_, Lib.hid rfl⟩
  have HST : Hid (CT.size = 17) := Lib.hid (by rw [← HCT.out, cellsA_size, Hl.out])
  have HSF : Hid (CF.size = 17) := Lib.hid (by rw [← HCF.out, cellsA_size]; rfl)
  have HSZ : Hid (CZ.size = 17) := Lib.hid (by rw [← HCZ.out, zeroA_size])
  have HOT : Hid (CT.all (·.oneCell') = true) := Lib.hid (by rw [← HCT.out]; exact cellsA_one _ _)
  have HOF : Hid (CF.all (·.oneCell') = true) := Lib.hid (by rw [← HCF.out]; exact cellsA_one _ _)
  have HOZ : Hid (CZ.all (·.oneCell') = true) := Lib.hid (by rw [← HCZ.out]; exact zeroA_one)
  have HDT : Hid ((Tryd.prog.info? 24).map (·.size) = some CT.size) := Lib.hid (by rw [HI.out, HST.out])
  have HYT : Hid (zeroA.size = CT.size) := Lib.hid (by rw [HST.out]; exact zeroA_size)
  have HDF : Hid ((Tryd.prog.info? 24).map (·.size) = some CF.size) := Lib.hid (by rw [HI.out, HSF.out])
  have HYF : Hid (zeroA.size = CF.size) := Lib.hid (by rw [HSF.out]; exact zeroA_size)
  have HDZ : Hid ((Tryd.prog.info? 24).map (·.size) = some CZ.size) := Lib.hid (by rw [HI.out, HSZ.out])
  have HYZ : Hid (zeroA.size = CZ.size) := Lib.hid (by rw [HSZ.out]; exact zeroA_size)
  have HBt : Hid (Tryd.prog.built 24 [(0, .bool true), (1, .agg B)] = some CT) := Lib.hid (by rw [← HB.out, ← HCT.out]; exact built_six l Hl.out)
  have heqT : ∀ w, (binOp .eql 24 (.agg CT) (.agg CT)).run Tryd.prog w = .ok (.bool true) w := fun w => by rw [← HCT.out]; exact eqA_self true l Hl.out w
  have heqF : ∀ w, (binOp .eql 24 (.agg CF) (.agg CF)).run Tryd.prog w = .ok (.bool true) w := fun w => by rw [← HCF.out]; exact eqA_self false _ rfl w
  obtain ⟨T6, HT6⟩ : ∃ t, Hid (asB (textD true l) = t) := ⟨_, Lib.hid rfl⟩
  obtain ⟨T4, HT4⟩ : ∃ t, Hid (asB (textD false (qd4 a0 a1 a2 a3)) = t) := ⟨_, Lib.hid rfl⟩
  have C6 : Hid (∀ w', Below w.heap.size w w' → Calls Tryd.prog 9 #[.agg CT] w' fun e w'' => e = .returned (.string T6) ∧ Below w'.heap.size w' w'') := Lib.hid (fun w' hb' => by
    have := Text_any true l w' Hl.out HBd.out (HF10.out.later hb') (HF16.out.later hb')
    rwa [HCT.out, HT6.out] at this)
  have C4 : Hid (∀ w', Below w.heap.size w w' → Calls Tryd.prog 9 #[.agg CF] w' fun e w'' => e = .returned (.string T4) ∧ Below w'.heap.size w' w'') := Lib.hid (fun w' hb' => by
    have := Text_any false (qd4 a0 a1 a2 a3) w' rfl (by obtain ⟨h0, h1, h2, h3⟩ := Ha.out; intro x hx; simp only [List.mem_cons, List.not_mem_nil, or_false] at hx; omega) (HF10.out.later hb') (HF16.out.later hb')
    rwa [HCF.out, HT4.out] at this)
  have S6 : Hid (∀ w', Calls Tryd.prog 8 #[.string T6] w' fun e w'' => e = .returned (.tuple #[.agg CT, .int .i64 0]) ∧ Below w'.heap.size w' w'') := Lib.hid (fun w' => by
    have := bk_six l w' Hl.out HBd.out
    rwa [HCT.out, HT6.out] at this)
  have S4 : Hid (∀ w', Calls Tryd.prog 10 #[.string T4] w' fun e w'' => e = .returned (.tuple #[.agg CF, .bool true, .int .i64 0]) ∧ Below w'.heap.size w' w'') := Lib.hid (fun w' => by
    have := bk_four a0 a1 a2 a3 w' Ha.out.1 Ha.out.2.1 Ha.out.2.2.1 Ha.out.2.2.2
    rwa [HCF.out, HT4.out] at this)
  have SN : Hid (∀ w', Calls Tryd.prog 8 #[.string T4] w' fun e w'' => e = .returned (.tuple #[.agg CZ, .int .i64 5]) ∧ Below w'.heap.size w' w'') := Lib.hid (fun w' => by
    have := bk_no a0 a1 a2 a3 w' Ha.out.1 Ha.out.2.1 Ha.out.2.2.1 Ha.out.2.2.2
    rwa [HCZ.out, HT4.out] at this)
  have M4 : Hid (∀ w', Calls Tryd.prog 11 #[.int .u8 (a0 : Int), .int .u8 (a1 : Int), .int .u8 (a2 : Int), .int .u8 (a3 : Int)] w' fun e w'' => e = .returned (.agg CF) ∧ Below w'.heap.size w' w'') := Lib.hid (fun w' => by
    have := four_any2 a0 a1 a2 a3 w'
    rw [show (#[.bool false, .int .u8 (a0 : Int), .int .u8 (a1 : Int), .int .u8 (a2 : Int), .int .u8 (a3 : Int), .int .u8 0, .int .u8 0, .int .u8 0, .int .u8 0, .int .u8 0, .int .u8 0, .int .u8 0, .int .u8 0, .int .u8 0, .int .u8 0, .int .u8 0, .int .u8 0] : Array Value) = CF from HCF.out] at this
    exact this)
  obtain ⟨W0, HW0⟩ : ∃ W, Hid (w.alloc (.cells B 22) = W) := ⟨_, Lib.hid rfl⟩
  have Z0 : Hid (Below w.heap.size w W0) := Lib.hid (by rw [← HW0.out]; exact (Below.refl _ _).alloc (Nat.le_refl _) _)
  have G0 : Hid (W0.heap[w.heap.size]? = some (.cells B 22 (0, 0))) := Lib.hid (by rw [← HW0.out]; exact heap_alloc_new w _)
  go_enter Tryd.func3, Tryd.ntmps3
  go_wp2_with (first
    | (refine wpList_load_row rfl 22 _ rfl w.heap.size ?_ 22 B (0, 0) _ ?_ Tryd.underlying22 rfl HDB.out ?_; (exact rfl); (exact heap_alloc_new w _); (rw [HW0.out]))
    | (refine wpL_build rfl 24 _ rfl CT ?_ ?_; exact HBt.out)
    | (refine wpL_store_row rfl 24 _ _ rfl W0.heap.size CT ?_ ?_ 24 zeroA ?_ ?_ ?_ ?_ ?_; exact rfl; exact rfl; exact heap_alloc_new W0 _; exact HDT.out; exact HYT.out; exact HOT.out; rw [World.setRow_alloc_new])
    | (refine wpList_load_row rfl 24 _ rfl W0.heap.size ?_ 24 CT (0, 0) _ ?_ Tryd.underlying24 rfl HDT.out ?_; (exact rfl); (exact heap_alloc_new W0 _)))
  have Z1 : Hid (Below w.heap.size w (W0.alloc (.cells CT 24))) := Lib.hid (Z0.out.alloc Z0.out.size _)
  refine (C6.out _ Z1.out).mono ?_
  rintro e w1 ⟨rfl, b1⟩
  have Z2 : Hid (Below w.heap.size w w1) := Lib.hid (Z1.out.trans (b1.mono Z1.out.size))
  have G1 : Hid (w1.heap[W0.heap.size]? = some (.cells CT 24 (0, 0))) := Lib.hid (on_two b1)
  have K1 : Hid (w1.heap[w.heap.size]? = some (.cells B 22 (0, 0))) := Lib.hid (on_one G0.out b1)
  clear b1
  go_wp2_with fail
  refine (S6.out _).mono ?_
  rintro e w2 ⟨rfl, b2⟩
  obtain ⟨W3, HW3⟩ : ∃ W, Hid (w2.alloc (.cells CT 24) = W) := ⟨_, Lib.hid rfl⟩
  have Y3 : Hid (Below w1.heap.size w1 W3) := Lib.hid (by rw [← HW3.out]; exact b2.alloc b2.size _)
  have Z3 : Hid (Below w.heap.size w W3) := Lib.hid (Z2.out.trans (Y3.out.mono Z2.out.size))
  have G3 : Hid (W3.heap[W0.heap.size]? = some (.cells CT 24 (0, 0))) := Lib.hid ((Y3.out.block _ (lt_of_block G1.out)).trans G1.out)
  have K3 : Hid (W3.heap[w.heap.size]? = some (.cells B 22 (0, 0))) := Lib.hid ((Y3.out.block _ (lt_of_block K1.out)).trans K1.out)
  have X3 : Hid (W3.heap[w2.heap.size]? = some (.cells CT 24 (0, 0))) := Lib.hid (by rw [← HW3.out]; exact heap_alloc_new w2 _)
  clear b2
  have hc0 : W3.cell? ⟨w.heap.size, 0, none⟩ = some (.int .u8 (a0 : Int)) := by rw [cell_of_row _ _ _ _ _ _ K3.out]; exact HB0.out
  have hc1 : W3.cell? ⟨w.heap.size, 1, none⟩ = some (.int .u8 (a1 : Int)) := by rw [cell_of_row _ _ _ _ _ _ K3.out]; exact HB1.out
  have hc2 : W3.cell? ⟨w.heap.size, 2, none⟩ = some (.int .u8 (a2 : Int)) := by rw [cell_of_row _ _ _ _ _ _ K3.out]; exact HB2.out
  have hc3 : W3.cell? ⟨w.heap.size, 3, none⟩ = some (.int .u8 (a3 : Int)) := by rw [cell_of_row _ _ _ _ _ _ K3.out]; exact HB3.out
  go_wp2_with (refine wpL_store_row rfl 24 _ _ rfl w2.heap.size CT ?_ ?_ 24 zeroA ?_ ?_ ?_ ?_ ?_; exact rfl; exact rfl; exact heap_alloc_new w2 _; exact HDT.out; exact HYT.out; exact HOT.out; rw [World.setRow_alloc_new, HW3.out])
  refine (M4.out _).mono ?_
  rintro e w4 ⟨rfl, b4⟩
  have Y4 : Hid (Below W3.heap.size W3 w4) := Lib.hid b4
  clear b4 hc0 hc1 hc2 hc3
  go_wp2_with fail
  refine (C4.out _ (Z3.out.trans (Y4.out.mono Z3.out.size))).mono ?_
  rintro e w5 ⟨rfl, b5⟩
  have Y5 : Hid (Below W3.heap.size W3 w5) := Lib.hid (Y4.out.trans (b5.mono Y4.out.size))
  clear b5
  go_wp2_with fail
  refine (S4.out _).mono ?_
  rintro e w6 ⟨rfl, b6⟩
  obtain ⟨W7, HW7⟩ : ∃ W, Hid (w6.alloc (.cells CF 24) = W) := ⟨_, Lib.hid rfl⟩
  have Y7 : Hid (Below W3.heap.size W3 W7) := Lib.hid (by
    rw [← HW7.out]
    have := Y5.out.trans (b6.mono Y5.out.size)
    exact this.alloc this.size _)
  have Z7 : Hid (Below w.heap.size w W7) := Lib.hid (Z3.out.trans (Y7.out.mono Z3.out.size))
  have G7 : Hid (W7.heap[W0.heap.size]? = some (.cells CT 24 (0, 0))) := Lib.hid ((Y7.out.block _ (lt_of_block G3.out)).trans G3.out)
  have K7 : Hid (W7.heap[w.heap.size]? = some (.cells B 22 (0, 0))) := Lib.hid ((Y7.out.block _ (lt_of_block K3.out)).trans K3.out)
  have X7 : Hid (W7.heap[w2.heap.size]? = some (.cells CT 24 (0, 0))) := Lib.hid ((Y7.out.block _ (lt_of_block X3.out)).trans X3.out)
  have U7 : Hid (W7.heap[w6.heap.size]? = some (.cells CF 24 (0, 0))) := Lib.hid (by rw [← HW7.out]; exact heap_alloc_new w6 _)
  clear b6 Y3 Y4 Y5
  have hc0 : W7.cell? ⟨w.heap.size, 0, none⟩ = some (.int .u8 (a0 : Int)) := by rw [cell_of_row _ _ _ _ _ _ K7.out]; exact HB0.out
  have hc1 : W7.cell? ⟨w.heap.size, 1, none⟩ = some (.int .u8 (a1 : Int)) := by rw [cell_of_row _ _ _ _ _ _ K7.out]; exact HB1.out
  have hc2 : W7.cell? ⟨w.heap.size, 2, none⟩ = some (.int .u8 (a2 : Int)) := by rw [cell_of_row _ _ _ _ _ _ K7.out]; exact HB2.out
  have hc3 : W7.cell? ⟨w.heap.size, 3, none⟩ = some (.int .u8 (a3 : Int)) := by rw [cell_of_row _ _ _ _ _ _ K7.out]; exact HB3.out
  go_wp2_with (refine wpL_store_row rfl 24 _ _ rfl w6.heap.size CF ?_ ?_ 24 zeroA ?_ ?_ ?_ ?_ ?_; exact rfl; exact rfl; exact heap_alloc_new w6 _; exact HDF.out; exact HYF.out; exact HOF.out; rw [World.setRow_alloc_new, HW7.out])
  refine (M4.out _).mono ?_
  rintro e w8 ⟨rfl, b8⟩
  have Y8 : Hid (Below W7.heap.size W7 w8) := Lib.hid b8
  clear b8 hc0 hc1 hc2 hc3
  go_wp2_with fail
  refine (C4.out _ (Z7.out.trans (Y8.out.mono Z7.out.size))).mono ?_
  rintro e w9 ⟨rfl, b9⟩
  have Y9 : Hid (Below W7.heap.size W7 w9) := Lib.hid (Y8.out.trans (b9.mono Y8.out.size))
  clear b9
  go_wp2_with fail
  refine (SN.out _).mono ?_
  rintro e w10 ⟨rfl, b10⟩
  obtain ⟨V, HV⟩ : ∃ W, Hid (w10.alloc (.cells CZ 24) = W) := ⟨_, Lib.hid rfl⟩
  have YV : Hid (Below W7.heap.size W7 V) := Lib.hid (by
    rw [← HV.out]
    have := Y9.out.trans (b10.mono Y9.out.size)
    exact this.alloc this.size _)
  have ZV : Hid (Below w.heap.size w V) := Lib.hid (Z7.out.trans (YV.out.mono Z7.out.size))
  have GV : Hid (V.heap[W0.heap.size]? = some (.cells CT 24 (0, 0))) := Lib.hid ((YV.out.block _ (lt_of_block G7.out)).trans G7.out)
  have KV : Hid (V.heap[w.heap.size]? = some (.cells B 22 (0, 0))) := Lib.hid ((YV.out.block _ (lt_of_block K7.out)).trans K7.out)
  have XV : Hid (V.heap[w2.heap.size]? = some (.cells CT 24 (0, 0))) := Lib.hid ((YV.out.block _ (lt_of_block X7.out)).trans X7.out)
  have UV : Hid (V.heap[w6.heap.size]? = some (.cells CF 24 (0, 0))) := Lib.hid ((YV.out.block _ (lt_of_block U7.out)).trans U7.out)
  clear b10 Y8 Y9
  go_wp2_with (refine wpL_store_row rfl 24 _ _ rfl w10.heap.size CZ ?_ ?_ 24 zeroA ?_ ?_ ?_ ?_ ?_; exact rfl; exact rfl; exact heap_alloc_new w10 _; exact HDZ.out; exact HYZ.out; exact HOZ.out; rw [World.setRow_alloc_new, HV.out])
  have hc0 : ∀ p : BW V, p.w.cell? ⟨w.heap.size, 0, none⟩ = some (.int .u8 (a0 : Int)) := fun p => by rw [BW.cell KV.out p]; exact HB0.out
  have hc1 : ∀ p : BW V, p.w.cell? ⟨w.heap.size, 1, none⟩ = some (.int .u8 (a1 : Int)) := fun p => by rw [BW.cell KV.out p]; exact HB1.out
  have hc2 : ∀ p : BW V, p.w.cell? ⟨w.heap.size, 2, none⟩ = some (.int .u8 (a2 : Int)) := fun p => by rw [BW.cell KV.out p]; exact HB2.out
  have hc3 : ∀ p : BW V, p.w.cell? ⟨w.heap.size, 3, none⟩ = some (.int .u8 (a3 : Int)) := fun p => by rw [BW.cell KV.out p]; exact HB3.out
  have HAl : Hid (∀ p : BW V, Calls Tryd.prog 12 #[] p.w fun e w'' => e = .returned (.bool true) ∧ Below p.w.heap.size p.w w'') := Lib.hid (fun p => by
    have hb' := ZV.out.trans (p.h.mono ZV.out.size)
    exact alive4_any p.w (HF10.out.later hb') (HF16.out.later hb'))
  refine bw_region (by kernel_rfl) (by kernel_rfl) ?_
  repeat (first
    | (refine bw_load rfl 24 _ rfl w2.heap.size CT ?_ 24 (0, 0) _ ?_ Tryd.underlying24 rfl HDT.out ?_; (exact rfl); (intro w hw; obtain ⟨p, rfl⟩ := hw; exact BW.at XV.out p))
    | (refine bw_load rfl 24 _ rfl W0.heap.size CT ?_ 24 (0, 0) _ ?_ Tryd.underlying24 rfl HDT.out ?_; (exact rfl); (intro w hw; obtain ⟨p, rfl⟩ := hw; exact BW.at GV.out p))
    | (refine bw_load rfl 24 _ rfl w6.heap.size CF ?_ 24 (0, 0) _ ?_ Tryd.underlying24 rfl HDF.out ?_; (exact rfl); (intro w hw; obtain ⟨p, rfl⟩ := hw; exact BW.at UV.out p))
    | (quiet_step ((first
      | (with_reducible exact Calls.bw_of (HAl.out _))
      | (with_reducible exact Calls.bw_of (M4.out _))))))
  refine wpQuiet_nil ?_
  intro _ hw'
  obtain ⟨⟨wq, hwq⟩, rfl⟩ := hw'
  go_wp2_with fail
  go_ret
  exact ⟨rfl, ZV.out.trans (Below.mono hwq ZV.out.size)⟩
theorem back_walk (l : List Nat) (w : World) (hl : l.length = 16) (hb : ∀ x ∈ l, x < 256) (h10 : Fmt 10 256 w) (h16 : Fmt 16 65536 w) :
    Calls Tryd.prog 3 #[.agg (l.map u8v).toArray] w fun e w' => e = .returned (.bool true) ∧ Below w.heap.size w w' := by
  match l, hl, hb with
  | a :: b :: c :: d :: r, hl, hb => exact back_in a b c d r w (by simpa using hl) hb h10 h16

end Go.Proofs.YtgmjfnddeogfdabDoor
