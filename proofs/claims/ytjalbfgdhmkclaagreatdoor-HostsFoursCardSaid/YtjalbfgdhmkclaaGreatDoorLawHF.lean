/-
  The walk of HostsFours.
-/
import Derived.Test.YtjalbfgdhmkclaaGreatDoorLawHA
import Derived.Test.YtjalbfgdhmkclaaGreatDoorHsF
namespace Go.Proofs.YtjalbfgdhmkclaaGreatDoor
open Go.RowKit

theorem wpW_step {P : Program} {ops : Array Oper} {Q : Exit → Act → World → Prop} {a : Act} {w : World} {rest : List Oper} {o : Oper} (hw : Region.wanted o (yielded ops a.tmps) = true)
    (h : ∀ K : Act → World → Prop, (∀ a w, wpList P ops Q rest a w → K a w) → o.wp P a w K Q) : wpList P ops Q (o :: rest) a w :=
  wpList_step fun K hK => by rw [if_pos hw]; exact h K hK
/-- A row is read, guarded or not. -/
theorem wpW_load_row {P : Program} {ops : Array Oper} {rest : List Oper} {o : Oper} {a : Act} {w : World} {Q : Exit → Act → World → Prop} (hw : Region.wanted o (yielded ops a.tmps) = true) (ty : TypeId) (x : Operand) (ho : o.op = .load ty x)
    (g : Nat) (hx : a.eval x = .pointer (some ⟨g, 0, none⟩)) (t : TypeId) (cs : Array Value) (fr : Nat × Nat) (d : TypeDesc) (hg : w.heap[g]? = some (.cells cs t fr))
    (hu : P.underlying ty = some d) (hd : (match d with | .struct _ | .array _ _ => true | _ => false) = true) (hi : (P.info? ty).map (·.size) = some cs.size)
    (h : wpList P ops Q rest (a.put o.dst (.agg cs)) w) : wpList P ops Q (o :: rest) a w :=
  wpW_step hw fun _ hK => wp_load_row ty x ho g hx t cs fr d hg hu hd hi (hK _ _ h)
theorem h_built_B (a b c d : Int) : Tryz.prog.built 45 [(0, .int .u8 a), (1, .int .u8 b), (2, .int .u8 c), (3, .int .u8 d)] = some #[.int .u8 a, .int .u8 b, .int .u8 c, .int .u8 d, .int .u8 0, .int .u8 0, .int .u8 0, .int .u8 0, .int .u8 0, .int .u8 0, .int .u8 0, .int .u8 0, .int .u8 0, .int .u8 0, .int .u8 0, .int .u8 0] := by kernel_rfl
theorem h_built_A (x0 x1 x2 x3 x4 x5 x6 x7 x8 x9 y0 y1 y2 y3 y4 y5 : Value) : Tryz.prog.built 47 [(1, .agg #[x0, x1, x2, x3, x4, x5, x6, x7, x8, x9, y0, y1, y2, y3, y4, y5])] = some #[.bool false, x0, x1, x2, x3, x4, x5, x6, x7, x8, x9, y0, y1, y2, y3, y4, y5] := by kernel_rfl
set_option maxRecDepth 100000 in
set_option maxHeartbeats 4000000 in
theorem hfours_in (a b c d : Nat) (s : ByteArray) (w : World) (ha : a < 256) (hb : b < 256) (hc : c < 256) (hd : d < 256) (hs : s.size ≤ 140737488351232) (hW : Hw w) :
    Calls Tryz.prog 9 #[.agg #[.int .u8 (a : Int), .int .u8 (b : Int), .int .u8 (c : Int), .int .u8 (d : Int)], .string s] w fun e w' => e = .returned (.bool true) ∧ Below w.heap.size w w' := by
  obtain ⟨hz, hi⟩ := zero_of_info infoA
  have HI := Lib.hid hi; clear hi
  obtain ⟨R, HR⟩ : ∃ R, Hid ((#[.int .u8 (a : Int), .int .u8 (b : Int), .int .u8 (c : Int), .int .u8 (d : Int)] : Array Value) = R) := ⟨_, Lib.hid rfl⟩
  rw [HR.out]
  obtain ⟨W0, HW0⟩ : ∃ W, Hid (w.alloc (.cells R 51) = W) := ⟨_, Lib.hid rfl⟩
  have B0 : Hid (Below w.heap.size w W0) := Lib.hid (by rw [← HW0.out]; exact (Below.refl _ _).alloc (Nat.le_refl _) _)
  have G0 : Hid (W0.heap[w.heap.size]? = some (.cells R 51 (0, 0))) := Lib.hid (by rw [← HW0.out]; exact heap_alloc_new w _)
  have HW := Lib.hid hW; clear hW
  by_cases h1000 : 1000 < s.size
  · have hI : (1000 : Int) < (s.size : Int) := by omega
    go_enter Tryz.func9, Tryz.ntmps9
    go_wp2_with fail
    rw [HW0.out]
    refine (alive5_any _ (HW.out.later B0.out)).mono ?_
    rintro e w1 ⟨rfl, b1⟩
    have Z1 : Hid (Below w.heap.size w w1) := Lib.hid (keepW B0.out b1)
    clear b1
    go_wp2_with fail
    refine (alive5_any _ (HW.out.later Z1.out)).mono ?_
    rintro e w2 ⟨rfl, b2⟩
    have Z2 : Hid (Below w.heap.size w w2) := Lib.hid (keepW Z1.out b2)
    clear b2
    go_wp2
    go_ret
    exact ⟨rfl, Z2.out⟩
  have hI : (s.size : Int) ≤ 1000 := by omega
  have hs1 : s.size ≤ 1000 := by omega
  clear h1000
  have HC0 : Hid (∀ j x, R[j]? = some x → W0.cell? ⟨w.heap.size, j, none⟩ = some x) := Lib.hid (fun j x h => by rw [cell_of_row W0 _ _ _ _ _ G0.out]; exact h)
  obtain ⟨C, HC⟩ : ∃ C, Hid ((#[.bool false, .int .u8 (a : Int), .int .u8 (b : Int), .int .u8 (c : Int), .int .u8 (d : Int), .int .u8 0, .int .u8 0, .int .u8 0, .int .u8 0, .int .u8 0, .int .u8 0, .int .u8 0, .int .u8 0, .int .u8 0, .int .u8 0, .int .u8 0, .int .u8 0] : Array Value) = C) := ⟨_, Lib.hid rfl⟩
  have HCA : Hid (C = cellsA false (six0 [a, b, c, d])) := Lib.hid (by rw [← HC.out]; rfl)
  have HCs : Hid (C.size = 17) := Lib.hid (by rw [← HC.out]; rfl)
  have HCo : Hid (C.all (·.oneCell') = true) := Lib.hid (by rw [HCA.out]; exact cellsA_one _ _)
  have HCi : Hid ((Tryz.prog.info? 47).map (·.size) = some C.size) := Lib.hid (by rw [HI.out, HCs.out])
  have HCz : Hid (zeroA.size = C.size) := Lib.hid (by rw [HCs.out, zeroA_size])
  obtain ⟨D, HD⟩ : ∃ D, Hid ((#[.int .u8 (a : Int), .int .u8 (b : Int), .int .u8 (c : Int), .int .u8 (d : Int), .int .u8 0, .int .u8 0, .int .u8 0, .int .u8 0, .int .u8 0, .int .u8 0, .int .u8 0, .int .u8 0, .int .u8 0, .int .u8 0, .int .u8 0, .int .u8 0] : Array Value) = D) := ⟨_, Lib.hid rfl⟩
  have H45 : Hid (Tryz.prog.built 45 [(0, .int .u8 (a : Int)), (1, .int .u8 (b : Int)), (2, .int .u8 (c : Int)), (3, .int .u8 (d : Int))] = some D) := Lib.hid (by rw [h_built_B, HD.out])
  have H47 : Hid (Tryz.prog.built 47 [(1, .agg D)] = some C) := Lib.hid (by rw [← HD.out, h_built_A, HC.out])
  obtain ⟨T, HT⟩ : ∃ T, Hid (four4 a b c d = T) := ⟨_, Lib.hid rfl⟩
  have hN := four4_name ha hb hc hd
  have hBr := four4_brack ha hb hc hd
  have hTs := four4_size a b c d
  have CT : Hid (∀ w, Hw w → Calls Tryz.prog 27 #[.agg C] w fun e w' => e = .returned (.string T) ∧ Below w.heap.size w w') := Lib.hid (fun w hW => by
    have := Text_any false (six0 [a, b, c, d]) w rfl (six0_lt ha hb hc hd) hW.f10 hW.f16
    rw [show asB (textD false (six0 [a, b, c, d])) = T from HT.out] at this
    rwa [HCA.out])
  rw [HT.out] at hN hBr hTs
  have CP := Lib.hid (fun w hW => Parse_none (s := ⟨#[91]⟩ ++ T ++ ⟨#[93]⟩) w (by rw [ByteArray.size_append, ByteArray.size_append]; show 1 + T.size + 1 ≤ 1000; omega) hBr hW)
  have CI := Lib.hid (fun w hW => is5_yes T T w (by omega) hN.host.1 hW)
  have CM : Hid (∀ w, Calls Tryz.prog 16 #[.string T] w fun e w' => e = .returned (.bool true) ∧ Below w.heap.size w w') := Lib.hid (fun w => by
    have h1 := Machine_any T w (by omega)
    have h2 : machB T = true := by rw [hN.mach, ← HT.out, four4_four ha hb hc hd]
    rwa [h2] at h1)
  have hz1 : ¬ 9223372036854775807 < 1 + T.size := by omega
  have hz2 : ¬ 9223372036854775807 < 1 + T.size + 1 := by omega
  have c0 : R[0]? = some (.int .u8 (a : Int)) := by rw [← HR.out]; rfl
  have c1 : R[1]? = some (.int .u8 (b : Int)) := by rw [← HR.out]; rfl
  have c2 : R[2]? = some (.int .u8 (c : Int)) := by rw [← HR.out]; rfl
  have c3 : R[3]? = some (.int .u8 (d : Int)) := by rw [← HR.out]; rfl
  have HcR := Lib.hid (⟨c0, c1, c2, c3⟩ : R[0]? = some (.int .u8 (a : Int)) ∧ R[1]? = some (.int .u8 (b : Int)) ∧ R[2]? = some (.int .u8 (c : Int)) ∧ R[3]? = some (.int .u8 (d : Int)))
  clear c0 c1 c2 c3
  obtain ⟨C2, b2, k2, hv, hsz, hone, hcase⟩ := fourV_row s.data.toList
  have HF : Hid (∀ w, Calls Tryz.prog 26 #[.string s] w fun e w' => e = .returned (.tuple #[.agg C2, .bool b2, .int .i64 k2]) ∧ Below w.heap.size w w') := Lib.hid (fun w => by
    have := Four_any s w (by omega)
    rwa [hv] at this)
  have H2i : Hid ((Tryz.prog.info? 47).map (·.size) = some C2.size) := Lib.hid (by rw [HI.out, hsz])
  have H2z : Hid (zeroA.size = C2.size) := Lib.hid (by rw [hsz]; exact zeroA_size)
  have H2o := Lib.hid hone
  have H2c := Lib.hid hcase
  clear hv hsz hone hcase hN hBr
  go_enter Tryz.func9, Tryz.ntmps9
  go_wp2_with fail
  rw [HW0.out]
  refine (alive5_any _ (HW.out.later B0.out)).mono ?_
  rintro e w1 ⟨rfl, b1⟩
  have Z1 : Hid (Below w.heap.size w w1) := Lib.hid (keepW B0.out b1)
  have x0 : w1.cell? ⟨w.heap.size, 0, none⟩ = some (.int .u8 (a : Int)) := (b1.cell (p := ⟨w.heap.size, 0, none⟩) (lt_of_block G0.out)).trans (HC0.out 0 _ HcR.out.1)
  have x1 : w1.cell? ⟨w.heap.size, 1, none⟩ = some (.int .u8 (b : Int)) := (b1.cell (p := ⟨w.heap.size, 1, none⟩) (lt_of_block G0.out)).trans (HC0.out 1 _ HcR.out.2.1)
  have x2 : w1.cell? ⟨w.heap.size, 2, none⟩ = some (.int .u8 (c : Int)) := (b1.cell (p := ⟨w.heap.size, 2, none⟩) (lt_of_block G0.out)).trans (HC0.out 2 _ HcR.out.2.2.1)
  have x3 : w1.cell? ⟨w.heap.size, 3, none⟩ = some (.int .u8 (d : Int)) := (b1.cell (p := ⟨w.heap.size, 3, none⟩) (lt_of_block G0.out)).trans (HC0.out 3 _ HcR.out.2.2.2)
  obtain ⟨W2, HW2⟩ : ∃ W, Hid (w1.alloc (.cells C 47) = W) := ⟨_, Lib.hid rfl⟩
  have Z2 : Hid (Below w.heap.size w W2) := Lib.hid (by rw [← HW2.out]; exact Z1.out.alloc Z1.out.size _)
  have G2 : Hid (W2.heap[w1.heap.size]? = some (.cells C 47 (0, 0))) := Lib.hid (by rw [← HW2.out]; exact heap_alloc_new w1 _)
  clear b1
  go_wp2_with (first
    | (refine wpL_build rfl 45 _ rfl D ?_ ?_; exact H45.out)
    | (refine wpL_build rfl 47 _ rfl C ?_ ?_; exact H47.out)
    | (refine wpL_store_row rfl 47 _ _ rfl w1.heap.size C ?_ ?_ 47 zeroA ?_ ?_ ?_ ?_ ?_; exact rfl; exact rfl; exact heap_alloc_new w1 _; exact HCi.out; exact HCz.out; exact HCo.out; rw [World.setRow_alloc_new, HW2.out])
    | (refine wpList_load_row rfl 47 _ rfl w1.heap.size ?_ 47 C (0, 0) _ ?_ Tryz.underlying47 rfl HCi.out ?_; (exact rfl); (exact G2.out)))
  refine (CT.out _ (HW.out.later Z2.out)).mono ?_
  rintro e w3 ⟨rfl, b3⟩
  have Z3 : Hid (Below w.heap.size w w3) := Lib.hid (keepW Z2.out b3)
  clear b3 x0 x1 x2 x3
  go_wp2_with fail
  refine (CP.out _ (HW.out.later Z3.out)).mono ?_
  rintro e w4 ⟨rfl, b4⟩
  have Z4 : Hid (Below w.heap.size w w4) := Lib.hid (keepW Z3.out b4)
  clear b4
  go_wp2_with fail
  refine (HF.out _).mono ?_
  rintro e w5 ⟨rfl, b5⟩
  have Z5 : Hid (Below w.heap.size w w5) := Lib.hid (keepW Z4.out b5)
  clear b5
  obtain ⟨W6, HW6⟩ : ∃ W, Hid (w5.alloc (.cells C2 47) = W) := ⟨_, Lib.hid rfl⟩
  have Z6 : Hid (Below w.heap.size w W6) := Lib.hid (by rw [← HW6.out]; exact Z5.out.alloc Z5.out.size _)
  have G6 : Hid (W6.heap[w5.heap.size]? = some (.cells C2 47 (0, 0))) := Lib.hid (by rw [← HW6.out]; exact heap_alloc_new w5 _)
  by_cases h63 : s.size ≤ 63
  · have h63I : (s.size : Int) ≤ 63 := by omega
    rcases H2c.out with ⟨rfl, rfl, h⟩ | ⟨rfl, rfl, h⟩ | ⟨rfl, rfl, q0, q1, q2, q3, h, h0, h1, h2, h3, hC2⟩
    · clear h H2c
      go_wp2_with (refine wpL_store_row rfl 47 _ _ rfl w5.heap.size C2 ?_ ?_ 47 zeroA ?_ ?_ ?_ ?_ ?_; exact rfl; exact rfl; exact heap_alloc_new w5 _; exact H2i.out; exact H2z.out; exact H2o.out; rw [World.setRow_alloc_new, HW6.out])
      refine (CI.out _ (HW.out.later Z6.out)).mono ?_
      rintro e w7 ⟨rfl, b7⟩
      have Z7 : Hid (Below w.heap.size w w7) := Lib.hid (keepW Z6.out b7)
      clear b7
      go_wp2_with fail
      refine (CM.out _).mono ?_
      rintro e w8 ⟨rfl, b8⟩
      have Z8 : Hid (Below w.heap.size w w8) := Lib.hid (keepW Z7.out b8)
      clear b8
      go_wp2
      go_ret
      exact ⟨rfl, Z8.out⟩
    · clear h H2c
      go_wp2_with (refine wpL_store_row rfl 47 _ _ rfl w5.heap.size C2 ?_ ?_ 47 zeroA ?_ ?_ ?_ ?_ ?_; exact rfl; exact rfl; exact heap_alloc_new w5 _; exact H2i.out; exact H2z.out; exact H2o.out; rw [World.setRow_alloc_new, HW6.out])
      refine (CI.out _ (HW.out.later Z6.out)).mono ?_
      rintro e w7 ⟨rfl, b7⟩
      have Z7 : Hid (Below w.heap.size w w7) := Lib.hid (keepW Z6.out b7)
      clear b7
      go_wp2_with fail
      refine (CM.out _).mono ?_
      rintro e w8 ⟨rfl, b8⟩
      have Z8 : Hid (Below w.heap.size w w8) := Lib.hid (keepW Z7.out b8)
      clear b8
      go_wp2
      go_ret
      exact ⟨rfl, Z8.out⟩
    · obtain ⟨X, HX⟩ : ∃ X, Hid (four4 q0 q1 q2 q3 = X) := ⟨_, Lib.hid rfl⟩
      have CT2 : Hid (Calls Tryz.prog 27 #[.agg C2] W6 fun e w' => e = .returned (.string X) ∧ Below W6.heap.size W6 w') := Lib.hid (by
        have := Text_any false (six0 [q0, q1, q2, q3]) W6 rfl (six0_lt h0 h1 h2 h3) (HW.out.later Z6.out).f10 (HW.out.later Z6.out).f16
        rw [show asB (textD false (six0 [q0, q1, q2, q3])) = X from HX.out] at this
        rwa [hC2])
      have hnm := four_named h h63
      rw [show asB (textD false (six0 [q0, q1, q2, q3])) = X from HX.out] at hnm
      have CI2 := Lib.hid (fun w hW => is5_yes s X w hs1 hnm hW)
      clear h H2c h0 h1 h2 h3 hC2 hnm
      go_wp2_with (first
        | (refine wpL_store_row rfl 47 _ _ rfl w5.heap.size C2 ?_ ?_ 47 zeroA ?_ ?_ ?_ ?_ ?_; exact rfl; exact rfl; exact heap_alloc_new w5 _; exact H2i.out; exact H2z.out; exact H2o.out; rw [World.setRow_alloc_new, HW6.out])
        | (refine wpW_load_row rfl 47 _ rfl w5.heap.size ?_ 47 C2 (0, 0) _ ?_ Tryz.underlying47 rfl H2i.out ?_; (exact rfl); (exact G6.out)))
      refine CT2.out.mono ?_
      rintro e w7 ⟨rfl, b7⟩
      have Z7 : Hid (Below w.heap.size w w7) := Lib.hid (keepW Z6.out b7)
      clear b7
      go_wp2_with fail
      refine (CI2.out _ (HW.out.later Z7.out)).mono ?_
      rintro e w8 ⟨rfl, b8⟩
      have Z8 : Hid (Below w.heap.size w w8) := Lib.hid (keepW Z7.out b8)
      clear b8
      go_wp2_with fail
      refine (CI.out _ (HW.out.later Z8.out)).mono ?_
      rintro e w9 ⟨rfl, b9⟩
      have Z9 : Hid (Below w.heap.size w w9) := Lib.hid (keepW Z8.out b9)
      clear b9
      go_wp2_with fail
      refine (CM.out _).mono ?_
      rintro e w10 ⟨rfl, b10⟩
      have Z10 : Hid (Below w.heap.size w w10) := Lib.hid (keepW Z9.out b10)
      clear b10
      go_wp2
      go_ret
      exact ⟨rfl, Z10.out⟩
  · have h63I : (63 : Int) < (s.size : Int) := by omega
    clear H2c
    go_wp2_with (refine wpL_store_row rfl 47 _ _ rfl w5.heap.size C2 ?_ ?_ 47 zeroA ?_ ?_ ?_ ?_ ?_; exact rfl; exact rfl; exact heap_alloc_new w5 _; exact H2i.out; exact H2z.out; exact H2o.out; rw [World.setRow_alloc_new, HW6.out])
    refine (CI.out _ (HW.out.later Z6.out)).mono ?_
    rintro e w7 ⟨rfl, b7⟩
    have Z7 : Hid (Below w.heap.size w w7) := Lib.hid (keepW Z6.out b7)
    clear b7
    go_wp2_with fail
    refine (CM.out _).mono ?_
    rintro e w8 ⟨rfl, b8⟩
    have Z8 : Hid (Below w.heap.size w w8) := Lib.hid (keepW Z7.out b8)
    clear b8
    go_wp2
    go_ret
    exact ⟨rfl, Z8.out⟩
theorem hfours_walk (l : List Nat) (s : ByteArray) (w : World) (hl : l.length = 4) (hb : ∀ x ∈ l, x < 256) (hs : s.size ≤ 140737488351232) (hW : Hw w) :
    Calls Tryz.prog 9 #[.agg (l.map u8v).toArray, .string s] w fun e w' => e = .returned (.bool true) ∧ Below w.heap.size w w' := by
  match l, hl, hb with
  | [a, b, c, d], _, hb => exact hfours_in a b c d s w (hb a (by simp)) (hb b (by simp)) (hb c (by simp)) (hb d (by simp)) hs hW

end Go.Proofs.YtjalbfgdhmkclaaGreatDoor
