/-
  Contract: sixOf.
-/
import Derived.Test.YtgmjfnddeogfdabDoorRdL
namespace Go.Proofs.YtgmjfnddeogfdabDoor
open Go.RowKit

/-- Pieces as bytes. -/
def pb (P : List Nat) : List Nat := P.flatMap (be 2)
theorem pb_len (P : List Nat) : (pb P).length = 2 * P.length := by
  induction P with
  | nil => rfl
  | cons n P ih =>
    have h : (P.flatMap (be 2)).length = 2 * P.length := ih
    rw [pb, List.flatMap_cons, List.length_append, be_len, h, List.length_cons]; omega
theorem pb_append (P Q : List Nat) : pb (P ++ Q) = pb P ++ pb Q := by simp [pb]
theorem pb_zero (k : Nat) : pb (List.replicate k 0) = List.replicate (2 * k) 0 := by
  induction k with
  | zero => rfl
  | succ k ih =>
    rw [List.replicate_succ, pb, List.flatMap_cons, show (List.replicate k 0).flatMap (be 2) = pb (List.replicate k 0) from rfl, ih, show 2 * (k + 1) = 2 * k + 1 + 1 by omega, List.replicate_succ, List.replicate_succ]
    rfl
theorem sliceL (g k : Nat) (h : k < 16) (w : World) : (Instr.sliceAt 22 (.pointer (some ⟨g, 1, none⟩)) (some (.int .i64 (k : Int))) none none).run Tryd.prog w = .ok (.slice (some ⟨g, 1 + k, none⟩) (16 - k) (16 - k)) w := by
  have hl : Tryd.prog.arrayLen 22 = 16 := by kernel_rfl
  have he : Tryd.prog.elem 22 = 5 := by kernel_rfl
  have h := run_sliceAt_array_l (P := Tryd.prog) w 22 ⟨g, 1, none⟩ (by rw [hl, he]; exact Tryd.underlying22) .i64 (k : Int) (by omega) (by rw [hl]; omega)
  rw [h, he, hl]
  have hs : (sizeOf 5).run Tryd.prog w = .ok 1 w := by go_simp
  rw [hs]
  show Result.ok (slicedAt ⟨g, 1, none⟩ (k : Int).toNat 16 16 1) w = _
  unfold slicedAt
  rw [Int.toNat_natCast, if_neg (by omega), Nat.mul_one, Addr.add_lit]
theorem pb_take (x : List Nat) (k : Nat) (h : k < x.length) : pb (x.take (k + 1)) = pb (x.take k) ++ be 2 x[k] := by
  rw [List.take_succ_eq_append_getElem h, pb_append]; simp [pb]
theorem step1 {x : List Nat} {k : Nat} (h : k < x.length) (h8 : x.length ≤ 8) : (pb (x.take k) ++ List.replicate (16 - 2 * k) 0).take (2 * k) ++ be 2 x[k] ++ (pb (x.take k) ++ List.replicate (16 - 2 * k) 0).drop (2 * k + 2) = pb (x.take (k + 1)) ++ List.replicate (16 - 2 * (k + 1)) 0 := by
  have hl : (pb (x.take k)).length = 2 * k := by rw [pb_len, List.length_take]; omega
  rw [List.take_append_of_le_length (by omega), List.take_of_length_le (by omega), List.drop_append, List.drop_of_length_le (by omega), List.nil_append, hl, pb_take x k h, List.drop_replicate]
  congr 2
  omega
theorem step2 {x y : List Nat} {k : Nat} (h : k < y.length) (h8 : x.length + y.length ≤ 8) :
    (pb x ++ List.replicate (16 - 2 * x.length - 2 * y.length) 0 ++ pb (y.take k) ++ List.replicate (2 * y.length - 2 * k) 0).take (2 * (8 - y.length + k)) ++ be 2 y[k] ++ (pb x ++ List.replicate (16 - 2 * x.length - 2 * y.length) 0 ++ pb (y.take k) ++ List.replicate (2 * y.length - 2 * k) 0).drop (2 * (8 - y.length + k) + 2) = pb x ++ List.replicate (16 - 2 * x.length - 2 * y.length) 0 ++ pb (y.take (k + 1)) ++ List.replicate (2 * y.length - 2 * (k + 1)) 0 := by
  have hl : (pb x ++ List.replicate (16 - 2 * x.length - 2 * y.length) 0 ++ pb (y.take k)).length = 2 * (8 - y.length + k) := by
    rw [List.length_append, List.length_append, pb_len, pb_len, List.length_take, List.length_replicate]; omega
  rw [List.take_append_of_le_length (by omega), List.take_of_length_le (by omega), List.drop_append, List.drop_of_length_le (by omega), List.nil_append, hl, pb_take y k h, List.drop_replicate]
  rw [show 2 * y.length - 2 * k - (2 * (8 - y.length + k) + 2 - 2 * (8 - y.length + k)) = 2 * y.length - 2 * (k + 1) by omega]
  simp only [List.append_assoc]

theorem heap_two (w : World) (o o' : Obj) : ((w.alloc o).alloc o').heap[w.heap.size + 1]? = some o' := by
  have := heap_alloc_new (w.alloc o) o'
  simpa using this

set_option maxRecDepth 100000 in
set_option maxHeartbeats 2000000 in
theorem sixOf_any (b1 b2 : Nat) (v1 v2 : Value) (x y : List Nat) (w : World) (h1 : w.ownsRow b1 3 1 v1 x.length (x.map iv)) (h2 : w.ownsRow b2 3 1 v2 y.length (y.map iv)) (h8 : x.length + y.length ≤ 8) (hx : ∀ n ∈ x, n ≤ 4294967296) (hy : ∀ n ∈ y, n ≤ 4294967296) :
    Calls Tryd.prog 29 #[v1, v2] w fun e w' => e = .returned (.agg (cellsA true (pb (x ++ List.replicate (8 - x.length - y.length) 0 ++ y)))) ∧ Below w.heap.size w w' := by
  obtain ⟨hz, hi⟩ := zero_of_info infoA
  have HI := Lib.hid hi; clear hi
  have hzs := zeroA_size
  obtain ⟨a1, c1, rfl, _⟩ := slice_own h1
  obtain ⟨a2, c2, rfl, _⟩ := slice_own h2
  have H1 := Lib.hid h1; have H2 := Lib.hid h2; have HX := Lib.hid hx; have HY := Lib.hid hy
  clear h1 h2 hx hy
  obtain ⟨V, HV⟩ : ∃ V, Hid (cellsA true (pb (x ++ List.replicate (8 - x.length - y.length) 0 ++ y)) = V) := ⟨_, Lib.hid rfl⟩
  rw [HV.out]
  obtain ⟨T, HT⟩ : ∃ T, Hid (zeroA.setIfInBounds 0 (.bool true) = T) := ⟨_, Lib.hid rfl⟩
  have HTe : Hid (T = cellsA true (List.replicate 16 0)) := Lib.hid (by rw [← HT.out]; rfl)
  have HTz : Hid (T.size = 17) := Lib.hid (by rw [HTe.out, cellsA_size]; rfl)
  have HTo : Hid (T.all (·.oneCell') = true) := Lib.hid (by rw [HTe.out]; exact cellsA_one _ _)
  have HTi : Hid ((Tryd.prog.info? 24).map (·.size) = some T.size) := Lib.hid (by rw [HI.out, HTz.out])
  have HTZ : Hid (zeroA.size = T.size) := Lib.hid (by rw [HTz.out, zeroA_size])
  have hT : zeroA.setIfInBounds 0 (.bool true) = T := HT.out
  go_enter Tryd.func29, Tryd.ntmps29
  go_wp2_with (refine wpL_store_row rfl _ _ _ rfl (w.heap.size + 1) T rfl rfl _ zeroA (heap_two w _ _) HTi.out HTZ.out HTo.out ?_)
  have HG0 : Hid (((((w.alloc (.cells zeroA 24)).alloc (.cells zeroA 24))).setRow (w.heap.size + 1) T).heap[w.heap.size + 1]? = some (.cells T 24 (0, 0))) := Lib.hid (setRow_heap _ _ zeroA T _ _ (heap_two w _ _))
  have HB0 : Hid (Below w.heap.size w ((((w.alloc (.cells zeroA 24)).alloc (.cells zeroA 24))).setRow (w.heap.size + 1) T)) := Lib.hid (below_setRow (((Below.refl _ _).alloc (Nat.le_refl _) _).alloc (by simp) _) (by omega) _)
  have HR0 : Hid (((((w.alloc (.cells zeroA 24)).alloc (.cells zeroA 24))).setRow (w.heap.size + 1) T).heap[w.heap.size]? = some (.cells zeroA 24 (0, 0))) := Lib.hid (by
    rw [setRow_other _ _ _ _ (by omega), Below.heap_alloc _ _ _ (by simp)]; exact heap_alloc_new w _)
  clear hT
  go_loopw [6, 7, 14] (fun _ _ i wr => ∃ (k : Nat) (C : Array Value), k ≤ x.length ∧ i = .int .i64 k ∧ Hid (C = cellsA true (pb (x.take k) ++ List.replicate (16 - 2 * k) 0)) ∧ Hid (wr.heap[w.heap.size + 1]? = some (.cells C 24 (0, 0))) ∧ Hid (wr.heap[w.heap.size]? = some (.cells zeroA 24 (0, 0))) ∧ Hid (Below w.heap.size w wr)) (fun _ _ i _ => x.length - (intOf i).toNat)
  case atStart => exact ⟨0, T, Nat.zero_le _, rfl, Lib.hid (by rw [HTe.out]; rfl), HG0, HR0, HB0⟩
  case round =>
    obtain ⟨k, C, hk, rfl, HC, HG, HR, HB⟩ := hrel
    by_cases hlt : k < x.length
    · obtain ⟨m, HM⟩ : ∃ m, Hid (x[k] = m) := ⟨_, Lib.hid rfl⟩
      have hm : m ≤ 4294967296 := by rw [← HM.out]; exact HX.out _ (List.getElem_mem _)
      obtain ⟨ga, rfl, hcell⟩ : ∃ ga, a1 = some ⟨ga, 0, none⟩ ∧ wr.cell? ⟨ga, k, none⟩ = some (.int .i64 (m : Int)) := by
        rcases H1.out.2 with ⟨e1, h0⟩ | ⟨ga, cap', cur, e1, e2, e3, e5⟩
        · omega
        · injection e1 with e1 _ e6
          subst e1; subst e6
          refine ⟨ga, rfl, ?_⟩
          rw [HB.out.cell (p := ⟨ga, k, none⟩) (lt_of_block e3), H1.out.cellAt k (by omega), List.getElem?_map, List.getElem?_eq_getElem hlt, HM.out]; rfl
      have hsl := sliceL (w.heap.size + 1) (2 * k) (by omega)
      rw [show ((2 * k : Nat) : Int) = 2 * (k : Int) by omega] at hsl
      have HCs : Hid (C.size = 17) := Lib.hid (by rw [HC.out, cellsA_size]; simp [pb_len]; omega)
      have HPut := Lib.hid (put_any (w.heap.size + 1) (1 + 2 * k) 2 (16 - 2 * k) m C _ wr HG.out (by rw [HCs.out]; omega) (by rw [HCs.out]; omega) hm)
      go_wp2_with fail
      refine HPut.out.mono ?_
      rintro e w1 ⟨rfl, k1, D, g1, s1, u1, u2⟩
      have HD1 : Hid (D = cellsA true (pb (x.take (k + 1)) ++ List.replicate (16 - 2 * (k + 1)) 0)) := Lib.hid (by
        have hl : (pb (x.take k) ++ List.replicate (16 - 2 * k) 0).length = 16 := by
          rw [List.length_append, pb_len, List.length_take, List.length_replicate]; omega
        rw [HC.out] at s1 u1
        rw [put_cells (k := 2 * k) (len := 2) (n := m) (by omega) s1 u1 u2, ← HM.out, step1 hlt (by omega)])
      have HG1 := Lib.hid g1
      have HR1 : Hid (w1.heap[w.heap.size]? = some (.cells zeroA 24 (0, 0))) := Lib.hid (k1.at HR.out (by simp [Only]))
      have HB1 : Hid (Below w.heap.size w w1) := Lib.hid (HB.out.trans (k1.below (by have := HB.out.size; omega) (fun q hq => by rw [show q = w.heap.size + 1 from hq]; omega)))
      clear k1 g1 s1 u1 u2 hsl
      go_wp2
      go_roundw
      case rel => exact ⟨k + 1, D, by omega, by go_num, HD1, HG1, HR1, HB1⟩
      case measure => simp [intOf]; omega
    · obtain rfl : k = x.length := by omega
      obtain ⟨q, hq⟩ : ∃ q : Nat, (8 : Int) - (y.length : Int) = (q : Int) := ⟨8 - y.length, by omega⟩
      have hC : Hid (C = cellsA true (pb x ++ List.replicate (16 - 2 * x.length - 2 * y.length) 0 ++ pb (y.take 0) ++ List.replicate (2 * y.length - 2 * 0) 0)) := Lib.hid (by
        rw [HC.out, List.take_of_length_le (Nat.le_refl _)]
        show _ = cellsA true (pb x ++ List.replicate (16 - 2 * x.length - 2 * y.length) 0 ++ [] ++ List.replicate (2 * y.length) 0)
        rw [List.append_nil, List.append_assoc, List.replicate_append_replicate]
        congr 3; omega)
      clear HC
      go_wp2
      obtain ⟨wo, rfl⟩ : ∃ wo, wo = wr := ⟨_, rfl⟩
      go_loopw [9, 10, 32] (fun _ _ i wr => ∃ (k : Nat) (C : Array Value), k ≤ y.length ∧ i = .int .i64 k ∧ Hid (C = cellsA true (pb x ++ List.replicate (16 - 2 * x.length - 2 * y.length) 0 ++ pb (y.take k) ++ List.replicate (2 * y.length - 2 * k) 0)) ∧ Hid (wr.heap[w.heap.size + 1]? = some (.cells C 24 (0, 0))) ∧ Hid (wr.heap[w.heap.size]? = some (.cells zeroA 24 (0, 0))) ∧ Hid (Below w.heap.size w wr)) (fun _ _ i _ => y.length - (intOf i).toNat)
      case atStart => exact ⟨0, C, Nat.zero_le _, rfl, hC, HG, HR, HB⟩
      case round =>
        clear hC HG HR HB
        obtain ⟨k, C, hk2, rfl, HC, HG, HR, HB⟩ := hrel
        by_cases hlt2 : k < y.length
        · obtain ⟨m, HM⟩ : ∃ m, Hid (y[k] = m) := ⟨_, Lib.hid rfl⟩
          have hm : m ≤ 4294967296 := by rw [← HM.out]; exact HY.out _ (List.getElem_mem _)
          obtain ⟨ga, rfl, hcell⟩ : ∃ ga, a2 = some ⟨ga, 0, none⟩ ∧ wr.cell? ⟨ga, k, none⟩ = some (.int .i64 (m : Int)) := by
            rcases H2.out.2 with ⟨e1, h0⟩ | ⟨ga, cap', cur, e1, e2, e3, e5⟩
            · omega
            · injection e1 with e1 _ e6
              subst e1; subst e6
              refine ⟨ga, rfl, ?_⟩
              rw [HB.out.cell (p := ⟨ga, k, none⟩) (lt_of_block e3), H2.out.cellAt k (by omega), List.getElem?_map, List.getElem?_eq_getElem hlt2, HM.out]; rfl
          have hsl := sliceL (w.heap.size + 1) (2 * (q + k)) (by omega)
          rw [show ((2 * (q + k) : Nat) : Int) = 2 * ((q : Int) + (k : Int)) by omega] at hsl
          have HCl : Hid ((pb x ++ List.replicate (16 - 2 * x.length - 2 * y.length) 0 ++ pb (y.take k) ++ List.replicate (2 * y.length - 2 * k) 0).length = 16) := Lib.hid (by
            rw [List.length_append, List.length_append, List.length_append, pb_len, pb_len, List.length_take, List.length_replicate, List.length_replicate]; omega)
          have HCs : Hid (C.size = 17) := Lib.hid (by rw [HC.out, cellsA_size, HCl.out])
          have HPut := Lib.hid (put_any (w.heap.size + 1) (1 + 2 * (q + k)) 2 (16 - 2 * (q + k)) m C _ wr HG.out (by rw [HCs.out]; omega) (by rw [HCs.out]; omega) hm)
          go_wp2_with fail
          refine HPut.out.mono ?_
          rintro e w1 ⟨rfl, k1, D, g1, s1, u1, u2⟩
          have HD1 : Hid (D = cellsA true (pb x ++ List.replicate (16 - 2 * x.length - 2 * y.length) 0 ++ pb (y.take (k + 1)) ++ List.replicate (2 * y.length - 2 * (k + 1)) 0)) := Lib.hid (by
            have hqn : q = 8 - y.length := by omega
            rw [HC.out] at s1 u1
            rw [put_cells (k := 2 * (q + k)) (len := 2) (n := m) (by rw [HCl.out]; omega) s1 u1 u2, ← HM.out, hqn, step2 hlt2 (by omega)])
          have HG1 := Lib.hid g1
          have HR1 : Hid (w1.heap[w.heap.size]? = some (.cells zeroA 24 (0, 0))) := Lib.hid (k1.at HR.out (by simp [Only]))
          have HB1 : Hid (Below w.heap.size w w1) := Lib.hid (HB.out.trans (k1.below (by have := HB.out.size; omega) (fun q hq => by rw [show q = w.heap.size + 1 from hq]; omega)))
          clear k1 g1 s1 u1 u2 hsl
          go_wp2
          go_roundw
          case rel => exact ⟨k + 1, D, by omega, by go_num, HD1, HG1, HR1, HB1⟩
          case measure => simp [intOf]; omega
        · obtain rfl : k = y.length := by omega
          have HVC : Hid (C = V) := Lib.hid (by
            rw [HC.out, ← HV.out]
            rw [List.take_of_length_le (Nat.le_refl _), Nat.sub_self, List.replicate_zero, List.append_nil, pb_append, pb_append, pb_zero]
            congr 5; omega)
          have HDz : Hid (V.size = 17) := Lib.hid (by rw [← HV.out, cellsA_size, pb_len]; simp; omega)
          have HOne : Hid (V.all (·.oneCell') = true) := Lib.hid (by rw [← HV.out]; exact cellsA_one _ _)
          have HIz : Hid ((Tryd.prog.info? 24).map (·.size) = some V.size) := Lib.hid (by rw [HI.out, HDz.out])
          have HZD : Hid (zeroA.size = V.size) := Lib.hid (by rw [HDz.out, zeroA_size])
          have HGV : Hid (wr.heap[w.heap.size + 1]? = some (.cells V 24 (0, 0))) := Lib.hid (by rw [← HVC.out]; exact HG.out)
          go_wp2_with (first | refine wpList_load_row rfl 24 _ rfl (w.heap.size + 1) rfl 24 V (0, 0) _ HGV.out Tryd.underlying24 rfl HIz.out ?_ | refine wpL_store_row rfl _ _ _ rfl w.heap.size V rfl rfl _ zeroA HR.out HIz.out HZD.out HOne.out ?_)
          refine bodyPost_ret (v := .agg V) (results_cell_row (P := Tryd.prog) Tryd.results29 _ _ w.heap.size _ V (0, 0) _ rfl (setRow_heap _ _ zeroA V _ _ HR.out) Tryd.underlying24 rfl HIz.out) rfl ⟨rfl, ?_⟩
          exact below_setRow HB.out (Nat.le_refl _) _

end Go.Proofs.YtgmjfnddeogfdabDoor
