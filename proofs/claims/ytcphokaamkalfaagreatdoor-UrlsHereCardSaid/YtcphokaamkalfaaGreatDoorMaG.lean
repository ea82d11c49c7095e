/-
  Contract: sixOf.
  Plain words: an address's text says it again. Of no program.
  Words and small laws for walks, of no function: a table of 256, cells of new memory, bytes that are put behind a row.
  Contracts: digit, firstByte, Decode.
  Contract: Decode.
-/
import Derived.Test.YtcphokaamkalfaaGreatDoorMaF
import Derived.Test.YtcphokaamkalfaaGreatDoorMaE
import Derived.Test.YtcphokaamkalfaaGreatDoorRows
import Derived.Test.YtcphokaamkalfaaGreatDoorMpA
import Derived.WalkSpells
import Derived.WalkLawsBesides
import Derived.Deep.QuietTactic
import Derived.BigQuiet
import Derived.OneCell
import Derived.Deep.WholeRow
import Derived.Laws.CopyOwn
import Derived.Laws.IdiomStrings
import Derived.Laws.EntriesVeiled
import Derived.Deep.AppendLies
import Derived.ArgAppend
import Derived.RegionTactic
import Derived.Laws.Cover4
import Derived.Lib.DecodeN
import Derived.Lib.AppendZeros
import Derived.Test.YtcphokaamkalfaaGreatDoorMaA
namespace Go.Proofs.YtcphokaamkalfaaGreatDoor
open Go.RowKit

/-- Pieces as bytes. -/
def pb (P : List Nat) : List Nat := P.flatMap (be 2)
theorem pb_len (P : List Nat) : (pb P).length = 2 * P.length := by
 induction P with
 | nil => rfl
 | cons n P ih =>
  have h : (P.flatMap (be 2)).length = 2 * P.length := ih
  rw [pb, List.flatMap_cons, List.length_append, be_len, h, List.length_cons]; omega
theorem pb_append (P Q : List Nat) : pb (P ++ Q) = pb P ++ pb Q := by simp [pb]
theorem pb_zero (k : Nat) : pb (List.replicate k 0) = List.replicate (2 * k) 0 := by
 induction k with
 | zero => rfl
 | succ k ih =>
  rw [List.replicate_succ, pb, List.flatMap_cons, show (List.replicate k 0).flatMap (be 2) = pb (List.replicate k 0) from rfl, ih, show 2 * (k + 1) = 2 * k + 1 + 1 by omega, List.replicate_succ, List.replicate_succ]
  rfl
theorem sliceL (g k : Nat) (h : k < 16) (w : World) : (Instr.sliceAt 52 (.pointer (some ⟨g, 1, none⟩)) (some (.int .i64 (k : Int))) none none).run Tryz.prog w = .ok (.slice (some ⟨g, 1 + k, none⟩) (16 - k) (16 - k)) w := by
 have hl : Tryz.prog.arrayLen 52 = 16 := by kernel_rfl
 have he : Tryz.prog.elem 52 = 5 := by kernel_rfl
 have h := run_sliceAt_array_l (P := Tryz.prog) w 52 ⟨g, 1, none⟩ (by rw [hl, he]; exact Tryz.underlying52) .i64 (k : Int) (by omega) (by rw [hl]; omega)
 rw [h, he, hl]
 have hs : (sizeOf 5).run Tryz.prog w = .ok 1 w := by go_simp
 rw [hs]
 show Result.ok (slicedAt ⟨g, 1, none⟩ (k : Int).toNat 16 16 1) w = _
 unfold slicedAt
 rw [Int.toNat_natCast, if_neg (by omega), Nat.mul_one, Addr.add_lit]
theorem pb_take (x : List Nat) (k : Nat) (h : k < x.length) : pb (x.take (k + 1)) = pb (x.take k) ++ be 2 x[k] := by
 rw [List.take_succ_eq_append_getElem h, pb_append]; simp [pb]
theorem step1 {x : List Nat} {k : Nat} (h : k < x.length) (h8 : x.length ≤ 8) : (pb (x.take k) ++ List.replicate (16 - 2 * k) 0).take (2 * k) ++ be 2 x[k] ++ (pb (x.take k) ++ List.replicate (16 - 2 * k) 0).drop (2 * k + 2) = pb (x.take (k + 1)) ++ List.replicate (16 - 2 * (k + 1)) 0 := by
 have hl : (pb (x.take k)).length = 2 * k := by rw [pb_len, List.length_take]; omega
 rw [List.take_append_of_le_length (by omega), List.take_of_length_le (by omega), List.drop_append, List.drop_of_length_le (by omega), List.nil_append, hl, pb_take x k h, List.drop_replicate]
 congr 2
 omega
theorem step2 {x y : List Nat} {k : Nat} (h : k < y.length) (h8 : x.length + y.length ≤ 8) :
  (pb x ++ List.replicate (16 - 2 * x.length - 2 * y.length) 0 ++ pb (y.take k) ++ List.replicate (2 * y.length - 2 * k) 0).take (2 * (8 - y.length + k)) ++ be 2 y[k] ++ (pb x ++ List.replicate (16 - 2 * x.length - 2 * y.length) 0 ++ pb (y.take k) ++ List.replicate (2 * y.length - 2 * k) 0).drop (2 * (8 - y.length + k) + 2) = pb x ++ List.replicate (16 - 2 * x.length - 2 * y.length) 0 ++ pb (y.take (k + 1)) ++ List.replicate (2 * y.length - 2 * (k + 1)) 0 := by
 have hl : (pb x ++ List.replicate (16 - 2 * x.length - 2 * y.length) 0 ++ pb (y.take k)).length = 2 * (8 - y.length + k) := by
  rw [List.length_append, List.length_append, pb_len, pb_len, List.length_take, List.length_replicate]; omega
 rw [List.take_append_of_le_length (by omega), List.take_of_length_le (by omega), List.drop_append, List.drop_of_length_le (by omega), List.nil_append, hl, pb_take y k h, List.drop_replicate]
 rw [show 2 * y.length - 2 * k - (2 * (8 - y.length + k) + 2 - 2 * (8 - y.length + k)) = 2 * y.length - 2 * (k + 1) by omega]
 simp only [List.append_assoc]

theorem heap_two (w : World) (o o' : Obj) : ((w.alloc o).alloc o').heap[w.heap.size + 1]? = some o' := by
 have := heap_alloc_new (w.alloc o) o'
 simpa using this

set_option maxRecDepth 100000 in
set_option maxHeartbeats 2000000 in
theorem sixOf_any (b1 b2 : Nat) (v1 v2 : Value) (x y : List Nat) (w : World) (h1 : w.ownsRow b1 3 1 v1 x.length (x.map k_iv)) (h2 : w.ownsRow b2 3 1 v2 y.length (y.map k_iv)) (h8 : x.length + y.length ≤ 8) (hx : ∀ n ∈ x, n ≤ 4294967296) (hy : ∀ n ∈ y, n ≤ 4294967296) :
  Calls Tryz.prog 97 #[v1, v2] w fun e w' => e = .returned (.agg (cellsA true (pb (x ++ List.replicate (8 - x.length - y.length) 0 ++ y)))) ∧ Below w.heap.size w w' := by
 obtain ⟨hz, hi⟩ := zero_of_info infoA
 have HI := Lib.hid hi; clear hi
 have hzs := zeroA_size
 obtain ⟨a1, c1, rfl, _⟩ := slice_own h1
 obtain ⟨a2, c2, rfl, _⟩ := slice_own h2
 have H1 := Lib.hid h1; have H2 := Lib.hid h2; have HX := Lib.hid hx; have HY := Lib.hid hy
 clear h1 h2 hx hy
 obtain ⟨V, HV⟩ : ∃ V, Hid (cellsA true (pb (x ++ List.replicate (8 - x.length - y.length) 0 ++ y)) = V) := ⟨_, Lib.hid rfl⟩
 rw [HV.out]
 obtain ⟨T, HT⟩ : ∃ T, Hid (zeroA.setIfInBounds 0 (.bool true) = T) := ⟨_, Lib.hid rfl⟩
 have HTe : Hid (T = cellsA true (List.replicate 16 0)) := Lib.hid (by rw [← HT.out]; rfl)
 have HTz : Hid (T.size = 17) := Lib.hid (by rw [HTe.out, cellsA_size]; rfl)
 have HTo : Hid (T.all (·.oneCell') = true) := Lib.hid (by rw [HTe.out]; exact cellsA_one _ _)
 have HTi : Hid ((Tryz.prog.info? 54).map (·.size) = some T.size) := Lib.hid (by rw [HI.out, HTz.out])
 have HTZ : Hid (zeroA.size = T.size) := Lib.hid (by rw [HTz.out, zeroA_size])
 have hT : zeroA.setIfInBounds 0 (.bool true) = T := HT.out
 go_enter Tryz.func97, Tryz.ntmps97
 go_wp2_with (refine wpL_store_row rfl _ _ _ rfl (w.heap.size + 1) T rfl rfl _ zeroA (heap_two w _ _) HTi.out HTZ.out HTo.out ?_)
 have HG0 : Hid (((((w.alloc (.cells zeroA 54)).alloc (.cells zeroA 54))).setRow (w.heap.size + 1) T).heap[w.heap.size + 1]? = some (.cells T 54 (0, 0))) := Lib.hid (setRow_heap _ _ zeroA T _ _ (heap_two w _ _))
 have HB0 : Hid (Below w.heap.size w ((((w.alloc (.cells zeroA 54)).alloc (.cells zeroA 54))).setRow (w.heap.size + 1) T)) := Lib.hid (below_setRow (((Below.refl _ _).alloc (Nat.le_refl _) _).alloc (by simp) _) (by omega) _)
 have HR0 : Hid (((((w.alloc (.cells zeroA 54)).alloc (.cells zeroA 54))).setRow (w.heap.size + 1) T).heap[w.heap.size]? = some (.cells zeroA 54 (0, 0))) := Lib.hid (by
  rw [setRow_other _ _ _ _ (by omega), Below.heap_alloc _ _ _ (by simp)]; exact heap_alloc_new w _)
 clear hT
 go_loopw [6, 7, 14] (fun _ _ i wr => ∃ (k : Nat) (C : Array Value), k ≤ x.length ∧ i = .int .i64 k ∧ Hid (C = cellsA true (pb (x.take k) ++ List.replicate (16 - 2 * k) 0)) ∧ Hid (wr.heap[w.heap.size + 1]? = some (.cells C 54 (0, 0))) ∧ Hid (wr.heap[w.heap.size]? = some (.cells zeroA 54 (0, 0))) ∧ Hid (Below w.heap.size w wr)) (fun _ _ i _ => x.length - (intOf i).toNat)
 case atStart => exact ⟨0, T, Nat.zero_le _, rfl, Lib.hid (by rw [HTe.out]; rfl), HG0, HR0, HB0⟩
 case round =>
  obtain ⟨k, C, hk, rfl, HC, HG, HR, HB⟩ := hrel
  by_cases hlt : k < x.length
  ·obtain ⟨m, HM⟩ : ∃ m, Hid (x[k] = m) := ⟨_, Lib.hid rfl⟩
   have hm : m ≤ 4294967296 := by rw [← HM.out]; exact HX.out _ (List.getElem_mem _)
   obtain ⟨ga, rfl, hcell⟩ : ∃ ga, a1 = some ⟨ga, 0, none⟩ ∧ wr.cell? ⟨ga, k, none⟩ = some (.int .i64 (m : Int)) := by
    rcases H1.out.2 with ⟨e1, h0⟩ | ⟨ga, cap', cur, e1, e2, e3, e5⟩
    ·omega
    ·injection e1 with e1 _ e6
     subst e1; subst e6
     refine ⟨ga, rfl, ?_⟩
     rw [HB.out.cell (p := ⟨ga, k, none⟩) (lt_of_block e3), H1.out.cellAt k (by omega), List.getElem?_map, List.getElem?_eq_getElem hlt, HM.out]; rfl
   have hsl := sliceL (w.heap.size + 1) (2 * k) (by omega)
   rw [show ((2 * k : Nat) : Int) = 2 * (k : Int) by omega] at hsl
   have HCs : Hid (C.size = 17) := Lib.hid (by rw [HC.out, cellsA_size]; simp [pb_len]; omega)
   have HPut := Lib.hid (put_any (w.heap.size + 1) (1 + 2 * k) 2 (16 - 2 * k) m C _ wr HG.out (by rw [HCs.out]; omega) (by rw [HCs.out]; omega) hm)
   go_wp2_with fail
   refine HPut.out.mono ?_
   rintro e w1 ⟨rfl, k1, D, g1, s1, u1, u2⟩
   have HD1 : Hid (D = cellsA true (pb (x.take (k + 1)) ++ List.replicate (16 - 2 * (k + 1)) 0)) := Lib.hid (by
    have hl : (pb (x.take k) ++ List.replicate (16 - 2 * k) 0).length = 16 := by
     rw [List.length_append, pb_len, List.length_take, List.length_replicate]; omega
    rw [HC.out] at s1 u1
    rw [put_cells (k := 2 * k) (len := 2) (n := m) (by omega) s1 u1 u2, ← HM.out, step1 hlt (by omega)])
   have HG1 := Lib.hid g1
   have HR1 : Hid (w1.heap[w.heap.size]? = some (.cells zeroA 54 (0, 0))) := Lib.hid (k1.at HR.out (by simp [Only]))
   have HB1 : Hid (Below w.heap.size w w1) := Lib.hid (HB.out.trans (k1.below (by have := HB.out.size; omega) (fun q hq => by rw [show q = w.heap.size + 1 from hq]; omega)))
   clear k1 g1 s1 u1 u2 hsl
   go_wp2
   go_roundw
   case rel => exact ⟨k + 1, D, by omega, by go_num, HD1, HG1, HR1, HB1⟩
   case measure => simp [intOf]; omega
  ·obtain rfl : k = x.length := by omega
   obtain ⟨q, hq⟩ : ∃ q : Nat, (8 : Int) - (y.length : Int) = (q : Int) := ⟨8 - y.length, by omega⟩
   have hC : Hid (C = cellsA true (pb x ++ List.replicate (16 - 2 * x.length - 2 * y.length) 0 ++ pb (y.take 0) ++ List.replicate (2 * y.length - 2 * 0) 0)) := Lib.hid (by
    rw [HC.out, List.take_of_length_le (Nat.le_refl _)]
    show _ = cellsA true (pb x ++ List.replicate (16 - 2 * x.length - 2 * y.length) 0 ++ [] ++ List.replicate (2 * y.length) 0)
    rw [List.append_nil, List.append_assoc, List.replicate_append_replicate]
    congr 3; omega)
   clear HC
   go_wp2
   obtain ⟨wo, rfl⟩ : ∃ wo, wo = wr := ⟨_, rfl⟩
   go_loopw [9, 10, 32] (fun _ _ i wr => ∃ (k : Nat) (C : Array Value), k ≤ y.length ∧ i = .int .i64 k ∧ Hid (C = cellsA true (pb x ++ List.replicate (16 - 2 * x.length - 2 * y.length) 0 ++ pb (y.take k) ++ List.replicate (2 * y.length - 2 * k) 0)) ∧ Hid (wr.heap[w.heap.size + 1]? = some (.cells C 54 (0, 0))) ∧ Hid (wr.heap[w.heap.size]? = some (.cells zeroA 54 (0, 0))) ∧ Hid (Below w.heap.size w wr)) (fun _ _ i _ => y.length - (intOf i).toNat)
   case atStart => exact ⟨0, C, Nat.zero_le _, rfl, hC, HG, HR, HB⟩
   case round =>
    clear hC HG HR HB
    obtain ⟨k, C, hk2, rfl, HC, HG, HR, HB⟩ := hrel
    by_cases hlt2 : k < y.length
    ·obtain ⟨m, HM⟩ : ∃ m, Hid (y[k] = m) := ⟨_, Lib.hid rfl⟩
     have hm : m ≤ 4294967296 := by rw [← HM.out]; exact HY.out _ (List.getElem_mem _)
     obtain ⟨ga, rfl, hcell⟩ : ∃ ga, a2 = some ⟨ga, 0, none⟩ ∧ wr.cell? ⟨ga, k, none⟩ = some (.int .i64 (m : Int)) := by
      rcases H2.out.2 with ⟨e1, h0⟩ | ⟨ga, cap', cur, e1, e2, e3, e5⟩
      ·omega
      ·injection e1 with e1 _ e6
       subst e1; subst e6
       refine ⟨ga, rfl, ?_⟩
       rw [HB.out.cell (p := ⟨ga, k, none⟩) (lt_of_block e3), H2.out.cellAt k (by omega), List.getElem?_map, List.getElem?_eq_getElem hlt2, HM.out]; rfl
     have hsl := sliceL (w.heap.size + 1) (2 * (q + k)) (by omega)
     rw [show ((2 * (q + k) : Nat) : Int) = 2 * ((q : Int) + (k : Int)) by omega] at hsl
     have HCl : Hid ((pb x ++ List.replicate (16 - 2 * x.length - 2 * y.length) 0 ++ pb (y.take k) ++ List.replicate (2 * y.length - 2 * k) 0).length = 16) := Lib.hid (by
      rw [List.length_append, List.length_append, List.length_append, pb_len, pb_len, List.length_take, List.length_replicate, List.length_replicate]; omega)
     have HCs : Hid (C.size = 17) := Lib.hid (by rw [HC.out, cellsA_size, HCl.out])
     have HPut := Lib.hid (put_any (w.heap.size + 1) (1 + 2 * (q + k)) 2 (16 - 2 * (q + k)) m C _ wr HG.out (by rw [HCs.out]; omega) (by rw [HCs.out]; omega) hm)
     go_wp2_with fail
     refine HPut.out.mono ?_
     rintro e w1 ⟨rfl, k1, D, g1, s1, u1, u2⟩
     have HD1 : Hid (D = cellsA true (pb x ++ List.replicate (16 - 2 * x.length - 2 * y.length) 0 ++ pb (y.take (k + 1)) ++ List.replicate (2 * y.length - 2 * (k + 1)) 0)) := Lib.hid (by
      have hqn : q = 8 - y.length := by omega
      rw [HC.out] at s1 u1
      rw [put_cells (k := 2 * (q + k)) (len := 2) (n := m) (by rw [HCl.out]; omega) s1 u1 u2, ← HM.out, hqn, step2 hlt2 (by omega)])
     have HG1 := Lib.hid g1
     have HR1 : Hid (w1.heap[w.heap.size]? = some (.cells zeroA 54 (0, 0))) := Lib.hid (k1.at HR.out (by simp [Only]))
     have HB1 : Hid (Below w.heap.size w w1) := Lib.hid (HB.out.trans (k1.below (by have := HB.out.size; omega) (fun q hq => by rw [show q = w.heap.size + 1 from hq]; omega)))
     clear k1 g1 s1 u1 u2 hsl
     go_wp2
     go_roundw
     case rel => exact ⟨k + 1, D, by omega, by go_num, HD1, HG1, HR1, HB1⟩
     case measure => simp [intOf]; omega
    ·obtain rfl : k = y.length := by omega
     have HVC : Hid (C = V) := Lib.hid (by
      rw [HC.out, ← HV.out]
      rw [List.take_of_length_le (Nat.le_refl _), Nat.sub_self, List.replicate_zero, List.append_nil, pb_append, pb_append, pb_zero]
      congr 5; omega)
     have HDz : Hid (V.size = 17) := Lib.hid (by rw [← HV.out, cellsA_size, pb_len]; simp; omega)
     have HOne : Hid (V.all (·.oneCell') = true) := Lib.hid (by rw [← HV.out]; exact cellsA_one _ _)
     have HIz : Hid ((Tryz.prog.info? 54).map (·.size) = some V.size) := Lib.hid (by rw [HI.out, HDz.out])
     have HZD : Hid (zeroA.size = V.size) := Lib.hid (by rw [HDz.out, zeroA_size])
     have HGV : Hid (wr.heap[w.heap.size + 1]? = some (.cells V 54 (0, 0))) := Lib.hid (by rw [← HVC.out]; exact HG.out)
     go_wp2_with (first | refine wpList_load_row rfl 54 _ rfl (w.heap.size + 1) rfl 54 V (0, 0) _ HGV.out Tryz.underlying54 rfl HIz.out ?_ | refine wpL_store_row rfl _ _ _ rfl w.heap.size V rfl rfl _ zeroA HR.out HIz.out HZD.out HOne.out ?_)
     refine bodyPost_ret (v := .agg V) (results_cell_row (P := Tryz.prog) Tryz.results97 _ _ w.heap.size _ V (0, 0) _ rfl (setRow_heap _ _ zeroA V _ _ HR.out) Tryz.underlying54 rfl HIz.out) rfl ⟨rfl, ?_⟩
     exact below_setRow HB.out (Nat.le_refl _) _

end Go.Proofs.YtcphokaamkalfaaGreatDoor
namespace Go.Proofs.YtcphokaamkalfaaGreatDoor
open Go.RowKit

theorem lrS_zero (P : List Nat) : ∀ k, (∀ j, (lrS P k).1 ≤ j → j < k → P.getD j 0 = 0) ∧ (∀ j, (lrS P k).2.1 ≤ j → j < (lrS P k).2.2 → P.getD j 0 = 0)
 | 0 => ⟨fun j _ h => by omega, fun j _ h => by simp [lrS] at h⟩
 | k + 1 => by
  obtain ⟨h1, h2⟩ := lrS_zero P k
  have hok := lrS_ok P k
  rw [lrS]
  by_cases hz : P.getD k 0 = 0
  ·have hall : ∀ j, (lrS P k).1 ≤ j → j < k + 1 → P.getD j 0 = 0 := fun j hj hk => by
    by_cases e : j = k
    ·rw [e]; exact hz
    ·exact h1 j hj (by omega)
   rw [if_neg (by simpa using hz)]
   split
   ·exact ⟨hall, hall⟩
   ·exact ⟨hall, h2⟩
  ·rw [if_pos hz]
   exact ⟨fun j hj hk => by simp only at hj; omega, h2⟩
theorem be2_pair (x y : Nat) (hx : x < 256) (hy : y < 256) : be 2 (256 * x + y) = [x, y] := by
 simp [be]; omega
theorem pb_pcs : ∀ l : List Nat, l.length = 16 → (∀ x ∈ l, x < 256) → pb (pcs l) = l
 | [a0, a1, a2, a3, a4, a5, a6, a7, a8, a9, b0, b1, b2, b3, b4, b5], _, h => by
  show be 2 (256 * a0 + a1) ++ (be 2 (256 * a2 + a3) ++ (be 2 (256 * a4 + a5) ++ (be 2 (256 * a6 + a7) ++ (be 2 (256 * a8 + a9) ++ (be 2 (256 * b0 + b1) ++ (be 2 (256 * b2 + b3) ++ (be 2 (256 * b4 + b5) ++ []))))))) = _
  rw [be2_pair a0 a1 (h _ (by simp)) (h _ (by simp)), be2_pair a2 a3 (h _ (by simp)) (h _ (by simp)), be2_pair a4 a5 (h _ (by simp)) (h _ (by simp)), be2_pair a6 a7 (h _ (by simp)) (h _ (by simp)), be2_pair a8 a9 (h _ (by simp)) (h _ (by simp)), be2_pair b0 b1 (h _ (by simp)) (h _ (by simp)), be2_pair b2 b3 (h _ (by simp)) (h _ (by simp)), be2_pair b4 b5 (h _ (by simp)) (h _ (by simp))]
  rfl
theorem by2_small {l : List Nat} (hb : ∀ x ∈ l, x < 256) (k j : Nat) : by2 l k j < 65536 := by
 have hg : ∀ i, l.getD i 0 < 256 := fun i => by
  rw [List.getD_eq_getElem?_getD]
  cases h : l[i]? with
  | none => decide
  | some x => exact hb x (List.mem_of_getElem? h)
 have h1 := hg (2 * j)
 have h2 := hg (2 * j + 1)
 unfold by2
 split
 ·omega
 ·split <;> omega
theorem pcs_small {l : List Nat} (hb : ∀ x ∈ l, x < 256) : ∀ x ∈ pcs l, x < 65536 := by
 intro x hx
 obtain ⟨j, _, rfl⟩ := List.mem_map.1 hx
 exact by2_small hb 16 j
theorem hexs_ok (P : List Nat) : ∀ q ∈ P.map (numF 16 4), q ≠ [] ∧ ∀ c ∈ q, c ≠ 58 := by
 intro q hq
 obtain ⟨n, _, rfl⟩ := List.mem_map.1 hq
 exact ⟨numF_ne 16 4 n (by omega), fun c hc => (numF_no (by omega) (by omega) 4 n c hc).2.1⟩
/-- Pieces that are told are read again. -/
theorem pieces_back (en : Bool) (P : List Nat) (hP : ∀ x ∈ P, x < 65536) : piecesD en (Lib.join (P.map (numF 16 4)) [58]) = some P := by
 cases P with
 | nil => rfl
 | cons n ns =>
  have h1 := hexs_ok (n :: ns)
  rw [List.map_cons] at h1 ⊢
  rw [piecesD, if_neg (join_last 58 _ _ h1).1, pts_join 58 _ _ (fun q hq => (h1 q hq).2), ← List.map_cons]
  refine evs_mapG _ _ _ n ns (fun m hm => ?_)
  have hp := pc1_numF m (hP m hm)
  refine ⟨hp, ?_⟩
  cases en
  ·exact hp
  ·simp [both1, hp]
theorem cut2_nums (P : List Nat) : cut2 (Lib.join (P.map (numF 16 4)) [58]) = none ∧ (Lib.join (P.map (numF 16 4)) [58]).getLast? ≠ some 58 := by
 cases P with
 | nil => exact ⟨rfl, by simp [Lib.join_nil]⟩
 | cons n ns =>
  have h1 := hexs_ok (n :: ns)
  rw [List.map_cons] at h1 ⊢
  exact ⟨cut2_join _ _ h1, (join_last 58 _ _ h1).2⟩
theorem mid_zero (P : List Nat) (F T : Nat) (hT : T ≤ P.length) (hF : F ≤ T) (hz : ∀ j, F ≤ j → j < T → P.getD j 0 = 0) : P.take F ++ List.replicate (T - F) 0 ++ P.drop T = P := by
 have h1 : (P.drop F).take (T - F) = List.replicate (T - F) 0 := by
  apply List.ext_getElem?
  intro i
  by_cases hi : i < T - F
  ·rw [List.getElem?_take_of_lt hi, List.getElem?_drop, List.getElem?_replicate, if_pos hi]
   have := hz (F + i) (by omega) (by omega)
   rw [List.getD_eq_getElem?_getD, List.getElem?_eq_getElem (by omega)] at this
   rw [List.getElem?_eq_getElem (by omega)]
   exact congrArg some this
  ·rw [List.getElem?_eq_none (by rw [List.length_take]; omega), List.getElem?_eq_none (by rw [List.length_replicate]; omega)]
 have h2 : P.drop T = (P.drop F).drop (T - F) := by rw [List.drop_drop]; congr 1; omega
 rw [← h1, h2, List.append_assoc, List.take_append_drop, List.take_append_drop]
theorem six_back (l : List Nat) (hb : ∀ x ∈ l, x < 256) : sixD (sixT l) = some (pcs l) := by
 have hP := pcs_small hb
 have h8 : (pcs l).length = 8 := by simp [pcs]
 obtain ⟨hFT, hT⟩ := lrS_bd (pcs l)
 have hz := (lrS_zero (pcs l) 8).2
 unfold sixT
 generalize (lrS (pcs l) 8).2.1 = F at *
 generalize (lrS (pcs l) 8).2.2 = T at *
 generalize pcs l = P at *
 split
 ·rw [sixD, (cut2_nums P).1, pieces_back true P hP]
  simp only
  rw [if_pos h8]
 ·have hc := cut2_front (Lib.join ((P.take F).map (numF 16 4)) [58]) (Lib.join ((P.drop T).map (numF 16 4)) [58]) (cut2_nums _).1 (cut2_nums _).2
  rw [show Lib.join ((P.take F).map (numF 16 4)) [58] ++ [58, 58] ++ Lib.join ((P.drop T).map (numF 16 4)) [58] = Lib.join ((P.take F).map (numF 16 4)) [58] ++ 58 :: 58 :: Lib.join ((P.drop T).map (numF 16 4)) [58] by simp]
  rw [sixD, hc]
  simp only
  rw [pieces_back false _ (fun x hx => hP x (List.mem_of_mem_take hx)), pieces_back true _ (fun x hx => hP x (List.mem_of_mem_drop hx))]
  simp only
  have e1 : (P.take F).length = F := by rw [List.length_take]; omega
  have e2 : (P.drop T).length = 8 - T := by rw [List.length_drop]; omega
  rw [e1, e2, if_pos (by omega), show 8 - F - (8 - T) = T - F by omega, mid_zero P F T (by omega) hFT hz]

theorem decs_ok (P : List Nat) : ∀ q ∈ P.map (numF 10 4), q ≠ [] ∧ ∀ c ∈ q, c ≠ 46 := by
 intro q hq
 obtain ⟨n, _, rfl⟩ := List.mem_map.1 hq
 exact ⟨numF_ne 10 4 n (by omega), fun c hc => (numF_no (by omega) (by omega) 4 n c hc).1⟩
theorem num1_dec (n : Nat) (h : n < 256) : num1 (numF 10 4 n) = some [n] := by
 rw [num1, numD_dec 3 n (by omega) (by omega)]
/-- What begins with a digit and has digits alone looks like four bytes. -/
theorem looks_dec (n : Nat) : looksQ (numF 10 4 n) = true := by
 have h1 := numF_all (b := 10) (by omega) (by omega) 4 n
 have h2 := numF_ne 10 4 n (by omega)
 rw [looksQ, h1]
 cases h : numF 10 4 n with
 | nil => contradiction
 | cons x y => rfl
theorem trimP_id {l : List UInt8} (h : l.getLast? ≠ some 46) : trimP l = l := by rw [trimP, if_neg h]
theorem four_back (a b c d : Nat) (r : List Nat) (ha : a < 256) (hb : b < 256) (hc : c < 256) (hd : d < 256) : fourD (four1T (a :: b :: c :: d :: r)) = (true, some [a, b, c, d]) := by
 have h1 := decs_ok [a, b, c, d]
 have hl := join_last 46 _ _ h1
 have hp := pts_join 46 _ _ (fun q hq => (h1 q hq).2)
 have ht : trimP (four1T (a :: b :: c :: d :: r)) = four1T (a :: b :: c :: d :: r) := trimP_id hl.2
 have hp' : pts 46 (four1T (a :: b :: c :: d :: r)) = [a, b, c, d].map (numF 10 4) := hp
 have he : evs num1 num1 ([a, b, c, d].map (numF 10 4)) = some [a, b, c, d] := evs_mapG _ _ _ a [b, c, d] (fun m hm => by
  have : m < 256 := by
   simp at hm
   rcases hm with rfl | rfl | rfl | rfl <;> assumption
  exact ⟨num1_dec m this, num1_dec m this⟩)
 have hk : looksQ (lastQ ([a, b, c, d].map (numF 10 4))) = true := looks_dec d
 rw [fourD, ht, hp', hk, he]
 simp only [if_true]
 rw [if_neg (by simp)]
 have : lay4 4 [a, b, c, d] = some [a, b, c, d] := by
  simp only [lay4, ha, hb, hc]
  simp [be, hd]
 rw [this]
end Go.Proofs.YtcphokaamkalfaaGreatDoor
namespace Go.Proofs.YtcphokaamkalfaaGreatDoor
open Go.RowKit

theorem pc_mkf (fn : Fn) (first cap : Array Value) (w : World) : (Instr.makeFunc fn first cap).run Tryz.prog w = .ok (.func fn first cap) w := rfl
def pc_bv (c : UInt8) : Value := .int .u8 (c.toNat : Int)
theorem pc_infoB : (Tryz.prog.info? 5).map (fun i => (i.zero, i.size, i.bytes)) = some (some (.int .u8 0), 1, 1) := by kernel_rfl

/-- Bytes that lie in a block of their own are put behind a row. -/
theorem pc_appB (base : Nat) (v : Value) (D : List Value) (cs : Array Value) (w w0 : World) (hown : w.ownsRow base 5 1 v D.length D) (hD : D.length + cs.size ≤ 10000000) (h1 : ∀ u ∈ cs.toList, u.oneCell' = true) (hb : base ≤ w.heap.size) (hB : Below base w0 w) :
  ∃ v' w1, (Builtin.append_ #[81, 81] 81 #[v, .slice (some ⟨w.heap.size, 0, none⟩) cs.size cs.size]).run Tryz.prog (w.alloc (.cells cs 5)) = .ok v' w1 ∧ w1.ownsRow base 5 1 v' (D ++ cs.toList).length (D ++ cs.toList) ∧ Below base w0 w1 := by
 obtain ⟨i0, hi, hz0, hz1, hz2⟩ := info_parts pc_infoB
 have hnews : ∀ j u, cs.toList[j]? = some u → (w.alloc (.cells cs 5)).cell? ((⟨w.heap.size, 0, none⟩ : Addr).add j) = some u :=
  World.news_of_block (cs := cs) (t := 5) (fr := (0, 0)) (heap_alloc_new w _)
 obtain ⟨v', w1, hrun, hown', hgrow, _⟩ := run_append_own (P := Tryz.prog) (w.alloc (.cells cs 5)) base 81 81 5 i0 (.int .u8 0) 1 1 Tryz.underlying81 hi hz0 hz1 hz2 rfl (by decide)
  v D.length D (hown.alloc _) ⟨w.heap.size, 0, none⟩ cs.size cs.size cs.toList (by simp) hnews h1 (by unfold maxLen; omega) (by omega) (by simp; omega)
 refine ⟨v', w1, hrun, ?_, (hB.alloc hb _).grown hgrow (by simp; omega) (fun q hq => (hown.lt q hq).1)⟩
 rw [List.length_append, Array.length_toList]; exact hown'

/-- At a step of a region that draws its order: an append whose run is known. -/
theorem step_append_run {P : Program} (w : World) {ops : Array Oper} {o : Oper} {a : Act} {K : Act → World → Prop} {Q : Exit → Act → World → Prop} {E : Prop} (hgd : o.guard = none) (s x : Operand) (t tn : TypeId)
  (ho : o.op = .call { callee := .builtin .append, args := #[s, x], argTypes := #[t, tn] }) (vs vx : Value) (hs : a.eval s = vs) (hx : a.eval x = vx)
  (v' : Value) (w' : World) (hr : (Builtin.append_ #[t, tn] o.type #[vs, vx]).run P w = .ok v' w') (h : K (a.put o.dst v') w') :
  if Region.wanted o (yielded ops a.tmps) = true then Oper.wp P o a w K Q else E := by
 have hw : Region.wanted o (yielded ops a.tmps) = true := by simp [Region.wanted, hgd]
 rw [if_pos hw]
 exact Lib.wp_append_run w s x t tn ho vs vx hs hx v' w' hr h

theorem pc_bytes_back (base : Nat) (v : Value) (l : List UInt8) (w : World) (hown : w.ownsRow base 5 1 v l.length (l.map pc_bv)) : (convert 81 9 v).run Tryz.prog w = .ok (.string ⟨l.toArray⟩) w := by
 rcases hown.2 with ⟨rfl, hn⟩ | ⟨g, cap, cur, rfl, hgb, hg, hnc, hcm, hcs, hct⟩
 ·obtain rfl : l = [] := List.eq_nil_of_length_eq_zero hn
  simp [convert, run_underlying Tryz.underlying81, run_underlying Tryz.underlying9, run_underlying Tryz.underlying5]
  rfl
 ·refine run_convert_bytes_back (P := Tryz.prog) w 81 9 5 ⟨g, 0, none⟩ cap l Tryz.underlying81 Tryz.underlying5 Tryz.underlying9 (fun j hj => ?_)
  have h := hown.cellAt j (by omega)
  rw [Addr.add_lit, Nat.zero_add, h, List.getElem?_map, List.getElem?_eq_getElem hj]; rfl

/-- A table of 256 with true at the places of a list. -/
def pc_tabOf (l : List Nat) : Array Value := l.foldl (fun a i => a.setIfInBounds i (.bool true)) (Array.replicate 256 (.bool false))
theorem pc_tabOf_snoc (l : List Nat) (i : Nat) : pc_tabOf (l ++ [i]) = (pc_tabOf l).setIfInBounds i (.bool true) := by simp [pc_tabOf]
theorem pc_tabOf_size (l : List Nat) : (pc_tabOf l).size = 256 := by
 refine snocInd (P := fun l => (pc_tabOf l).size = 256) (by simp [pc_tabOf]) (fun l i h => ?_) l
 rw [pc_tabOf_snoc]; simpa using h
theorem pc_tabOf_at (l : List Nat) (i : Nat) (h : i < 256) : (pc_tabOf l)[i]? = some (.bool (decide (i ∈ l))) := by
 refine snocInd (P := fun l => (pc_tabOf l)[i]? = some (.bool (decide (i ∈ l)))) (by simp [pc_tabOf, h]) (fun l j hj => ?_) l
 have hs := pc_tabOf_size l
 rw [pc_tabOf_snoc, Array.getElem?_setIfInBounds]
 by_cases e : j = i
 ·subst e; simp [hs, h]
 ·rw [if_neg e, hj]; simp [Ne.symm e]

end Go.Proofs.YtcphokaamkalfaaGreatDoor
namespace Go.Proofs.YtcphokaamkalfaaGreatDoor
open Go.RowKit

theorem ret_dig {a b : Int} {c d : Bool} (h : a = b) (h' : c = d) : Ending.returned (.tuple #[.int .u8 a, .bool c]) = .returned (.tuple #[.int .u8 b, .bool d]) := by rw [h, h']
/-- What digit answers. -/
def digN (c : UInt8) : Nat := if hexV c < 16 then hexV c else 0
def digB (c : UInt8) : Bool := decide (hexV c < 16)

set_option maxRecDepth 100000 in
set_option maxHeartbeats 400000 in
theorem pc_digit_any (c : UInt8) (w : World) :
  Calls Tryz.prog 165 #[.int .u8 c.toNat] w fun e w' => e = .returned (.tuple #[.int .u8 (digN c), .bool (digB c)]) ∧ w = w' := by
 have hby := byte_lt c
 by_cases h1 : 48 ≤ c.toNat ∧ c.toNat ≤ 57
 ·have HR : Hid (((digN c : Nat) : Int) = (c.toNat : Int) - 48 ∧ digB c = true) := Lib.hid (by
   have hv : hexV c = c.toNat - 48 := by rw [hexV, if_pos h1]
   unfold digN digB; rw [hv, if_pos (by omega)]; exact ⟨by omega, by simp; omega⟩)
  obtain ⟨a1, a2⟩ := h1
  go_enter Tryz.func165, Tryz.ntmps165
  go_wp2
  go_ret2
  exact ⟨ret_dig HR.out.1.symm HR.out.2.symm, rfl⟩
 ·by_cases h2 : 65 ≤ c.toNat ∧ c.toNat ≤ 70
  ·have HR : Hid (((digN c : Nat) : Int) = (c.toNat : Int) - 65 + 10 ∧ digB c = true) := Lib.hid (by
    have hv : hexV c = c.toNat - 55 := by rw [hexV, if_neg h1, if_pos h2]
    unfold digN digB; rw [hv, if_pos (by omega)]; exact ⟨by omega, by simp; omega⟩)
   obtain ⟨a1, a2⟩ := h2
   have a0 : 57 < c.toNat := by omega
   clear h1
   go_enter Tryz.func165, Tryz.ntmps165
   go_wp2
   go_ret2
   exact ⟨ret_dig HR.out.1.symm HR.out.2.symm, rfl⟩
  ·by_cases h3 : 97 ≤ c.toNat ∧ c.toNat ≤ 102
   ·have HR : Hid (((digN c : Nat) : Int) = (c.toNat : Int) - 97 + 10 ∧ digB c = true) := Lib.hid (by
     have hv : hexV c = c.toNat - 87 := by rw [hexV, if_neg h1, if_neg h2, if_pos h3]
     unfold digN digB; rw [hv, if_pos (by omega)]; exact ⟨by omega, by simp; omega⟩)
    obtain ⟨a1, a2⟩ := h3
    have a0 : 70 < c.toNat := by omega
    clear h1 h2
    go_enter Tryz.func165, Tryz.ntmps165
    go_wp2
    go_ret2
    exact ⟨ret_dig HR.out.1.symm HR.out.2.symm, rfl⟩
   ·have HR : Hid (((digN c : Nat) : Int) = 0 ∧ digB c = false) := Lib.hid (by
     have hv : hexV c = 16 := by rw [hexV, if_neg h1, if_neg h2, if_neg h3]
     unfold digN digB; rw [hv]; exact ⟨rfl, rfl⟩)
    go_enter Tryz.func165, Tryz.ntmps165
    go_wp2
    all_goals first
     | omega
     | (go_ret2; exact ⟨ret_dig HR.out.1.symm HR.out.2.symm, rfl⟩)

theorem digB_sig {c : UInt8} : digB c = true → hexV c < 16 := by simp [digB]
theorem or_hex : ∀ a b : Fin 16, bits BinOp.or IntKind.u8 ((a.1 : Int) * 16) (b.1 : Int) = ((16 * a.1 + b.1 : Nat) : Int) := by decide +kernel
theorem ret_fst {a b c d : Int} (h : a = b) (h' : c = d) : Ending.returned (.tuple #[.int .u8 a, .int .i64 c]) = .returned (.tuple #[.int .u8 b, .int .i64 d]) := by rw [h, h']

theorem s_list (s : ByteArray) (h : 0 < s.size) : ∃ r, s.data.toList = s[0] :: r ∧ r.length + 1 = s.size := by
 have hl : s.data.toList.length = s.size := by simp
 match hs : s.data.toList with
 | [] => rw [hs] at hl; simp at hl; omega
 | c :: r =>
  rw [hs] at hl
  refine ⟨r, ?_, by simpa using hl⟩
  have : s[0] = c := by
   have h1 : s.data.toList[0]? = some s[0] := by rw [List.getElem?_eq_getElem (by simp; exact h)]; rfl
   rw [hs] at h1; simpa using h1.symm
  rw [this]
theorem s_list3 (s : ByteArray) (h : 3 ≤ s.size) : ∃ r, s.data.toList = s[0] :: s[1] :: s[2] :: r := by
 have hl : s.data.toList.length = s.size := by simp
 have g : ∀ j, (hj : j < s.size) → s.data.toList[j]? = some s[j] := fun j hj => by rw [List.getElem?_eq_getElem (by simp; exact hj)]; rfl
 have g0 := g 0 (by omega)
 have g1 := g 1 (by omega)
 have g2 := g 2 (by omega)
 match hs : s.data.toList with
 | [] => rw [hs] at hl; simp at hl; omega
 | [_] => rw [hs] at hl; simp at hl; omega
 | [_, _] => rw [hs] at hl; simp at hl; omega
 | a :: b :: c :: r =>
  rw [hs] at g0 g1 g2
  refine ⟨r, ?_⟩
  simp at g0 g1 g2
  rw [g0, g1, g2]

set_option maxRecDepth 100000 in
set_option maxHeartbeats 400000 in
theorem firstByte_any (s : ByteArray) (w : World) (h0 : 0 < s.size) (hs : s.size ≤ maxLen) :
  Calls Tryz.prog 138 #[.string s] w fun e w' => e = .returned (.tuple #[.int .u8 (fstV s.data.toList).toNat, .int .i64 (fstW s.data.toList)]) ∧ w = w' := by
 unfold maxLen at hs
 have hby := byte_lt s[0]
 by_cases h3 : 3 ≤ s.size
 ·obtain ⟨r, hr⟩ := s_list3 s h3
  have HL := Lib.hid hr
  clear hr
  by_cases hc : s[0].toNat = 37
  ·have hc0 : s[0] = 37 := UInt8.toNat_inj.1 hc
   have HC0 := Lib.hid hc0
   have hcI : ((s[0].toNat : Int) == 37) = true := by rw [hc]; rfl
   clear hc hc0
   cases ha : digB s[1]
   ·have HA := Lib.hid ha
    have HS : Hid (sig3 (s[0] :: s[1] :: s[2] :: r) = false) := Lib.hid (by simp [digB] at ha; simp [sig3]; intro _ h; omega)
    clear ha
    go_enter Tryz.func138, Tryz.ntmps138
    go_wp2_with fail
    refine (pc_digit_any _ _).mono ?_
    rw [HA.out]
    rintro e w1 ⟨rfl, rfl⟩
    go_wp2_with fail
    refine (pc_digit_any _ _).mono ?_
    rintro e w1 ⟨rfl, rfl⟩
    go_wp2
    go_ret2
    exact ⟨ret_fst (by rw [HL.out, fstV_no HS.out]) (by rw [HL.out, fstW, HS.out]; rfl), rfl⟩
   ·cases hb : digB s[2]
    ·have HA := Lib.hid ha
     have HBb := Lib.hid hb
     have HS : Hid (sig3 (s[0] :: s[1] :: s[2] :: r) = false) := Lib.hid (by simp [digB] at hb; simp [sig3]; intros; omega)
     clear ha hb
     go_enter Tryz.func138, Tryz.ntmps138
     go_wp2_with fail
     refine (pc_digit_any _ _).mono ?_
     rw [HA.out]
     rintro e w1 ⟨rfl, rfl⟩
     go_wp2_with fail
     refine (pc_digit_any _ _).mono ?_
     rw [HBb.out]
     rintro e w1 ⟨rfl, rfl⟩
     go_wp2
     go_ret2
     exact ⟨ret_fst (by rw [HL.out, fstV_no HS.out]) (by rw [HL.out, fstW, HS.out]; rfl), rfl⟩
    ·have HA := Lib.hid ha
     have HBb := Lib.hid hb
     have ha' := digB_sig ha
     have hb' := digB_sig hb
     have HS : Hid (sig3 (s[0] :: s[1] :: s[2] :: r) = true) := Lib.hid (by rw [HC0.out]; simp [sig3, ha', hb'])
     clear ha hb
     obtain ⟨A, HA1⟩ : ∃ A : Nat, Hid (A = digN s[1]) := ⟨_, Lib.hid rfl⟩
     obtain ⟨B, HB1⟩ : ∃ B : Nat, Hid (B = digN s[2]) := ⟨_, Lib.hid rfl⟩
     have HA2 : Hid (A = hexV s[1]) := Lib.hid (by rw [HA1.out, digN, if_pos ha'])
     have HB2 : Hid (B = hexV s[2]) := Lib.hid (by rw [HB1.out, digN, if_pos hb'])
     have hA16 : A < 16 := by rw [HA2.out]; exact ha'
     have hB16 : B < 16 := by rw [HB2.out]; exact hb'
     have hor := or_hex ⟨A, hA16⟩ ⟨B, hB16⟩
     simp only at hor
     clear ha' hb'
     go_enter Tryz.func138, Tryz.ntmps138
     go_wp2_with fail
     refine (pc_digit_any _ _).mono ?_
     rw [HA.out, ← HA1.out]
     rintro e w1 ⟨rfl, rfl⟩
     go_wp2_with fail
     refine (pc_digit_any _ _).mono ?_
     rw [HBb.out, ← HB1.out]
     rintro e w1 ⟨rfl, rfl⟩
     go_wp2
     go_ret2
     refine ⟨ret_fst ?_ (by rw [HL.out, fstW, HS.out]; rfl), rfl⟩
     rw [HL.out]
     simp only [fstV, HS.out, if_true]
     rw [← HA2.out, ← HB2.out]
     simp; omega
  ·have hcI : ((s[0].toNat : Int) == 37) = false := beq_eq_false_iff_ne.2 (by omega)
   have HS : Hid (sig3 (s[0] :: s[1] :: s[2] :: r) = false) := Lib.hid (sig3_ne (fun h => hc (by rw [h]; rfl)))
   clear hc
   go_enter Tryz.func138, Tryz.ntmps138
   go_wp2
   go_ret2
   exact ⟨ret_fst (by rw [HL.out, fstV_no HS.out]) (by rw [HL.out, fstW, HS.out]; rfl), rfl⟩
 ·obtain ⟨r, hr, hrl⟩ := s_list s h0
  have HS : Hid (sig3 (s[0] :: r) = false) := Lib.hid (by
   match r, hrl with
   | [], _ => rfl
   | [_], _ => rfl
   | _ :: _ :: _, hrl => simp at hrl; omega)
  have HL := Lib.hid hr
  clear hr hrl
  by_cases hc : s[0].toNat = 37
  ·have hcI : ((s[0].toNat : Int) == 37) = true := by rw [hc]; rfl
   clear hc
   go_enter Tryz.func138, Tryz.ntmps138
   go_wp2
   go_ret2
   exact ⟨ret_fst (by rw [HL.out, fstV_no HS.out]) (by rw [HL.out, fstW, HS.out]; rfl), rfl⟩
  ·have hcI : ((s[0].toNat : Int) == 37) = false := beq_eq_false_iff_ne.2 (by omega)
   clear hc
   go_enter Tryz.func138, Tryz.ntmps138
   go_wp2
   go_ret2
   exact ⟨ret_fst (by rw [HL.out, fstV_no HS.out]) (by rw [HL.out, fstW, HS.out]; rfl), rfl⟩

end Go.Proofs.YtcphokaamkalfaaGreatDoor
namespace Go.Proofs.YtcphokaamkalfaaGreatDoor
open Go.RowKit

/-- A text with three signs as bytes. -/
def decS (s : ByteArray) : ByteArray := ⟨(pc_decL s.data.toList).toArray⟩
def strLen : Value → Nat
 | .string t => t.size
 | _ => 0
theorem extract_list (t : ByteArray) (k : Nat) : (t.extract k t.size).data.toList = t.data.toList.drop k := by
 have hl : t.data.toList.length = t.size := by simp
 rw [ByteArray.data_extract, Array.toList_extract, List.extract_eq_take_drop, List.take_of_length_le (by rw [List.length_drop]; omega)]

set_option maxRecDepth 100000 in
set_option maxHeartbeats 1000000 in
theorem PcDecode_any (s : ByteArray) (w : World) (hs : s.size ≤ 9000000) :
  Calls Tryz.prog 100 #[.string s] w fun e w' => e = .returned (.string (decS s)) ∧ Below w.heap.size w w' := by
 obtain ⟨i0, hi, hz0, hz1, hz2⟩ := info_parts pc_infoB
 obtain ⟨w2, hrun, hown, hgrow⟩ := run_make_own (P := Tryz.prog) w w.heap.size 81 5 i0 (.int .u8 0) 1 Tryz.underlying81 hi hz0 hz1 .i64 .i64 s.size (by rw [hz2]; omega) (by unfold maxLen; omega) (Nat.le_refl _)
 have HOwn := Lib.hid hown
 have HGrow := Lib.hid hgrow
 clear hown hgrow hi hz0 hz1 hz2
 go_enter Tryz.func100, Tryz.ntmps100
 go_wp2
 clear hrun
 go_loopw [0, 3, 4, 5] (fun x b _ _ wr => ∃ (t : ByteArray) (D : List UInt8), x = .string t ∧ D.length + t.size ≤ s.size ∧ Hid (D ++ pc_decL t.data.toList = pc_decL s.data.toList) ∧ Hid (wr.ownsRow w.heap.size 5 1 b D.length (D.map pc_bv)) ∧ Hid (Below w.heap.size w wr)) (fun x _ _ _ _ => strLen x)
 case atStart => exact ⟨s, [], rfl, by simp, Lib.hid rfl, Lib.hid HOwn.out, Lib.hid ((Below.refl _ _).grown HGrow.out (Nat.le_refl _) (fun q hq => by cases hq))⟩
 case round =>
  obtain ⟨t, D, rfl, hlen, HD, HR, HB⟩ := hrel
  have hl : t.data.toList.length = t.size := by simp
  by_cases h0 : 0 < t.size
  ·have hem : t.toList.isEmpty = false := by
    rw [ByteArray.toList_eq, List.isEmpty_eq_false_iff, ← List.length_pos_iff]; omega
   have hnn : t.data.toList ≠ [] := by rw [← List.length_pos_iff]; omega
   obtain ⟨n, HN⟩ : ∃ n, Hid (n = fstW t.data.toList) := ⟨_, Lib.hid rfl⟩
   obtain ⟨c, HC⟩ : ∃ c, Hid (c = fstV t.data.toList) := ⟨_, Lib.hid rfl⟩
   have hn1 : 1 ≤ n := by rw [HN.out]; exact fstW_pos _
   have hn2 : n ≤ t.size := by rw [HN.out, ← hl]; exact fstW_le _ hnn
   have HS : Hid (pc_decL t.data.toList = c :: pc_decL (t.extract n t.size).data.toList) := Lib.hid (by rw [pc_decL_step _ hnn, extract_list, HN.out, HC.out])
   have HZ : Hid ((t.extract n t.size).size = t.size - n) := Lib.hid (by simp)
   obtain ⟨v', w1, hrun, H1, H2⟩ := pc_appB w.heap.size u3 (D.map pc_bv) #[.int .u8 (c.toNat : Int)] wr w (by rw [List.length_map]; exact HR.out) (by rw [List.length_map]; simp; omega) (by simp [Value.oneCell']) HB.out.size HB.out
   have HRun := Lib.hid hrun
   have H1' := Lib.hid H1
   have H2' := Lib.hid H2
   clear hrun H1 H2 hnn hl
   go_wp2_with fail
   refine (firstByte_any t _ h0 (by unfold maxLen; omega)).mono ?_
   rw [← HN.out, ← HC.out]
   rintro e w3 ⟨rfl, rfl⟩
   go_wp2_with (at_builtin; refine Lib.wpList_append_run _ rfl _ _ _ _ rfl _ _ rfl rfl _ _ HRun.out ?_)
   refine ⟨⟨t.extract n t.size, D ++ [c], by simp, by rw [HZ.out]; simp; omega, Lib.hid ?_, Lib.hid ?_, H2'⟩, ?_⟩
   ·rw [← HD.out, HS.out]; simp
   ·have h := H1'.out
    simpa [pc_bv] using h
   ·simp [strLen]; omega
  ·have hem : t.toList.isEmpty = true := by
    rw [ByteArray.toList_eq, List.isEmpty_iff, ← List.length_eq_zero_iff]; omega
   have HE : Hid (D = pc_decL s.data.toList) := Lib.hid (by
    have hnil : t.data.toList = [] := by rw [← List.length_eq_zero_iff]; omega
    rw [← HD.out, hnil, pc_decL_nil, List.append_nil])
   rw [HE.out] at HR
   have hcv := pc_bytes_back _ _ _ _ HR.out
   clear hl
   go_wp2
   go_ret
   exact ⟨rfl, HB.out⟩

end Go.Proofs.YtcphokaamkalfaaGreatDoor
