/-
  The walk of UrlsHere.
-/
import Derived.Test.YtcphokaamkalfaaGreatDoorMuD
import Derived.Test.YtcphokaamkalfaaGreatDoorMuH
namespace Go.Proofs.YtcphokaamkalfaaGreatDoor
open Go.RowKit

theorem of_and_neq {r : Result Bool} {w : World} (h : (r.andThen fun b w' => .ok (Value.bool b) w') = .ok (Value.bool true) w) : (r.andThen fun b w' => .ok (Value.bool (!b)) w') = .ok (Value.bool false) w := by
  cases r with
  | ok b w' =>
    rw [Result.andThen_ok] at h ⊢
    injection h with h1 h2
    injection h1 with h1
    subst h1 h2
    rfl
  | _ => cases h
theorem neqU (u : UrS) (w : World) : (binOp .neq 23 (.agg u.cells.toArray) (.agg u.cells.toArray)).run Tryz.prog w = .ok (.bool false) w := by
  have h := eqU u u w
  rw [run_eql_struct, eqC_self] at h
  rw [run_neq_struct]
  exact of_and_neq h
theorem hurl_set {W : World} {g k : Nat} {A A' : UrS} {v : Value} (h : W.heap[g]? = some (.cells A.cells.toArray 23 (0, 0))) (e : A.cells.toArray.setIfInBounds k v = A'.cells.toArray) : (W.setCell ⟨g, k, none⟩ v).heap[g]? = some (.cells A'.cells.toArray 23 (0, 0)) := by
  rw [heap_setCell_same _ _ _ _ _ _ h, e]
theorem hurl_cell {W : World} {g k : Nat} {A : UrS} {v : Value} (h : W.heap[g]? = some (.cells A.cells.toArray 23 (0, 0))) (e : A.cells.toArray[k]? = some v) : W.cell? ⟨g, k, none⟩ = some v := by
  rw [cell_of_row W _ _ _ _ _ h, e]
theorem hurl_free {W : World} {g : Nat} {A : UrS} (h : W.heap[g]? = some (.cells A.cells.toArray 23 (0, 0))) (k : Nat) : W.frozen? ⟨g, k, none⟩ = false := frozen_of_row W g k _ _ h
set_option maxRecDepth 100000 in
set_option maxHeartbeats 8000000 in
theorem uhere_walk (s : ByteArray) (w : World) (hs : s.size ≤ 140737488351232) (hW : Uw w) :
    Calls Tryz.prog 4 #[.string s] w fun e w' => e = .returned (.bool true) ∧ Below w.heap.size w w' := by
  have HAl : Hid (∀ w', Below w.heap.size w w' → Calls Tryz.prog 5 #[] w' fun e w'' => e = .returned (.bool true) ∧ Below w'.heap.size w' w'') := Lib.hid (fun w' hb => alive6u_any w' (hW.later hb))
  by_cases hbg : 1000 < s.size
  · have hI : (1000 : Int) < (s.size : Int) := by omega
    go_enter Tryz.func4, Tryz.ntmps4
    go_wp2_with fail
    refine (HAl.out w (Below.refl _ _)).mono ?_
    rintro e w1 ⟨rfl, b1⟩
    have B1 := Lib.hid b1; clear b1
    go_wp2_with fail
    refine (HAl.out _ B1.out).mono ?_
    rintro e w2 ⟨rfl, b2⟩
    have B2 : Hid (Below w.heap.size w w2) := Lib.hid (us_keep B1.out b2)
    clear b2
    go_wp2
    go_ret
    exact ⟨rfl, B2.out⟩
  have hsI : (s.size : Int) ≤ 1000 := by omega
  have CA : Hid (∀ w', Below w.heap.size w w' → Calls Tryz.prog 12 #[.string s] w' fun e w'' => e = .returned (.tuple #[.agg (paT s).1.cells.toArray, .bool ((paT s).2 == 0)]) ∧ Below w'.heap.size w' w'') := Lib.hid (fun w' hb => alone6_any s w' (paOk s) (hW.later hb))
  have hb := pa_len (s := s) (by omega)
  have HI : Hid (∀ u : UrS, (Tryz.prog.info? 23).map (·.size) = some u.cells.toArray.size) := Lib.hid (fun _ => infoU)
  have HO : Hid (∀ u : UrS, u.cells.toArray.all (·.oneCell') = true) := Lib.hid cells_one
  have HS : Hid (∀ u : UrS, u0.cells.toArray.size = u.cells.toArray.size) := Lib.hid (fun _ => rfl)
  rcases pa_two s with ⟨U, e, hg⟩ | ⟨c, e, hc⟩
  rotate_left
  · have hok : (c == 0) = false := beq_eq_false_iff_ne.2 hc
    rw [e] at CA
    dsimp only at CA
    rw [hok] at CA
    have HIz := Lib.hid (HI.out u0)
    have HOz := Lib.hid (HO.out u0)
    clear e hc hb hok
    go_enter Tryz.func4, Tryz.ntmps4
    go_wp2_with fail
    refine (HAl.out w (Below.refl _ _)).mono ?_
    rintro e w1 ⟨rfl, b1⟩
    have B1 := Lib.hid b1; clear b1
    go_wp2_with fail
    refine (CA.out w1 B1.out).mono ?_
    rintro e w2 ⟨rfl, b2⟩
    have B2 : Hid (Below w.heap.size w w2) := Lib.hid (us_keep B1.out b2)
    clear b2
    obtain ⟨W3, HW3⟩ : ∃ W, Hid (w2.alloc (.cells u0.cells.toArray 23) = W) := ⟨_, Lib.hid rfl⟩
    have B3 : Hid (Below w.heap.size w W3) := Lib.hid (by rw [← HW3.out]; exact B2.out.alloc B2.out.size _)
    go_wp2_with (refine wpL_store_row rfl 23 _ _ rfl w2.heap.size u0.cells.toArray ?_ ?_ 23 u0.cells.toArray ?_ ?_ ?_ ?_ ?_; exact rfl; exact rfl; exact heap_alloc_new w2 _; exact HIz.out; exact rfl; exact HOz.out; rw [World.setRow_alloc_new, HW3.out])
    go_ret
    exact ⟨rfl, B3.out⟩
  rw [e] at CA hb
  dsimp only at CA hb
  rw [show ((0 : Int) == 0) = true from rfl] at CA
  have P1 : Hid (∀ w', Below w.heap.size w w' → Calls Tryz.prog 7 #[.string (⟨#[]⟩ : ByteArray), .agg U.cells.toArray, .bool true] w' fun e w'' => e = .returned (.tuple #[.agg (noMark U).cells.toArray, .int .i64 0]) ∧ Below w'.heap.size w' w'') := Lib.hid (fun w' hb' => SeenGd_any hg (by decide) (here_empty hg hb) w' (hW.later hb'))
  have P2 : Hid (∀ w', Below w.heap.size w w' → Calls Tryz.prog 7 #[.string (⟨#[35, 109]⟩ : ByteArray), .agg U.cells.toArray, .bool true] w' fun e w'' => e = .returned (.tuple #[.agg (mMark U).cells.toArray, .int .i64 0]) ∧ Below w'.heap.size w' w'') := Lib.hid (fun w' hb' => SeenGd_any hg (by decide) (here_mark hg hb) w' (hW.later hb'))
  have P3 : Hid (∀ w', Below w.heap.size w w' → Calls Tryz.prog 7 #[.string (⟨#[63, 113]⟩ : ByteArray), .agg U.cells.toArray, .bool true] w' fun e w'' => e = .returned (.tuple #[.agg (qQry U).cells.toArray, .int .i64 0]) ∧ Below w'.heap.size w' w'') := Lib.hid (fun w' hb' => SeenGd_any hg (by decide) (here_qry hg hb) w' (hW.later hb'))
  have HICU : Hid ((Tryz.prog.info? 23).map (·.size) = some U.cells.toArray.size) := Lib.hid (HI.out _)
  have HOCU : Hid (U.cells.toArray.all (·.oneCell') = true) := Lib.hid (HO.out _)
  have HSCU : Hid (u0.cells.toArray.size = U.cells.toArray.size) := Lib.hid (HS.out _)
  have HINA : Hid ((Tryz.prog.info? 23).map (·.size) = some (noMark U).cells.toArray.size) := Lib.hid (HI.out _)
  have HONA : Hid ((noMark U).cells.toArray.all (·.oneCell') = true) := Lib.hid (HO.out _)
  have HSNA : Hid (u0.cells.toArray.size = (noMark U).cells.toArray.size) := Lib.hid (HS.out _)
  have HIMB : Hid ((Tryz.prog.info? 23).map (·.size) = some (mMark U).cells.toArray.size) := Lib.hid (HI.out _)
  have HOMB : Hid ((mMark U).cells.toArray.all (·.oneCell') = true) := Lib.hid (HO.out _)
  have HSMB : Hid (u0.cells.toArray.size = (mMark U).cells.toArray.size) := Lib.hid (HS.out _)
  have HIQC : Hid ((Tryz.prog.info? 23).map (·.size) = some (qQry U).cells.toArray.size) := Lib.hid (HI.out _)
  have HOQC : Hid ((qQry U).cells.toArray.all (·.oneCell') = true) := Lib.hid (HO.out _)
  have HSQC : Hid (u0.cells.toArray.size = (qQry U).cells.toArray.size) := Lib.hid (HS.out _)
  have n1 := fun w => neqU (noMark U) w
  have n2 := fun w => neqU (mMark U) w
  have n3 : ∀ w, (binOp .eql 23 (.agg (qQry U).cells.toArray) (.agg (qQry U).cells.toArray)).run Tryz.prog w = .ok (.bool true) w := fun w => by rw [eqU, eqC_self]
  clear hg hb hW e HI HO HS
  obtain ⟨CU, HCU⟩ : ∃ C, Hid (U.cells.toArray = C) := ⟨_, Lib.hid rfl⟩
  obtain ⟨NA, HNA⟩ : ∃ C, Hid ((noMark U).cells.toArray = C) := ⟨_, Lib.hid rfl⟩
  obtain ⟨MB, HMB⟩ : ∃ C, Hid ((mMark U).cells.toArray = C) := ⟨_, Lib.hid rfl⟩
  obtain ⟨QC, HQC⟩ : ∃ C, Hid ((qQry U).cells.toArray = C) := ⟨_, Lib.hid rfl⟩
  rw [HCU.out] at CA P1 P2 P3 HICU HOCU HSCU
  rw [HNA.out] at P1 HINA HONA HSNA n1
  rw [HMB.out] at P2 HIMB HOMB HSMB n2
  rw [HQC.out] at P3 HIQC HOQC HSQC n3
  go_enter Tryz.func4, Tryz.ntmps4
  go_wp2_with fail
  refine (HAl.out w (Below.refl _ _)).mono ?_
  rintro e w1 ⟨rfl, b1⟩
  have B1 := Lib.hid b1; clear b1
  go_wp2_with fail
  refine (CA.out w1 B1.out).mono ?_
  rintro e w2 ⟨rfl, b2⟩
  have B2 : Hid (Below w.heap.size w w2) := Lib.hid (us_keep B1.out b2)
  clear b2
  obtain ⟨W3, HW3⟩ : ∃ W, Hid (w2.alloc (.cells CU 23) = W) := ⟨_, Lib.hid rfl⟩
  have BW3 : Hid (Below w.heap.size w W3) := Lib.hid (by rw [← HW3.out]; exact B2.out.alloc B2.out.size _)
  have GCUW3 : Hid (W3.heap[w2.heap.size]? = some (.cells CU 23 (0, 0))) := Lib.hid (by rw [← HW3.out]; exact heap_alloc_new w2 _)
  go_wp2_with (first
    | (refine wpL_store_row rfl 23 _ _ rfl w2.heap.size CU ?_ ?_ 23 u0.cells.toArray ?_ ?_ ?_ ?_ ?_; exact rfl; exact rfl; exact heap_alloc_new w2 _; exact HICU.out; exact HSCU.out; exact HOCU.out; rw [World.setRow_alloc_new, HW3.out])
    | (refine wpList_load_row rfl 23 _ rfl w2.heap.size ?_ 23 CU (0, 0) _ ?_ Tryz.underlying23 rfl HICU.out ?_; (exact rfl); (exact GCUW3.out)))
  refine (P1.out W3 BW3.out).mono ?_
  rintro e w4 ⟨rfl, b⟩
  have Bw4 : Hid (Below w.heap.size w w4) := Lib.hid (us_keep BW3.out b)
  have GCUw4 : Hid (w4.heap[w2.heap.size]? = some (.cells CU 23 (0, 0))) := Lib.hid ((b.block _ (lt_of_block GCUW3.out)).trans GCUW3.out)
  clear b
  obtain ⟨W5, HW5⟩ : ∃ W, Hid (w4.alloc (.cells NA 23) = W) := ⟨_, Lib.hid rfl⟩
  have BW5 : Hid (Below w.heap.size w W5) := Lib.hid (by rw [← HW5.out]; exact Bw4.out.alloc Bw4.out.size _)
  have GCUW5 : Hid (W5.heap[w2.heap.size]? = some (.cells CU 23 (0, 0))) := Lib.hid (by rw [← HW5.out]; exact ((Kp.refl (fun _ => False) _).alloc _).at GCUw4.out id)
  have GNAW5 : Hid (W5.heap[w4.heap.size]? = some (.cells NA 23 (0, 0))) := Lib.hid (by rw [← HW5.out]; exact heap_alloc_new w4 _)
  go_wp2_with (first
    | (refine wpL_store_row rfl 23 _ _ rfl w4.heap.size NA ?_ ?_ 23 u0.cells.toArray ?_ ?_ ?_ ?_ ?_; exact rfl; exact rfl; exact heap_alloc_new w4 _; exact HINA.out; exact HSNA.out; exact HONA.out; rw [World.setRow_alloc_new, HW5.out])
    | (refine wpList_load_row rfl 23 _ rfl w2.heap.size ?_ 23 CU (0, 0) _ ?_ Tryz.underlying23 rfl HICU.out ?_; (exact rfl); (exact GCUW5.out)))
  refine (P2.out W5 BW5.out).mono ?_
  rintro e w6 ⟨rfl, b⟩
  have Bw6 : Hid (Below w.heap.size w w6) := Lib.hid (us_keep BW5.out b)
  have GCUw6 : Hid (w6.heap[w2.heap.size]? = some (.cells CU 23 (0, 0))) := Lib.hid ((b.block _ (lt_of_block GCUW5.out)).trans GCUW5.out)
  have GNAw6 : Hid (w6.heap[w4.heap.size]? = some (.cells NA 23 (0, 0))) := Lib.hid ((b.block _ (lt_of_block GNAW5.out)).trans GNAW5.out)
  clear b
  obtain ⟨W7, HW7⟩ : ∃ W, Hid (w6.alloc (.cells MB 23) = W) := ⟨_, Lib.hid rfl⟩
  have BW7 : Hid (Below w.heap.size w W7) := Lib.hid (by rw [← HW7.out]; exact Bw6.out.alloc Bw6.out.size _)
  have GCUW7 : Hid (W7.heap[w2.heap.size]? = some (.cells CU 23 (0, 0))) := Lib.hid (by rw [← HW7.out]; exact ((Kp.refl (fun _ => False) _).alloc _).at GCUw6.out id)
  have GNAW7 : Hid (W7.heap[w4.heap.size]? = some (.cells NA 23 (0, 0))) := Lib.hid (by rw [← HW7.out]; exact ((Kp.refl (fun _ => False) _).alloc _).at GNAw6.out id)
  have GMBW7 : Hid (W7.heap[w6.heap.size]? = some (.cells MB 23 (0, 0))) := Lib.hid (by rw [← HW7.out]; exact heap_alloc_new w6 _)
  go_wp2_with (first
    | (refine wpL_store_row rfl 23 _ _ rfl w6.heap.size MB ?_ ?_ 23 u0.cells.toArray ?_ ?_ ?_ ?_ ?_; exact rfl; exact rfl; exact heap_alloc_new w6 _; exact HIMB.out; exact HSMB.out; exact HOMB.out; rw [World.setRow_alloc_new, HW7.out])
    | (refine wpList_load_row rfl 23 _ rfl w2.heap.size ?_ 23 CU (0, 0) _ ?_ Tryz.underlying23 rfl HICU.out ?_; (exact rfl); (exact GCUW7.out)))
  refine (P3.out W7 BW7.out).mono ?_
  rintro e w8 ⟨rfl, b⟩
  have Bw8 : Hid (Below w.heap.size w w8) := Lib.hid (us_keep BW7.out b)
  have GCUw8 : Hid (w8.heap[w2.heap.size]? = some (.cells CU 23 (0, 0))) := Lib.hid ((b.block _ (lt_of_block GCUW7.out)).trans GCUW7.out)
  have GNAw8 : Hid (w8.heap[w4.heap.size]? = some (.cells NA 23 (0, 0))) := Lib.hid ((b.block _ (lt_of_block GNAW7.out)).trans GNAW7.out)
  have GMBw8 : Hid (w8.heap[w6.heap.size]? = some (.cells MB 23 (0, 0))) := Lib.hid ((b.block _ (lt_of_block GMBW7.out)).trans GMBW7.out)
  clear b
  obtain ⟨W9, HW9⟩ : ∃ W, Hid (w8.alloc (.cells QC 23) = W) := ⟨_, Lib.hid rfl⟩
  have BW9 : Hid (Below w.heap.size w W9) := Lib.hid (by rw [← HW9.out]; exact Bw8.out.alloc Bw8.out.size _)
  have GCUW9 : Hid (W9.heap[w2.heap.size]? = some (.cells CU 23 (0, 0))) := Lib.hid (by rw [← HW9.out]; exact ((Kp.refl (fun _ => False) _).alloc _).at GCUw8.out id)
  have GNAW9 : Hid (W9.heap[w4.heap.size]? = some (.cells NA 23 (0, 0))) := Lib.hid (by rw [← HW9.out]; exact ((Kp.refl (fun _ => False) _).alloc _).at GNAw8.out id)
  have GMBW9 : Hid (W9.heap[w6.heap.size]? = some (.cells MB 23 (0, 0))) := Lib.hid (by rw [← HW9.out]; exact ((Kp.refl (fun _ => False) _).alloc _).at GMBw8.out id)
  have GQCW9 : Hid (W9.heap[w8.heap.size]? = some (.cells QC 23 (0, 0))) := Lib.hid (by rw [← HW9.out]; exact heap_alloc_new w8 _)
  go_upto_region 9 with ((refine wpL_store_row rfl 23 _ _ rfl w8.heap.size QC ?_ ?_ 23 u0.cells.toArray ?_ ?_ ?_ ?_ ?_; exact rfl; exact rfl; exact heap_alloc_new w8 _; exact HIQC.out; exact HSQC.out; exact HOQC.out; rw [World.setRow_alloc_new, HW9.out]))
  obtain ⟨W10, HW10⟩ : ∃ W, Hid (W9.alloc (.cells CU 23) = W) := ⟨_, Lib.hid rfl⟩
  have BW10 : Hid (Below w.heap.size w W10) := Lib.hid (by rw [← HW10.out]; exact BW9.out.alloc BW9.out.size _)
  have GNA10 : Hid (W10.heap[w4.heap.size]? = some (.cells NA 23 (0, 0))) := Lib.hid (by rw [← HW10.out]; exact ((Kp.refl (fun _ => False) _).alloc _).at GNAW9.out id)
  have GMB10 : Hid (W10.heap[w6.heap.size]? = some (.cells MB 23 (0, 0))) := Lib.hid (by rw [← HW10.out]; exact ((Kp.refl (fun _ => False) _).alloc _).at GMBW9.out id)
  have GQC10 : Hid (W10.heap[w8.heap.size]? = some (.cells QC 23 (0, 0))) := Lib.hid (by rw [← HW10.out]; exact ((Kp.refl (fun _ => False) _).alloc _).at GQCW9.out id)
  have K10 : Hid (W10.heap[W9.heap.size]? = some (.cells U.cells.toArray 23 (0, 0))) := Lib.hid (by rw [← HW10.out, HCU.out]; exact heap_alloc_new W9 _)
  have NNA : Hid (w4.heap.size ≠ W9.heap.size) := Lib.hid (Nat.ne_of_lt (lt_of_block GNAW9.out))
  have NMB : Hid (w6.heap.size ≠ W9.heap.size) := Lib.hid (Nat.ne_of_lt (lt_of_block GMBW9.out))
  have NQC : Hid (w8.heap.size ≠ W9.heap.size) := Lib.hid (Nat.ne_of_lt (lt_of_block GQCW9.out))
  have HLw : Hid (w.heap.size ≤ W9.heap.size) := Lib.hid BW9.out.size
  go_upto_region 10 with (first
    | (refine wpList_load_row rfl 23 _ rfl w2.heap.size ?_ 23 CU (0, 0) _ ?_ Tryz.underlying23 rfl HICU.out ?_; (exact rfl); (exact GCUW9.out))
    | (refine wpL_store_row rfl 23 _ _ rfl W9.heap.size CU ?_ ?_ 23 u0.cells.toArray ?_ ?_ ?_ ?_ ?_; exact rfl; exact rfl; exact heap_alloc_new W9 _; exact HICU.out; exact HSCU.out; exact HOCU.out; rw [World.setRow_alloc_new, HW10.out]))
  obtain ⟨X1, HX1⟩ : ∃ A, Hid (({ U with mrk := ⟨#[]⟩ } : UrS) = A) := ⟨_, Lib.hid rfl⟩
  have hc10 := hurl_cell (k := 8) K10.out rfl
  have hf10 := hurl_free K10.out 8
  obtain ⟨W11, HW11⟩ : ∃ W, Hid (W10.setCell ⟨W9.heap.size, 8, none⟩ (.string ⟨#[]⟩) = W) := ⟨_, Lib.hid rfl⟩
  have BW11 : Hid (Below w.heap.size w W11) := Lib.hid (by rw [← HW11.out]; exact BW10.out.setCell HLw.out _)
  have GNA11 : Hid (W11.heap[w4.heap.size]? = some (.cells NA 23 (0, 0))) := Lib.hid (by rw [← HW11.out, heap_setCell_other _ _ _ _ NNA.out]; exact GNA10.out)
  have GMB11 : Hid (W11.heap[w6.heap.size]? = some (.cells MB 23 (0, 0))) := Lib.hid (by rw [← HW11.out, heap_setCell_other _ _ _ _ NMB.out]; exact GMB10.out)
  have GQC11 : Hid (W11.heap[w8.heap.size]? = some (.cells QC 23 (0, 0))) := Lib.hid (by rw [← HW11.out, heap_setCell_other _ _ _ _ NQC.out]; exact GQC10.out)
  have K11 : Hid (W11.heap[W9.heap.size]? = some (.cells X1.cells.toArray 23 (0, 0))) := Lib.hid (by rw [← HW11.out, ← HX1.out]; exact hurl_set K10.out rfl)
  go_upto_region 11 with (fail)
  rw [HW11.out]
  clear hc10 hf10
  obtain ⟨X2, HX2⟩ : ∃ A, Hid (({ X1 with hm := false } : UrS) = A) := ⟨_, Lib.hid rfl⟩
  have hc11 := hurl_cell (k := 9) K11.out rfl
  have hf11 := hurl_free K11.out 9
  obtain ⟨W12, HW12⟩ : ∃ W, Hid (W11.setCell ⟨W9.heap.size, 9, none⟩ (.bool false) = W) := ⟨_, Lib.hid rfl⟩
  have BW12 : Hid (Below w.heap.size w W12) := Lib.hid (by rw [← HW12.out]; exact BW11.out.setCell HLw.out _)
  have GNA12 : Hid (W12.heap[w4.heap.size]? = some (.cells NA 23 (0, 0))) := Lib.hid (by rw [← HW12.out, heap_setCell_other _ _ _ _ NNA.out]; exact GNA11.out)
  have GMB12 : Hid (W12.heap[w6.heap.size]? = some (.cells MB 23 (0, 0))) := Lib.hid (by rw [← HW12.out, heap_setCell_other _ _ _ _ NMB.out]; exact GMB11.out)
  have GQC12 : Hid (W12.heap[w8.heap.size]? = some (.cells QC 23 (0, 0))) := Lib.hid (by rw [← HW12.out, heap_setCell_other _ _ _ _ NQC.out]; exact GQC11.out)
  have K12 : Hid (W12.heap[W9.heap.size]? = some (.cells X2.cells.toArray 23 (0, 0))) := Lib.hid (by rw [← HW12.out, ← HX2.out]; exact hurl_set K11.out rfl)
  go_upto_region 12 with (fail)
  rw [HW12.out]
  clear hc11 hf11
  have KWNA : Hid (W12.heap[W9.heap.size]? = some (.cells NA 23 (0, 0))) := Lib.hid (by
    have e : X2 = noMark U := by rw [← HX2.out, ← HX1.out]; rfl
    rw [← HNA.out, ← e]; exact K12.out)
  go_upto_region 14 with (first
    | (refine wpW_load_row rfl 23 _ rfl w4.heap.size ?_ 23 NA (0, 0) _ ?_ Tryz.underlying23 rfl HINA.out ?_; (exact rfl); (exact GNA12.out))
    | (refine wpW_load_row rfl 23 _ rfl W9.heap.size ?_ 23 NA (0, 0) _ ?_ Tryz.underlying23 rfl HINA.out ?_; (exact rfl); (exact KWNA.out)))
  obtain ⟨X3, HX3⟩ : ∃ A, Hid (({ X2 with mrk := ⟨#[109]⟩ } : UrS) = A) := ⟨_, Lib.hid rfl⟩
  have hc12 := hurl_cell (k := 8) K12.out rfl
  have hf12 := hurl_free K12.out 8
  obtain ⟨W13, HW13⟩ : ∃ W, Hid (W12.setCell ⟨W9.heap.size, 8, none⟩ (.string ⟨#[109]⟩) = W) := ⟨_, Lib.hid rfl⟩
  have BW13 : Hid (Below w.heap.size w W13) := Lib.hid (by rw [← HW13.out]; exact BW12.out.setCell HLw.out _)
  have GNA13 : Hid (W13.heap[w4.heap.size]? = some (.cells NA 23 (0, 0))) := Lib.hid (by rw [← HW13.out, heap_setCell_other _ _ _ _ NNA.out]; exact GNA12.out)
  have GMB13 : Hid (W13.heap[w6.heap.size]? = some (.cells MB 23 (0, 0))) := Lib.hid (by rw [← HW13.out, heap_setCell_other _ _ _ _ NMB.out]; exact GMB12.out)
  have GQC13 : Hid (W13.heap[w8.heap.size]? = some (.cells QC 23 (0, 0))) := Lib.hid (by rw [← HW13.out, heap_setCell_other _ _ _ _ NQC.out]; exact GQC12.out)
  have K13 : Hid (W13.heap[W9.heap.size]? = some (.cells X3.cells.toArray 23 (0, 0))) := Lib.hid (by rw [← HW13.out, ← HX3.out]; exact hurl_set K12.out rfl)
  go_upto_region 15 with (fail)
  rw [HW13.out]
  clear hc12 hf12
  obtain ⟨X4, HX4⟩ : ∃ A, Hid (({ X3 with hm := true } : UrS) = A) := ⟨_, Lib.hid rfl⟩
  have hc13 := hurl_cell (k := 9) K13.out rfl
  have hf13 := hurl_free K13.out 9
  obtain ⟨W14, HW14⟩ : ∃ W, Hid (W13.setCell ⟨W9.heap.size, 9, none⟩ (.bool true) = W) := ⟨_, Lib.hid rfl⟩
  have BW14 : Hid (Below w.heap.size w W14) := Lib.hid (by rw [← HW14.out]; exact BW13.out.setCell HLw.out _)
  have GNA14 : Hid (W14.heap[w4.heap.size]? = some (.cells NA 23 (0, 0))) := Lib.hid (by rw [← HW14.out, heap_setCell_other _ _ _ _ NNA.out]; exact GNA13.out)
  have GMB14 : Hid (W14.heap[w6.heap.size]? = some (.cells MB 23 (0, 0))) := Lib.hid (by rw [← HW14.out, heap_setCell_other _ _ _ _ NMB.out]; exact GMB13.out)
  have GQC14 : Hid (W14.heap[w8.heap.size]? = some (.cells QC 23 (0, 0))) := Lib.hid (by rw [← HW14.out, heap_setCell_other _ _ _ _ NQC.out]; exact GQC13.out)
  have K14 : Hid (W14.heap[W9.heap.size]? = some (.cells X4.cells.toArray 23 (0, 0))) := Lib.hid (by rw [← HW14.out, ← HX4.out]; exact hurl_set K13.out rfl)
  go_upto_region 16 with (fail)
  rw [HW14.out]
  clear hc13 hf13
  have KWMB : Hid (W14.heap[W9.heap.size]? = some (.cells MB 23 (0, 0))) := Lib.hid (by
    have e : X4 = mMark U := by rw [← HX4.out, ← HX3.out, ← HX2.out, ← HX1.out]; rfl
    rw [← HMB.out, ← e]; exact K14.out)
  go_upto_region 18 with (first
    | (refine wpW_load_row rfl 23 _ rfl w6.heap.size ?_ 23 MB (0, 0) _ ?_ Tryz.underlying23 rfl HIMB.out ?_; (exact rfl); (exact GMB14.out))
    | (refine wpW_load_row rfl 23 _ rfl W9.heap.size ?_ 23 MB (0, 0) _ ?_ Tryz.underlying23 rfl HIMB.out ?_; (exact rfl); (exact KWMB.out)))
  obtain ⟨X5, HX5⟩ : ∃ A, Hid (({ X4 with mrk := ⟨#[]⟩ } : UrS) = A) := ⟨_, Lib.hid rfl⟩
  have hc14 := hurl_cell (k := 8) K14.out rfl
  have hf14 := hurl_free K14.out 8
  obtain ⟨W15, HW15⟩ : ∃ W, Hid (W14.setCell ⟨W9.heap.size, 8, none⟩ (.string ⟨#[]⟩) = W) := ⟨_, Lib.hid rfl⟩
  have BW15 : Hid (Below w.heap.size w W15) := Lib.hid (by rw [← HW15.out]; exact BW14.out.setCell HLw.out _)
  have GNA15 : Hid (W15.heap[w4.heap.size]? = some (.cells NA 23 (0, 0))) := Lib.hid (by rw [← HW15.out, heap_setCell_other _ _ _ _ NNA.out]; exact GNA14.out)
  have GMB15 : Hid (W15.heap[w6.heap.size]? = some (.cells MB 23 (0, 0))) := Lib.hid (by rw [← HW15.out, heap_setCell_other _ _ _ _ NMB.out]; exact GMB14.out)
  have GQC15 : Hid (W15.heap[w8.heap.size]? = some (.cells QC 23 (0, 0))) := Lib.hid (by rw [← HW15.out, heap_setCell_other _ _ _ _ NQC.out]; exact GQC14.out)
  have K15 : Hid (W15.heap[W9.heap.size]? = some (.cells X5.cells.toArray 23 (0, 0))) := Lib.hid (by rw [← HW15.out, ← HX5.out]; exact hurl_set K14.out rfl)
  go_upto_region 19 with (fail)
  rw [HW15.out]
  clear hc14 hf14
  obtain ⟨X6, HX6⟩ : ∃ A, Hid (({ X5 with hm := false } : UrS) = A) := ⟨_, Lib.hid rfl⟩
  have hc15 := hurl_cell (k := 9) K15.out rfl
  have hf15 := hurl_free K15.out 9
  obtain ⟨W16, HW16⟩ : ∃ W, Hid (W15.setCell ⟨W9.heap.size, 9, none⟩ (.bool false) = W) := ⟨_, Lib.hid rfl⟩
  have BW16 : Hid (Below w.heap.size w W16) := Lib.hid (by rw [← HW16.out]; exact BW15.out.setCell HLw.out _)
  have GNA16 : Hid (W16.heap[w4.heap.size]? = some (.cells NA 23 (0, 0))) := Lib.hid (by rw [← HW16.out, heap_setCell_other _ _ _ _ NNA.out]; exact GNA15.out)
  have GMB16 : Hid (W16.heap[w6.heap.size]? = some (.cells MB 23 (0, 0))) := Lib.hid (by rw [← HW16.out, heap_setCell_other _ _ _ _ NMB.out]; exact GMB15.out)
  have GQC16 : Hid (W16.heap[w8.heap.size]? = some (.cells QC 23 (0, 0))) := Lib.hid (by rw [← HW16.out, heap_setCell_other _ _ _ _ NQC.out]; exact GQC15.out)
  have K16 : Hid (W16.heap[W9.heap.size]? = some (.cells X6.cells.toArray 23 (0, 0))) := Lib.hid (by rw [← HW16.out, ← HX6.out]; exact hurl_set K15.out rfl)
  go_upto_region 20 with (fail)
  rw [HW16.out]
  clear hc15 hf15
  obtain ⟨X7, HX7⟩ : ∃ A, Hid (({ X6 with qry := ⟨#[113]⟩ } : UrS) = A) := ⟨_, Lib.hid rfl⟩
  have hc16 := hurl_cell (k := 6) K16.out rfl
  have hf16 := hurl_free K16.out 6
  obtain ⟨W17, HW17⟩ : ∃ W, Hid (W16.setCell ⟨W9.heap.size, 6, none⟩ (.string ⟨#[113]⟩) = W) := ⟨_, Lib.hid rfl⟩
  have BW17 : Hid (Below w.heap.size w W17) := Lib.hid (by rw [← HW17.out]; exact BW16.out.setCell HLw.out _)
  have GNA17 : Hid (W17.heap[w4.heap.size]? = some (.cells NA 23 (0, 0))) := Lib.hid (by rw [← HW17.out, heap_setCell_other _ _ _ _ NNA.out]; exact GNA16.out)
  have GMB17 : Hid (W17.heap[w6.heap.size]? = some (.cells MB 23 (0, 0))) := Lib.hid (by rw [← HW17.out, heap_setCell_other _ _ _ _ NMB.out]; exact GMB16.out)
  have GQC17 : Hid (W17.heap[w8.heap.size]? = some (.cells QC 23 (0, 0))) := Lib.hid (by rw [← HW17.out, heap_setCell_other _ _ _ _ NQC.out]; exact GQC16.out)
  have K17 : Hid (W17.heap[W9.heap.size]? = some (.cells X7.cells.toArray 23 (0, 0))) := Lib.hid (by rw [← HW17.out, ← HX7.out]; exact hurl_set K16.out rfl)
  go_upto_region 21 with (fail)
  rw [HW17.out]
  clear hc16 hf16
  obtain ⟨X8, HX8⟩ : ∃ A, Hid (({ X7 with hq := true } : UrS) = A) := ⟨_, Lib.hid rfl⟩
  have hc17 := hurl_cell (k := 7) K17.out rfl
  have hf17 := hurl_free K17.out 7
  obtain ⟨W18, HW18⟩ : ∃ W, Hid (W17.setCell ⟨W9.heap.size, 7, none⟩ (.bool true) = W) := ⟨_, Lib.hid rfl⟩
  have BW18 : Hid (Below w.heap.size w W18) := Lib.hid (by rw [← HW18.out]; exact BW17.out.setCell HLw.out _)
  have GNA18 : Hid (W18.heap[w4.heap.size]? = some (.cells NA 23 (0, 0))) := Lib.hid (by rw [← HW18.out, heap_setCell_other _ _ _ _ NNA.out]; exact GNA17.out)
  have GMB18 : Hid (W18.heap[w6.heap.size]? = some (.cells MB 23 (0, 0))) := Lib.hid (by rw [← HW18.out, heap_setCell_other _ _ _ _ NMB.out]; exact GMB17.out)
  have GQC18 : Hid (W18.heap[w8.heap.size]? = some (.cells QC 23 (0, 0))) := Lib.hid (by rw [← HW18.out, heap_setCell_other _ _ _ _ NQC.out]; exact GQC17.out)
  have K18 : Hid (W18.heap[W9.heap.size]? = some (.cells X8.cells.toArray 23 (0, 0))) := Lib.hid (by rw [← HW18.out, ← HX8.out]; exact hurl_set K17.out rfl)
  go_upto_region 22 with (fail)
  rw [HW18.out]
  clear hc17 hf17
  have KWQC : Hid (W18.heap[W9.heap.size]? = some (.cells QC 23 (0, 0))) := Lib.hid (by
    have e : X8 = qQry U := by rw [← HX8.out, ← HX7.out, ← HX6.out, ← HX5.out, ← HX4.out, ← HX3.out, ← HX2.out, ← HX1.out]; rfl
    rw [← HQC.out, ← e]; exact K18.out)
  go_wp2_with (first
    | (refine wpW_load_row rfl 23 _ rfl w8.heap.size ?_ 23 QC (0, 0) _ ?_ Tryz.underlying23 rfl HIQC.out ?_; (exact rfl); (exact GQC18.out))
    | (refine wpW_load_row rfl 23 _ rfl W9.heap.size ?_ 23 QC (0, 0) _ ?_ Tryz.underlying23 rfl HIQC.out ?_; (exact rfl); (exact KWQC.out)))
  go_ret
  exact ⟨rfl, BW18.out⟩

end Go.Proofs.YtcphokaamkalfaaGreatDoor
