/-
  urls: what the statements' own alive asks: alone, is; constants.
  urls: the statements' own alive answers true.
-/
import Derived.Test.YtcphokaamkalfaaGreatDoorMuB
namespace Go.Proofs.YtcphokaamkalfaaGreatDoor
open Go.RowKit

set_option maxRecDepth 100000 in
set_option maxHeartbeats 4000000 in
theorem alone6_any (s : ByteArray) (w : World) (hO : PaOk s) (hW : Uw w) :
  Calls Tryz.prog 12 #[.string s] w fun e w' => e = .returned (.tuple #[.agg (paT s).1.cells.toArray, .bool ((paT s).2 == 0)]) ∧ Below w.heap.size w w' := by
 have HP : Hid (∀ w', Below w.heap.size w w' → Calls Tryz.prog 7 #[.string s, .agg u0.cells.toArray, .bool false] w' fun e w'' => e = .returned (.tuple #[.agg (paT s).1.cells.toArray, .int .i64 (paT s).2]) ∧ Below w'.heap.size w' w'') := Lib.hid (fun w' hb => Parse0_any _ u0 w' hO (hW.later hb))
 obtain ⟨A, c, HA⟩ : ∃ A c, Hid (paT s = (A, c)) := ⟨_, _, Lib.hid rfl⟩
 rw [HA.out] at HP ⊢
 dsimp only at HP ⊢
 have HI : Hid ((Tryz.prog.info? 23).map (·.size) = some A.cells.toArray.size) := Lib.hid infoU
 have HO : Hid (A.cells.toArray.all (·.oneCell') = true) := Lib.hid (cells_one A)
 have HS : Hid (u0.cells.toArray.size = A.cells.toArray.size) := Lib.hid rfl
 obtain ⟨V, HV⟩ : ∃ V, Hid (A.cells.toArray = V) := ⟨_, Lib.hid rfl⟩
 rw [HV.out] at HP HI HO HS ⊢
 obtain ⟨W, HWw⟩ : ∃ W, Hid (w.alloc (.cells u0.cells.toArray 23) = W) := ⟨_, Lib.hid rfl⟩
 have HB : Hid (Below w.heap.size w W) := Lib.hid (by rw [← HWw.out]; exact (Below.refl _ _).alloc (Nat.le_refl _) _)
 have HG : Hid (W.heap[w.heap.size]? = some (.cells u0.cells.toArray 23 (0, 0))) := Lib.hid (by rw [← HWw.out]; exact heap_alloc_new w _)
 clear hO hW
 go_enter Tryz.func12, Tryz.ntmps12
 go_wp2_with fail
 refine (show Calls Tryz.prog 7 #[.string s, .agg u0.cells.toArray, .bool false] (w.alloc (.cells u0.cells.toArray 23)) _ from by rw [HWw.out]; exact HP.out W HB.out).mono ?_
 rintro e w1 ⟨rfl, b1⟩
 have HB1 : Hid (Below w.heap.size w w1) := Lib.hid (us_keep HB.out b1)
 have HG1 : Hid (w1.heap[w.heap.size]? = some (.cells u0.cells.toArray 23 (0, 0))) := Lib.hid ((b1.block _ (lt_of_block HG.out)).trans HG.out)
 have hl1 : w.heap.size < w1.heap.size := lt_of_block HG1.out
 obtain ⟨W2, HW2⟩ : ∃ W, Hid (w1.alloc (.cells V 23) = W) := ⟨_, Lib.hid rfl⟩
 have HB2 : Hid (Below w.heap.size w W2) := Lib.hid (by rw [← HW2.out]; exact HB1.out.alloc HB1.out.size _)
 have HG2 : Hid (W2.heap[w.heap.size]? = some (.cells u0.cells.toArray 23 (0, 0))) := Lib.hid (by rw [← HW2.out]; exact ((Kp.refl (fun _ => False) _).alloc _).at HG1.out id)
 have HQ2 : Hid (W2.heap[w1.heap.size]? = some (.cells V 23 (0, 0))) := Lib.hid (by rw [← HW2.out]; exact heap_alloc_new w1 _)
 obtain ⟨W3, HW3⟩ : ∃ W, Hid (W2.setRow w.heap.size V = W) := ⟨_, Lib.hid rfl⟩
 have HA3 : Hid (W3.heap[w.heap.size]? = some (.cells V 23 (0, 0))) := Lib.hid (by rw [← HW3.out]; exact setRow_heap _ _ _ _ _ _ HG2.out)
 have HB3 : Hid (Below w.heap.size w W3) := Lib.hid (by rw [← HW3.out]; exact setRow_below HB2.out _ _ (Nat.le_refl _))
 clear b1
 go_wp2_with (first
  | (refine wpL_store_row rfl 23 _ _ rfl w1.heap.size V ?_ ?_ 23 u0.cells.toArray ?_ ?_ ?_ ?_ ?_; exact rfl; exact rfl; exact heap_alloc_new w1 _; exact HI.out; exact HS.out; exact HO.out; rw [World.setRow_alloc_new, HW2.out])
  | (refine wpL_store_row rfl 23 _ _ rfl w.heap.size V ?_ ?_ 23 u0.cells.toArray ?_ ?_ ?_ ?_ ?_; exact rfl; exact rfl; exact HG2.out; exact HI.out; exact HS.out; exact HO.out; rw [HW3.out])
  | (refine wpList_load_row rfl 23 _ rfl w1.heap.size ?_ 23 V (0, 0) _ ?_ Tryz.underlying23 rfl HI.out ?_; (exact rfl); (exact HQ2.out)))
 exact bodyPost_ret (v := .tuple #[.agg V, .bool (c == 0)]) (results_row2b (P := Tryz.prog) Tryz.results12 _ _ w.heap.size _ _ (0, 0) _ rfl HA3.out Tryz.underlying23 rfl HI.out _ rfl) rfl ⟨rfl, HB3.out⟩
set_option maxRecDepth 100000 in
set_option maxHeartbeats 4000000 in
theorem is6_any (s fr wa : ByteArray) (B : UrS) (w : World) (hO : PaOk fr) (hW : Uw w) (hB : Sm B) (hT : textT B = wa)
  (hP : ∀ w', Uw w' → Calls Tryz.prog 7 #[.string s, .agg (paT fr).1.cells.toArray, .bool ((paT fr).2 == 0)] w' fun e w'' => e = .returned (.tuple #[.agg B.cells.toArray, .int .i64 0]) ∧ Below w'.heap.size w' w'') :
  Calls Tryz.prog 13 #[.string s, .string fr, .string wa] w fun e w' => e = .returned (.bool true) ∧ Below w.heap.size w w' := by
 have HAl := Lib.hid (alone6_any fr w hO hW)
 have HP : Hid (∀ w', Below w.heap.size w w' → Calls Tryz.prog 7 #[.string s, .agg (paT fr).1.cells.toArray, .bool ((paT fr).2 == 0)] w' fun e w'' => e = .returned (.tuple #[.agg B.cells.toArray, .int .i64 0]) ∧ Below w'.heap.size w' w'') := Lib.hid (fun w' hb => hP w' (hW.later hb))
 have HTx : Hid (∀ w', Below w.heap.size w w' → Calls Tryz.prog 8 #[.agg B.cells.toArray] w' fun e w'' => e = .returned (.string wa) ∧ Below w'.heap.size w' w'') := Lib.hid (fun w' hb => by rw [← hT]; exact Text_of B w' hB (hW.later hb).dc)
 obtain ⟨A, c, HA⟩ : ∃ A c, Hid (paT fr = (A, c)) := ⟨_, _, Lib.hid rfl⟩
 rw [HA.out] at HAl HP
 dsimp only at HAl HP
 obtain ⟨K, HK⟩ : ∃ K, Hid ((c == 0) = K) := ⟨_, Lib.hid rfl⟩
 rw [HK.out] at HAl HP
 have HI1 : Hid ((Tryz.prog.info? 23).map (·.size) = some A.cells.toArray.size) := Lib.hid infoU
 have HO1 : Hid (A.cells.toArray.all (·.oneCell') = true) := Lib.hid (cells_one A)
 have HS1 : Hid (u0.cells.toArray.size = A.cells.toArray.size) := Lib.hid rfl
 have HI2 : Hid ((Tryz.prog.info? 23).map (·.size) = some B.cells.toArray.size) := Lib.hid infoU
 have HO2 : Hid (B.cells.toArray.all (·.oneCell') = true) := Lib.hid (cells_one B)
 have HS2 : Hid (u0.cells.toArray.size = B.cells.toArray.size) := Lib.hid rfl
 obtain ⟨V, HV⟩ : ∃ V, Hid (A.cells.toArray = V) := ⟨_, Lib.hid rfl⟩
 obtain ⟨D, HD⟩ : ∃ V, Hid (B.cells.toArray = V) := ⟨_, Lib.hid rfl⟩
 rw [HV.out] at HAl HP HI1 HO1 HS1
 rw [HD.out] at HP HTx HI2 HO2 HS2
 clear hO hW hB hT hP
 go_enter Tryz.func13, Tryz.ntmps13
 go_wp2_with fail
 refine HAl.out.mono ?_
 rintro e w1 ⟨rfl, b1⟩
 have HB1 := Lib.hid b1
 obtain ⟨W2, HW2⟩ : ∃ W, Hid (w1.alloc (.cells V 23) = W) := ⟨_, Lib.hid rfl⟩
 have HB2 : Hid (Below w.heap.size w W2) := Lib.hid (by rw [← HW2.out]; exact HB1.out.alloc HB1.out.size _)
 have HQ2 : Hid (W2.heap[w1.heap.size]? = some (.cells V 23 (0, 0))) := Lib.hid (by rw [← HW2.out]; exact heap_alloc_new w1 _)
 clear b1
 go_wp2_with (first
  | (refine wpL_store_row rfl 23 _ _ rfl w1.heap.size V ?_ ?_ 23 u0.cells.toArray ?_ ?_ ?_ ?_ ?_; exact rfl; exact rfl; exact heap_alloc_new w1 _; exact HI1.out; exact HS1.out; exact HO1.out; rw [World.setRow_alloc_new, HW2.out])
  | (refine wpList_load_row rfl 23 _ rfl w1.heap.size ?_ 23 V (0, 0) _ ?_ Tryz.underlying23 rfl HI1.out ?_; (exact rfl); (exact HQ2.out)))
 refine (HP.out W2 HB2.out).mono ?_
 rintro e w3 ⟨rfl, b3⟩
 have HB3 : Hid (Below w.heap.size w w3) := Lib.hid (us_keep HB2.out b3)
 obtain ⟨W4, HW4⟩ : ∃ W, Hid (w3.alloc (.cells D 23) = W) := ⟨_, Lib.hid rfl⟩
 have HB4 : Hid (Below w.heap.size w W4) := Lib.hid (by rw [← HW4.out]; exact HB3.out.alloc HB3.out.size _)
 have HQ4 : Hid (W4.heap[w3.heap.size]? = some (.cells D 23 (0, 0))) := Lib.hid (by rw [← HW4.out]; exact heap_alloc_new w3 _)
 clear b3
 go_wp2_with (first
  | (refine wpL_store_row rfl 23 _ _ rfl w3.heap.size D ?_ ?_ 23 u0.cells.toArray ?_ ?_ ?_ ?_ ?_; exact rfl; exact rfl; exact heap_alloc_new w3 _; exact HI2.out; exact HS2.out; exact HO2.out; rw [World.setRow_alloc_new, HW4.out])
  | (refine wpW_load_row rfl 23 _ rfl w3.heap.size ?_ 23 D (0, 0) _ ?_ Tryz.underlying23 rfl HI2.out ?_; (exact rfl); (exact HQ4.out)))
 refine (HTx.out W4 HB4.out).mono ?_
 rintro e w5 ⟨rfl, b5⟩
 have HB5 : Hid (Below w.heap.size w w5) := Lib.hid (us_keep HB4.out b5)
 have hw : (wa.toList == wa.toList) = true := beq_self_eq_true _
 clear b5
 go_wp2
 go_ret
 exact ⟨rfl, HB5.out⟩

end Go.Proofs.YtcphokaamkalfaaGreatDoor
namespace Go.Proofs.YtcphokaamkalfaaGreatDoor
open Go.RowKit

theorem ck_b : ckT c_bU = true := by
 unfold ckT
 rw [c_bT, paT_of c_b (by decide)]
 dsimp only
 rw [eqC_self]; rfl
/-- The statements' own base. -/
theorem ps6 {s : ByteArray} {U : UrS} (h : eqR (readU (rd0 s c_bU)) U 0 = true) (hs : s.size ≤ 1000) (w : World) (hW : Uw w) :
  Calls Tryz.prog 7 #[.string s, .agg c_bU.cells.toArray, .bool true] w fun e w' => e = .returned (.tuple #[.agg U.cells.toArray, .int .i64 0]) ∧ Below w.heap.size w w' := by
 have hB : Sm c_bU := sm_small _ (by decide +kernel)
 have := ParseSeen_any s c_bU w hB (by rw [c_bT]; exact paOk_small (by decide)) (fun _ _ => ⟨seen_ok s c_bU (by omega) hB (by decide) (by decide +kernel), by decide⟩) hW
 rwa [seenU, if_neg (by omega), if_pos ck_b, eqR_eq h] at this
theorem is_b (s wa : ByteArray) (U : UrS) (h : eqR (readU (rd0 s c_bU)) U 0 = true) (hs : s.size ≤ 1000) (hU : Sm U) (hT : textT U = wa) (w : World) (hW : Uw w) :
  Calls Tryz.prog 13 #[.string s, .string c_bS, .string wa] w fun e w' => e = .returned (.bool true) ∧ Below w.heap.size w w' :=
 is6_any s c_bS wa U w (paOk_small (by decide)) hW hU hT (fun w' hW' => by
  rw [paT_of c_b (by decide)]
  exact ps6 h hs w' hW')
theorem is_e (s wa : ByteArray) (U : UrS) (h : eqR (ansU (aloneT (drpS s 3))) U 0 = true) (hs : s.size ≤ 1000) (hU : Sm U) (hT : textT U = wa) (w : World) (hW : Uw w) :
  Calls Tryz.prog 13 #[.string s, .string c_emptyS, .string wa] w fun e w' => e = .returned (.bool true) ∧ Below w.heap.size w w' :=
 is6_any s c_emptyS wa U w (paOk_small (by decide)) hW hU hT (fun w' hW' => by
  rw [paT_of c_empty (by decide)]
  exact pc6 h hs w' hW')
set_option maxRecDepth 100000 in
set_option maxHeartbeats 8000000 in
theorem alive6u_any (w : World) (hW : Uw w) : Calls Tryz.prog 5 #[] w fun e w' => e = .returned (.bool true) ∧ Below w.heap.size w w' := by
 have HL : Hid (∀ w', Below w.heap.size w w' → Uw w') := Lib.hid (fun w' hb => hW.later hb)
 have HZ : Hid (u0.cells.toArray.size = u0.cells.toArray.size) := Lib.hid rfl
 have P1 : Hid (∀ w', Below w.heap.size w w' → Calls Tryz.prog 7 #[.string c_xS, .agg u0.cells.toArray, .bool false] w' fun e w'' => e = .returned (.tuple #[.agg u0.cells.toArray, .int .i64 4]) ∧ Below w'.heap.size w' w'') := Lib.hid (fun w' hb => pc6 c_x (by decide) w' (HL.out w' hb))
 have P2 : Hid (∀ w', Below w.heap.size w w' → Calls Tryz.prog 7 #[.string c_ftpS, .agg u0.cells.toArray, .bool false] w' fun e w'' => e = .returned (.tuple #[.agg u0.cells.toArray, .int .i64 6]) ∧ Below w'.heap.size w' w'') := Lib.hid (fun w' hb => pc6 c_ftp (by decide) w' (HL.out w' hb))
 have P3 : Hid (∀ w', Below w.heap.size w w' → Calls Tryz.prog 7 #[.string c_portS, .agg u0.cells.toArray, .bool false] w' fun e w'' => e = .returned (.tuple #[.agg u0.cells.toArray, .int .i64 4]) ∧ Below w'.heap.size w' w'') := Lib.hid (fun w' hb => pc6 c_port (by decide) w' (HL.out w' hb))
 have P4 : Hid (∀ w', Below w.heap.size w w' → Calls Tryz.prog 7 #[.string c_noneS, .agg u0.cells.toArray, .bool false] w' fun e w'' => e = .returned (.tuple #[.agg u0.cells.toArray, .int .i64 5]) ∧ Below w'.heap.size w' w'') := Lib.hid (fun w' hb => pc6 c_none (by decide) w' (HL.out w' hb))
 have I0 : Hid (∀ w', Below w.heap.size w w' → Calls Tryz.prog 13 #[.string c_longS, .string c_emptyS, .string (⟨#[104, 116, 116, 112, 58, 47, 47, 85, 115, 101, 114, 64, 101, 120, 97, 109, 112, 108, 101, 46, 99, 111, 109, 47, 97, 47, 99, 63, 120, 35, 121]⟩ : ByteArray)] w' fun e w'' => e = .returned (.bool true) ∧ Below w'.heap.size w' w'') := Lib.hid (fun w' hb => is_e c_longS _ c_longU c_long (by decide) (sm_small _ (by decide +kernel)) c_longT w' (HL.out w' hb))
 have I1 : Hid (∀ w', Below w.heap.size w w' → Calls Tryz.prog 13 #[.string s_gS, .string c_bS, .string (⟨#[104, 116, 116, 112, 58, 47, 47, 97, 47, 98, 47, 99, 47, 103]⟩ : ByteArray)] w' fun e w'' => e = .returned (.bool true) ∧ Below w'.heap.size w' w'') := Lib.hid (fun w' hb => is_b s_gS _ s_gU s_g (by decide) (sm_small _ (by decide +kernel)) s_gT w' (HL.out w' hb))
 have I2 : Hid (∀ w', Below w.heap.size w w' → Calls Tryz.prog 13 #[.string s_upS, .string c_bS, .string (⟨#[104, 116, 116, 112, 58, 47, 47, 97, 47, 103]⟩ : ByteArray)] w' fun e w'' => e = .returned (.bool true) ∧ Below w'.heap.size w' w'') := Lib.hid (fun w' hb => is_b s_upS _ s_upU s_up (by decide) (sm_small _ (by decide +kernel)) s_upT w' (HL.out w' hb))
 have I3 : Hid (∀ w', Below w.heap.size w w' → Calls Tryz.prog 13 #[.string s_qS, .string c_bS, .string (⟨#[104, 116, 116, 112, 58, 47, 47, 97, 47, 98, 47, 99, 47, 100, 59, 112, 63, 121]⟩ : ByteArray)] w' fun e w'' => e = .returned (.bool true) ∧ Below w'.heap.size w' w'') := Lib.hid (fun w' hb => is_b s_qS _ s_qU s_q (by decide) (sm_small _ (by decide +kernel)) s_qT w' (HL.out w' hb))
 have I4 : Hid (∀ w', Below w.heap.size w w' → Calls Tryz.prog 13 #[.string s_slS, .string c_bS, .string (⟨#[104, 116, 116, 112, 58, 47, 47, 103, 47]⟩ : ByteArray)] w' fun e w'' => e = .returned (.bool true) ∧ Below w'.heap.size w' w'') := Lib.hid (fun w' hb => is_b s_slS _ s_slU s_sl (by decide) (sm_small _ (by decide +kernel)) s_slT w' (HL.out w' hb))
 have I5 : Hid (∀ w', Below w.heap.size w w' → Calls Tryz.prog 13 #[.string s_eS, .string c_bS, .string (⟨#[104, 116, 116, 112, 58, 47, 47, 97, 47, 98, 47, 99, 47, 100, 59, 112, 63, 113]⟩ : ByteArray)] w' fun e w'' => e = .returned (.bool true) ∧ Below w'.heap.size w' w'') := Lib.hid (fun w' hb => is_b s_eS _ s_eU s_e (by decide) (sm_small _ (by decide +kernel)) s_eT w' (HL.out w' hb))
 have I6 : Hid (∀ w', Below w.heap.size w w' → Calls Tryz.prog 13 #[.string c_hS, .string c_emptyS, .string (⟨#[104, 116, 116, 112, 58, 47, 47, 104, 47]⟩ : ByteArray)] w' fun e w'' => e = .returned (.bool true) ∧ Below w'.heap.size w' w'') := Lib.hid (fun w' hb => is_e c_hS _ c_hU c_h (by decide) (sm_small _ (by decide +kernel)) c_hT w' (HL.out w' hb))
 have I7 : Hid (∀ w', Below w.heap.size w w' → Calls Tryz.prog 13 #[.string s_yS, .string c_bS, .string (⟨#[104, 116, 116, 112, 58, 47, 47, 97, 47, 98, 47, 99, 47, 121]⟩ : ByteArray)] w' fun e w'' => e = .returned (.bool true) ∧ Below w'.heap.size w' w'') := Lib.hid (fun w' hb => is_b s_yS _ s_yU s_y (by decide) (sm_small _ (by decide +kernel)) s_yT w' (HL.out w' hb))
 clear hW
 go_enter Tryz.func5, Tryz.ntmps5
 go_wp2_with fail
 refine (show Calls Tryz.prog 7 #[.string c_xS, .agg u0.cells.toArray, .bool false] w _ from P1.out w (Below.refl _ _)).mono ?_
 rintro e w1 ⟨rfl, b1⟩
 have B1 : Hid (Below w.heap.size w w1) := Lib.hid b1
 obtain ⟨V1, HV1⟩ : ∃ W, Hid (w1.alloc (.cells u0.cells.toArray 23) = W) := ⟨_, Lib.hid rfl⟩
 have BV1 : Hid (Below w.heap.size w V1) := Lib.hid (by rw [← HV1.out]; exact B1.out.alloc B1.out.size _)
 clear b1
 go_wp2_with (refine wpL_store_row rfl 23 _ _ rfl w1.heap.size u0.cells.toArray ?_ ?_ 23 u0.cells.toArray ?_ ?_ ?_ ?_ ?_; exact rfl; exact rfl; exact heap_alloc_new w1 _; exact infoU; exact rfl; exact u0_one; rw [World.setRow_alloc_new, HV1.out])
 refine (show Calls Tryz.prog 7 #[.string c_ftpS, .agg u0.cells.toArray, .bool false] V1 _ from P2.out V1 BV1.out).mono ?_
 rintro e w2 ⟨rfl, b2⟩
 have B2 : Hid (Below w.heap.size w w2) := Lib.hid (us_keep BV1.out b2)
 obtain ⟨V2, HV2⟩ : ∃ W, Hid (w2.alloc (.cells u0.cells.toArray 23) = W) := ⟨_, Lib.hid rfl⟩
 have BV2 : Hid (Below w.heap.size w V2) := Lib.hid (by rw [← HV2.out]; exact B2.out.alloc B2.out.size _)
 clear b2
 go_wp2_with (refine wpL_store_row rfl 23 _ _ rfl w2.heap.size u0.cells.toArray ?_ ?_ 23 u0.cells.toArray ?_ ?_ ?_ ?_ ?_; exact rfl; exact rfl; exact heap_alloc_new w2 _; exact infoU; exact rfl; exact u0_one; rw [World.setRow_alloc_new, HV2.out])
 refine (show Calls Tryz.prog 7 #[.string c_portS, .agg u0.cells.toArray, .bool false] V2 _ from P3.out V2 BV2.out).mono ?_
 rintro e w3 ⟨rfl, b3⟩
 have B3 : Hid (Below w.heap.size w w3) := Lib.hid (us_keep BV2.out b3)
 obtain ⟨V3, HV3⟩ : ∃ W, Hid (w3.alloc (.cells u0.cells.toArray 23) = W) := ⟨_, Lib.hid rfl⟩
 have BV3 : Hid (Below w.heap.size w V3) := Lib.hid (by rw [← HV3.out]; exact B3.out.alloc B3.out.size _)
 clear b3
 go_wp2_with (refine wpL_store_row rfl 23 _ _ rfl w3.heap.size u0.cells.toArray ?_ ?_ 23 u0.cells.toArray ?_ ?_ ?_ ?_ ?_; exact rfl; exact rfl; exact heap_alloc_new w3 _; exact infoU; exact rfl; exact u0_one; rw [World.setRow_alloc_new, HV3.out])
 refine (show Calls Tryz.prog 7 #[.string c_noneS, .agg u0.cells.toArray, .bool false] V3 _ from P4.out V3 BV3.out).mono ?_
 rintro e w4 ⟨rfl, b4⟩
 have B4 : Hid (Below w.heap.size w w4) := Lib.hid (us_keep BV3.out b4)
 obtain ⟨V4, HV4⟩ : ∃ W, Hid (w4.alloc (.cells u0.cells.toArray 23) = W) := ⟨_, Lib.hid rfl⟩
 have BV4 : Hid (Below w.heap.size w V4) := Lib.hid (by rw [← HV4.out]; exact B4.out.alloc B4.out.size _)
 clear b4
 go_wp2_with (refine wpL_store_row rfl 23 _ _ rfl w4.heap.size u0.cells.toArray ?_ ?_ 23 u0.cells.toArray ?_ ?_ ?_ ?_ ?_; exact rfl; exact rfl; exact heap_alloc_new w4 _; exact infoU; exact rfl; exact u0_one; rw [World.setRow_alloc_new, HV4.out])
 refine (show Calls Tryz.prog 13 #[.string c_longS, .string c_emptyS, .string (⟨#[104, 116, 116, 112, 58, 47, 47, 85, 115, 101, 114, 64, 101, 120, 97, 109, 112, 108, 101, 46, 99, 111, 109, 47, 97, 47, 99, 63, 120, 35, 121]⟩ : ByteArray)] V4 _ from I0.out V4 BV4.out).mono ?_
 rintro e x0 ⟨rfl, b0⟩
 have X0 : Hid (Below w.heap.size w x0) := Lib.hid (us_keep BV4.out b0)
 clear b0
 go_wp2_with fail
 refine (show Calls Tryz.prog 13 #[.string s_gS, .string c_bS, .string (⟨#[104, 116, 116, 112, 58, 47, 47, 97, 47, 98, 47, 99, 47, 103]⟩ : ByteArray)] x0 _ from I1.out x0 X0.out).mono ?_
 rintro e x1 ⟨rfl, b1⟩
 have X1 : Hid (Below w.heap.size w x1) := Lib.hid (us_keep X0.out b1)
 clear b1
 go_wp2_with fail
 refine (show Calls Tryz.prog 13 #[.string s_upS, .string c_bS, .string (⟨#[104, 116, 116, 112, 58, 47, 47, 97, 47, 103]⟩ : ByteArray)] x1 _ from I2.out x1 X1.out).mono ?_
 rintro e x2 ⟨rfl, b2⟩
 have X2 : Hid (Below w.heap.size w x2) := Lib.hid (us_keep X1.out b2)
 clear b2
 go_wp2_with fail
 refine (show Calls Tryz.prog 13 #[.string s_qS, .string c_bS, .string (⟨#[104, 116, 116, 112, 58, 47, 47, 97, 47, 98, 47, 99, 47, 100, 59, 112, 63, 121]⟩ : ByteArray)] x2 _ from I3.out x2 X2.out).mono ?_
 rintro e x3 ⟨rfl, b3⟩
 have X3 : Hid (Below w.heap.size w x3) := Lib.hid (us_keep X2.out b3)
 clear b3
 go_wp2_with fail
 refine (show Calls Tryz.prog 13 #[.string s_slS, .string c_bS, .string (⟨#[104, 116, 116, 112, 58, 47, 47, 103, 47]⟩ : ByteArray)] x3 _ from I4.out x3 X3.out).mono ?_
 rintro e x4 ⟨rfl, b4⟩
 have X4 : Hid (Below w.heap.size w x4) := Lib.hid (us_keep X3.out b4)
 clear b4
 go_wp2_with fail
 refine (show Calls Tryz.prog 13 #[.string s_eS, .string c_bS, .string (⟨#[104, 116, 116, 112, 58, 47, 47, 97, 47, 98, 47, 99, 47, 100, 59, 112, 63, 113]⟩ : ByteArray)] x4 _ from I5.out x4 X4.out).mono ?_
 rintro e x5 ⟨rfl, b5⟩
 have X5 : Hid (Below w.heap.size w x5) := Lib.hid (us_keep X4.out b5)
 clear b5
 go_wp2_with fail
 refine (show Calls Tryz.prog 13 #[.string c_hS, .string c_emptyS, .string (⟨#[104, 116, 116, 112, 58, 47, 47, 104, 47]⟩ : ByteArray)] x5 _ from I6.out x5 X5.out).mono ?_
 rintro e x6 ⟨rfl, b6⟩
 have X6 : Hid (Below w.heap.size w x6) := Lib.hid (us_keep X5.out b6)
 clear b6
 go_wp2_with fail
 refine (show Calls Tryz.prog 13 #[.string s_yS, .string c_bS, .string (⟨#[104, 116, 116, 112, 58, 47, 47, 97, 47, 98, 47, 99, 47, 121]⟩ : ByteArray)] x6 _ from I7.out x6 X6.out).mono ?_
 rintro e x7 ⟨rfl, b7⟩
 have X7 : Hid (Below w.heap.size w x7) := Lib.hid (us_keep X6.out b7)
 clear b7
 go_wp2
 go_ret
 exact ⟨rfl, X7.out⟩

end Go.Proofs.YtcphokaamkalfaaGreatDoor
