/-
  The walk of SitesOrigin.
-/
import Derived.Test.YtldddgmhmolohaaGreatDoorMtA
import Derived.Test.YtldddgmhmolohaaGreatDoorMuG
namespace Go.Proofs.YtldddgmhmolohaaGreatDoor
open Go.RowKit

theorem org_data {u : UrS} (h : ckT u = true) : (orgT u).data.toList = u.sch.data.toList ++ 58 :: 47 :: 47 :: (u.hst.data.toList ++ ptL u) := by
  unfold orgT ptL
  rw [if_pos h]
  split
  · simp only [app_data, List.append_assoc]; rfl
  · simp only [app_data, List.append_assoc, List.append_nil]; rfl
theorem org_eq {u v : UrS} (hu : ckT u = true) (hv : ckT v = true) (hs : u.sch = v.sch) (hh : u.hst = v.hst) : decide (orgT u = orgT v) = decide (u.prt = v.prt) := by
  have gu := (ck_made hu).prt
  have gv := (ck_made hv).prt
  rw [Bool.eq_iff_iff, decide_eq_true_eq, decide_eq_true_eq]
  constructor
  · intro e
    have e2 := congrArg (fun x : ByteArray => x.data.toList) e
    rw [org_data hu, org_data hv, hs, hh] at e2
    have e3 := List.append_cancel_left e2
    simp only [List.cons.injEq, true_and] at e3
    exact pt_inj ⟨gu.1, gu.2.1⟩ ⟨gv.1, gv.2.1⟩ (List.append_cancel_left e3)
  · intro e
    refine ba_of ?_
    rw [org_data hu, org_data hv, hs, hh]
    unfold ptL
    rw [e]
theorem same_yes {u v : UrS} (hu : ckT u = true) (hv : ckT v = true) (hs : u.sch = v.sch) (hh : u.hst = v.hst) : same9 [] u v = true := by
  unfold same9
  rw [sameP_iff]
  exact ⟨by decide +kernel, hu, hv, hs, .inl hh⟩
theorem same_no {R : List ByteArray} {u v : UrS} (hu : ckT u = false) : same9 R u v = false := by
  unfold same9 sameP
  rw [hu, Bool.false_and, Bool.and_false]
theorem tx_nil (w : World) : TxAt [] none 0 0 w := ⟨fun h => absurd h (Nat.lt_irrefl 0), fun j h => absurd h (Nat.not_lt_zero j)⟩
theorem same0_any (u v : UrS) (w : World) (hU : Sm u) (hV : Sm v) (hu : u.hst.size ≤ 1000) (hv : v.hst.size ≤ 1000) (hW : Uw w) :
    Calls Tryz.prog 12 #[.slice none 0 0, .agg u.cells.toArray, .agg v.cells.toArray] w fun e w' => e = .returned (.bool (same9 [] u v)) ∧ Below w.heap.size w w' :=
  Same9_any [] none 0 0 0 u v w (tx_nil w) (by decide) (fun r h => by cases h) hU hV (fun _ => hu) (fun _ => hv) hW
theorem url_set {W : World} {g k : Nat} {A A' : UrS} {v : Value} (h : W.heap[g]? = some (.cells A.cells.toArray 24 (0, 0))) (e : A.cells.toArray.setIfInBounds k v = A'.cells.toArray) : (W.setCell ⟨g, k, none⟩ v).heap[g]? = some (.cells A'.cells.toArray 24 (0, 0)) := by
  rw [heap_setCell_same _ _ _ _ _ _ h, e]
theorem url_cell {W : World} {g k : Nat} {A : UrS} {v : Value} (h : W.heap[g]? = some (.cells A.cells.toArray 24 (0, 0))) (e : A.cells.toArray[k]? = some v) : W.cell? ⟨g, k, none⟩ = some v := by
  rw [cell_of_row W _ _ _ _ _ h, e]
theorem url_free {W : World} {g : Nat} {A : UrS} (h : W.heap[g]? = some (.cells A.cells.toArray 24 (0, 0))) (k : Nat) : W.frozen? ⟨g, k, none⟩ = false := frozen_of_row W g k _ _ h
theorem sm_other {u : UrS} (h : Sm u) : Sm (otherV u) := ⟨h.h0, (by decide : (⟨#[117]⟩ : ByteArray).size ≤ 9000000), (by decide : (⟨#[112]⟩ : ByteArray).size ≤ 9000000), h.h3, (by decide : (⟨#[47, 120]⟩ : ByteArray).size ≤ 9000000), (by decide : (⟨#[113]⟩ : ByteArray).size ≤ 9000000), (by decide : (⟨#[109]⟩ : ByteArray).size ≤ 9000000), h.h7⟩
theorem sm_port {u : UrS} (h : Sm u) {p : Int} (hp : p ≤ 65535) : Sm (withP u p) := ⟨h.h0, h.h1, h.h2, h.h3, h.h4, h.h5, h.h6, by show p ≤ _; omega⟩
theorem str_eq (a b : ByteArray) : (a.toList == b.toList) = decide (a = b) := by
  by_cases e : a = b
  · rw [e]; simp
  · rw [neL e, decide_eq_false e]
/-- What the statement asks of an address, decided. -/
theorem origin_facts {U : UrS} {p : Nat} (hp : p < 65536) (hb : bodyN U ≤ 3001) (h : ckT U = true) :
    (U.sch = ⟨#[104, 116, 116, 112]⟩ ∨ U.sch = ⟨#[104, 116, 116, 112, 115]⟩) ∧ same9 [] U (otherV U) = true ∧ orgT U = orgT (otherV U) ∧
    ((p : Int) = (ownP U.sch : Int) → orgT (withP U p) = ⟨#[110, 117, 108, 108]⟩) ∧
    ((p : Int) ≠ (ownP U.sch : Int) → same9 [] U (withP U p) = true ∧ decide (orgT U = orgT (withP U p)) = decide (U.prt = (p : Int))) := by
  have g := ck_made h
  have hv : ckT (otherV U) = true := g.other.may
  refine ⟨g.sch, same_yes h hv rfl rfl, ?_, fun e => ?_, fun e => ?_⟩
  · exact of_decide_eq_true ((org_eq h hv rfl rfl).trans (decide_eq_true rfl))
  · unfold orgT
    rw [not_port e, if_neg (by decide)]
  · have hw : ckT (withP U p) = true := (g.port hb (by omega) (by omega) e).may
    exact ⟨same_yes h hw rfl rfl, org_eq h hw rfl rfl⟩
set_option maxRecDepth 100000 in
set_option maxHeartbeats 8000000 in
theorem sorigin_walk (s : ByteArray) (p : Nat) (w : World) (hs : s.size ≤ 140737488351232) (hp : p < 65536) (hW : Uw w) :
    Calls Tryz.prog 8 #[.string s, .int .u16 (p : Int)] w fun e w' => e = .returned (.bool true) ∧ Below w.heap.size w w' := by
  have HAl : Hid (∀ w', Below w.heap.size w w' → Calls Tryz.prog 17 #[] w' fun e w'' => e = .returned (.bool true) ∧ Below w'.heap.size w' w'') := Lib.hid (fun w' hb => alive9_any w' (hW.later hb))
  by_cases hbg : 1000 < s.size
  · have hI : (1000 : Int) < (s.size : Int) := by omega
    go_enter Tryz.func8, Tryz.ntmps8
    go_wp2_with fail
    refine (HAl.out w (Below.refl _ _)).mono ?_
    rintro e w1 ⟨rfl, b1⟩
    have B1 := Lib.hid b1; clear b1
    go_wp2_with fail
    refine (HAl.out _ B1.out).mono ?_
    rintro e w2 ⟨rfl, b2⟩
    have B2 : Hid (Below w.heap.size w w2) := Lib.hid (keepW B1.out b2)
    clear b2
    go_wp2
    go_ret
    exact ⟨rfl, B2.out⟩
  have hsI : (s.size : Int) ≤ 1000 := by omega
  have hb := pa_len (s := s) (by omega)
  obtain ⟨hU, hUh⟩ := pa_sm s
  have CO : Hid (∀ w', Below w.heap.size w w' → Calls Tryz.prog 21 #[.string s] w' fun e w'' => e = .returned (.agg (paT s).1.cells.toArray) ∧ Below w'.heap.size w' w'') := Lib.hid (fun w' hb => of9_any s w' (hW.later hb))
  generalize (paT s).1 = U at hb hU hUh CO
  have HF := Lib.hid (fun h => origin_facts (p := p) hp hb h)
  have hV := sm_other hU
  have hE := sm_port (p := (p : Int)) hU (by omega)
  have CK : Hid (∀ w', Below w.heap.size w w' → Calls Tryz.prog 22 #[.agg U.cells.toArray] w' fun e w'' => e = .returned (.bool (ckT U)) ∧ Below w'.heap.size w' w'') := Lib.hid (fun w' hb => UCheck_any U w' hU (paOk _) (hW.later hb))
  have OU : Hid (∀ w', Below w.heap.size w w' → Calls Tryz.prog 14 #[.agg U.cells.toArray] w' fun e w'' => e = .returned (.string (orgT U)) ∧ Below w'.heap.size w' w'') := Lib.hid (fun w' hb => Origin_any U w' hU (hW.later hb))
  have OV : Hid (∀ w', Below w.heap.size w w' → Calls Tryz.prog 14 #[.agg (otherV U).cells.toArray] w' fun e w'' => e = .returned (.string (orgT (otherV U))) ∧ Below w'.heap.size w' w'') := Lib.hid (fun w' hb => Origin_any _ w' hV (hW.later hb))
  have OW : Hid (∀ w', Below w.heap.size w w' → Calls Tryz.prog 14 #[.agg (withP U p).cells.toArray] w' fun e w'' => e = .returned (.string (orgT (withP U p))) ∧ Below w'.heap.size w' w'') := Lib.hid (fun w' hb => Origin_any _ w' hE (hW.later hb))
  have SU : Hid (∀ w', Below w.heap.size w w' → Calls Tryz.prog 12 #[.slice none 0 0, .agg U.cells.toArray, .agg U.cells.toArray] w' fun e w'' => e = .returned (.bool (same9 [] U U)) ∧ Below w'.heap.size w' w'') := Lib.hid (fun w' hb => same0_any U U w' hU hU hUh hUh (hW.later hb))
  have SV : Hid (∀ w', Below w.heap.size w w' → Calls Tryz.prog 12 #[.slice none 0 0, .agg U.cells.toArray, .agg (otherV U).cells.toArray] w' fun e w'' => e = .returned (.bool (same9 [] U (otherV U))) ∧ Below w'.heap.size w' w'') := Lib.hid (fun w' hb => same0_any U _ w' hU hV hUh hUh (hW.later hb))
  have SW : Hid (∀ w', Below w.heap.size w w' → Calls Tryz.prog 12 #[.slice none 0 0, .agg U.cells.toArray, .agg (withP U p).cells.toArray] w' fun e w'' => e = .returned (.bool (same9 [] U (withP U p))) ∧ Below w'.heap.size w' w'') := Lib.hid (fun w' hb => same0_any U _ w' hU hE hUh hUh (hW.later hb))
  have hpI : IntKind.i64.wrap (p : Int) = (p : Int) := IntWalk.i64_in _ (by omega)
  obtain ⟨k, Hk⟩ : ∃ k, Hid (ckT U = k) := ⟨_, Lib.hid rfl⟩
  have HNo : Hid (ckT U = false → orgT U = ⟨#[110, 117, 108, 108]⟩ ∧ same9 [] U U = false) := Lib.hid (fun h => ⟨by unfold orgT; rw [h, if_neg (by decide)], same_no h⟩)
  have HIc : Hid ((Tryz.prog.info? 24).map (·.size) = some U.cells.toArray.size) := Lib.hid infoU
  have HId : Hid ((Tryz.prog.info? 24).map (·.size) = some (otherV U).cells.toArray.size) := Lib.hid infoU
  have HIe : Hid ((Tryz.prog.info? 24).map (·.size) = some (withP U p).cells.toArray.size) := Lib.hid infoU
  have HOc : Hid (U.cells.toArray.all (·.oneCell') = true) := Lib.hid (cells_one U)
  have HSc : Hid (u0.cells.toArray.size = U.cells.toArray.size) := Lib.hid rfl
  have HPr : Hid (U.cells.toArray[0]? = some (.string U.sch) ∧ U.cells.toArray[4]? = some (.int .i64 U.prt)) := Lib.hid ⟨rfl, rfl⟩
  have HQs := Lib.hid (str_eq (orgT U) (orgT (withP U p)))
  clear hU hUh hV hE hb hW
  rw [Hk.out] at CK HNo HF
  obtain ⟨su, Hsu⟩ : ∃ x, Hid (U.sch = x) := ⟨_, Lib.hid rfl⟩
  obtain ⟨pu, Hpu⟩ : ∃ x, Hid (U.prt = x) := ⟨_, Lib.hid rfl⟩
  obtain ⟨ou, Hou⟩ : ∃ x, Hid (orgT U = x) := ⟨_, Lib.hid rfl⟩
  obtain ⟨ov, Hov⟩ : ∃ x, Hid (orgT (otherV U) = x) := ⟨_, Lib.hid rfl⟩
  obtain ⟨ow, How⟩ : ∃ x, Hid (orgT (withP U p) = x) := ⟨_, Lib.hid rfl⟩
  obtain ⟨s1, Hs1⟩ : ∃ x, Hid (same9 [] U U = x) := ⟨_, Lib.hid rfl⟩
  obtain ⟨s2, Hs2⟩ : ∃ x, Hid (same9 [] U (otherV U) = x) := ⟨_, Lib.hid rfl⟩
  obtain ⟨s3, Hs3⟩ : ∃ x, Hid (same9 [] U (withP U p) = x) := ⟨_, Lib.hid rfl⟩
  rw [Hsu.out, Hpu.out] at HPr
  rw [Hsu.out, Hpu.out, Hou.out, Hov.out, How.out, Hs2.out, Hs3.out] at HF
  rw [Hou.out, Hs1.out] at HNo
  rw [Hou.out] at OU HQs
  rw [Hov.out] at OV
  rw [How.out] at OW HQs
  rw [Hs1.out] at SU
  rw [Hs2.out] at SV
  rw [Hs3.out] at SW
  clear Hk Hsu Hpu Hou Hov How Hs1 Hs2 Hs3
  obtain ⟨C, HC⟩ : ∃ C, Hid (U.cells.toArray = C) := ⟨_, Lib.hid rfl⟩
  obtain ⟨D, HD⟩ : ∃ C, Hid ((otherV U).cells.toArray = C) := ⟨_, Lib.hid rfl⟩
  obtain ⟨E, HE⟩ : ∃ C, Hid ((withP U p).cells.toArray = C) := ⟨_, Lib.hid rfl⟩
  rw [HC.out] at CO CK OU SU SV SW HIc HOc HSc HPr
  rw [HD.out] at OV SV HId
  rw [HE.out] at OW SW HIe
  go_enter Tryz.func8, Tryz.ntmps8
  go_wp2_with fail
  refine (HAl.out w (Below.refl _ _)).mono ?_
  rintro e w1 ⟨rfl, b1⟩
  have B1 := Lib.hid b1; clear b1
  go_wp2_with fail
  refine (CO.out _ B1.out).mono ?_
  rintro e w2 ⟨rfl, b2⟩
  have B2 : Hid (Below w.heap.size w w2) := Lib.hid (keepW B1.out b2)
  clear b2
  obtain ⟨W3, HW3⟩ : ∃ W, Hid (w2.alloc (.cells C 24) = W) := ⟨_, Lib.hid rfl⟩
  have B3 : Hid (Below w.heap.size w W3) := Lib.hid (by rw [← HW3.out]; exact B2.out.alloc B2.out.size _)
  have G3 : Hid (W3.heap[w2.heap.size]? = some (.cells C 24 (0, 0))) := Lib.hid (by rw [← HW3.out]; exact heap_alloc_new w2 _)
  have HN : Hid (w2.heap.size ≠ W3.heap.size) := Lib.hid (Nat.ne_of_lt (lt_of_block G3.out))
  have HL3 : Hid (w.heap.size ≤ W3.heap.size) := Lib.hid B3.out.size
  go_upto_region 4 with (first
    | (refine wpL_store_row rfl 24 _ _ rfl w2.heap.size C ?_ ?_ 24 u0.cells.toArray ?_ ?_ ?_ ?_ ?_; exact rfl; exact rfl; exact heap_alloc_new w2 _; exact HIc.out; exact HSc.out; exact HOc.out; rw [World.setRow_alloc_new, HW3.out]))
  obtain ⟨W4, HW4⟩ : ∃ W, Hid (W3.alloc (.cells C 24) = W) := ⟨_, Lib.hid rfl⟩
  have B4 : Hid (Below w.heap.size w W4) := Lib.hid (by rw [← HW4.out]; exact B3.out.alloc B3.out.size _)
  have G4 : Hid (W4.heap[w2.heap.size]? = some (.cells C 24 (0, 0))) := Lib.hid (by rw [← HW4.out]; exact ((Kp.refl (fun _ => False) _).alloc _).at G3.out id)
  have K4 : Hid (W4.heap[W3.heap.size]? = some (.cells U.cells.toArray 24 (0, 0))) := Lib.hid (by rw [← HW4.out, HC.out]; exact heap_alloc_new W3 _)
  go_upto_region 5 with (first
    | (refine wpList_load_row rfl 24 _ rfl w2.heap.size ?_ 24 C (0, 0) _ ?_ Tryz.underlying24 rfl HIc.out ?_; (exact rfl); (exact G3.out))
    | (refine wpL_store_row rfl 24 _ _ rfl W3.heap.size C ?_ ?_ 24 u0.cells.toArray ?_ ?_ ?_ ?_ ?_; exact rfl; exact rfl; exact heap_alloc_new W3 _; exact HIc.out; exact HSc.out; exact HOc.out; rw [World.setRow_alloc_new, HW4.out]))
  obtain ⟨U1, HU1⟩ : ∃ A, Hid (({ U with usr := ⟨#[117]⟩ } : UrS) = A) := ⟨_, Lib.hid rfl⟩
  have hc4 := url_cell (k := 1) K4.out rfl
  have hf4 := url_free K4.out 1
  obtain ⟨W5, HW5⟩ : ∃ W, Hid (W4.setCell ⟨W3.heap.size, 1, none⟩ (.string ⟨#[117]⟩) = W) := ⟨_, Lib.hid rfl⟩
  have B5 : Hid (Below w.heap.size w W5) := Lib.hid (by rw [← HW5.out]; exact B4.out.setCell HL3.out _)
  have G5 : Hid (W5.heap[w2.heap.size]? = some (.cells C 24 (0, 0))) := Lib.hid (by rw [← HW5.out, heap_setCell_other _ _ _ _ HN.out]; exact G4.out)
  have K5 : Hid (W5.heap[W3.heap.size]? = some (.cells U1.cells.toArray 24 (0, 0))) := Lib.hid (by rw [← HW5.out, ← HU1.out]; exact url_set K4.out rfl)
  go_upto_region 6 with (fail)
  rw [HW5.out]
  clear hc4 hf4
  obtain ⟨U2, HU2⟩ : ∃ A, Hid (({ U1 with pas := ⟨#[112]⟩ } : UrS) = A) := ⟨_, Lib.hid rfl⟩
  have hc5 := url_cell (k := 2) K5.out rfl
  have hf5 := url_free K5.out 2
  obtain ⟨W6, HW6⟩ : ∃ W, Hid (W5.setCell ⟨W3.heap.size, 2, none⟩ (.string ⟨#[112]⟩) = W) := ⟨_, Lib.hid rfl⟩
  have B6 : Hid (Below w.heap.size w W6) := Lib.hid (by rw [← HW6.out]; exact B5.out.setCell HL3.out _)
  have G6 : Hid (W6.heap[w2.heap.size]? = some (.cells C 24 (0, 0))) := Lib.hid (by rw [← HW6.out, heap_setCell_other _ _ _ _ HN.out]; exact G5.out)
  have K6 : Hid (W6.heap[W3.heap.size]? = some (.cells U2.cells.toArray 24 (0, 0))) := Lib.hid (by rw [← HW6.out, ← HU2.out]; exact url_set K5.out rfl)
  go_upto_region 7 with (fail)
  rw [HW6.out]
  clear hc5 hf5
  obtain ⟨U3, HU3⟩ : ∃ A, Hid (({ U2 with pth := ⟨#[47, 120]⟩ } : UrS) = A) := ⟨_, Lib.hid rfl⟩
  have hc6 := url_cell (k := 5) K6.out rfl
  have hf6 := url_free K6.out 5
  obtain ⟨W7, HW7⟩ : ∃ W, Hid (W6.setCell ⟨W3.heap.size, 5, none⟩ (.string ⟨#[47, 120]⟩) = W) := ⟨_, Lib.hid rfl⟩
  have B7 : Hid (Below w.heap.size w W7) := Lib.hid (by rw [← HW7.out]; exact B6.out.setCell HL3.out _)
  have G7 : Hid (W7.heap[w2.heap.size]? = some (.cells C 24 (0, 0))) := Lib.hid (by rw [← HW7.out, heap_setCell_other _ _ _ _ HN.out]; exact G6.out)
  have K7 : Hid (W7.heap[W3.heap.size]? = some (.cells U3.cells.toArray 24 (0, 0))) := Lib.hid (by rw [← HW7.out, ← HU3.out]; exact url_set K6.out rfl)
  go_upto_region 8 with (fail)
  rw [HW7.out]
  clear hc6 hf6
  obtain ⟨U4, HU4⟩ : ∃ A, Hid (({ U3 with qry := ⟨#[113]⟩ } : UrS) = A) := ⟨_, Lib.hid rfl⟩
  have hc7 := url_cell (k := 6) K7.out rfl
  have hf7 := url_free K7.out 6
  obtain ⟨W8, HW8⟩ : ∃ W, Hid (W7.setCell ⟨W3.heap.size, 6, none⟩ (.string ⟨#[113]⟩) = W) := ⟨_, Lib.hid rfl⟩
  have B8 : Hid (Below w.heap.size w W8) := Lib.hid (by rw [← HW8.out]; exact B7.out.setCell HL3.out _)
  have G8 : Hid (W8.heap[w2.heap.size]? = some (.cells C 24 (0, 0))) := Lib.hid (by rw [← HW8.out, heap_setCell_other _ _ _ _ HN.out]; exact G7.out)
  have K8 : Hid (W8.heap[W3.heap.size]? = some (.cells U4.cells.toArray 24 (0, 0))) := Lib.hid (by rw [← HW8.out, ← HU4.out]; exact url_set K7.out rfl)
  go_upto_region 9 with (fail)
  rw [HW8.out]
  clear hc7 hf7
  obtain ⟨U5, HU5⟩ : ∃ A, Hid (({ U4 with hq := true } : UrS) = A) := ⟨_, Lib.hid rfl⟩
  have hc8 := url_cell (k := 7) K8.out rfl
  have hf8 := url_free K8.out 7
  obtain ⟨W9, HW9⟩ : ∃ W, Hid (W8.setCell ⟨W3.heap.size, 7, none⟩ (.bool true) = W) := ⟨_, Lib.hid rfl⟩
  have B9 : Hid (Below w.heap.size w W9) := Lib.hid (by rw [← HW9.out]; exact B8.out.setCell HL3.out _)
  have G9 : Hid (W9.heap[w2.heap.size]? = some (.cells C 24 (0, 0))) := Lib.hid (by rw [← HW9.out, heap_setCell_other _ _ _ _ HN.out]; exact G8.out)
  have K9 : Hid (W9.heap[W3.heap.size]? = some (.cells U5.cells.toArray 24 (0, 0))) := Lib.hid (by rw [← HW9.out, ← HU5.out]; exact url_set K8.out rfl)
  go_upto_region 10 with (fail)
  rw [HW9.out]
  clear hc8 hf8
  obtain ⟨U6, HU6⟩ : ∃ A, Hid (({ U5 with mrk := ⟨#[109]⟩ } : UrS) = A) := ⟨_, Lib.hid rfl⟩
  have hc9 := url_cell (k := 8) K9.out rfl
  have hf9 := url_free K9.out 8
  obtain ⟨W10, HW10⟩ : ∃ W, Hid (W9.setCell ⟨W3.heap.size, 8, none⟩ (.string ⟨#[109]⟩) = W) := ⟨_, Lib.hid rfl⟩
  have B10 : Hid (Below w.heap.size w W10) := Lib.hid (by rw [← HW10.out]; exact B9.out.setCell HL3.out _)
  have G10 : Hid (W10.heap[w2.heap.size]? = some (.cells C 24 (0, 0))) := Lib.hid (by rw [← HW10.out, heap_setCell_other _ _ _ _ HN.out]; exact G9.out)
  have K10 : Hid (W10.heap[W3.heap.size]? = some (.cells U6.cells.toArray 24 (0, 0))) := Lib.hid (by rw [← HW10.out, ← HU6.out]; exact url_set K9.out rfl)
  go_upto_region 11 with (fail)
  rw [HW10.out]
  clear hc9 hf9
  obtain ⟨U7, HU7⟩ : ∃ A, Hid (({ U6 with hm := true } : UrS) = A) := ⟨_, Lib.hid rfl⟩
  have hc10 := url_cell (k := 9) K10.out rfl
  have hf10 := url_free K10.out 9
  obtain ⟨W11, HW11⟩ : ∃ W, Hid (W10.setCell ⟨W3.heap.size, 9, none⟩ (.bool true) = W) := ⟨_, Lib.hid rfl⟩
  have B11 : Hid (Below w.heap.size w W11) := Lib.hid (by rw [← HW11.out]; exact B10.out.setCell HL3.out _)
  have G11 : Hid (W11.heap[w2.heap.size]? = some (.cells C 24 (0, 0))) := Lib.hid (by rw [← HW11.out, heap_setCell_other _ _ _ _ HN.out]; exact G10.out)
  have K11 : Hid (W11.heap[W3.heap.size]? = some (.cells U7.cells.toArray 24 (0, 0))) := Lib.hid (by rw [← HW11.out, ← HU7.out]; exact url_set K10.out rfl)
  go_upto_region 12 with (fail)
  rw [HW11.out]
  clear hc10 hf10
  have KD : Hid (W11.heap[W3.heap.size]? = some (.cells D 24 (0, 0))) := Lib.hid (by
    have e : U7 = otherV U := by rw [← HU7.out, ← HU6.out, ← HU5.out, ← HU4.out, ← HU3.out, ← HU2.out, ← HU1.out]; rfl
    rw [← HD.out, ← e]; exact K11.out)
  obtain ⟨W12, HW12⟩ : ∃ W, Hid (W11.alloc (.cells C 24) = W) := ⟨_, Lib.hid rfl⟩
  have B12 : Hid (Below w.heap.size w W12) := Lib.hid (by rw [← HW12.out]; exact B11.out.alloc B11.out.size _)
  have G12 : Hid (W12.heap[w2.heap.size]? = some (.cells C 24 (0, 0))) := Lib.hid (by rw [← HW12.out]; exact ((Kp.refl (fun _ => False) _).alloc _).at G11.out id)
  have D12 : Hid (W12.heap[W3.heap.size]? = some (.cells D 24 (0, 0))) := Lib.hid (by rw [← HW12.out]; exact ((Kp.refl (fun _ => False) _).alloc _).at KD.out id)
  have E12 : Hid (W12.heap[W11.heap.size]? = some (.cells U.cells.toArray 24 (0, 0))) := Lib.hid (by rw [← HW12.out, HC.out]; exact heap_alloc_new W11 _)
  have HN2 : Hid (w2.heap.size ≠ W11.heap.size ∧ W3.heap.size ≠ W11.heap.size) := Lib.hid ⟨Nat.ne_of_lt (lt_of_block G11.out), Nat.ne_of_lt (lt_of_block KD.out)⟩
  have HL11 : Hid (w.heap.size ≤ W11.heap.size) := Lib.hid B11.out.size
  go_upto_region 13 with (first
    | (refine wpList_load_row rfl 24 _ rfl w2.heap.size ?_ 24 C (0, 0) _ ?_ Tryz.underlying24 rfl HIc.out ?_; (exact rfl); (exact G11.out))
    | (refine wpL_store_row rfl 24 _ _ rfl W11.heap.size C ?_ ?_ 24 u0.cells.toArray ?_ ?_ ?_ ?_ ?_; exact rfl; exact rfl; exact heap_alloc_new W11 _; exact HIc.out; exact HSc.out; exact HOc.out; rw [World.setRow_alloc_new, HW12.out]))
  have hc12 := url_cell (k := 4) E12.out rfl
  have hf12 := url_free E12.out 4
  obtain ⟨W13, HW13⟩ : ∃ W, Hid (W12.setCell ⟨W11.heap.size, 4, none⟩ (.int .i64 (p : Int)) = W) := ⟨_, Lib.hid rfl⟩
  have B13 : Hid (Below w.heap.size w W13) := Lib.hid (by rw [← HW13.out]; exact B12.out.setCell HL11.out _)
  have G13 : Hid (W13.heap[w2.heap.size]? = some (.cells C 24 (0, 0))) := Lib.hid (by rw [← HW13.out, heap_setCell_other _ _ _ _ HN2.out.1]; exact G12.out)
  have D13 : Hid (W13.heap[W3.heap.size]? = some (.cells D 24 (0, 0))) := Lib.hid (by rw [← HW13.out, heap_setCell_other _ _ _ _ HN2.out.2]; exact D12.out)
  have E13 : Hid (W13.heap[W11.heap.size]? = some (.cells E 24 (0, 0))) := Lib.hid (by rw [← HW13.out, ← HE.out]; exact url_set E12.out rfl)
  go_upto_region 14 with (fail)
  rw [HW13.out]
  clear hc12 hf12
  go_wp2_with (refine wpList_load_row rfl 24 _ rfl w2.heap.size ?_ 24 C (0, 0) _ ?_ Tryz.underlying24 rfl HIc.out ?_; (exact rfl); (exact G13.out))
  refine (CK.out W13 B13.out).mono ?_
  rintro e w14 ⟨rfl, b14⟩
  have B14 : Hid (Below w.heap.size w w14) := Lib.hid (keepW B13.out b14)
  have G14 : Hid (w14.heap[w2.heap.size]? = some (.cells C 24 (0, 0))) := Lib.hid ((b14.block _ (lt_of_block G13.out)).trans G13.out)
  have D14 : Hid (w14.heap[W3.heap.size]? = some (.cells D 24 (0, 0))) := Lib.hid ((b14.block _ (lt_of_block D13.out)).trans D13.out)
  have E14 : Hid (w14.heap[W11.heap.size]? = some (.cells E 24 (0, 0))) := Lib.hid ((b14.block _ (lt_of_block E13.out)).trans E13.out)
  clear b14
  cases k
  · obtain ⟨n1, n2⟩ := HNo.out rfl
    subst n1 n2
    clear HF HNo
    go_wp2_with (refine wpList_load_row rfl 24 _ rfl w2.heap.size ?_ 24 C (0, 0) _ ?_ Tryz.underlying24 rfl HIc.out ?_; (exact rfl); (exact G14.out))
    refine (OU.out w14 B14.out).mono ?_
    rintro e w15 ⟨rfl, b15⟩
    have B15 : Hid (Below w.heap.size w w15) := Lib.hid (keepW B14.out b15)
    have G15 : Hid (w15.heap[w2.heap.size]? = some (.cells C 24 (0, 0))) := Lib.hid ((b15.block _ (lt_of_block G14.out)).trans G14.out)
    clear b15
    go_wp2_with (refine wpW_load_row rfl 24 _ rfl w2.heap.size ?_ 24 C (0, 0) _ ?_ Tryz.underlying24 rfl HIc.out ?_; (exact rfl); (exact G15.out))
    refine (SU.out w15 B15.out).mono ?_
    rintro e w16 ⟨rfl, b16⟩
    have B16 : Hid (Below w.heap.size w w16) := Lib.hid (keepW B15.out b16)
    clear b16
    go_wp2
    go_ret
    exact ⟨rfl, B16.out⟩
  obtain ⟨f1, f2, f3, f4, f5⟩ := HF.out rfl
  subst f2 f3
  have H4 := Lib.hid f4
  have H5 := Lib.hid f5
  clear HF HNo f4 f5
  have eo : (ou.toList == ou.toList) = true := beq_self_eq_true _
  have QV : Hid (∀ q : BW w14, Calls Tryz.prog 12 #[.slice none 0 0, .agg C, .agg D] q.w fun e w'' => e = .returned (.bool true) ∧ Below q.w.heap.size q.w w'') := Lib.hid (fun q => SV.out q.w (keepW B14.out q.h))
  have QU : Hid (∀ q : BW w14, Calls Tryz.prog 14 #[.agg C] q.w fun e w'' => e = .returned (.string ou) ∧ Below q.w.heap.size q.w w'') := Lib.hid (fun q => OU.out q.w (keepW B14.out q.h))
  have QO : Hid (∀ q : BW w14, Calls Tryz.prog 14 #[.agg D] q.w fun e w'' => e = .returned (.string ou) ∧ Below q.w.heap.size q.w w'') := Lib.hid (fun q => OV.out q.w (keepW B14.out q.h))
  go_wp2
  refine bw_region (by kernel_rfl) (by kernel_rfl) ?_
  repeat (first
    | (refine bw_load rfl 24 _ rfl w2.heap.size C ?_ 24 (0, 0) _ ?_ Tryz.underlying24 rfl HIc.out ?_; (exact rfl); (intro w hw; obtain ⟨p, rfl⟩ := hw; exact BW.at G14.out p))
    | (refine bw_load rfl 24 _ rfl W3.heap.size D ?_ 24 (0, 0) _ ?_ Tryz.underlying24 rfl HId.out ?_; (exact rfl); (intro w hw; obtain ⟨p, rfl⟩ := hw; exact BW.at D14.out p))
    | (quiet_step ((first
      | (with_reducible exact Calls.bw_of (QV.out _))
      | (with_reducible exact Calls.bw_of (QU.out _))
      | (with_reducible exact Calls.bw_of (QO.out _))))))
  refine wpQuiet_nil ?_
  intro w15 hw'
  have b15 : Below w14.heap.size w14 w15 := by obtain ⟨q, hq⟩ := hw'; rw [hq]; exact q.h
  clear hw'
  have B15 : Hid (Below w.heap.size w w15) := Lib.hid (keepW B14.out b15)
  have G15 : Hid (w15.heap[w2.heap.size]? = some (.cells C 24 (0, 0))) := Lib.hid ((b15.block _ (lt_of_block G14.out)).trans G14.out)
  have E15 : Hid (w15.heap[W11.heap.size]? = some (.cells E 24 (0, 0))) := Lib.hid ((b15.block _ (lt_of_block E14.out)).trans E14.out)
  have c0 : w15.cell? ⟨w2.heap.size, 0, none⟩ = some (.string su) := by rw [cell_of_row w15 _ _ _ _ _ G15.out]; exact HPr.out.1
  have Q4 : Hid (∀ q : BW w15, q.w.cell? ⟨w2.heap.size, 4, none⟩ = some (.int .i64 pu)) := Lib.hid (fun q => (BW.cell G15.out q 4).trans HPr.out.2)
  clear b15
  rcases f1 with rfl | rfl
  · by_cases ho : p = 80
    · have hn := H4.out (by rw [ho]; decide)
      have hb1 : ((p : Int) == 80) = true := by rw [ho]; rfl
      clear H4 H5 ho
      clear Q4 HQs
      subst hn
      go_wp2_with (refine wpList_load_row rfl 24 _ rfl W11.heap.size ?_ 24 E (0, 0) _ ?_ Tryz.underlying24 rfl HIe.out ?_; (exact rfl); (exact E15.out))
      refine (OW.out w15 B15.out).mono ?_
      rintro e w16 ⟨rfl, b16⟩
      have B16 : Hid (Below w.heap.size w w16) := Lib.hid (keepW B15.out b16)
      clear b16
      go_wp2
      go_ret
      exact ⟨rfl, B16.out⟩
    · have h5 := H5.out (by rw [show ownP ⟨#[104, 116, 116, 112]⟩ = 80 by decide]; omega)
      have hb1 : ((p : Int) == 80) = false := beq_eq_false_iff_ne.2 (by omega)
      clear H4 H5 ho
      obtain ⟨h5a, h5b⟩ := h5
      subst h5a
      have hq5 := HQs.out
      rw [h5b] at hq5
      have hq6 : (pu == (p : Int)) = decide (pu = (p : Int)) := by rw [Bool.eq_iff_iff, beq_iff_eq, decide_eq_true_eq]
      obtain ⟨d, Hd⟩ : ∃ d, Hid (decide (pu = (p : Int)) = d) := ⟨_, Lib.hid rfl⟩
      rw [Hd.out] at hq5 hq6
      have q4 := Q4.out
      have QW : Hid (∀ q : BW w15, Calls Tryz.prog 12 #[.slice none 0 0, .agg C, .agg E] q.w fun e w'' => e = .returned (.bool true) ∧ Below q.w.heap.size q.w w'') := Lib.hid (fun q => SW.out q.w (keepW B15.out q.h))
      have QU2 : Hid (∀ q : BW w15, Calls Tryz.prog 14 #[.agg C] q.w fun e w'' => e = .returned (.string ou) ∧ Below q.w.heap.size q.w w'') := Lib.hid (fun q => OU.out q.w (keepW B15.out q.h))
      have QW2 : Hid (∀ q : BW w15, Calls Tryz.prog 14 #[.agg E] q.w fun e w'' => e = .returned (.string ow) ∧ Below q.w.heap.size q.w w'') := Lib.hid (fun q => OW.out q.w (keepW B15.out q.h))
      clear h5b Q4 HQs Hd
      go_wp2
      refine bw_region (by kernel_rfl) (by kernel_rfl) ?_
      repeat (first
        | (refine bw_load rfl 24 _ rfl w2.heap.size C ?_ 24 (0, 0) _ ?_ Tryz.underlying24 rfl HIc.out ?_; (exact rfl); (intro w hw; obtain ⟨p, rfl⟩ := hw; exact BW.at G15.out p))
        | (refine bw_load rfl 24 _ rfl W11.heap.size E ?_ 24 (0, 0) _ ?_ Tryz.underlying24 rfl HIe.out ?_; (exact rfl); (intro w hw; obtain ⟨p, rfl⟩ := hw; exact BW.at E15.out p))
        | (quiet_step ((first
          | (with_reducible exact Calls.bw_of (QW.out _))
          | (with_reducible exact Calls.bw_of (QU2.out _))
          | (with_reducible exact Calls.bw_of (QW2.out _))))))
      refine wpQuiet_nil ?_
      intro w16 hw'
      have b16 : Below w15.heap.size w15 w16 := by obtain ⟨q, hq⟩ := hw'; rw [hq]; exact q.h
      clear hw'
      have B16 : Hid (Below w.heap.size w w16) := Lib.hid (keepW B15.out b16)
      clear b16
      go_wp2
      go_ret
      exact ⟨ret_bool (by cases d <;> rfl), B16.out⟩
  · by_cases ho : p = 443
    · have hn := H4.out (by rw [ho]; decide)
      have hb1 : ((p : Int) == 443) = true := by rw [ho]; rfl
      clear H4 H5 ho
      clear Q4 HQs
      subst hn
      go_wp2_with (refine wpList_load_row rfl 24 _ rfl W11.heap.size ?_ 24 E (0, 0) _ ?_ Tryz.underlying24 rfl HIe.out ?_; (exact rfl); (exact E15.out))
      refine (OW.out w15 B15.out).mono ?_
      rintro e w16 ⟨rfl, b16⟩
      have B16 : Hid (Below w.heap.size w w16) := Lib.hid (keepW B15.out b16)
      clear b16
      go_wp2
      go_ret
      exact ⟨rfl, B16.out⟩
    · have h5 := H5.out (by rw [show ownP ⟨#[104, 116, 116, 112, 115]⟩ = 443 by decide]; omega)
      have hb1 : ((p : Int) == 443) = false := beq_eq_false_iff_ne.2 (by omega)
      clear H4 H5 ho
      obtain ⟨h5a, h5b⟩ := h5
      subst h5a
      have hq5 := HQs.out
      rw [h5b] at hq5
      have hq6 : (pu == (p : Int)) = decide (pu = (p : Int)) := by rw [Bool.eq_iff_iff, beq_iff_eq, decide_eq_true_eq]
      obtain ⟨d, Hd⟩ : ∃ d, Hid (decide (pu = (p : Int)) = d) := ⟨_, Lib.hid rfl⟩
      rw [Hd.out] at hq5 hq6
      have q4 := Q4.out
      have QW : Hid (∀ q : BW w15, Calls Tryz.prog 12 #[.slice none 0 0, .agg C, .agg E] q.w fun e w'' => e = .returned (.bool true) ∧ Below q.w.heap.size q.w w'') := Lib.hid (fun q => SW.out q.w (keepW B15.out q.h))
      have QU2 : Hid (∀ q : BW w15, Calls Tryz.prog 14 #[.agg C] q.w fun e w'' => e = .returned (.string ou) ∧ Below q.w.heap.size q.w w'') := Lib.hid (fun q => OU.out q.w (keepW B15.out q.h))
      have QW2 : Hid (∀ q : BW w15, Calls Tryz.prog 14 #[.agg E] q.w fun e w'' => e = .returned (.string ow) ∧ Below q.w.heap.size q.w w'') := Lib.hid (fun q => OW.out q.w (keepW B15.out q.h))
      clear h5b Q4 HQs Hd
      go_wp2
      refine bw_region (by kernel_rfl) (by kernel_rfl) ?_
      repeat (first
        | (refine bw_load rfl 24 _ rfl w2.heap.size C ?_ 24 (0, 0) _ ?_ Tryz.underlying24 rfl HIc.out ?_; (exact rfl); (intro w hw; obtain ⟨p, rfl⟩ := hw; exact BW.at G15.out p))
        | (refine bw_load rfl 24 _ rfl W11.heap.size E ?_ 24 (0, 0) _ ?_ Tryz.underlying24 rfl HIe.out ?_; (exact rfl); (intro w hw; obtain ⟨p, rfl⟩ := hw; exact BW.at E15.out p))
        | (quiet_step ((first
          | (with_reducible exact Calls.bw_of (QW.out _))
          | (with_reducible exact Calls.bw_of (QU2.out _))
          | (with_reducible exact Calls.bw_of (QW2.out _))))))
      refine wpQuiet_nil ?_
      intro w16 hw'
      have b16 : Below w15.heap.size w15 w16 := by obtain ⟨q, hq⟩ := hw'; rw [hq]; exact q.h
      clear hw'
      have B16 : Hid (Below w.heap.size w w16) := Lib.hid (keepW B15.out b16)
      clear b16
      go_wp2
      go_ret
      exact ⟨ret_bool (by cases d <;> rfl), B16.out⟩

end Go.Proofs.YtldddgmhmolohaaGreatDoor
