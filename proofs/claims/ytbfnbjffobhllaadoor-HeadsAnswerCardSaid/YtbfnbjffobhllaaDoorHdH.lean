/-
  Package heads: request, field.
-/
import Derived.Test.YtbfnbjffobhllaaDoorHdG
namespace Go.Proofs.YtbfnbjffobhllaaDoor
open Go.RowKit

set_option maxRecDepth 100000 in
set_option maxHeartbeats 8000000 in
theorem request_any (b : Nat) (l : List UInt8) (m : Int) (w : World) (hl : l.length ≤ 70000) (hm : MxAt m w) (hb : MsAt w b fst0 (.slice none 0 0)) :
    Calls Tryd.prog 58 #[.pointer (some ⟨b, 0, none⟩), .string (asB l)] w (FstR b w (reqD l)) := by
  have HC1 := Lib.hid (Cut_any l [32] m w (by omega) hm)
  have HC2 := Lib.hid fun n => Cut_any (Lib.cut l [32]).2.1 [32] m (w.drewN n) (by have := cut_le l [32]; omega) (hm.kp (kp_drewN (fun _ => False) w n) id)
  have hV := cut_len1 l [32]
  have hG := cut_len1 (Lib.cut l [32]).2.1 [32]
  have hR1 := cut_le l [32]
  have HT1 := Lib.hid fun w => Token_any (asB (resV l)) w (by rw [asB_size]; unfold maxLen resV; omega)
  have HG1 := Lib.hid fun w => isTarget_any (asB (resG l)) w (by rw [asB_size]; unfold maxLen resG; omega)
  have HB := Lib.hid hb
  have HRd : Hid (reqD l = if tokS (resV l) = true ∧ tgtB (resG l) = true ∧ resW l = http1 then some (resV l, resG l, 0) else none) := Lib.hid rfl
  rw [show Lib.cut l [32] = (resV l, (Lib.cut l [32]).2.1, (Lib.cut l [32]).2.2) from rfl] at HC1
  rw [show Lib.cut (Lib.cut l [32]).2.1 [32] = (resG l, resW l, (Lib.cut (Lib.cut l [32]).2.1 [32]).2.2) from rfl] at HC2
  obtain ⟨R, HR⟩ : ∃ R, Hid (reqD l = R) := ⟨_, Lib.hid rfl⟩
  rw [HR.out] at HRd ⊢
  obtain ⟨V, HV⟩ : ∃ V, Hid (resV l = V) := ⟨_, Lib.hid rfl⟩
  obtain ⟨G, HG⟩ : ∃ V, Hid (resG l = V) := ⟨_, Lib.hid rfl⟩
  obtain ⟨T, HT⟩ : ∃ V, Hid (resW l = V) := ⟨_, Lib.hid rfl⟩
  obtain ⟨r1, Hr1⟩ : ∃ V, Hid ((Lib.cut l [32]).2.1 = V) := ⟨_, Lib.hid rfl⟩
  rw [HV.out] at HC1 HRd HT1
  rw [HG.out] at HC2 HRd HG1
  rw [HT.out] at HC2 HRd
  rw [Hr1.out] at HC1 HC2
  obtain ⟨t, Ht⟩ : ∃ V', Hid (tokS V = V') := ⟨_, Lib.hid rfl⟩
  obtain ⟨g, Hg⟩ : ∃ V', Hid (tgtB G = V') := ⟨_, Lib.hid rfl⟩
  have HT2 : Hid (∀ w, Calls Tryd.prog 81 #[.string (asB V)] w fun e w' => e = .returned (.bool t) ∧ Below w.heap.size w w') := Lib.hid fun w => by
    have := HT1.out w
    rw [asB_data, Ht.out] at this
    exact this
  have HG2 : Hid (∀ w, Calls Tryd.prog 82 #[.string (asB G)] w fun e w' => e = .returned (.bool g) ∧ w = w') := Lib.hid fun w => by
    have := HG1.out w
    rw [asB_data, Hg.out] at this
    exact this
  rw [Ht.out, Hg.out] at HRd
  have hv1 : ((asB T).toList != [72, 84, 84, 80, 47, 49, 46, 49]) = decide (T ≠ http1) := by
    have := asB_ne T (asB http1)
    rw [Lib.toList_data (asB http1)] at this
    exact this
  have HV1 := Lib.hid hv1
  obtain ⟨tz, Htz⟩ : ∃ z, Hid (asB T = z) := ⟨_, Lib.hid rfl⟩
  rw [Htz.out] at HC2 HV1
  obtain ⟨vz, Hvz⟩ : ∃ z, Hid (asB V = z) := ⟨_, Lib.hid rfl⟩
  obtain ⟨gz, Hgz⟩ : ∃ z, Hid (asB G = z) := ⟨_, Lib.hid rfl⟩
  rw [Hvz.out] at HC1 HT2
  rw [Hgz.out] at HC2 HG2
  have HX : Hid (∀ n, MsAt (((w.drewN n).setCell ⟨b, 0, none⟩ (.string vz)).setCell ⟨b, 1, none⟩ (.string gz)) b (V, G, 0) (.slice none 0 0) ∧ Kp (Only b) w (((w.drewN n).setCell ⟨b, 0, none⟩ (.string vz)).setCell ⟨b, 1, none⟩ (.string gz))) := Lib.hid fun n => by
    rw [← Hvz.out, ← Hgz.out]
    exact ⟨ms_set01 (w := w.drewN n) HB.out V G, Kp.setCell (X := Only b) (Kp.setCell (X := Only b) (kp_drewN (Only b) w n) (p := ⟨b, 0, none⟩) rfl _) (p := ⟨b, 1, none⟩) rfl _⟩
  have c0 : ∀ n, (w.drewN n).cell? ⟨b, 0, none⟩ = some (.string (asB [])) := fun n => by rw [cell_of_row (w.drewN n) b 0 _ _ _ HB.out]; rfl
  have c1 : ∀ n, (w.drewN n).cell? ⟨b, 1, none⟩ = some (.string (asB [])) := fun n => by rw [cell_of_row (w.drewN n) b 1 _ _ _ HB.out]; rfl
  have f0 : ∀ n, (w.drewN n).frozen? ⟨b, 0, none⟩ = false := fun n => frozen_of_row (w.drewN n) b 0 _ _ HB.out
  have f1 : ∀ n, (w.drewN n).frozen? ⟨b, 1, none⟩ = false := fun n => frozen_of_row (w.drewN n) b 1 _ _ HB.out
  have C0 := Lib.hid c0
  have C1 := Lib.hid c1
  have F0 := Lib.hid f0
  have F1 := Lib.hid f1
  clear HT1 HG1 hV hG hR1 hl hb hv1 c0 c1 f0 f1
  cases t with
  | false =>
    have HRR : Hid (R = none) := Lib.hid (by rw [HRd.out, if_neg (fun h => by cases h.1)])
    rw [HRR.out]
    go_enter Tryd.func58, Tryd.ntmps58
    go_wp2_with fail
    refine HC1.out.mono ?_
    rintro e w1 ⟨rfl, q1, hq1⟩
    subst hq1
    go_wp2_with fail
    refine (HC2.out _).mono ?_
    rintro e w1 ⟨rfl, q2, hq2⟩
    subst hq2
    have c0 := C0.out (q1 + q2)
    have c1 := C1.out (q1 + q2)
    have f0 := F0.out (q1 + q2)
    have f1 := F1.out (q1 + q2)
    go_upto_region 4 with (fail)
    obtain ⟨hM, hK⟩ := HX.out (q1 + q2)
    generalize ((w.drewN (q1 + q2)).setCell ⟨b, 0, none⟩ (.string vz)).setCell ⟨b, 1, none⟩ (.string gz) = W3 at hM hK ⊢
    have HK3 := Lib.hid hK
    clear hM hK c0 c1 f0 f1
    go_wp2_with fail
    refine (HT2.out _).mono ?_
    rintro e w4 ⟨rfl, hb4⟩
    have HK4 := Lib.hid (HK3.out.trans (Kp.of_below hb4))
    clear hb4
    go_wp2
    go_ret
    exact ⟨rfl, HK4.out⟩
  | true =>
    cases g with
    | false =>
      have HRR : Hid (R = none) := Lib.hid (by rw [HRd.out, if_neg (fun h => by cases h.2.1)])
      rw [HRR.out]
      go_enter Tryd.func58, Tryd.ntmps58
      go_wp2_with fail
      refine HC1.out.mono ?_
      rintro e w1 ⟨rfl, q1, hq1⟩
      subst hq1
      go_wp2_with fail
      refine (HC2.out _).mono ?_
      rintro e w1 ⟨rfl, q2, hq2⟩
      subst hq2
      have c0 := C0.out (q1 + q2)
      have c1 := C1.out (q1 + q2)
      have f0 := F0.out (q1 + q2)
      have f1 := F1.out (q1 + q2)
      go_upto_region 4 with (fail)
      obtain ⟨hM, hK⟩ := HX.out (q1 + q2)
      generalize ((w.drewN (q1 + q2)).setCell ⟨b, 0, none⟩ (.string vz)).setCell ⟨b, 1, none⟩ (.string gz) = W3 at hM hK ⊢
      have HK3 := Lib.hid hK
      clear hM hK c0 c1 f0 f1
      go_wp2_with fail
      refine (HT2.out _).mono ?_
      rintro e w4 ⟨rfl, hb4⟩
      have HK4 := Lib.hid (HK3.out.trans (Kp.of_below hb4))
      clear hb4
      go_wp2_with fail
      refine (HG2.out _).mono ?_
      rintro e w5 ⟨rfl, rfl⟩
      go_wp2
      go_ret
      exact ⟨rfl, HK4.out⟩
    | true =>
      have hd : ∃ d, Hid (R = if d = true then some (V, G, 0) else none) ∧ (tz.toList == [72, 84, 84, 80, 47, 49, 46, 49]) = d := by
        refine ⟨_, Lib.hid ?_, rfl⟩
        rw [HRd.out]
        have e := HV1.out
        by_cases h : T = http1
        · rw [decide_eq_false (fun hh => hh h)] at e
          have e2 : (tz.toList == [72, 84, 84, 80, 47, 49, 46, 49]) = true := by simpa using e
          rw [e2, if_pos ⟨rfl, rfl, h⟩]; rfl
        · rw [decide_eq_true h] at e
          have e2 : (tz.toList == [72, 84, 84, 80, 47, 49, 46, 49]) = false := beq_eq_false_iff_ne.2 (bne_iff_ne.1 e)
          rw [e2, if_neg (fun hh => h hh.2.2)]; rfl
      obtain ⟨d, HRR, hd⟩ := hd
      go_enter Tryd.func58, Tryd.ntmps58
      go_wp2_with fail
      refine HC1.out.mono ?_
      rintro e w1 ⟨rfl, q1, hq1⟩
      subst hq1
      go_wp2_with fail
      refine (HC2.out _).mono ?_
      rintro e w1 ⟨rfl, q2, hq2⟩
      subst hq2
      have c0 := C0.out (q1 + q2)
      have c1 := C1.out (q1 + q2)
      have f0 := F0.out (q1 + q2)
      have f1 := F1.out (q1 + q2)
      go_upto_region 4 with (fail)
      obtain ⟨hM, hK⟩ := HX.out (q1 + q2)
      generalize ((w.drewN (q1 + q2)).setCell ⟨b, 0, none⟩ (.string vz)).setCell ⟨b, 1, none⟩ (.string gz) = W3 at hM hK ⊢
      have HK3 := Lib.hid hK
      have HM3 := Lib.hid hM
      clear hM hK c0 c1 f0 f1
      go_wp2_with fail
      refine (HT2.out _).mono ?_
      rintro e w4 ⟨rfl, hb4⟩
      have HK4 := Lib.hid (HK3.out.trans (Kp.of_below hb4))
      have HM4 : Hid (MsAt w4 b (V, G, 0) (.slice none 0 0)) := Lib.hid ((hb4.block b HM3.out.lt).trans HM3.out)
      clear hb4
      go_wp2_with fail
      refine (HG2.out _).mono ?_
      rintro e w5 ⟨rfl, rfl⟩
      go_wp2
      go_ret
      rw [HRR.out]
      refine ⟨?_, HK4.out⟩
      cases d with
      | true => exact ⟨rfl, HM4.out⟩
      | false => exact rfl

/-- What field leaves. -/
def FldR (b base : Nat) (x : Fst12) (v : Value) (F : List BF) (w : World) (o : Option Fld) (e : Ending) (w' : World) : Prop :=
  (match o with
    | none => e = .returned (.bool false)
    | some f => e = .returned (.bool true) ∧ ∃ v', MsAt w' b x v' ∧ OwnF base v' (F ++ [bfF f]) w') ∧ Kp (fun q => q = b ∨ v.ownBlock = some q) w w'
theorem ms_set3 {w : World} {b : Nat} {x : Fst12} {v : Value} (h : MsAt w b x v) (u : Value) : MsAt (w.setCell ⟨b, 3, none⟩ u) b x u := by
  unfold MsAt at *
  rw [heap_setCell_same _ _ _ _ _ _ h]; rfl
theorem OwnF.setCell {base : Nat} {v : Value} {F : List BF} {w : World} (h : OwnF base v F w) {b k : Nat} (hb : b < base) (u : Value) : OwnF base v F (w.setCell ⟨b, k, none⟩ u) :=
  ⟨own_kept h.h ((Kp.refl (Only b) w).setCell (p := ⟨b, k, none⟩) rfl u) fun q hq e => by have : q = b := e; omega⟩
theorem hd_grown {w1 w2 : World} {o : Obj} {v : Value} {b : Nat} (hg : ((w1.alloc o).drew).grownBy w2 v.ownBlock) (hb : b < w1.heap.size) (hne : v.ownBlock ≠ some b) : w2.heap[b]? = w1.heap[b]? :=
  (hg.block b (by show b < (w1.alloc o).heap.size; simp; omega) (fun e => hne e.symm)).trans (Below.heap_alloc _ _ _ hb)
theorem fldD_eq (l : List UInt8) : fldD l = if (Lib.cut l [58]).2.2 = true ∧ fldB (fldV l) = true then some (fldV l) else none := rfl
set_option maxRecDepth 100000 in
set_option maxHeartbeats 8000000 in
theorem field_any (b base : Nat) (l : List UInt8) (x : Fst12) (v : Value) (F : List BF) (m : Int) (w : World) (hl : l.length ≤ 70000) (hm : MxAt m w) (hb : MsAt w b x v) (ho : OwnF base v F w) (hbb : b < base) (hbw : base ≤ w.heap.size) (hF : F.length ≤ 100000) :
    Calls Tryd.prog 102 #[.pointer (some ⟨b, 0, none⟩), .string (asB l)] w (FldR b base x v F w (fldD l)) := by
  have HC1 := Lib.hid (Cut_any l [58] m w (by omega) hm)
  have hV := cut_len1 l [58]
  have hR1 := cut_le l [58]
  have HTm := Lib.hid fun w => Trim_any (asB (Lib.cut l [58]).2.1) w (by rw [asB_size]; unfold maxLen; omega)
  have htl := trimL_le (Lib.cut l [58]).2.1
  have HFl := Lib.hid fun w => isField_any (bfF (fldV l)) w (by show (asB _).size ≤ _; rw [asB_size]; unfold maxLen fldV; show (Lib.cut l [58]).1.length ≤ _; omega) (by show (asB _).size ≤ _; rw [asB_size]; unfold maxLen fldV; show (trimL (Lib.cut l [58]).2.1).length ≤ _; omega)
  have HRd := Lib.hid (fldD_eq l)
  obtain ⟨R, HR⟩ : ∃ R, Hid (fldD l = R) := ⟨_, Lib.hid rfl⟩
  rw [HR.out] at HRd ⊢
  rw [show Lib.cut l [58] = ((fldV l).1, (Lib.cut l [58]).2.1, (Lib.cut l [58]).2.2) from rfl] at HC1
  have HTm2 : Hid (∀ w, Calls Tryd.prog 98 #[.string (asB (Lib.cut l [58]).2.1)] w fun e w' => e = .returned (.string (asB (fldV l).2)) ∧ Below w.heap.size w w') := Lib.hid HTm.out
  obtain ⟨ff, Hff⟩ : ∃ ff, Hid (fldV l = ff) := ⟨_, Lib.hid rfl⟩
  obtain ⟨r1, Hr1⟩ : ∃ V, Hid ((Lib.cut l [58]).2.1 = V) := ⟨_, Lib.hid rfl⟩
  obtain ⟨ok, Hok⟩ : ∃ V, Hid ((Lib.cut l [58]).2.2 = V) := ⟨_, Lib.hid rfl⟩
  rw [Hff.out] at HC1 HRd HTm2 HFl
  rw [Hr1.out] at HC1 HTm2
  rw [Hok.out] at HC1 HRd
  obtain ⟨n, u⟩ := ff
  have HFl2 : Hid (∀ w, Calls Tryd.prog 83 #[.agg #[.string (asB n), .string (asB u)]] w fun e w' => e = .returned (.bool (fldB (n, u))) ∧ Below w.heap.size w w') := Lib.hid HFl.out
  have HC3 : Hid (Calls Tryd.prog 85 #[.string (asB l), .string (asB [58])] w fun e w' => e = .returned (.tuple #[.string (asB n), .string (asB r1), .bool ok]) ∧ ∃ n, w' = w.drewN n) := Lib.hid HC1.out
  have HTm3 : Hid (∀ w, Calls Tryd.prog 98 #[.string (asB r1)] w fun e w' => e = .returned (.string (asB u)) ∧ Below w.heap.size w w') := Lib.hid HTm2.out
  have HB := Lib.hid hb
  have HO := Lib.hid ho
  have HF := Lib.hid hF
  have HBB := Lib.hid hbb
  have HBW := Lib.hid hbw
  clear HC1 HTm HTm2 HFl hV hR1 htl hl hb ho hbb hbw hF
  go_enter Tryd.func102, Tryd.ntmps102
  go_wp2_with fail
  refine HC3.out.mono ?_
  rintro e w1 ⟨rfl, q1, hq1⟩
  subst hq1
  go_wp2_with fail
  refine (HTm3.out _).mono ?_
  rintro e w2 ⟨rfl, hb2⟩
  have HK2 : Hid (Kp (fun q => q = b ∨ v.ownBlock = some q) w w2) := Lib.hid ((kp_drewN _ _ _).trans (Kp.of_below hb2))
  have HM2 : Hid (MsAt w2 b x v) := Lib.hid ((hb2.block b HB.out.lt).trans HB.out)
  have HO2 : Hid (OwnF base v F w2) := Lib.hid ((show OwnF base v F (w.drewN q1) from ⟨HO.out.h⟩).later hb2)
  have HZ2 : Hid (base ≤ w2.heap.size) := Lib.hid (Nat.le_trans HBW.out hb2.size)
  clear hb2
  go_upto_region 3 with (fail)
  have hwb : b < w2.heap.size := HM2.out.lt
  obtain ⟨W3, HW3⟩ : ∃ W, Hid (w2.alloc (.cells #[.string (asB n), .string (asB u)] 57) = W) := ⟨_, Lib.hid rfl⟩
  have HG3 : Hid (W3.heap[w2.heap.size]? = some (.cells #[.string (asB n), .string (asB u)] 57 (0, 0))) := Lib.hid (by rw [← HW3.out]; exact heap_alloc_new w2 _)
  have HM3 : Hid (MsAt W3 b x v) := Lib.hid (by rw [← HW3.out]; exact (Below.heap_alloc _ _ _ hwb).trans HM2.out)
  have HO3 : Hid (OwnF base v F W3) := Lib.hid (by rw [← HW3.out]; exact ⟨HO2.out.h.alloc _⟩)
  have HK3 : Hid (Kp (fun q => q = b ∨ v.ownBlock = some q) w W3) := Lib.hid (by rw [← HW3.out]; exact HK2.out.alloc _)
  have hz3 : W3.heap.size = w2.heap.size + 1 := by rw [← HW3.out]; simp
  have HZ3 := Lib.hid hz3
  have hbs : base ≤ W3.heap.size := by have := HZ2.out; omega
  have hbl : b < W3.heap.size := by omega
  have hFl := HF.out
  have hvb : v.ownBlock ≠ some b := fun e => by have := (HO.out.h.lt b e).1; have := HBB.out; omega
  have HVB := Lib.hid hvb
  have HVw : Hid (v.ownBlock ≠ some w2.heap.size) := Lib.hid fun e => by have := (HO2.out.h.lt _ e).2; omega
  have d0 : W3.cell? ⟨w2.heap.size, 0, none⟩ = some (.string (asB n)) := by rw [cell_of_row W3 _ 0 _ _ _ HG3.out]; rfl
  have d1 : W3.cell? ⟨w2.heap.size, 1, none⟩ = some (.string (asB u)) := by rw [cell_of_row W3 _ 1 _ _ _ HG3.out]; rfl
  have c3 : W3.cell? ⟨b, 3, none⟩ = some v := by rw [cell_of_row W3 b 3 _ _ _ HM3.out]; rfl
  have f3 : W3.frozen? ⟨b, 3, none⟩ = false := frozen_of_row W3 b 3 _ _ HM3.out
  obtain ⟨i0, hi, hz0, hz1', hz2⟩ := info_parts infoFx
  have HI := Lib.hid hi
  have HZ0 := Lib.hid hz0
  have HZ1 := Lib.hid hz1'
  have HZ2' := Lib.hid hz2
  rw [HW3.out]
  clear hi hz0 hz1' hz2 hwb hz3 hvb
  go_region_law (refine step_append_lies _ (by rfl) _ _ _ (by rfl) base 57 i0 _ 2 32 Tryd.underlying22 HI.out HZ0.out HZ1.out HZ2'.out rfl (by omega) v F.length (fcells F) (by rfl) ((HO3.out.h.alloc _).drew) ⟨W3.heap.size, 0, none⟩ 1 1 [.string (asB n), .string (asB u)] (by rfl) (by rfl) (World.news_of_block (cs := #[.string (asB n), .string (asB u)]) (t := 57) (fr := (0, 0)) (heap_alloc_new W3 _)) (by simp [Value.oneCell']) (by omega) (by unfold maxLen; omega) (by omega) (by simp; omega) (W3.heap.size + 1) (by simp) ?_; intro gg cap w4 hown4 hgrow hat hlt; have hbk := hd_grown hgrow hbl HVB.out; have hc2 : w4.cell? ⟨b, 3, none⟩ = some v := (World.cell?_of_block (w := W3) hbk).trans c3; have hf2 : w4.frozen? ⟨b, 3, none⟩ = false := (World.frozen?_of_block (w := W3) hbk).trans f3; have HBK := Lib.hid hbk; have HOwn4 := Lib.hid hown4; have HGrow := Lib.hid hgrow; have HAt := Lib.hid hat; clear hbk hown4 hgrow hat)
  all_goals
    have HM5 : Hid (MsAt (w4.setCell ⟨b, 3, none⟩ (.slice (some ⟨gg, 0, none⟩) (F.length + 1) cap)) b x (.slice (some ⟨gg, 0, none⟩) (F.length + 1) cap)) := Lib.hid (ms_set3 (HBK.out.trans HM3.out) _)
    have HO5 : Hid (OwnF base (.slice (some ⟨gg, 0, none⟩) (F.length + 1) cap) (F ++ [bfF (n, u)]) (w4.setCell ⟨b, 3, none⟩ (.slice (some ⟨gg, 0, none⟩) (F.length + 1) cap))) := Lib.hid (by
      refine OwnF.setCell ⟨?_⟩ HBB.out _
      rw [List.length_append, fcells_app]
      exact HOwn4.out)
    have HK5 : Hid (Kp (fun q => q = b ∨ v.ownBlock = some q) w (w4.setCell ⟨b, 3, none⟩ (.slice (some ⟨gg, 0, none⟩) (F.length + 1) cap))) := Lib.hid (by
      refine Kp.setCell (HK3.out.trans ?_) (p := ⟨b, 3, none⟩) (.inl rfl) _
      have hg := HGrow.out
      exact ⟨hg.os, hg.tape, hg.output, Nat.le_trans (by simp) hg.size, fun q hq hx => (hg.block q (by show q < (W3.alloc _).heap.size; simp; omega) (fun e => hx (.inr e.symm))).trans (Below.heap_alloc _ _ _ hq)⟩)
    have hG5 : (w4.setCell ⟨b, 3, none⟩ (.slice (some ⟨gg, 0, none⟩) (F.length + 1) cap)).heap[w2.heap.size]? = some (.cells #[.string (asB n), .string (asB u)] 57 (0, 0)) := by
      rw [Below.heap_setCell _ _ _ _ (by have := HM2.out.lt; show w2.heap.size ≠ b; omega)]
      exact (hd_grown HGrow.out (lt_of_block HG3.out) HVw.out).trans HG3.out
    generalize w4.setCell ⟨b, 3, none⟩ (.slice (some ⟨gg, 0, none⟩) (F.length + 1) cap) = W5 at HM5 HO5 HK5 hG5 ⊢
    have HG5 := Lib.hid hG5
    clear hG5 c3 f3 d0 d1 hc2 hf2 hlt hbs hbl hFl
    cases ok with
    | false =>
      have HRR : Hid (R = none) := Lib.hid (by rw [HRd.out, if_neg (fun h => by cases h.1)])
      clear HRd
      go_wp2
      go_ret
      rw [HRR.out]
      exact ⟨rfl, HK5.out⟩
    | true =>
      have d0 : W5.cell? ⟨w2.heap.size, 0, none⟩ = some (.string (asB n)) := by rw [cell_of_row W5 _ 0 _ _ _ HG5.out]; rfl
      have d1 : W5.cell? ⟨w2.heap.size, 1, none⟩ = some (.string (asB u)) := by rw [cell_of_row W5 _ 1 _ _ _ HG5.out]; rfl
      obtain ⟨d, Hd⟩ : ∃ V, Hid (fldB (n, u) = V) := ⟨_, Lib.hid rfl⟩
      rw [Hd.out] at HRd HFl2
      have HRR : Hid (R = if d = true then some (n, u) else none) := Lib.hid (by
        rw [HRd.out]
        cases d with
        | true => rw [if_pos ⟨rfl, rfl⟩]; rfl
        | false => rw [if_neg (fun h => by cases h.2)]; rfl)
      clear HRd
      go_wp2_with fail
      refine (HFl2.out _).mono ?_
      rintro e w6 ⟨rfl, hb6⟩
      have HK6 := Lib.hid (HK5.out.trans (Kp.of_below hb6))
      have HM6 := Lib.hid ((hb6.block b HM5.out.lt).trans HM5.out)
      have HO6 := Lib.hid (HO5.out.later hb6)
      clear hb6 d0 d1
      go_wp2
      go_ret
      rw [HRR.out]
      refine ⟨?_, HK6.out⟩
      cases d with
      | true => exact ⟨rfl, _, HM6.out, HO6.out⟩
      | false => exact rfl

end Go.Proofs.YtbfnbjffobhllaaDoor
