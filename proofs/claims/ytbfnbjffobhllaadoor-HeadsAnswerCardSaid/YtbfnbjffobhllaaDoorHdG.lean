/-
  Package heads: response, request, field.
-/
import Derived.Test.YtbfnbjffobhllaaDoorHdN
import Derived.Deep.AppendLies
import Derived.RegionTactic
namespace Go.Proofs.YtbfnbjffobhllaaDoor
open Go.RowKit

/-- A message's block: what its first line told, and its fields. -/
def msC (x : Fst12) (v : Value) : Array Value := #[.string (asB x.1), .string (asB x.2.1), .int .i64 x.2.2, v, .slice none 0 0]
def MsAt (w : World) (b : Nat) (x : Fst12) (v : Value) : Prop := w.heap[b]? = some (.cells (msC x v) 26 (0, 0))
def fst0 : Fst12 := ([], [], 0)
theorem MsAt.lt {w : World} {b : Nat} {x : Fst12} {v : Value} (h : MsAt w b x v) : b < w.heap.size := lt_of_block h
theorem MsAt.kp {X : Nat → Prop} {w w' : World} {b : Nat} {x : Fst12} {v : Value} (h : MsAt w b x v) (k : Kp X w w') (hx : ¬ X b) : MsAt w' b x v := k.at h hx
/-- What a first line's reader leaves. -/
def FstR (b : Nat) (w : World) (o : Option Fst12) (e : Ending) (w' : World) : Prop :=
  (match o with
    | none => e = .returned (.bool false)
    | some x => e = .returned (.bool true) ∧ MsAt w' b x (.slice none 0 0)) ∧ Kp (Only b) w w'
def MxAt (m : Int) (w : World) : Prop := w.cell? ⟨0, 0, none⟩ = some (.int .i64 m)
theorem MxAt.kp {X : Nat → Prop} {m : Int} {w w' : World} (h : MxAt m w) (k : Kp X w w') (hx : ¬ X 0) : MxAt m w' := k.cell h hx
theorem MxAt.later {m : Int} {w w' : World} (h : MxAt m w) (hb : Below w.heap.size w w') : MxAt m w' := (hb.cell (p := ⟨0, 0, none⟩) (block_lt_of_cell h)).trans h
theorem Cut_any (l s : List UInt8) (m : Int) (w : World) (hl : l.length ≤ 1000000) (hm : MxAt m w) :
    Calls Tryd.prog 85 #[.string (asB l), .string (asB s)] w fun e w' => e = .returned (.tuple #[.string (asB (Lib.cut l s).1), .string (asB (Lib.cut l s).2.1), .bool (Lib.cut l s).2.2]) ∧ ∃ n, w' = w.drewN n :=
  Tryd.strings_Cut (asB l) (asB s) m w (by rw [asB_size]; omega) hm
theorem kp_drewN (X : Nat → Prop) (w : World) (n : Nat) : Kp X w (w.drewN n) := (Kp.refl _ _).drewN n
theorem cut_len1 (l s : List UInt8) : (Lib.cut l s).1.length ≤ l.length := by
  unfold Lib.cut
  split
  · exact List.length_take_le' ..
  · exact Nat.le_refl _
theorem asB_ne (l : List UInt8) (s : ByteArray) : ((asB l).toList != s.toList) = decide (l ≠ s.data.toList) := by
  rw [Lib.toList_data, Lib.toList_data, asB_data]
  by_cases h : l = s.data.toList
  · rw [h]; simp
  · rw [bne_iff_ne.2 h, decide_eq_true h]
theorem ms_set2 {w : World} {b : Nat} {x : Fst12} {v : Value} (h : MsAt w b x v) (n : Int) : MsAt (w.setCell ⟨b, 2, none⟩ (.int .i64 n)) b (x.1, x.2.1, n) v := by
  unfold MsAt at *
  rw [heap_setCell_same _ _ _ _ _ _ h]; rfl
theorem ms_set01 {w : World} {b : Nat} {x : Fst12} {v : Value} (h : MsAt w b x v) (p q : List UInt8) : MsAt ((w.setCell ⟨b, 0, none⟩ (.string (asB p))).setCell ⟨b, 1, none⟩ (.string (asB q))) b (p, q, x.2.2) v := by
  unfold MsAt at *
  have h1 := heap_setCell_same w b 0 _ _ (.string (asB p)) h
  rw [heap_setCell_same _ _ _ _ _ _ h1]; rfl
theorem resD_no {l : List UInt8} (h : (resV l ≠ http1 ∧ resV l ≠ http0) ∨ (resG l).length ≠ 3 ∨ (resW l).all txB = false ∨ ¬ 100 ≤ numV (resG l) 999) : resD l = none := by
  unfold resD
  rw [if_neg]
  rintro ⟨h1, h2, h3, h4⟩
  rcases h with ⟨a, b⟩ | h | h | h
  · rcases h1 with h1 | h1
    · exact a h1
    · exact b h1
  · exact h h2
  · rw [h3] at h; cases h
  · exact h h4
theorem hd_bvx (s t : ByteArray) (h : s = t) : (s.toList != t.toList) = false := by rw [h]; simp
set_option maxRecDepth 100000 in
set_option maxHeartbeats 8000000 in
theorem response_any (b : Nat) (l : List UInt8) (m : Int) (w : World) (hl : l.length ≤ 70000) (hm : MxAt m w) (hb : MsAt w b fst0 (.slice none 0 0)) :
    Calls Tryd.prog 60 #[.pointer (some ⟨b, 0, none⟩), .string (asB l)] w (FstR b w (resD l)) := by
  have HC1 := Lib.hid (Cut_any l [32] m w (by omega) hm)
  have HC2 := Lib.hid fun n => Cut_any (Lib.cut l [32]).2.1 [32] m (w.drewN n) (by have := cut_le l [32]; omega) (hm.kp (kp_drewN (fun _ => False) w n) id)
  have hG := cut_len1 (Lib.cut l [32]).2.1 [32]
  have hW := cut_le (Lib.cut l [32]).2.1 [32]
  have hR1 := cut_le l [32]
  have HE := Lib.hid fun w => everyX_any (asB (resW l)) w (by rw [asB_size]; unfold maxLen resW; omega)
  have HNm := Lib.hid fun w => Number_any (asB (resG l)) 999 w (by rw [asB_size]; unfold maxLen resG; omega)
  have HB := Lib.hid hb
  have HRd : Hid (resD l = if (resV l = http1 ∨ resV l = http0) ∧ (resG l).length = 3 ∧ (resW l).all txB = true ∧ 100 ≤ numV (resG l) 999 then some ([], [], numV (resG l) 999) else none) := Lib.hid rfl
  have HNo := Lib.hid (fun h => resD_no (l := l) h)
  rw [show Lib.cut l [32] = (resV l, (Lib.cut l [32]).2.1, (Lib.cut l [32]).2.2) from rfl] at HC1
  rw [show Lib.cut (Lib.cut l [32]).2.1 [32] = (resG l, resW l, (Lib.cut (Lib.cut l [32]).2.1 [32]).2.2) from rfl] at HC2
  obtain ⟨R, HR⟩ : ∃ R, Hid (resD l = R) := ⟨_, Lib.hid rfl⟩
  rw [HR.out] at HRd HNo ⊢
  obtain ⟨V, HV⟩ : ∃ V, Hid (resV l = V) := ⟨_, Lib.hid rfl⟩
  obtain ⟨G, HG⟩ : ∃ V, Hid (resG l = V) := ⟨_, Lib.hid rfl⟩
  obtain ⟨T, HT⟩ : ∃ V, Hid (resW l = V) := ⟨_, Lib.hid rfl⟩
  obtain ⟨r1, Hr1⟩ : ∃ V, Hid ((Lib.cut l [32]).2.1 = V) := ⟨_, Lib.hid rfl⟩
  rw [HV.out] at HC1 HRd HNo
  rw [HG.out] at HC2 HRd HNo HNm
  rw [HT.out] at HC2 HRd HNo HE
  rw [Hr1.out] at HC1 HC2
  have hGl : G.length ≤ 70000 := by rw [← HG.out]; unfold resG; omega
  obtain ⟨a, Ha⟩ : ∃ V, Hid (T.all txB = V) := ⟨_, Lib.hid rfl⟩
  have HE2 : Hid (∀ w, Calls Tryd.prog 88 #[.string (asB T), .func (.func 89) #[] #[]] w fun e w' => e = .returned (.bool a) ∧ w = w') := Lib.hid fun w => by
    have := HE.out w
    rw [asB_data, Ha.out] at this
    exact this
  rw [Ha.out] at HRd HNo
  have HNm2 : Hid (∀ w, Calls Tryd.prog 90 #[.string (asB G), .int .i64 999] w fun e w' => e = .returned (.tuple #[.int .i64 (numV G 999), .bool (numB G 999)]) ∧ Below w.heap.size w w') := Lib.hid fun w => HNm.out w
  obtain ⟨k, Hk⟩ : ∃ V, Hid (numV G 999 = V) := ⟨_, Lib.hid rfl⟩
  obtain ⟨kb, Hkb⟩ : ∃ V, Hid (numB G 999 = V) := ⟨_, Lib.hid rfl⟩
  rw [Hk.out, Hkb.out] at HNm2
  rw [Hk.out] at HRd HNo
  have hsz : ((asB G).size : Int) = (G.length : Int) := by rw [asB_size]
  have hv1 : ((asB V).toList != [72, 84, 84, 80, 47, 49, 46, 49]) = decide (V ≠ http1) := by
    have := asB_ne V (asB http1)
    rw [Lib.toList_data (asB http1)] at this
    exact this
  have hv0 : ((asB V).toList != [72, 84, 84, 80, 47, 49, 46, 48]) = decide (V ≠ http0) := by
    have := asB_ne V (asB http0)
    rw [Lib.toList_data (asB http0)] at this
    exact this
  have HV1 := Lib.hid hv1
  have HV0 := Lib.hid hv0
  obtain ⟨gz, Hgz⟩ : ∃ z, Hid (asB G = z) := ⟨_, Lib.hid rfl⟩
  have hgz : gz.size = G.length := by rw [← Hgz.out, asB_size]
  rw [Hgz.out] at HC2 HNm2
  obtain ⟨vz, Hvz⟩ : ∃ z, Hid (asB V = z) := ⟨_, Lib.hid rfl⟩
  rw [Hvz.out] at HC1 HV1 HV0
  clear HE HNm hG hW hR1 hl hb hv1 hv0 hsz
  by_cases hv : V ≠ http1 ∧ V ≠ http0
  · have ev1 : (vz.toList != [72, 84, 84, 80, 47, 49, 46, 49]) = true := by rw [HV1.out, decide_eq_true hv.1]
    have ev0 : (vz.toList != [72, 84, 84, 80, 47, 49, 46, 48]) = true := by rw [HV0.out, decide_eq_true hv.2]
    have n1 : ¬ vz.toList = [72, 84, 84, 80, 47, 49, 46, 49] := bne_iff_ne.1 ev1
    have n0 : ¬ vz.toList = [72, 84, 84, 80, 47, 49, 46, 48] := bne_iff_ne.1 ev0
    have HRR : Hid (R = none) := Lib.hid (HNo.out (.inl hv))
    clear hv hgz hGl
    rw [HRR.out]
    go_enter Tryd.func60, Tryd.ntmps60
    go_wp2_with fail
    refine HC1.out.mono ?_
    rintro e w1 ⟨rfl, q1, hq1⟩
    subst hq1
    go_wp2_with fail
    refine (HC2.out _).mono ?_
    rintro e w1 ⟨rfl, q2, hq2⟩
    subst hq2
    go_wp2
    go_ret
    exact ⟨rfl, kp_drewN _ _ _⟩
  · have hvv : (decide (V ≠ http1) = false) ∨ (decide (V ≠ http1) = true ∧ decide (V ≠ http0) = false) := by
      by_cases h1 : V = http1
      · exact .inl (decide_eq_false (fun h => h h1))
      · refine .inr ⟨decide_eq_true h1, decide_eq_false fun h => hv ⟨h1, h⟩⟩
    have hv3 : V = http1 ∨ V = http0 := by
      by_cases h1 : V = http1
      · exact .inl h1
      · by_cases h0 : V = http0
        · exact .inr h0
        · exact absurd ⟨h1, h0⟩ hv
    have HV3 := Lib.hid hv3
    have ev : (vz.toList = [72, 84, 84, 80, 47, 49, 46, 49]) ∨ ((¬ vz.toList = [72, 84, 84, 80, 47, 49, 46, 49]) ∧ vz.toList = [72, 84, 84, 80, 47, 49, 46, 48]) := by
      have e1 := HV1.out
      have e0 := HV0.out
      rcases hvv with h | ⟨h1, h0⟩
      · rw [h] at e1; exact .inl (by simpa using e1)
      · rw [h1] at e1; rw [h0] at e0; exact .inr ⟨bne_iff_ne.1 e1, by simpa using e0⟩
    clear hv hv3 hvv
    by_cases h3 : G.length = 3
    · have e3 : (gz.size : Int) = 3 := by omega
      have h33 : Hid (G.length = 3) := Lib.hid h3
      cases a with
      | false =>
        have HRR : Hid (R = none) := Lib.hid (HNo.out (.inr (.inr (.inl rfl))))
        rw [HRR.out]
        clear h3 hgz hGl
        rcases ev with ev1 | ⟨ev1, ev0⟩
        all_goals
          go_enter Tryd.func60, Tryd.ntmps60
          go_wp2_with fail
          refine HC1.out.mono ?_
          rintro e w1 ⟨rfl, q1, hq1⟩
          subst hq1
          go_wp2_with fail
          refine (HC2.out _).mono ?_
          rintro e w1 ⟨rfl, q2, hq2⟩
          subst hq2
          go_wp2_with fail
          refine (HE2.out _).mono ?_
          rintro e w1 ⟨rfl, rfl⟩
          go_wp2
          go_ret
          exact ⟨rfl, kp_drewN _ _ _⟩
      | true =>
        obtain ⟨ok, Hok⟩ : ∃ ok, Hid (decide ((100 : Int) ≤ k) = ok) := ⟨_, Lib.hid rfl⟩
        have HRR : Hid (R = if ok = true then some ([], [], k) else none) := Lib.hid (by
          rw [HRd.out]
          cases ok with
          | true => rw [if_pos ⟨HV3.out, h33.out, rfl, of_decide_eq_true Hok.out⟩]; rfl
          | false => rw [if_neg (fun h => of_decide_eq_false Hok.out h.2.2.2)]; rfl)
        clear h3 hgz hGl
        rcases ev with ev1 | ⟨ev1, ev0⟩
        all_goals
          go_enter Tryd.func60, Tryd.ntmps60
          go_wp2_with fail
          refine HC1.out.mono ?_
          rintro e w1 ⟨rfl, q1, hq1⟩
          subst hq1
          go_wp2_with fail
          refine (HC2.out _).mono ?_
          rintro e w1 ⟨rfl, q2, hq2⟩
          subst hq2
          go_wp2_with fail
          refine (HE2.out _).mono ?_
          rintro e w1 ⟨rfl, rfl⟩
          go_wp2_with fail
          refine (HNm2.out _).mono ?_
          rintro e w2 ⟨rfl, hb2⟩
          have HK2 : Hid (Kp (Only b) w w2) := Lib.hid ((kp_drewN _ _ _).trans (Kp.of_below hb2))
          have HM2 : Hid (MsAt w2 b fst0 (.slice none 0 0)) := Lib.hid ((hb2.block b HB.out.lt).trans HB.out)
          have c2 : w2.cell? ⟨b, 2, none⟩ = some (.int .i64 0) := by rw [cell_of_row w2 b 2 _ _ _ HM2.out]; rfl
          have f2 : w2.frozen? ⟨b, 2, none⟩ = false := frozen_of_row w2 b 2 _ _ HM2.out
          clear hb2
          go_wp2
          go_ret
          rw [Hok.out, HRR.out]
          refine ⟨?_, HK2.out.setCell (p := ⟨b, 2, none⟩) rfl _⟩
          cases ok with
          | true => exact ⟨rfl, ms_set2 HM2.out k⟩
          | false => exact rfl
    · have e3 : ((gz.size : Int) != 3) = true := bne_iff_ne.2 (by omega)
      have n3 : ¬ (gz.size : Int) = 3 := by omega
      have HRR : Hid (R = none) := Lib.hid (HNo.out (.inr (.inl h3)))
      rw [HRR.out]
      clear h3 hgz hGl
      rcases ev with ev1 | ⟨ev1, ev0⟩
      all_goals
        go_enter Tryd.func60, Tryd.ntmps60
        go_wp2_with fail
        refine HC1.out.mono ?_
        rintro e w1 ⟨rfl, q1, hq1⟩
        subst hq1
        go_wp2_with fail
        refine (HC2.out _).mono ?_
        rintro e w1 ⟨rfl, q2, hq2⟩
        subst hq2
        go_wp2
        go_ret
        exact ⟨rfl, kp_drewN _ _ _⟩

end Go.Proofs.YtbfnbjffobhllaaDoor
