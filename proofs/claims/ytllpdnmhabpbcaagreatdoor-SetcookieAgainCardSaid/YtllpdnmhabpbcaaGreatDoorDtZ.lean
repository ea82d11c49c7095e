/-
  The reader of a cookie's date: all words, and the seconds that they tell.
-/
import Derived.Test.YtllpdnmhabpbcaaGreatDoorDtX
import Derived.Test.YtllpdnmhabpbcaaGreatDoorDtP
import Derived.KernelRfl
import Derived.Deep.RegionHeld3
namespace Go.Proofs.YtllpdnmhabpbcaaGreatDoor
open Go.RowKit

theorem neq4 (a b c d : Bool) (w : World) : (binOp .neq 121 (.agg #[.bool a, .bool b, .bool c, .bool d]) (.agg #[.bool true, .bool true, .bool true, .bool true])).run Tryz.prog w = .ok (.bool (!(a && (b && (c && d))))) w := by
  cases a <;> cases b <;> cases c <;> cases d <;> kernel_rfl
theorem rest_lt {l : List UInt8} (h : l ≠ []) : ((l.dropWhile btw).dropWhile nob).length < l.length := by
  have h1 : (l.dropWhile btw).length ≤ l.length := (List.dropWhile_suffix _).length_le
  have hl : 0 < l.length := List.length_pos_iff.2 h
  cases hd : l.dropWhile btw with
  | nil => simpa using hl
  | cons c m =>
    have hc : btw c = false := by
      have := List.head?_dropWhile_not btw l
      rw [hd] at this; simpa using this
    have hn : nob c = true := by simp [nob, hc]
    rw [List.dropWhile_cons, if_pos hn]
    have h3 : (m.dropWhile nob).length ≤ m.length := (List.dropWhile_suffix _).length_le
    have h4 := congrArg List.length hd
    simp at h4; omega
theorem scan_round (st : Told) (l : List UInt8) : scanF st [] l = scanF (step st ((l.dropWhile btw).takeWhile nob)) [] ((l.dropWhile btw).dropWhile nob) := by
  rw [scan_btw, scan_nob, List.nil_append, endW_eq]
/-- What a cookie's date tells. -/
def cookB (st : Told) : Bool := match st with
  | ⟨some (h, i, s), some d, some m, some y⟩ => if whole y < 1601 then false else secB (whole y) (m : Int) d h i s
  | _ => false
def cookR (st : Told) : Int := match st with
  | ⟨some (h, i, s), some d, some m, some y⟩ => if whole y < 1601 then 0 else secR (whole y) (m : Int) d h i s
  | _ => 0
def toldT (s : ByteArray) : Told := scanF noneT [] s.data.toList

set_option maxHeartbeats 8000000 in
set_option maxRecDepth 100000 in
theorem seconds_any (b : Nat) (s : ByteArray) (hs : s.size ≤ 1048600) (m : Int) (w : World) (h : DrAt w b (encS s noneT)) (hw : DtW m b w) :
    Calls Tryz.prog 77 #[.pointer (some ⟨b, 0, none⟩)] w fun e w' => e = .returned (.tuple #[.int .i64 (cookR (toldT s)), .bool (cookB (toldT s))]) ∧ Kp (Only b) w w' := by
  obtain ⟨R, HRT⟩ : ∃ R, Hid (scanF noneT [] s.data.toList = R) := ⟨_, Lib.hid rfl⟩
  unfold toldT
  rw [HRT.out]
  have HR := Lib.hid h
  have HW := Lib.hid hw
  have hbl := h.lt
  clear h hw
  have HWy := Lib.hid (fun w => ways_any b w)
  unfold waysC at HWy
  go_enter Tryz.func77, Tryz.ntmps77
  go_wp2_with fail
  refine (HWy.out _).mono ?_
  rintro e w1 ⟨rfl, bel⟩
  have HB1 := Lib.hid bel
  have hz1 := bel.size
  clear bel
  go_wp2
  have HNew := Lib.hid (heap_alloc_new w1 (.cells (waysC b) 125 (0, 0)))
  have HK0 : Hid (Kp (Only b) w (w1.alloc (.cells (waysC b) 125 (0, 0)))) := Lib.hid ((Kp.of_below HB1.out).alloc _)
  unfold waysC at HNew HK0
  go_loopw [12] (fun _ wr => ∃ (t : ByteArray) (st : Told), t.size ≤ s.size ∧ Hid (scanF st [] t.data.toList = R) ∧ Hid (DrAt wr b (encS t st)) ∧ Hid (wr.heap[w1.heap.size]? = some (.cells (waysC b) 125 (0, 0))) ∧ Hid (Kp (Only b) w wr)) (fun _ wr => match wr.cell? ⟨b, 0, none⟩ with | some (.string u) => u.size | _ => 0)
  case atStart => exact ⟨s, noneT, Nat.le_refl _, HRT, Lib.hid ((HR.out.below HB1.out).below ((Below.refl _ _).alloc (Nat.le_refl _) _)), HNew, HK0⟩
  case round =>
    obtain ⟨t, st, hts, HS, HD, HV, HK⟩ := hrel
    have HWr := Lib.hid (HW.out.kept HK.out)
    have hbr := HD.out.lt
    have c0 := HD.out.cell 0 (v := .string t) rfl
    by_cases hte : t = ⟨#[]⟩
    · subst hte
      have hem : (({ data := #[] } : ByteArray)).toList.isEmpty = true := by rw [ByteArray.toList_eq]; rfl
      have hRe : R = st := by rw [← HS.out]; rfl
      subst hRe
      obtain ⟨W2, hW2⟩ : ∃ W2, wr.alloc (.cells #[.bool true, .bool true, .bool true, .bool true] 121) = W2 := ⟨_, rfl⟩
      have HD2 : Hid (DrAt W2 b (encS ⟨#[]⟩ R)) := Lib.hid (by rw [← hW2]; exact HD.out.below ((Below.refl _ _).alloc (Nat.le_refl _) _))
      have HK2 : Hid (Kp (Only b) w W2) := Lib.hid (by rw [← hW2]; exact HK.out.alloc _)
      have hv4 : W2.heap[wr.heap.size]? = some (.cells #[.bool true, .bool true, .bool true, .bool true] 121 (0, 0)) := by rw [← hW2]; exact heap_alloc_new wr _
      have v0 := cell_of_row W2 wr.heap.size 0 _ _ _ hv4
      have v1 := cell_of_row W2 wr.heap.size 1 _ _ _ hv4
      have v2 := cell_of_row W2 wr.heap.size 2 _ _ _ hv4
      have v3 := cell_of_row W2 wr.heap.size 3 _ _ _ hv4
      simp only [List.getElem?_toArray, List.getElem?_cons_zero, List.getElem?_cons_succ] at v0 v1 v2 v3
      clear hv4
      by_cases hall : ∃ h i x d mm y, R = ⟨some (h, i, x), some d, some mm, some y⟩
      · obtain ⟨h, i, x, d, mm, y, hR⟩ := hall
        subst hR
        have d1 := HD2.out.cell 1 (v := .bool true) rfl
        have d2 := HD2.out.cell 2 (v := .bool true) rfl
        have d3 := HD2.out.cell 3 (v := .bool true) rfl
        have d4 := HD2.out.cell 4 (v := .bool true) rfl
        have d5 := HD2.out.cell 5 (v := .int .i64 h) rfl
        have d6 := HD2.out.cell 6 (v := .int .i64 i) rfl
        have d7 := HD2.out.cell 7 (v := .int .i64 x) rfl
        have d8 := HD2.out.cell 8 (v := .int .i64 d) rfl
        have d9 := HD2.out.cell 9 (v := .int .i64 (mm : Int)) rfl
        have d10 := HD2.out.cell 10 (v := .int .i64 (whole y)) rfl
        have hnq : ∀ w, (binOp .neq 121 (.agg #[.bool true, .bool true, .bool true, .bool true]) (.agg #[.bool true, .bool true, .bool true, .bool true])).run Tryz.prog w = .ok (.bool false) w := fun w => neq4 true true true true w
        have HSec := Lib.hid (fun w => Seconds_any (whole y) (mm : Int) d h i x w)
        have hcR : cookR ⟨some (h, i, x), some d, some mm, some y⟩ = if whole y < 1601 then 0 else secR (whole y) (mm : Int) d h i x := rfl
        have hcB : cookB ⟨some (h, i, x), some d, some mm, some y⟩ = if whole y < 1601 then false else secB (whole y) (mm : Int) d h i x := rfl
        obtain ⟨Y, HY⟩ : ∃ Y, Hid (whole y = Y) := ⟨_, Lib.hid rfl⟩
        rw [HY.out] at hcR hcB HSec d10
        have HcR := Lib.hid hcR
        have HcB := Lib.hid hcB
        clear hcR hcB
        by_cases hy : Y < 1601
        · have HcR2 := Lib.hid (HcR.out.trans (if_pos hy))
          have HcB2 := Lib.hid (HcB.out.trans (if_pos hy))
          go_wp2
          go_quiet (fail)
          go_wp2
          go_ret2
          exact ⟨by rw [HcR2.out, HcB2.out]; rfl, HK2.out.drewN _⟩
        · have HcR2 := Lib.hid (HcR.out.trans (if_neg hy))
          have HcB2 := Lib.hid (HcB.out.trans (if_neg hy))
          obtain ⟨sr, Hsr⟩ : ∃ q, Hid (secR Y (mm : Int) d h i x = q) := ⟨_, Lib.hid rfl⟩
          obtain ⟨sb, Hsb⟩ : ∃ q, Hid (secB Y (mm : Int) d h i x = q) := ⟨_, Lib.hid rfl⟩
          rw [Hsr.out, Hsb.out] at HSec
          go_wp2
          go_quiet (fail)
          go_wp2
          have HK3 : Hid (Kp (Only b) w (W2.drewN nq)) := Lib.hid (HK2.out.drewN _)
          have HD3 : Hid (DrAt (W2.drewN nq) b (encS ⟨#[]⟩ ⟨some (h, i, x), some d, some mm, some y⟩)) := Lib.hid HD2.out
          clear d1 d2 d3 d4 d5 d6 d7 d8 d9 d10 v0 v1 v2 v3
          generalize W2.drewN nq = W3 at HK3 HD3 ⊢
          have d5 := HD3.out.cell 5 (v := .int .i64 h) rfl
          have d6 := HD3.out.cell 6 (v := .int .i64 i) rfl
          have d7 := HD3.out.cell 7 (v := .int .i64 x) rfl
          have d8 := HD3.out.cell 8 (v := .int .i64 d) rfl
          have d9 := HD3.out.cell 9 (v := .int .i64 (mm : Int)) rfl
          have d10 := HD3.out.cell 10 (v := .int .i64 (whole y)) rfl
          rw [HY.out] at d10
          go_quiet ((go_loud (exact Calls.quiet_of_same ((HSec.out _).mono fun e w' h => ⟨h.1, h.2.symm⟩))))
          go_wp2
          go_ret2
          exact ⟨by rw [HcR2.out, HcB2.out, Hsr.out, Hsb.out]; rfl, HK3.out.drewN _⟩
      · have hnq : ∀ w, (binOp .neq 121 (.agg #[.bool R.tm.isSome, .bool R.dy.isSome, .bool R.mo.isSome, .bool R.yr.isSome]) (.agg #[.bool true, .bool true, .bool true, .bool true])).run Tryz.prog w = .ok (.bool true) w := fun w => by
          rw [neq4]
          obtain ⟨tm, dy, mo, yr⟩ := R
          cases tm with
          | none => rfl
          | some t =>
            cases dy with
            | none => rfl
            | some d =>
              cases mo with
              | none => rfl
              | some mm =>
                cases yr with
                | none => rfl
                | some y => exact absurd ⟨t.1, t.2.1, t.2.2, d, mm, y, rfl⟩ hall
        have hc : cookR R = 0 ∧ cookB R = false := by
          obtain ⟨tm, dy, mo, yr⟩ := R
          cases tm with
          | none => exact ⟨rfl, rfl⟩
          | some t =>
            cases dy with
            | none => exact ⟨rfl, rfl⟩
            | some d =>
              cases mo with
              | none => exact ⟨rfl, rfl⟩
              | some mm =>
                cases yr with
                | none => exact ⟨rfl, rfl⟩
                | some y => exact absurd ⟨t.1, t.2.1, t.2.2, d, mm, y, rfl⟩ hall
        have HcR := Lib.hid hc.1
        have HcB := Lib.hid hc.2
        have d1 := HD2.out.cell 1 (v := .bool R.tm.isSome) rfl
        have d2 := HD2.out.cell 2 (v := .bool R.dy.isSome) rfl
        have d3 := HD2.out.cell 3 (v := .bool R.mo.isSome) rfl
        have d4 := HD2.out.cell 4 (v := .bool R.yr.isSome) rfl
        clear hc hall
        go_wp2
        go_quiet (fail)
        go_wp2
        go_ret2
        exact ⟨by rw [HcR.out, HcB.out]; rfl, HK2.out.drewN _⟩
    · have hem : t.toList.isEmpty = false := by
        rw [ByteArray.toList_eq]
        cases hl : t.data.toList with
        | nil => exact absurd (ba_eq (a := t) (b := ⟨#[]⟩) hl) hte
        | cons x l => rfl
      have hne : t.data.toList ≠ [] := fun e => hte (ba_eq (a := t) (b := ⟨#[]⟩) e)
      have HLt := Lib.hid (rest_lt hne)
      have HCW := Lib.hid (cutWord_any b (encS t st) (by show t.size ≤ _; omega) wr.drew HD.out)
      have hrw : (encS t st).rest = t := rfl
      rw [hrw] at HCW
      have HSc := Lib.hid ((scan_round st t.data.toList).symm.trans HS.out)
      obtain ⟨wd, Hwd⟩ : ∃ l, Hid ((t.data.toList.dropWhile btw).takeWhile nob = l) := ⟨_, Lib.hid rfl⟩
      obtain ⟨rs, Hrs⟩ : ∃ l, Hid ((t.data.toList.dropWhile btw).dropWhile nob = l) := ⟨_, Lib.hid rfl⟩
      have hwl : wd.length ≤ t.size := by
        rw [← Hwd.out]
        have a1 := (List.takeWhile_prefix (l := t.data.toList.dropWhile btw) nob).length_le
        have a2 := (List.dropWhile_suffix (l := t.data.toList) btw).length_le
        rw [lenB] at a2
        omega
      rw [Hwd.out, Hrs.out] at HCW HSc
      rw [Hrs.out] at HLt
      have HRD : Hid (∀ w2, DrAt w2 b (encS (asB rs) st) → Kp (Only b) wr.drew w2 → Calls Tryz.prog 101 #[.pointer (some ⟨b, 0, none⟩), .string (asB wd), .agg (waysC b)] w2 fun e w' => e = .returned (.tuple #[]) ∧ DrAt w' b (encS (asB rs) (step st wd)) ∧ Kp (Only b) w2 w') := Lib.hid (fun w2 h1 h2 => read_any b (asB rs) st (asB wd) (by rw [asB_size]; omega) m w2 h1 (HWr.out.kept (((Kp.refl _ _).drew).trans h2)))
      have hV := HV.out
      have hbw : w1.heap.size ≠ b := by omega
      unfold waysC at HRD hV
      have y0 := cell_of_row wr w1.heap.size 0 _ _ _ hV
      have y1 := cell_of_row wr w1.heap.size 1 _ _ _ hV
      have y2 := cell_of_row wr w1.heap.size 2 _ _ _ hV
      have y3 := cell_of_row wr w1.heap.size 3 _ _ _ hV
      simp only [List.getElem?_toArray, List.getElem?_cons_zero, List.getElem?_cons_succ] at y0 y1 y2 y3
      have HKC : Hid (∀ w2 k v, Kp (Only b) wr.drew w2 → wr.cell? ⟨w1.heap.size, k, none⟩ = some v → w2.cell? ⟨w1.heap.size, k, none⟩ = some v) := Lib.hid (fun w2 k v h1 h2 => h1.cell h2 hbw)
      clear hV hem
      have hem : t.toList.isEmpty = false := by
        rw [ByteArray.toList_eq]
        cases hl : t.data.toList with
        | nil => exact absurd hl hne
        | cons x l => rfl
      go_wp2
      go_region_with (first
        | (go_at_call 102; (with_reducible refine HCW.out.mono ?_); rintro e w2 ⟨rfl, r2, k2⟩; have z0 := HKC.out w2 0 _ k2 y0; have z1 := HKC.out w2 1 _ k2 y1; have z2 := HKC.out w2 2 _ k2 y2; have z3 := HKC.out w2 3 _ k2 y3)
        | (go_at_call 101; (with_reducible refine (HRD.out _ r2 k2).mono ?_); rintro e w3 ⟨rfl, r3, k3⟩))
      all_goals
        have e0 := r3.cell 0 (v := .string (asB rs)) rfl
        go_wp2
        go_roundw
        case rel => exact ⟨asB rs, step st wd, by rw [asB_size]; have := HLt.out; rw [lenB] at this; omega, HSc, Lib.hid r3, Lib.hid ((k2.trans k3).at HV.out hbw), Lib.hid (HK.out.trans (((Kp.refl _ _).drew).trans (k2.trans k3)))⟩
        case measure =>
          rw [e0, c0]
          have := HLt.out
          rw [lenB] at this
          exact this

end Go.Proofs.YtllpdnmhabpbcaaGreatDoor
