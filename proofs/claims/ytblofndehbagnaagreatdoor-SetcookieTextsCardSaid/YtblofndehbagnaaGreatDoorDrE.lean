/-
  The document's cookie's date.
-/
import Derived.Test.YtblofndehbagnaaGreatDoorDrD
import Derived.Test.YtblofndehbagnaaGreatDoorDtR
import Derived.Test.YtblofndehbagnaaGreatDoorDtZ
namespace Go.Proofs.YtblofndehbagnaaGreatDoor
open Go.RowKit

def DaY (w : World) (b : Nat) (st : Told) (y : Int) : Prop := w.heap[b]? = some (.cells ((encD st).setIfInBounds 5 (.int .i64 y)) 96 (0, 0))
/-- What was told are months and years. -/
structure TOk (st : Told) : Prop where
  mo : MoOk st
  yr : ∀ y, st.yr = some y → 0 ≤ y ∧ y ≤ 9999
theorem DaY.cell {w : World} {b : Nat} {s : Told} {y : Int} (h : DaY w b s y) (k : Nat) {v : Value} (hv : ((encD s).setIfInBounds 5 (.int .i64 y))[k]? = some v) : w.cell? ⟨b, k, none⟩ = some v := by
  rw [cell_of_row w b k _ _ _ h]; exact hv
theorem day_same {w : World} {b : Nat} {s : Told} {y : Int} (h : DaAt w b s) (hy : s.yr.getD 0 = y) : DaY w b s y := by
  subst hy
  exact h
theorem TOk.next {st : Told} (h : TOk st) (w : List UInt8) : TOk (step st w) := by
  refine ⟨h.mo.next w, ?_⟩
  have P : ∀ st : Told, (∀ y, st.yr = some y → 0 ≤ y ∧ y ≤ 9999) → ∀ y, (step4 st w).yr = some y → 0 ≤ y ∧ y ≤ 9999 := fun st h => by
    unfold step4
    split
    · split
      · rename_i n r hn
        intro y e
        cases e
        exact told_bd hn (by omega)
      · exact h
    · exact h
  have P3 : ∀ st : Told, (∀ y, st.yr = some y → 0 ≤ y ∧ y ≤ 9999) → ∀ y, (step3 st w).yr = some y → 0 ≤ y ∧ y ≤ 9999 := fun st h => by
    unfold step3
    split
    · split
      · exact h
      · exact P _ h
    · exact P _ h
  have P2 : ∀ st : Told, (∀ y, st.yr = some y → 0 ≤ y ∧ y ≤ 9999) → ∀ y, (step2 st w).yr = some y → 0 ≤ y ∧ y ≤ 9999 := fun st h => by
    unfold step2
    split
    · split
      · exact h
      · exact P3 _ h
    · exact P3 _ h
  unfold step
  split
  · split
    · exact h.yr
    · exact P2 _ h.yr
  · exact P2 _ h.yr
theorem TOk.none : TOk noneT := ⟨(fun m h => by cases h), (fun y h => by cases h)⟩
theorem sub_data (s : ByteArray) (a b : Nat) : (s.extract a b).data.toList = (s.data.toList.take b).drop a := by
  rw [ByteArray.data_extract, Array.toList_extract, List.extract_eq_take_drop, List.drop_take]
theorem sub_snoc {l : List UInt8} {a k : Nat} (h : k < l.length) (ha : a ≤ k) : (l.take (k + 1)).drop a = (l.take k).drop a ++ [l[k]] := by
  rw [List.take_succ_eq_append_getElem h, List.drop_append_of_le_length (by rw [List.length_take]; omega)]
theorem scan_go {st : Told} {l : List UInt8} {a k : Nat} {R : Told} (h : k < l.length) (ha : a ≤ k) (hb : btw l[k] = false) (hs : scanF st ((l.take k).drop a) (l.drop k) = R) : scanF st ((l.take (k + 1)).drop a) (l.drop (k + 1)) = R := by
  rw [List.drop_eq_getElem_cons h, scanF, hb] at hs
  simp only [Bool.false_eq_true, if_false] at hs
  rw [sub_snoc h ha]; exact hs
theorem scan_cut {st : Told} {l : List UInt8} {a k : Nat} {R : Told} (h : k < l.length) (hb : btw l[k] = true) (hs : scanF st ((l.take k).drop a) (l.drop k) = R) : scanF (step st ((l.take k).drop a)) ((l.take (k + 1)).drop (k + 1)) (l.drop (k + 1)) = R := by
  rw [List.drop_eq_getElem_cons h, scanF, if_pos hb, endW_eq] at hs
  have e : (l.take (k + 1)).drop (k + 1) = [] := List.drop_of_length_le (by rw [List.length_take]; omega)
  rw [e]
  exact hs
theorem scan_fin {st : Told} {l : List UInt8} {a : Nat} {R : Told} (hs : scanF st ((l.take l.length).drop a) (l.drop l.length) = R) : scanF (step st ((l.take l.length).drop a)) ((l.take (l.length + 1)).drop (l.length + 1)) (l.drop (l.length + 1)) = R := by
  rw [List.drop_length] at hs
  have e1 : (l.take (l.length + 1)).drop (l.length + 1) = [] := List.drop_of_length_le (by rw [List.length_take]; omega)
  have e2 : l.drop (l.length + 1) = [] := List.drop_of_length_le (by omega)
  rw [e1, e2]
  have : endW st ((l.take l.length).drop a) = R := hs
  rw [endW_eq] at this
  rw [this]; rfl
theorem scan_out {st : Told} {l : List UInt8} {k : Nat} {R : Told} (hk : k = l.length + 1) (hs : scanF st ((l.take k).drop k) (l.drop k) = R) : R = st := by
  have e1 : (l.take k).drop k = [] := List.drop_of_length_le (by rw [List.length_take]; omega)
  have e2 : l.drop k = [] := List.drop_of_length_le (by omega)
  rw [e1, e2] at hs
  exact hs.symm

set_option maxHeartbeats 8000000 in
set_option maxRecDepth 100000 in
theorem RefCookie_any (s : ByteArray) (hs : s.size ≤ 1048600) (w : World) :
    Calls Tryz.prog 43 #[.string s] w fun e w' => e = .returned (.tuple #[.int .i64 (cookR (toldT s)), .bool (cookB (toldT s))]) ∧ Below w.heap.size w w' := by
  obtain ⟨R, HRT⟩ : ∃ R, Hid (scanF noneT [] s.data.toList = R) := ⟨_, Lib.hid rfl⟩
  unfold toldT
  rw [HRT.out]
  have HNew := Lib.hid (heap_alloc_new w (.cells (encD noneT) 96 (0, 0)))
  have HK0 : Hid (Kp (Only w.heap.size) w (w.alloc (.cells (encD noneT) 96 (0, 0)))) := Lib.hid ((Kp.refl _ _).alloc _)
  go_enter Tryz.func43, Tryz.ntmps43
  go_wp2
  go_loopw [5, 6] (fun v u wr => ∃ (a k : Nat) (st : Told), a ≤ k ∧ k ≤ s.size + 1 ∧ (k = s.size + 1 → a = k) ∧ v = .int .i64 (a : Int) ∧ u = .int .i64 (k : Int) ∧ TOk st ∧ Hid (scanF st ((s.data.toList.take k).drop a) (s.data.toList.drop k) = R) ∧ Hid (DaAt wr w.heap.size st) ∧ Hid (Kp (Only w.heap.size) w wr)) (fun _ u _ => s.size + 1 - (intOf u).toNat)
  case atStart => exact ⟨0, 0, noneT, Nat.le_refl _, Nat.zero_le _, (fun h => by omega), rfl, rfl, TOk.none, Lib.hid (by simpa using HRT.out), HNew, HK0⟩
  case round =>
    obtain ⟨a, k, st, hak, hk, hae, rfl, rfl, hok, HS, HD, HK⟩ := hrel
    have HOk := Lib.hid hok
    clear hok
    have hln : s.data.toList.length = s.size := lenB s
    by_cases hlt : k < s.size
    · have hltI : (k : Int) < (s.size : Int) := by omega
      have hlk : k < s.data.toList.length := by omega
      obtain ⟨c, Hc⟩ : ∃ c : UInt8, s[k] = c := ⟨_, rfl⟩
      have hcl : s.data.toList[k] = c := Hc
      have HBt := Lib.hid (fun w => RefBetween_any c w)
      cases hb : btw c with
      | false =>
        rw [hb] at HBt
        have HS2 := Lib.hid (scan_go hlk hak (by rw [hcl]; exact hb) HS.out)
        clear hcl hb
        go_wp2_with fail
        refine (HBt.out _).mono ?_
        rintro e w' ⟨rfl, rfl⟩
        go_wp2
        go_roundw
        case rel => exact ⟨a, k + 1, st, by omega, by omega, (fun h => by omega), rfl, by go_num, HOk.out, HS2, HD, HK⟩
        case measure => simp [intOf]; omega
      | true =>
        rw [hb] at HBt
        have HS2 := Lib.hid (scan_cut hlk (by rw [hcl]; exact hb) HS.out)
        clear hcl hb
        by_cases hgt : a < k
        · have hgtI : (a : Int) < (k : Int) := by omega
          have HW := Lib.hid (RefWord_any w.heap.size st (s.extract a k) (by rw [ByteArray.size_extract]; omega) wr HD.out HOk.out.mo)
          rw [sub_data] at HW
          go_wp2_with fail
          refine (HBt.out _).mono ?_
          rintro e w' ⟨rfl, rfl⟩
          go_wp2_with fail
          refine HW.out.mono ?_
          rintro e w2 ⟨rfl, r2, k2⟩
          go_wp2
          go_roundw
          case rel => exact ⟨k + 1, k + 1, _, by omega, by omega, (fun _ => rfl), by go_num, by go_num, HOk.out.next _, HS2, Lib.hid r2, Lib.hid (HK.out.trans k2)⟩
          case measure => simp [intOf]; omega
        · have hgtI : ¬ (a : Int) < (k : Int) := by omega
          have hee : (s.data.toList.take k).drop a = [] := List.drop_of_length_le (by rw [List.length_take]; omega)
          have HS3 := HS2.out
          rw [hee, step_nil] at HS3
          have HS4 := Lib.hid HS3
          clear HS3 hee
          go_wp2_with fail
          refine (HBt.out _).mono ?_
          rintro e w' ⟨rfl, rfl⟩
          go_wp2
          go_roundw
          case rel => exact ⟨k + 1, k + 1, st, by omega, by omega, (fun _ => rfl), by go_num, by go_num, HOk.out, HS4, HD, HK⟩
          case measure => simp [intOf]; omega
    · by_cases hks : k = s.size
      · subst hks
        have HS1 := HS.out
        rw [← hln] at HS1
        have HS2 := Lib.hid (scan_fin HS1)
        rw [hln] at HS2
        clear HS1
        have hltI : ¬ (s.size : Int) < (s.size : Int) := by omega
        by_cases hgt : a < s.size
        · have hgtI : (a : Int) < (s.size : Int) := by omega
          have HW := Lib.hid (RefWord_any w.heap.size st (s.extract a s.size) (by rw [ByteArray.size_extract]; omega) wr HD.out HOk.out.mo)
          rw [sub_data] at HW
          go_wp2_with fail
          refine HW.out.mono ?_
          rintro e w2 ⟨rfl, r2, k2⟩
          go_wp2
          go_roundw
          case rel => exact ⟨s.size + 1, s.size + 1, _, by omega, by omega, (fun _ => rfl), by go_num, by go_num, HOk.out.next _, HS2, Lib.hid r2, Lib.hid (HK.out.trans k2)⟩
          case measure => simp [intOf]
        · have hgtI : ¬ (a : Int) < (s.size : Int) := by omega
          have hee : (s.data.toList.take s.size).drop a = [] := List.drop_of_length_le (by rw [List.length_take]; omega)
          have HS3 := HS2.out
          rw [hee, step_nil] at HS3
          have HS4 := Lib.hid HS3
          clear HS3 hee
          go_wp2
          go_roundw
          case rel => exact ⟨s.size + 1, s.size + 1, st, by omega, by omega, (fun _ => rfl), by go_num, by go_num, HOk.out, HS4, HD, HK⟩
          case measure => simp [intOf]
      · have hk1 : k = s.size + 1 := by omega
        have hke := hae hk1
        subst hke
        have hRe : R = st := scan_out (by rw [hln]; exact hk1) HS.out
        subst hRe
        have hltI : ¬ (a : Int) ≤ (s.size : Int) := by omega
        have h5 := HD.out.cell 5 (v := .int .i64 (R.yr.getD 0)) rfl
        have f5 := HD.out.free 5
        have h4 := HD.out.cell 4 (v := .int .i64 ((R.mo.getD 0 : Nat) : Int)) rfl
        have h6 := HD.out.cell 6 (v := .bool R.tm.isSome) rfl
        have h7 := HD.out.cell 7 (v := .bool R.dy.isSome) rfl
        have h8 := HD.out.cell 8 (v := .bool R.yr.isSome) rfl
        clear hae hk1 hak hk hlt hks
        obtain ⟨y, hy⟩ : ∃ y, R.yr.getD 0 = y := ⟨_, rfl⟩
        have hyb : 0 ≤ y ∧ y ≤ 9999 := by
          cases hr : R.yr with
          | none => rw [hr] at hy; have : (0 : Int) = y := hy; omega
          | some x => rw [hr] at hy; have : x = y := hy; have := HOk.out.yr x hr; omega
        rw [hy] at h5
        obtain ⟨hy0, hy9⟩ := hyb
        obtain ⟨Y, HYw⟩ : ∃ Y, Hid (whole y = Y) := ⟨_, Lib.hid rfl⟩
        have hparts : y < 70 ∨ (70 ≤ y ∧ y ≤ 99) ∨ 100 ≤ y := by omega
        rcases hparts with h70 | h70 | h70
        · have p1 : ¬ (70 : Int) ≤ y := by omega
          have p2 : y ≤ 69 := by omega
          have hYe : Y = y + 2000 := by rw [← HYw.out, whole, if_pos h70, Int.add_comm]
          go_upto_region 14 with (fail)
          have HR5 := Lib.hid (row_set (k := 5) HD.out (.int .i64 (y + 2000)))
          have HK5 : Hid (Kp (Only w.heap.size) w (wr.setCell ⟨w.heap.size, 5, none⟩ (.int .i64 (y + 2000)))) := Lib.hid (HK.out.set1 5 _)
          clear h5 f5 h4 h6 h7 h8
          generalize wr.setCell ⟨w.heap.size, 5, none⟩ (.int .i64 (y + 2000)) = W2 at HR5 HK5 ⊢
          have HDY : Hid (DaY W2 w.heap.size R Y) := Lib.hid (by rw [hYe]; exact HR5.out)
          clear HR5
          have HKg : Hid (Below w.heap.size w W2) := Lib.hid (HK5.out.below (Nat.le_refl _) (fun k (hk : k = _) => Nat.le_of_eq hk.symm))
          obtain ⟨tm, dy, mo, yr⟩ := R
          cases tm with
          | none =>
            have c6 := HDY.out.cell 6 (v := .bool false) rfl
            go_wp2
            go_ret2
            exact ⟨rfl, HKg.out⟩
          | some x =>
            obtain ⟨h, i, x⟩ := x
            have c6 := HDY.out.cell 6 (v := .bool true) rfl
            cases dy with
            | none =>
              have c7 := HDY.out.cell 7 (v := .bool false) rfl
              go_wp2
              go_ret2
              exact ⟨rfl, HKg.out⟩
            | some d =>
              have c7 := HDY.out.cell 7 (v := .bool true) rfl
              cases mo with
              | none =>
                have c4 := HDY.out.cell 4 (v := .int .i64 0) rfl
                go_wp2
                go_ret2
                exact ⟨rfl, HKg.out⟩
              | some mm =>
                have c4 := HDY.out.cell 4 (v := .int .i64 (mm : Int)) rfl
                have hm1 := HOk.out.mo mm rfl
                have hm0 : ((mm : Int) == 0) = false := beq_eq_false_iff_ne.2 (by omega)
                cases yr with
                | none =>
                  have c8 := HDY.out.cell 8 (v := .bool false) rfl
                  go_wp2
                  go_ret2
                  exact ⟨rfl, HKg.out⟩
                | some v =>
                  have c8 := HDY.out.cell 8 (v := .bool true) rfl
                  have c5 := HDY.out.cell 5 (v := .int .i64 Y) rfl
                  have hvy : v = y := hy
                  subst hvy
                  have hcR : cookR ⟨some (h, i, x), some d, some mm, some v⟩ = if whole v < 1601 then 0 else secR (whole v) (mm : Int) d h i x := rfl
                  have hcB : cookB ⟨some (h, i, x), some d, some mm, some v⟩ = if whole v < 1601 then false else secB (whole v) (mm : Int) d h i x := rfl
                  rw [HYw.out] at hcR hcB
                  have HcR := Lib.hid hcR
                  have HcB := Lib.hid hcB
                  clear hcR hcB hy hYe h70 p1 p2
                  by_cases hlow : Y < 1601
                  · have HcR2 := Lib.hid (HcR.out.trans (if_pos hlow))
                    have HcB2 := Lib.hid (HcB.out.trans (if_pos hlow))
                    go_wp2
                    go_ret2
                    exact ⟨by rw [HcR2.out, HcB2.out]; rfl, HKg.out⟩
                  · have HcR2 := Lib.hid (HcR.out.trans (if_neg hlow))
                    have HcB2 := Lib.hid (HcB.out.trans (if_neg hlow))
                    have HSec := Lib.hid (fun w => RefSeconds_any Y (mm : Int) d h i x w)
                    obtain ⟨sr, Hsr⟩ : ∃ q, Hid (secR Y (mm : Int) d h i x = q) := ⟨_, Lib.hid rfl⟩
                    obtain ⟨sb, Hsb⟩ : ∃ q, Hid (secB Y (mm : Int) d h i x = q) := ⟨_, Lib.hid rfl⟩
                    rw [Hsr.out, Hsb.out] at HSec
                    have c0 := HDY.out.cell 0 (v := .int .i64 h) rfl
                    have c1 := HDY.out.cell 1 (v := .int .i64 i) rfl
                    have c2 := HDY.out.cell 2 (v := .int .i64 x) rfl
                    have c3 := HDY.out.cell 3 (v := .int .i64 d) rfl
                    go_wp2_with fail
                    refine (HSec.out _).mono ?_
                    rintro e w' ⟨rfl, rfl⟩
                    go_wp2
                    go_ret2
                    exact ⟨by rw [HcR2.out, HcB2.out, Hsr.out, Hsb.out]; rfl, HKg.out⟩
        · have p1 : (70 : Int) ≤ y := h70.1
          have p2 : y ≤ 99 := h70.2
          have p3 : ¬ y + 1900 ≤ 69 := by omega
          have hYe : Y = y + 1900 := by rw [← HYw.out, whole, if_neg (by omega), if_pos (by omega), Int.add_comm]
          go_upto_region 14 with (fail)
          have HR5 := Lib.hid (row_set (k := 5) HD.out (.int .i64 (y + 1900)))
          have HK5 : Hid (Kp (Only w.heap.size) w (wr.setCell ⟨w.heap.size, 5, none⟩ (.int .i64 (y + 1900)))) := Lib.hid (HK.out.set1 5 _)
          clear h5 f5 h4 h6 h7 h8
          generalize wr.setCell ⟨w.heap.size, 5, none⟩ (.int .i64 (y + 1900)) = W2 at HR5 HK5 ⊢
          have HDY : Hid (DaY W2 w.heap.size R Y) := Lib.hid (by rw [hYe]; exact HR5.out)
          clear HR5
          have HKg : Hid (Below w.heap.size w W2) := Lib.hid (HK5.out.below (Nat.le_refl _) (fun k (hk : k = _) => Nat.le_of_eq hk.symm))
          obtain ⟨tm, dy, mo, yr⟩ := R
          cases tm with
          | none =>
            have c6 := HDY.out.cell 6 (v := .bool false) rfl
            go_wp2
            go_ret2
            exact ⟨rfl, HKg.out⟩
          | some x =>
            obtain ⟨h, i, x⟩ := x
            have c6 := HDY.out.cell 6 (v := .bool true) rfl
            cases dy with
            | none =>
              have c7 := HDY.out.cell 7 (v := .bool false) rfl
              go_wp2
              go_ret2
              exact ⟨rfl, HKg.out⟩
            | some d =>
              have c7 := HDY.out.cell 7 (v := .bool true) rfl
              cases mo with
              | none =>
                have c4 := HDY.out.cell 4 (v := .int .i64 0) rfl
                go_wp2
                go_ret2
                exact ⟨rfl, HKg.out⟩
              | some mm =>
                have c4 := HDY.out.cell 4 (v := .int .i64 (mm : Int)) rfl
                have hm1 := HOk.out.mo mm rfl
                have hm0 : ((mm : Int) == 0) = false := beq_eq_false_iff_ne.2 (by omega)
                cases yr with
                | none =>
                  have c8 := HDY.out.cell 8 (v := .bool false) rfl
                  go_wp2
                  go_ret2
                  exact ⟨rfl, HKg.out⟩
                | some v =>
                  have c8 := HDY.out.cell 8 (v := .bool true) rfl
                  have c5 := HDY.out.cell 5 (v := .int .i64 Y) rfl
                  have hvy : v = y := hy
                  subst hvy
                  have hcR : cookR ⟨some (h, i, x), some d, some mm, some v⟩ = if whole v < 1601 then 0 else secR (whole v) (mm : Int) d h i x := rfl
                  have hcB : cookB ⟨some (h, i, x), some d, some mm, some v⟩ = if whole v < 1601 then false else secB (whole v) (mm : Int) d h i x := rfl
                  rw [HYw.out] at hcR hcB
                  have HcR := Lib.hid hcR
                  have HcB := Lib.hid hcB
                  clear hcR hcB hy hYe h70 p1 p2
                  by_cases hlow : Y < 1601
                  · have HcR2 := Lib.hid (HcR.out.trans (if_pos hlow))
                    have HcB2 := Lib.hid (HcB.out.trans (if_pos hlow))
                    go_wp2
                    go_ret2
                    exact ⟨by rw [HcR2.out, HcB2.out]; rfl, HKg.out⟩
                  · have HcR2 := Lib.hid (HcR.out.trans (if_neg hlow))
                    have HcB2 := Lib.hid (HcB.out.trans (if_neg hlow))
                    have HSec := Lib.hid (fun w => RefSeconds_any Y (mm : Int) d h i x w)
                    obtain ⟨sr, Hsr⟩ : ∃ q, Hid (secR Y (mm : Int) d h i x = q) := ⟨_, Lib.hid rfl⟩
                    obtain ⟨sb, Hsb⟩ : ∃ q, Hid (secB Y (mm : Int) d h i x = q) := ⟨_, Lib.hid rfl⟩
                    rw [Hsr.out, Hsb.out] at HSec
                    have c0 := HDY.out.cell 0 (v := .int .i64 h) rfl
                    have c1 := HDY.out.cell 1 (v := .int .i64 i) rfl
                    have c2 := HDY.out.cell 2 (v := .int .i64 x) rfl
                    have c3 := HDY.out.cell 3 (v := .int .i64 d) rfl
                    go_wp2_with fail
                    refine (HSec.out _).mono ?_
                    rintro e w' ⟨rfl, rfl⟩
                    go_wp2
                    go_ret2
                    exact ⟨by rw [HcR2.out, HcB2.out, Hsr.out, Hsb.out]; rfl, HKg.out⟩
        · have p1 : (70 : Int) ≤ y := by omega
          have p2 : ¬ y ≤ 99 := by omega
          have p3 : ¬ y ≤ 69 := by omega
          have hYe : Y = y := by rw [← HYw.out, whole, if_neg (by omega), if_neg (by omega)]
          go_upto_region 14 with (fail)
          have HR5 := Lib.hid (HD.out)
          have HK5 : Hid (Kp (Only w.heap.size) w (wr)) := Lib.hid (HK.out)
          clear h5 f5 h4 h6 h7 h8
          generalize wr = W2 at HR5 HK5 ⊢
          have HDY : Hid (DaY W2 w.heap.size R Y) := Lib.hid (by rw [hYe]; exact day_same HR5.out hy)
          clear HR5
          have HKg : Hid (Below w.heap.size w W2) := Lib.hid (HK5.out.below (Nat.le_refl _) (fun k (hk : k = _) => Nat.le_of_eq hk.symm))
          obtain ⟨tm, dy, mo, yr⟩ := R
          cases tm with
          | none =>
            have c6 := HDY.out.cell 6 (v := .bool false) rfl
            go_wp2
            go_ret2
            exact ⟨rfl, HKg.out⟩
          | some x =>
            obtain ⟨h, i, x⟩ := x
            have c6 := HDY.out.cell 6 (v := .bool true) rfl
            cases dy with
            | none =>
              have c7 := HDY.out.cell 7 (v := .bool false) rfl
              go_wp2
              go_ret2
              exact ⟨rfl, HKg.out⟩
            | some d =>
              have c7 := HDY.out.cell 7 (v := .bool true) rfl
              cases mo with
              | none =>
                have c4 := HDY.out.cell 4 (v := .int .i64 0) rfl
                go_wp2
                go_ret2
                exact ⟨rfl, HKg.out⟩
              | some mm =>
                have c4 := HDY.out.cell 4 (v := .int .i64 (mm : Int)) rfl
                have hm1 := HOk.out.mo mm rfl
                have hm0 : ((mm : Int) == 0) = false := beq_eq_false_iff_ne.2 (by omega)
                cases yr with
                | none =>
                  have c8 := HDY.out.cell 8 (v := .bool false) rfl
                  go_wp2
                  go_ret2
                  exact ⟨rfl, HKg.out⟩
                | some v =>
                  have c8 := HDY.out.cell 8 (v := .bool true) rfl
                  have c5 := HDY.out.cell 5 (v := .int .i64 Y) rfl
                  have hvy : v = y := hy
                  subst hvy
                  have hcR : cookR ⟨some (h, i, x), some d, some mm, some v⟩ = if whole v < 1601 then 0 else secR (whole v) (mm : Int) d h i x := rfl
                  have hcB : cookB ⟨some (h, i, x), some d, some mm, some v⟩ = if whole v < 1601 then false else secB (whole v) (mm : Int) d h i x := rfl
                  rw [HYw.out] at hcR hcB
                  have HcR := Lib.hid hcR
                  have HcB := Lib.hid hcB
                  clear hcR hcB hy hYe h70 p1 p2
                  by_cases hlow : Y < 1601
                  · have HcR2 := Lib.hid (HcR.out.trans (if_pos hlow))
                    have HcB2 := Lib.hid (HcB.out.trans (if_pos hlow))
                    go_wp2
                    go_ret2
                    exact ⟨by rw [HcR2.out, HcB2.out]; rfl, HKg.out⟩
                  · have HcR2 := Lib.hid (HcR.out.trans (if_neg hlow))
                    have HcB2 := Lib.hid (HcB.out.trans (if_neg hlow))
                    have HSec := Lib.hid (fun w => RefSeconds_any Y (mm : Int) d h i x w)
                    obtain ⟨sr, Hsr⟩ : ∃ q, Hid (secR Y (mm : Int) d h i x = q) := ⟨_, Lib.hid rfl⟩
                    obtain ⟨sb, Hsb⟩ : ∃ q, Hid (secB Y (mm : Int) d h i x = q) := ⟨_, Lib.hid rfl⟩
                    rw [Hsr.out, Hsb.out] at HSec
                    have c0 := HDY.out.cell 0 (v := .int .i64 h) rfl
                    have c1 := HDY.out.cell 1 (v := .int .i64 i) rfl
                    have c2 := HDY.out.cell 2 (v := .int .i64 x) rfl
                    have c3 := HDY.out.cell 3 (v := .int .i64 d) rfl
                    go_wp2_with fail
                    refine (HSec.out _).mono ?_
                    rintro e w' ⟨rfl, rfl⟩
                    go_wp2
                    go_ret2
                    exact ⟨by rw [HcR2.out, HcB2.out, Hsr.out, Hsb.out]; rfl, HKg.out⟩

end Go.Proofs.YtblofndehbagnaaGreatDoor
