/-
  The document's cookie's date: one more word.
-/
import Derived.Test.YtblofndehbagnaaGreatDoorDrC
import Derived.Deep.DeepCutAuto
namespace Go.Proofs.YtblofndehbagnaaGreatDoor
open Go.RowKit

/-- What the document holds of what is told. -/
def encD (st : Told) : Array Value := #[.int .i64 (st.tm.getD (0, 0, 0)).1, .int .i64 (st.tm.getD (0, 0, 0)).2.1, .int .i64 (st.tm.getD (0, 0, 0)).2.2, .int .i64 (st.dy.getD 0), .int .i64 ((st.mo.getD 0 : Nat) : Int), .int .i64 (st.yr.getD 0), .bool st.tm.isSome, .bool st.dy.isSome, .bool st.yr.isSome]
def DaAt (w : World) (b : Nat) (st : Told) : Prop := w.heap[b]? = some (.cells (encD st) 96 (0, 0))
theorem DaAt.cell {w : World} {b : Nat} {s : Told} (h : DaAt w b s) (k : Nat) {v : Value} (hv : (encD s)[k]? = some v) : w.cell? ⟨b, k, none⟩ = some v := by
  rw [cell_of_row w b k _ _ _ h]; exact hv
theorem DaAt.free {w : World} {b : Nat} {s : Told} (h : DaAt w b s) (k : Nat) : w.frozen? ⟨b, k, none⟩ = false := frozen_of_row w b k _ _ h
theorem DaAt.lt {w : World} {b : Nat} {s : Told} (h : DaAt w b s) : b < w.heap.size := lt_of_block h
theorem DaAt.below {w w' : World} {b : Nat} {s : Told} (h : DaAt w b s) (hb : Below w.heap.size w w') : DaAt w' b s := (hb.block b h.lt).trans h
/-- Months that were told are months. -/
def MoOk (st : Told) : Prop := ∀ m, st.mo = some m → 1 ≤ m
theorem MoOk.next {st : Told} (h : MoOk st) (w : List UInt8) : MoOk (step st w) := by
  have h4 : ∀ st : Told, MoOk st → MoOk (step4 st w) := fun st h => by
    unfold step4
    split
    · split
      · exact h
      · exact h
    · exact h
  have h3 : ∀ st : Told, MoOk st → MoOk (step3 st w) := fun st h => by
    unfold step3
    split
    · split
      · rename_i hm
        intro m e
        cases e
        exact (moP_some hm).2.1
      · exact h4 _ h
    · exact h4 _ h
  have h2 : ∀ st : Told, MoOk st → MoOk (step2 st w) := fun st h => by
    unfold step2
    split
    · split
      · exact h
      · exact h3 _ h
    · exact h3 _ h
  unfold step
  split
  · split
    · exact h
    · exact h2 _ h
  · exact h2 _ h
theorem run_pos {a b : Nat} {l : List UInt8} {n : Int} {r : List UInt8} (h : toldN a b l = some (n, r)) (ha : 1 ≤ a) : 1 ≤ (l.takeWhile isD).length := by
  unfold toldN at h
  split at h
  · rename_i hx; omega
  · cases h
/-- The number that is told, and how many digits tell it. -/
def tN (o : Option (Int × List UInt8)) : Int := match o with | some (n, _) => n | none => 0
def tK (o : Option (Int × List UInt8)) (k : Nat) : Nat := match o with | some _ => k | none => 0
theorem toldV_eq (o : Option (Int × List UInt8)) (k : Nat) : toldV o k = .tuple #[.int .i64 (tN o), .int .i64 ((tK o k : Nat) : Int)] := by
  cases o with
  | none => rfl
  | some x => obtain ⟨n, r⟩ := x; rfl

set_option maxHeartbeats 8000000 in
set_option maxRecDepth 100000 in
theorem RefWord_any (b : Nat) (st : Told) (t : ByteArray) (ht : t.size ≤ 1048600) (w : World) (h : DaAt w b st) (hmo : MoOk st) :
    Calls Tryz.prog 75 #[.pointer (some ⟨b, 0, none⟩), .string t] w fun e w' => e = .returned (.tuple #[]) ∧ DaAt w' b (step st t.data.toList) ∧ Kp (Only b) w w' := by
  obtain ⟨R, HRS⟩ : ∃ R, Hid (nextS 0 st t.data.toList = R) := ⟨_, Lib.hid rfl⟩
  rw [show step st t.data.toList = R from HRS.out]
  have HR := Lib.hid h
  have HCk := Lib.hid (fun w => RefClock_any t ht w)
  obtain ⟨o1, Ho1⟩ : ∃ o, Hid (clockP t.data.toList = o) := ⟨_, Lib.hid rfl⟩
  rw [Ho1.out] at HCk
  obtain ⟨k, Hk⟩ : ∃ k, Hid ((t.data.toList.takeWhile isD).length = k) := ⟨_, Lib.hid rfl⟩
  have HT2 := Lib.hid (fun w => RefTold_any t 1 2 (by omega) (by omega) ht w)
  have HT4 := Lib.hid (fun w => RefTold_any t 2 4 (by omega) (by omega) ht w)
  have HNm := Lib.hid (fun w => RefNamed_any t ht w)
  obtain ⟨o2, Ho2⟩ : ∃ o, Hid (toldN 1 2 t.data.toList = o) := ⟨_, Lib.hid rfl⟩
  obtain ⟨o4, Ho4⟩ : ∃ o, Hid (toldN 2 4 t.data.toList = o) := ⟨_, Lib.hid rfl⟩
  obtain ⟨o3, Ho3⟩ : ∃ o, Hid (moP t.data.toList = o) := ⟨_, Lib.hid rfl⟩
  rw [Ho2.out, Hk.out, toldV_eq] at HT2
  rw [Ho4.out, Hk.out, toldV_eq] at HT4
  rw [Ho3.out] at HNm
  obtain ⟨n2, Hn2⟩ : ∃ n, Hid (tN o2 = n) := ⟨_, Lib.hid rfl⟩
  obtain ⟨k2, Hk2⟩ : ∃ n, Hid (tK o2 k = n) := ⟨_, Lib.hid rfl⟩
  obtain ⟨n4, Hn4⟩ : ∃ n, Hid (tN o4 = n) := ⟨_, Lib.hid rfl⟩
  obtain ⟨k4, Hk4⟩ : ∃ n, Hid (tK o4 k = n) := ⟨_, Lib.hid rfl⟩
  obtain ⟨n3, Hn3⟩ : ∃ n, Hid (o3.getD 0 = n) := ⟨_, Lib.hid rfl⟩
  rw [Hn2.out, Hk2.out] at HT2
  rw [Hn4.out, Hk4.out] at HT4
  rw [Hn3.out] at HNm
  have HMo := Lib.hid hmo
  have c6 := h.cell 6 (v := .bool st.tm.isSome) rfl
  have c7 := h.cell 7 (v := .bool st.dy.isSome) rfl
  have c4 := h.cell 4 (v := .int .i64 ((st.mo.getD 0 : Nat) : Int)) rfl
  have c8 := h.cell 8 (v := .bool st.yr.isSome) rfl
  have f0 := h.free 0
  have f1 := h.free 1
  have f2 := h.free 2
  have f6 := h.free 6
  have d0 := h.cell 0 (v := .int .i64 (st.tm.getD (0, 0, 0)).1) rfl
  have d1 := h.cell 1 (v := .int .i64 (st.tm.getD (0, 0, 0)).2.1) rfl
  have d2' := h.cell 2 (v := .int .i64 (st.tm.getD (0, 0, 0)).2.2) rfl
  have f3 := h.free 3
  have f7 := h.free 7
  have f5 := h.free 5
  have f8 := h.free 8
  have d3 := h.cell 3 (v := .int .i64 (st.dy.getD 0)) rfl
  have d5 := h.cell 5 (v := .int .i64 (st.yr.getD 0)) rfl
  obtain ⟨tm, dy, mo, yr⟩ := st
  simp only at c6 c7 c4 c8 d0 d1 d2' d3 d5
  obtain ⟨z1, Hz1⟩ : ∃ z, Hid (tm.isSome = z) := ⟨_, Lib.hid rfl⟩
  obtain ⟨z2, Hz2⟩ : ∃ z, Hid (dy.isSome = z) := ⟨_, Lib.hid rfl⟩
  obtain ⟨z4, Hz4⟩ : ∃ z, Hid (yr.isSome = z) := ⟨_, Lib.hid rfl⟩
  obtain ⟨z3, Hz3⟩ : ∃ z : Nat, Hid (mo.getD 0 = z) := ⟨_, Lib.hid rfl⟩
  rw [Hz1.out] at c6
  rw [Hz2.out] at c7
  rw [Hz4.out] at c8
  rw [Hz3.out] at c4
  obtain ⟨y1, Hy1⟩ : ∃ z, Hid (o1.isSome = z) := ⟨_, Lib.hid rfl⟩
  unfold ClkV at HCk
  rw [Hy1.out] at HCk
  clear h hmo
  go_enter Tryz.func75, Tryz.ntmps75
  go_wp2_with fail
  refine (HCk.out _).mono ?_
  rintro e w' ⟨a0, a1, a2, rfl, hts, rfl⟩
  have HTs := Lib.hid hts
  clear hts
  go_upto_region 1 with (fail)
  go_cut [24] (fun s24 wx => s24 = .bool (y1 && !z1) ∧ w = wx)
  case first =>
    cases y1 <;> cases z1
    all_goals
      go_wp2
      go_meet
      exact ⟨rfl, rfl⟩
  case rest =>
  obtain ⟨rfl, rfl⟩ := hcut
  cases hp : (y1 && !z1) with
  | true =>
    have hy : o1.isSome = true := by rw [Hy1.out]; simp at hp; exact hp.1
    have hz : tm = none := by
      have := Hz1.out
      cases tm with
      | none => rfl
      | some x => simp at hp; rw [← this] at hp; simp at hp
    subst hz
    obtain ⟨x, hx⟩ := Option.isSome_iff_exists.1 hy
    have hxe := HTs.out x hx
    subst hxe
    have hRe := HRS.out.symm.trans (next0_yes dy mo yr (Ho1.out.trans hx))
    subst hRe
    clear hy hx hp
    go_wp2
    (try simp only [Exit.inBlock, Exit.then])
    refine bodyPost_ret (results_none rfl _ _ _) rfl ?_
    exact ⟨rfl, row_set (row_set (row_set (row_set HR.out _) _) _) _, ((((Kp.refl _ _).set1 0 _).set1 1 _).set1 2 _).set1 6 _⟩
  | false =>
    have hn0 : nextS 0 ⟨tm, dy, mo, yr⟩ t.data.toList = nextS 1 ⟨tm, dy, mo, yr⟩ t.data.toList := by
      refine next0_to _ ?_
      cases htm : tm with
      | some x => exact .inl (by simp)
      | none =>
        right
        rw [Ho1.out]
        have h1 := Hz1.out
        rw [htm] at h1
        have h2 := Hy1.out
        cases ho : o1 with
        | none => rfl
        | some x =>
          rw [ho] at h2
          rw [← h1, ← h2] at hp
          simp at hp
    have HN1 := Lib.hid (hn0.symm.trans HRS.out)
    clear hn0 hp
    go_wp2_with fail
    refine (HT2.out _).mono ?_
    rintro e w' ⟨rfl, rfl⟩
    go_upto_region 7 with (fail)
    go_cut [53] (fun s53 wx => s53 = .bool (decide (0 < k2) && !z2) ∧ w = wx)
    case first =>
      by_cases hk0 : 0 < k2
      · have hkI : (0 : Int) < (k2 : Int) := by omega
        cases z2
        all_goals
          go_wp2
          go_meet
          exact ⟨by simp [hk0], rfl⟩
      · have hkI : ¬ (0 : Int) < (k2 : Int) := by omega
        go_wp2
        go_meet
        exact ⟨by simp [hk0], rfl⟩
    case rest =>
    obtain ⟨rfl, rfl⟩ := hcut
    cases hp : (decide (0 < k2) && !z2) with
    | true =>
      simp only [Bool.and_eq_true, decide_eq_true_eq, Bool.not_eq_true'] at hp
      have hz : dy = none := by
        have := Hz2.out
        cases dy with
        | none => rfl
        | some x => rw [hp.2] at this; cases this
      subst hz
      obtain ⟨x, hx⟩ : ∃ x, o2 = some x := by
        cases ho : o2 with
        | none => have := Hk2.out; rw [ho] at this; have h3 : (0 : Nat) = k2 := this; omega
        | some x => exact ⟨x, rfl⟩
      obtain ⟨x, r⟩ := x
      have hxe : x = n2 := by have := Hn2.out; rw [hx] at this; exact this
      subst hxe
      have hRe := HN1.out.symm.trans (next1_yes tm mo yr (Ho2.out.trans hx))
      subst hRe
      clear hx hp
      go_wp2
      (try simp only [Exit.inBlock, Exit.then])
      refine bodyPost_ret (results_none rfl _ _ _) rfl ?_
      exact ⟨rfl, row_set (row_set HR.out _) _, ((Kp.refl _ _).set1 3 _).set1 7 _⟩
    | false =>
      have hn1 : nextS 1 ⟨tm, dy, mo, yr⟩ t.data.toList = nextS 2 ⟨tm, dy, mo, yr⟩ t.data.toList := by
        refine next1_to _ ?_
        cases hdy : dy with
        | some x => exact .inl (by simp)
        | none =>
          right
          rw [Ho2.out]
          have h1 := Hz2.out
          rw [hdy] at h1
          have h2 := Hk2.out
          cases ho : o2 with
          | none => rfl
          | some x =>
            rw [ho] at h2
            have h3 : k = k2 := h2
            have h4 := run_pos (Ho2.out.trans (ho.trans (show some x = some (x.1, x.2) from rfl))) (Nat.le_refl 1)
            rw [Hk.out] at h4
            rw [← h1, decide_eq_true (by omega)] at hp
            simp at hp
      have HN2 := Lib.hid (hn1.symm.trans HN1.out)
      clear hn1 hp
      go_upto_region 10 with (fail)
      go_cut [70] (fun s70 wx => s70 = .bool (decide (0 < n3) && decide (z3 = 0)) ∧ Hid (Below w.heap.size w wx))
      case first =>
        by_cases hk0 : 0 < n3
        · have hkI : (0 : Int) < (n3 : Int) := by omega
          by_cases hz0 : z3 = 0
          · have hzI : ((z3 : Int) == 0) = true := beq_iff_eq.2 (by omega)
            go_wp2_with fail
            refine (HNm.out _).mono ?_
            rintro e w2 ⟨rfl, bel⟩
            have c4b := (bel.cell (p := ⟨b, 4, none⟩) (HR.out.lt)).trans c4
            go_wp2
            go_meet
            exact ⟨by simp [hk0, hz0], Lib.hid bel⟩
          · have hzI : ((z3 : Int) == 0) = false := beq_eq_false_iff_ne.2 (by omega)
            go_wp2_with fail
            refine (HNm.out _).mono ?_
            rintro e w2 ⟨rfl, bel⟩
            have c4b := (bel.cell (p := ⟨b, 4, none⟩) (HR.out.lt)).trans c4
            go_wp2
            go_meet
            exact ⟨by simp [hk0, hz0], Lib.hid bel⟩
        · have hkI : ¬ (0 : Int) < (n3 : Int) := by omega
          go_wp2_with fail
          refine (HNm.out _).mono ?_
          rintro e w2 ⟨rfl, bel⟩
          go_wp2
          go_meet
          exact ⟨by simp [hk0], Lib.hid bel⟩
      case rest =>
      obtain ⟨rfl, HBw⟩ := hcut
      have HRc := Lib.hid (HR.out.below HBw.out)
      have HKc : Hid (Kp (Only b) w wc) := Lib.hid (.of_below HBw.out)
      have c8c := HRc.out.cell 8 (v := .bool yr.isSome) rfl
      rw [Hz4.out] at c8c
      have f4c := HRc.out.free 4
      have d4c := HRc.out.cell 4 (v := .int .i64 ((mo.getD 0 : Nat) : Int)) rfl
      have f5c := HRc.out.free 5
      have d5c := HRc.out.cell 5 (v := .int .i64 (yr.getD 0)) rfl
      have f8c := HRc.out.free 8
      clear c6 c7 c8 c4 f0 f1 f2 f6 d0 d1 d2' f3 f7 f5 f8 d3 d5
      cases hp : (decide (0 < n3) && decide (z3 = 0)) with
      | true =>
        simp only [Bool.and_eq_true, decide_eq_true_eq] at hp
        have hz : mo = none := by
          have h1 := Hz3.out
          cases hm : mo with
          | none => rfl
          | some x =>
            rw [hm] at h1
            have h2 : x = z3 := h1
            have := HMo.out x hm
            omega
        subst hz
        obtain ⟨x, hx⟩ : ∃ x, o3 = some x := by
          cases ho : o3 with
          | none => have := Hn3.out; rw [ho] at this; have h3 : (0 : Nat) = n3 := this; omega
          | some x => exact ⟨x, rfl⟩
        have hxe : x = n3 := by have := Hn3.out; rw [hx] at this; exact this
        subst hxe
        have hRe := HN2.out.symm.trans (next2_yes tm dy yr (Ho3.out.trans hx))
        subst hRe
        clear hx hp
        go_wp2_with fail
        refine (HNm.out _).mono ?_
        rintro e w3 ⟨rfl, bel3⟩
        have HR3 := Lib.hid (HRc.out.below bel3)
        have HK3 := Lib.hid (HKc.out.trans (.of_below bel3))
        have f43 := HR3.out.free 4
        have d43 := HR3.out.cell 4 (v := .int .i64 (((none : Option Nat).getD 0 : Nat) : Int)) rfl
        clear bel3
        go_wp2
        (try simp only [Exit.inBlock, Exit.then])
        refine bodyPost_ret (results_none rfl _ _ _) rfl ?_
        exact ⟨rfl, row_set HR3.out _, HK3.out.set1 4 _⟩
      | false =>
        have hn2 : nextS 2 ⟨tm, dy, mo, yr⟩ t.data.toList = nextS 3 ⟨tm, dy, mo, yr⟩ t.data.toList := by
          refine next2_to _ ?_
          cases hm : mo with
          | some x => exact .inl (by simp)
          | none =>
            right
            rw [Ho3.out]
            have h1 := Hz3.out
            rw [hm] at h1
            have h1' : (0 : Nat) = z3 := h1
            have h2 := Hn3.out
            cases ho : o3 with
            | none => rfl
            | some x =>
              rw [ho] at h2
              have h3 : x = n3 := h2
              have h4 := (moP_some (Ho3.out.trans ho)).2.1
              rw [decide_eq_true (by omega), decide_eq_true h1'.symm] at hp
              cases hp
        have HN3 := Lib.hid (hn2.symm.trans HN2.out)
        clear hn2 hp
        go_wp2_with fail
        refine (HT4.out _).mono ?_
        rintro e w' ⟨rfl, rfl⟩
        by_cases hk0 : 0 < k4
        · have hkI : (0 : Int) < (k4 : Int) := by omega
          obtain ⟨x, hx⟩ : ∃ x, o4 = some x := by
            cases ho : o4 with
            | none => have := Hk4.out; rw [ho] at this; have h3 : (0 : Nat) = k4 := this; omega
            | some x => exact ⟨x, rfl⟩
          obtain ⟨x, r⟩ := x
          have hxe : x = n4 := by have := Hn4.out; rw [hx] at this; exact this
          subst hxe
          cases yr with
          | none =>
            have hz : z4 = false := Hz4.out.symm
            subst hz
            have hRe := HN3.out.symm.trans (next3_yes tm dy mo (Ho4.out.trans hx))
            subst hRe
            clear hx
            go_wp2
            go_end0
            exact ⟨rfl, row_set (row_set HRc.out _) _, (HKc.out.set1 5 _).set1 8 _⟩
          | some y =>
            have hz : z4 = true := Hz4.out.symm
            subst hz
            have hRe := HN3.out.symm.trans (next3_to ⟨tm, dy, mo, some y⟩ (.inl (by simp)))
            subst hRe
            clear hx
            go_wp2
            go_end0
            exact ⟨rfl, HRc.out, HKc.out⟩
        · have hkI : ¬ (0 : Int) < (k4 : Int) := by omega
          have ho : o4 = none := by
            cases ho : o4 with
            | none => rfl
            | some x =>
              exfalso
              have h2 := Hk4.out
              rw [ho] at h2
              have h3 : k = k4 := h2
              have h4 := run_pos (Ho4.out.trans (ho.trans (show some x = some (x.1, x.2) from rfl))) (by omega)
              rw [Hk.out] at h4
              omega
          have hRe := HN3.out.symm.trans (next3_to ⟨tm, dy, mo, yr⟩ (.inr (Ho4.out.trans ho)))
          subst hRe
          clear ho
          go_wp2
          go_end0
          exact ⟨rfl, HRc.out, HKc.out⟩

end Go.Proofs.YtblofndehbagnaaGreatDoor
