/-
  The reader of a cookie's date: its ways, a word read, all words.
-/
import Derived.Test.YtllpdnmhabpbcaaGreatDoorDtV
import Derived.Test.YtllpdnmhabpbcaaGreatDoorDtT
import Derived.BigQuiet
namespace Go.Proofs.YtllpdnmhabpbcaaGreatDoor
open Go.RowKit

def waysC (b : Nat) : Array Value := #[.func (.func 115) #[.pointer (some ⟨b, 0, none⟩)] #[], .func (.func 116) #[.pointer (some ⟨b, 0, none⟩)] #[], .func (.func 117) #[.pointer (some ⟨b, 0, none⟩)] #[], .func (.func 118) #[.pointer (some ⟨b, 0, none⟩)] #[]]

set_option maxHeartbeats 2000000 in
set_option maxRecDepth 100000 in
theorem ways_any (b : Nat) (w : World) :
    Calls Tryz.prog 100 #[.pointer (some ⟨b, 0, none⟩)] w fun e w' => e = .returned (.agg (waysC b)) ∧ Below w.heap.size w w' := by
  have hmf := mkfK
  go_enter Tryz.func100, Tryz.ntmps100
  go_wp2
  refine bodyPost_ret (v := .agg (waysC b)) (results_cell_row (P := Tryz.prog) Tryz.results100 _ _ w.heap.size _ _ (0, 0) _ rfl (heap_alloc_new w _) Tryz.underlying125 rfl (by kernel_rfl)) rfl ⟨rfl, (Below.refl _ _).alloc (Nat.le_refl _) _⟩

/-- The reader, of what is told. -/
def encS (rest : ByteArray) (st : Told) : DrS := ⟨rest, st.tm.isSome, st.dy.isSome, st.mo.isSome, st.yr.isSome, (st.tm.getD (0, 0, 0)).1, (st.tm.getD (0, 0, 0)).2.1, (st.tm.getD (0, 0, 0)).2.2, st.dy.getD 0, ((st.mo.getD 0 : Nat) : Int), (st.yr.map whole).getD 0⟩
/-- What is still to be tried. -/
def nextS : Nat → Told → List UInt8 → Told
  | 0 => step
  | 1 => step2
  | 2 => step3
  | 3 => step4
  | _ => fun st _ => st
theorem next0_to (st : Told) {w : List UInt8} (h : st.tm ≠ none ∨ clockP w = none) : nextS 0 st w = nextS 1 st w := step_to2 st h
theorem next1_to (st : Told) {w : List UInt8} (h : st.dy ≠ none ∨ toldN 1 2 w = none) : nextS 1 st w = nextS 2 st w := by
  show step2 st w = step3 st w
  unfold step2
  split
  · rename_i h0
    rcases h with h | h
    · exact absurd h0 h
    · rw [h]
  · rfl
theorem next2_to (st : Told) {w : List UInt8} (h : st.mo ≠ none ∨ moP w = none) : nextS 2 st w = nextS 3 st w := by
  show step3 st w = step4 st w
  unfold step3
  split
  · rename_i h0
    rcases h with h | h
    · exact absurd h0 h
    · rw [h]
  · rfl
theorem next3_to (st : Told) {w : List UInt8} (h : st.yr ≠ none ∨ toldN 2 4 w = none) : nextS 3 st w = nextS 4 st w := by
  show step4 st w = st
  unfold step4
  split
  · rename_i h0
    rcases h with h | h
    · exact absurd h0 h
    · rw [h]
  · rfl
theorem next0_yes (dy : Option Int) (mo : Option Nat) (yr : Option Int) {w : List UInt8} {t : Int × Int × Int} (h : clockP w = some t) : nextS 0 ⟨none, dy, mo, yr⟩ w = ⟨some t, dy, mo, yr⟩ := step_tm dy mo yr h
theorem next1_yes (tm : Option (Int × Int × Int)) (mo : Option Nat) (yr : Option Int) {w r : List UInt8} {n : Int} (h : toldN 1 2 w = some (n, r)) : nextS 1 ⟨tm, none, mo, yr⟩ w = ⟨tm, some n, mo, yr⟩ := by
  show step2 _ w = _
  unfold step2; rw [if_pos rfl, h]
theorem next2_yes (tm : Option (Int × Int × Int)) (dy yr : Option Int) {w : List UInt8} {n : Nat} (h : moP w = some n) : nextS 2 ⟨tm, dy, none, yr⟩ w = ⟨tm, dy, some n, yr⟩ := by
  show step3 _ w = _
  unfold step3; rw [if_pos rfl, h]
theorem next3_yes (tm : Option (Int × Int × Int)) (dy : Option Int) (mo : Option Nat) {w r : List UInt8} {n : Int} (h : toldN 2 4 w = some (n, r)) : nextS 3 ⟨tm, dy, mo, none⟩ w = ⟨tm, dy, mo, some n⟩ := by
  show step4 _ w = _
  unfold step4; rw [if_pos rfl, h]
theorem index_ways (C : Array Value) (k : Nat) (v : Value) (hk : k < 4) (hC : C[k]? = some v) (w : World) : (Instr.index 125 (.agg C) (.int .i64 (k : Int))).run Tryz.prog w = .ok v w := by
  have hs : (sizeOf 33).run Tryz.prog w = .ok 1 w := by go_simp
  have h1 : (0 : Int) ≤ (k : Int) ∧ (k : Int) < ((4 : Nat) : Int) := ⟨by omega, by omega⟩
  simp [Instr.index, asIntOf, run_underlying Tryz.underlying125, hs, part, hC]
  omega
/-- What the reader must have of the world. -/
structure DtW (m : Int) (b : Nat) (w : World) : Prop where
  mx : w.cell? ⟨2, 0, none⟩ = some (.int .i64 m)
  mn : MnW w
  n1 : b ≠ 2
  n2 : b ≠ 0
theorem DtW.kept {m : Int} {b : Nat} {w w' : World} (h : DtW m b w) (k : Kp (Only b) w w') : DtW m b w' := by
  obtain ⟨t, fr, hg⟩ := h.mn
  exact ⟨k.cell h.mx (fun e => h.n1 e.symm), ⟨t, fr, k.at hg (fun e => h.n2 e.symm)⟩, h.n1, h.n2⟩

set_option maxHeartbeats 8000000 in
set_option maxRecDepth 100000 in
theorem read_any (b : Nat) (rest : ByteArray) (st : Told) (t : ByteArray) (ht : t.size ≤ 1048600) (m : Int) (w : World) (h : DrAt w b (encS rest st)) (hw : DtW m b w) :
    Calls Tryz.prog 101 #[.pointer (some ⟨b, 0, none⟩), .string t, .agg (waysC b)] w fun e w' => e = .returned (.tuple #[]) ∧ DrAt w' b (encS rest (step st t.data.toList)) ∧ Kp (Only b) w w' := by
  obtain ⟨R, HRS⟩ : ∃ R, Hid (step st t.data.toList = R) := ⟨_, Lib.hid rfl⟩
  rw [HRS.out]
  have HR := Lib.hid h
  have HW := Lib.hid hw
  clear h hw
  obtain ⟨C, HC⟩ : ∃ C, Hid (waysC b = C) := ⟨_, Lib.hid rfl⟩
  rw [HC.out]
  go_enter Tryz.func101, Tryz.ntmps101
  go_wp2_with (refine wpList_load_row rfl 125 _ rfl w.heap.size ?_ 125 C (0, 0) _ ?_ Tryz.underlying125 rfl ?_ ?_; (exact rfl); (exact heap_alloc_new w _); (rw [← HC.out]; kernel_rfl))
  go_loopw [9] (fun v wr => ∃ k : Nat, k ≤ 4 ∧ v = .int .i64 (k : Int) ∧ Hid (nextS k st t.data.toList = R) ∧ Hid (DrAt wr b (encS rest st)) ∧ Hid (Kp (Only b) w wr)) (fun v _ => 4 - (intOf v).toNat)
  case atStart => exact ⟨0, by omega, rfl, HRS, Lib.hid (HR.out.below ((Below.refl _ _).alloc (Nat.le_refl _) _)), Lib.hid ((Kp.refl _ _).alloc _)⟩
  case round =>
    obtain ⟨k, hk, hv, HN, HR2, HK⟩ := hrel
    have HWr := Lib.hid (HW.out.kept HK.out)
    rcases (show k = 0 ∨ k = 1 ∨ k = 2 ∨ k = 3 ∨ k = 4 by omega) with rfl | rfl | rfl | rfl | rfl
    · have hv0 : _ = Value.int .i64 0 := hv
      subst hv0
      have hix : ∀ w, (Instr.index 125 (.agg C) (.int .i64 0)).run Tryz.prog w = .ok (.func (.func 115) #[.pointer (some ⟨b, 0, none⟩)] #[]) w := fun w => index_ways C 0 (.func (.func 115) #[.pointer (some ⟨b, 0, none⟩)] #[]) (by omega) (by rw [← HC.out]; rfl) w
      obtain ⟨tm, dy, mo, yr⟩ := st
      have cc := HR2.out.cell 1 (v := .bool tm.isSome) rfl
      cases tm with
      | some z =>
        simp only [Option.isSome_some] at cc
        go_wp2
        go_roundw
        case rel => exact ⟨1, by omega, rfl, Lib.hid (by rw [← HN.out]; exact (next0_to _ (.inl (by simp))).symm), HR2, HK⟩
        case measure => simp [intOf]
      | none =>
        simp only [Option.isSome_none] at cc
        have HCn := Lib.hid (readTime_any b _ t ht m wr HR2.out HWr.out.mx)
        obtain ⟨o, Ho⟩ : ∃ o, Hid (clockP t.data.toList = o) := ⟨_, Lib.hid rfl⟩
        unfold timeS at HCn
        rw [Ho.out] at HCn
        cases o with
        | none =>
          go_wp2_with fail
          refine HCn.out.mono ?_
          rintro e w2 ⟨rfl, hr2, kp2⟩
          have HR3 := Lib.hid hr2
          have HK3 := Lib.hid (HK.out.trans kp2)
          clear hr2 kp2
          simp only [Option.isSome_none]
          go_wp2
          go_roundw
          case rel => exact ⟨1, by omega, rfl, Lib.hid (by rw [← HN.out]; exact (next0_to _ (.inr Ho.out)).symm), HR3, HK3⟩
          case measure => simp [intOf]
        | some x =>
          obtain ⟨x0, x1, x2⟩ := x
          go_wp2_with fail
          refine HCn.out.mono ?_
          rintro e w2 ⟨rfl, hr2, kp2⟩
          have HR3 := Lib.hid hr2
          have HK3 := Lib.hid (HK.out.trans kp2)
          have ff := hr2.free 1
          have c3 := hr2.cell 1 (v := .bool false) rfl
          clear hr2 kp2
          simp only [Option.isSome_some]
          have hRe := HN.out.symm.trans (next0_yes _ _ _ Ho.out)
          subst hRe
          go_wp2
          (try simp only [Exit.inBlock, Exit.then])
          refine bodyPost_ret (results_none rfl _ _ _) rfl ?_
          exact ⟨rfl, HR3.out.set 1 _ rfl, HK3.out.set1 1 _⟩
    · have hv0 : _ = Value.int .i64 1 := hv
      subst hv0
      have hix : ∀ w, (Instr.index 125 (.agg C) (.int .i64 1)).run Tryz.prog w = .ok (.func (.func 116) #[.pointer (some ⟨b, 0, none⟩)] #[]) w := fun w => index_ways C 1 (.func (.func 116) #[.pointer (some ⟨b, 0, none⟩)] #[]) (by omega) (by rw [← HC.out]; rfl) w
      obtain ⟨tm, dy, mo, yr⟩ := st
      have cc := HR2.out.cell 2 (v := .bool dy.isSome) rfl
      cases dy with
      | some z =>
        simp only [Option.isSome_some] at cc
        go_wp2
        go_roundw
        case rel => exact ⟨2, by omega, rfl, Lib.hid (by rw [← HN.out]; exact (next1_to _ (.inl (by simp))).symm), HR2, HK⟩
        case measure => simp [intOf]
      | none =>
        simp only [Option.isSome_none] at cc
        have HCn := Lib.hid (readDay_any b _ t ht wr HR2.out)
        obtain ⟨o, Ho⟩ : ∃ o, Hid (toldN 1 2 t.data.toList = o) := ⟨_, Lib.hid rfl⟩
        unfold dayS at HCn
        rw [Ho.out] at HCn
        cases o with
        | none =>
          go_wp2_with fail
          refine HCn.out.mono ?_
          rintro e w2 ⟨rfl, hr2, kp2⟩
          have HR3 := Lib.hid hr2
          have HK3 := Lib.hid (HK.out.trans kp2)
          clear hr2 kp2
          simp only [Option.isSome_none]
          go_wp2
          go_roundw
          case rel => exact ⟨2, by omega, rfl, Lib.hid (by rw [← HN.out]; exact (next1_to _ (.inr Ho.out)).symm), HR3, HK3⟩
          case measure => simp [intOf]
        | some x =>
          obtain ⟨x0, r⟩ := x
          go_wp2_with fail
          refine HCn.out.mono ?_
          rintro e w2 ⟨rfl, hr2, kp2⟩
          have HR3 := Lib.hid hr2
          have HK3 := Lib.hid (HK.out.trans kp2)
          have ff := hr2.free 2
          have c3 := hr2.cell 2 (v := .bool false) rfl
          clear hr2 kp2
          simp only [Option.isSome_some]
          have hRe := HN.out.symm.trans (next1_yes _ _ _ Ho.out)
          subst hRe
          go_wp2
          (try simp only [Exit.inBlock, Exit.then])
          refine bodyPost_ret (results_none rfl _ _ _) rfl ?_
          exact ⟨rfl, HR3.out.set 2 _ rfl, HK3.out.set1 2 _⟩
    · have hv0 : _ = Value.int .i64 2 := hv
      subst hv0
      have hix : ∀ w, (Instr.index 125 (.agg C) (.int .i64 2)).run Tryz.prog w = .ok (.func (.func 117) #[.pointer (some ⟨b, 0, none⟩)] #[]) w := fun w => index_ways C 2 (.func (.func 117) #[.pointer (some ⟨b, 0, none⟩)] #[]) (by omega) (by rw [← HC.out]; rfl) w
      obtain ⟨tm, dy, mo, yr⟩ := st
      have cc := HR2.out.cell 3 (v := .bool mo.isSome) rfl
      cases mo with
      | some z =>
        simp only [Option.isSome_some] at cc
        go_wp2
        go_roundw
        case rel => exact ⟨3, by omega, rfl, Lib.hid (by rw [← HN.out]; exact (next2_to _ (.inl (by simp))).symm), HR2, HK⟩
        case measure => simp [intOf]
      | none =>
        simp only [Option.isSome_none] at cc
        have HCn := Lib.hid (readMonth_any b _ t ht wr HR2.out HWr.out.mn)
        obtain ⟨o, Ho⟩ : ∃ o, Hid (moP t.data.toList = o) := ⟨_, Lib.hid rfl⟩
        unfold monthS at HCn
        rw [Ho.out] at HCn
        cases o with
        | none =>
          go_wp2_with fail
          refine HCn.out.mono ?_
          rintro e w2 ⟨rfl, hr2, kp2⟩
          have HR3 := Lib.hid hr2
          have HK3 := Lib.hid (HK.out.trans kp2)
          clear hr2 kp2
          simp only [Option.isSome_none]
          go_wp2
          go_roundw
          case rel => exact ⟨3, by omega, rfl, Lib.hid (by rw [← HN.out]; exact (next2_to _ (.inr Ho.out)).symm), HR3, HK3⟩
          case measure => simp [intOf]
        | some x =>
          go_wp2_with fail
          refine HCn.out.mono ?_
          rintro e w2 ⟨rfl, hr2, kp2⟩
          have HR3 := Lib.hid hr2
          have HK3 := Lib.hid (HK.out.trans kp2)
          have ff := hr2.free 3
          have c3 := hr2.cell 3 (v := .bool false) rfl
          clear hr2 kp2
          simp only [Option.isSome_some]
          have hRe := HN.out.symm.trans (next2_yes _ _ _ Ho.out)
          subst hRe
          go_wp2
          (try simp only [Exit.inBlock, Exit.then])
          refine bodyPost_ret (results_none rfl _ _ _) rfl ?_
          exact ⟨rfl, HR3.out.set 3 _ rfl, HK3.out.set1 3 _⟩
    · have hv0 : _ = Value.int .i64 3 := hv
      subst hv0
      have hix : ∀ w, (Instr.index 125 (.agg C) (.int .i64 3)).run Tryz.prog w = .ok (.func (.func 118) #[.pointer (some ⟨b, 0, none⟩)] #[]) w := fun w => index_ways C 3 (.func (.func 118) #[.pointer (some ⟨b, 0, none⟩)] #[]) (by omega) (by rw [← HC.out]; rfl) w
      obtain ⟨tm, dy, mo, yr⟩ := st
      have cc := HR2.out.cell 4 (v := .bool yr.isSome) rfl
      cases yr with
      | some z =>
        simp only [Option.isSome_some] at cc
        go_wp2
        go_roundw
        case rel => exact ⟨4, by omega, rfl, Lib.hid (by rw [← HN.out]; exact (next3_to _ (.inl (by simp))).symm), HR2, HK⟩
        case measure => simp [intOf]
      | none =>
        simp only [Option.isSome_none] at cc
        have HCn := Lib.hid (readYear_any b _ t ht wr HR2.out)
        obtain ⟨o, Ho⟩ : ∃ o, Hid (toldN 2 4 t.data.toList = o) := ⟨_, Lib.hid rfl⟩
        unfold yearS at HCn
        rw [Ho.out] at HCn
        cases o with
        | none =>
          go_wp2_with fail
          refine HCn.out.mono ?_
          rintro e w2 ⟨rfl, hr2, kp2⟩
          have HR3 := Lib.hid hr2
          have HK3 := Lib.hid (HK.out.trans kp2)
          clear hr2 kp2
          simp only [Option.isSome_none]
          go_wp2
          go_roundw
          case rel => exact ⟨4, by omega, rfl, Lib.hid (by rw [← HN.out]; exact (next3_to _ (.inr Ho.out)).symm), HR3, HK3⟩
          case measure => simp [intOf]
        | some x =>
          obtain ⟨x0, r⟩ := x
          go_wp2_with fail
          refine HCn.out.mono ?_
          rintro e w2 ⟨rfl, hr2, kp2⟩
          have HR3 := Lib.hid hr2
          have HK3 := Lib.hid (HK.out.trans kp2)
          have ff := hr2.free 4
          have c3 := hr2.cell 4 (v := .bool false) rfl
          clear hr2 kp2
          simp only [Option.isSome_some]
          have hRe := HN.out.symm.trans (next3_yes _ _ _ Ho.out)
          subst hRe
          go_wp2
          (try simp only [Exit.inBlock, Exit.then])
          refine bodyPost_ret (results_none rfl _ _ _) rfl ?_
          exact ⟨rfl, HR3.out.set 4 _ rfl, HK3.out.set1 4 _⟩
    · have hv0 : _ = Value.int .i64 4 := hv
      subst hv0
      have hRe : R = st := HN.out.symm
      subst hRe
      go_wp2
      go_end0
      exact ⟨rfl, HR2.out, HK.out⟩

end Go.Proofs.YtllpdnmhabpbcaaGreatDoor
