/-
  The reader of a cookie's date: the day, the year, the month, the hour of a word.
-/
import Derived.Test.YtllpdnmhabpbcaaGreatDoorDtK
import Derived.Test.YtllpdnmhabpbcaaGreatDoorLowB
import Derived.Laws.Rows
namespace Go.Proofs.YtllpdnmhabpbcaaGreatDoor
open Go.RowKit

/-- What a way leaves: the reader as it should be, and whether it has read. -/
def WayC (w : World) (b : Nat) (ok : Bool) (s : DrS) (e : Ending) (w' : World) : Prop := e = .returned (.bool ok) ∧ DrAt w' b s ∧ Kp (Only b) w w'
def dayS (s : DrS) (l : List UInt8) : DrS := match toldN 1 2 l with | some (n, _) => { s with d := n } | none => s
def yearS (s : DrS) (l : List UInt8) : DrS := match toldN 2 4 l with | some (n, _) => { s with y := whole n } | none => s
def monthS (s : DrS) (l : List UInt8) : DrS := match moP l with | some n => { s with m := (n : Int) } | none => s
def timeS (s : DrS) (l : List UInt8) : DrS := match clockP l with | some (h, i, x) => { s with h := h, i := i, s := x } | none => s

theorem told_bd {a b : Nat} {l : List UInt8} {n : Int} {r : List UInt8} (h : toldN a b l = some (n, r)) (hb : b ≤ 4) : 0 ≤ n ∧ n ≤ 9999 := by
  unfold toldN at h
  split at h
  · rename_i h1
    injection h with h
    injection h with h2 h3
    subst h2
    have hbd := num_bd _ (all_run l)
    have h10 : (10 : Int) ^ (l.takeWhile isD).length ≤ 10 ^ 4 := by
      have := Nat.pow_le_pow_right (show 0 < 10 by omega) (show (l.takeWhile isD).length ≤ 4 by omega)
      exact_mod_cast this
    omega
  · cases h

set_option maxHeartbeats 1000000 in
set_option maxRecDepth 100000 in
theorem readDay_any (b : Nat) (s : DrS) (t : ByteArray) (ht : t.size ≤ 1048600) (w : World) (h : DrAt w b s) :
    Calls Tryz.prog 116 #[.pointer (some ⟨b, 0, none⟩), .string t] w (WayC w b (toldN 1 2 t.data.toList).isSome (dayS s t.data.toList)) := by
  have HR := Lib.hid h
  clear h
  have HC := Lib.hid (fun w => cutNumber_any t 1 2 (by omega) (by omega) ht w)
  obtain ⟨o, Ho⟩ : ∃ o, Hid (toldN 1 2 t.data.toList = o) := ⟨_, Lib.hid rfl⟩
  unfold dayS
  rw [Ho.out] at HC ⊢
  cases o with
  | none =>
    go_enter Tryz.func116, Tryz.ntmps116
    go_wp2_with fail
    refine (HC.out _).mono ?_
    rintro e w1 ⟨rfl, bel⟩
    unfold cutV
    go_wp2
    go_ret
    exact ⟨rfl, HR.out.below bel, .of_below bel⟩
  | some x =>
    obtain ⟨n, r⟩ := x
    go_enter Tryz.func116, Tryz.ntmps116
    go_wp2_with fail
    refine (HC.out _).mono ?_
    rintro e w1 ⟨rfl, bel⟩
    have HR2 := Lib.hid (HR.out.below bel)
    have HK2 : Hid (Kp (Only b) w w1) := Lib.hid (.of_below bel)
    have f2 := HR2.out.free 8
    have c2 := HR2.out.cell 8 (v := .int .i64 s.d) rfl
    clear bel
    unfold cutV
    go_wp2
    go_ret
    exact ⟨rfl, HR2.out.set 8 _ rfl, HK2.out.set1 8 _⟩

set_option maxHeartbeats 1000000 in
set_option maxRecDepth 100000 in
theorem readYear_any (b : Nat) (s : DrS) (t : ByteArray) (ht : t.size ≤ 1048600) (w : World) (h : DrAt w b s) :
    Calls Tryz.prog 118 #[.pointer (some ⟨b, 0, none⟩), .string t] w (WayC w b (toldN 2 4 t.data.toList).isSome (yearS s t.data.toList)) := by
  have HR := Lib.hid h
  clear h
  have HC := Lib.hid (fun w => cutNumber_any t 2 4 (by omega) (by omega) ht w)
  obtain ⟨o, Ho⟩ : ∃ o, Hid (toldN 2 4 t.data.toList = o) := ⟨_, Lib.hid rfl⟩
  unfold yearS
  rw [Ho.out] at HC ⊢
  cases o with
  | none =>
    go_enter Tryz.func118, Tryz.ntmps118
    go_wp2_with fail
    refine (HC.out _).mono ?_
    rintro e w1 ⟨rfl, bel⟩
    unfold cutV
    go_wp2
    go_ret
    exact ⟨rfl, HR.out.below bel, .of_below bel⟩
  | some x =>
    obtain ⟨n, r⟩ := x
    obtain ⟨b0, b1⟩ := told_bd Ho.out (by omega)
    have HW := Lib.hid (fun w => wholeYear_any n b0 b1 w)
    go_enter Tryz.func118, Tryz.ntmps118
    go_wp2_with fail
    refine (HC.out _).mono ?_
    rintro e w1 ⟨rfl, bel⟩
    have HR2 := Lib.hid (HR.out.below bel)
    have HK2 : Hid (Kp (Only b) w w1) := Lib.hid (.of_below bel)
    have f2 := HR2.out.free 10
    have c2 := HR2.out.cell 10 (v := .int .i64 s.y) rfl
    clear bel
    unfold cutV
    go_wp2_with fail
    refine (HW.out _).mono ?_
    rintro e w' ⟨rfl, rfl⟩
    go_wp2
    go_ret
    exact ⟨rfl, HR2.out.set 10 _ rfl, HK2.out.set1 10 _⟩

/-- The names of the months, as the program holds them. -/
def mnCells : Array Value := #[.string (asB []), .string (asB [74, 97, 110]), .string (asB [70, 101, 98]), .string (asB [77, 97, 114]), .string (asB [65, 112, 114]), .string (asB [77, 97, 121]), .string (asB [74, 117, 110]), .string (asB [74, 117, 108]), .string (asB [65, 117, 103]), .string (asB [83, 101, 112]), .string (asB [79, 99, 116]), .string (asB [78, 111, 118]), .string (asB [68, 101, 99])]
def MnW (w : World) : Prop := ∃ t fr, w.heap[0]? = some (.cells mnCells t fr)
theorem mn_at (k : Nat) (hk : k < 13) : mnCells[k]? = some (.string (asB (monL.getD k []))) := by
  have : ∀ n : Fin 13, mnCells[n.1]? = some (.string (asB (monL.getD n.1 []))) := by
    intro n
    match n with
    | ⟨0, _⟩ | ⟨1, _⟩ | ⟨2, _⟩ | ⟨3, _⟩ | ⟨4, _⟩ | ⟨5, _⟩ | ⟨6, _⟩ | ⟨7, _⟩ | ⟨8, _⟩ | ⟨9, _⟩ | ⟨10, _⟩ | ⟨11, _⟩ | ⟨12, _⟩ => rfl
  exact this ⟨k, hk⟩
theorem mon_len (k : Nat) (hk : k < 13) : (asB (monL.getD k [])).size ≤ 3 := by
  have : ∀ n : Fin 13, (monL.getD n.1 []).length ≤ 3 := by decide
  exact this ⟨k, hk⟩

theorem index_mn (C : Array Value) (k : Nat) (N : ByteArray) (hk : k < 13) (hC : C[k]? = some (.string N)) (w : World) : (Instr.index 68 (.agg C) (.int .i64 (k : Int))).run Tryz.prog w = .ok (.string N) w := by
  have hs : (sizeOf 9).run Tryz.prog w = .ok 1 w := by go_simp
  have h1 : (0 : Int) ≤ (k : Int) ∧ (k : Int) < ((13 : Nat) : Int) := ⟨by omega, by omega⟩
  simp [Instr.index, asIntOf, run_underlying Tryz.underlying68, hs, part, hC]
  omega
theorem mon_step {t : List UInt8} {k : Nat} (hk : k < 13) : monF t (13 - k) k = if monAt t k then some k else monF t (13 - (k + 1)) (k + 1) := by
  rw [show 13 - k = (13 - (k + 1)) + 1 by omega, monF]
theorem mon_zero (t : List UInt8) (h : 3 ≤ t.length) : monF t 12 1 = monF t (13 - 0) 0 := by
  have h0 : monAt t 0 = false := by
    unfold monAt
    apply decide_eq_false
    intro e
    have := congrArg List.length e
    rw [List.length_map, List.length_take] at this
    have e0 : ((monL.getD 0 []).map low).length = 0 := rfl
    omega
  rw [mon_step (by omega), h0]; rfl
theorem same_mon (t : ByteArray) (k : Nat) : sameS (t.extract 0 3) (asB (monL.getD k [])) = monAt t.data.toList k := by
  have e1 : (t.extract 0 3).data.toList = t.data.toList.take 3 := by
    rw [ByteArray.data_extract, Array.toList_extract, List.extract_eq_take_drop]; simp
  unfold sameS monAt lowS
  rw [ByteArray.toList_eq, ByteArray.toList_eq]
  rw [e1, asB_data]
  rw [Bool.eq_iff_iff]
  simp

set_option maxHeartbeats 2000000 in
set_option maxRecDepth 100000 in
theorem readMonth_any (b : Nat) (s : DrS) (t : ByteArray) (ht : t.size ≤ 1048600) (w : World) (h : DrAt w b s) (hm : MnW w) :
    Calls Tryz.prog 117 #[.pointer (some ⟨b, 0, none⟩), .string t] w (WayC w b (moP t.data.toList).isSome (monthS s t.data.toList)) := by
  have HR := Lib.hid h
  clear h
  unfold monthS moP
  rw [lenB]
  by_cases h3 : t.size < 3
  · have h3' : (t.size : Int) < 3 := by omega
    rw [if_pos h3]
    go_enter Tryz.func117, Tryz.ntmps117
    go_wp2
    go_ret
    exact ⟨rfl, HR.out, .refl _ _⟩
  · have h3' : ¬ (t.size : Int) < 3 := by omega
    rw [if_neg h3]
    rw [mon_zero t.data.toList (by rw [lenB]; omega)]
    obtain ⟨R, HRR⟩ : ∃ R, Hid (monF t.data.toList (13 - 0) 0 = R) := ⟨_, Lib.hid rfl⟩
    rw [HRR.out]
    obtain ⟨ty, fr, hg⟩ := hm
    have HG := Lib.hid hg
    clear hg
    obtain ⟨C, HC⟩ : ∃ C, Hid (mnCells = C) := ⟨_, Lib.hid rfl⟩
    rw [HC.out] at HG
    go_enter Tryz.func117, Tryz.ntmps117
    go_wp2_with (refine wpList_load_row rfl 68 _ rfl 0 ?_ ty C fr _ ?_ Tryz.underlying68 rfl ?_ ?_; (exact rfl); (exact HG.out); (rw [← HC.out]; kernel_rfl))
    go_loopw [11] (fun v wr => ∃ k : Nat, k ≤ 13 ∧ v = .int .i64 (k : Int) ∧ Hid (monF t.data.toList (13 - k) k = R) ∧ Hid (Below w.heap.size w wr)) (fun v _ => 13 - (intOf v).toNat)
    case atStart => exact ⟨0, by omega, rfl, HRR, Lib.hid (Below.refl _ _)⟩
    case round =>
      obtain ⟨k, hk, rfl, HK, HB⟩ := hrel
      by_cases hlt : k < 13
      · have hC : C[k]? = some (.string (asB (monL.getD k []))) := by rw [← HC.out]; exact mn_at k hlt
        obtain ⟨N, HN⟩ : ∃ N, Hid (asB (monL.getD k []) = N) := ⟨_, Lib.hid rfl⟩
        rw [HN.out] at hC
        have hix := fun w => index_mn C k N hlt hC w
        have hlt' : (k : Int) < 13 := by omega
        have HS := Lib.hid (same_mon t k)
        rw [HN.out] at HS
        have HSt := Lib.hid (mon_step (t := t.data.toList) hlt)
        rw [HK.out] at HSt
        have HSm := Lib.hid (fun w => Same_any (t.extract 0 3) N w (by rw [← lenB, ByteArray.data_extract, Array.toList_extract, List.extract_eq_take_drop]; simp; unfold maxLen; omega) (by rw [← HN.out]; have := mon_len k hlt; unfold maxLen; omega))
        rw [HS.out] at HSm
        clear hC
        cases hm : monAt t.data.toList k with
        | true =>
          rw [hm] at HSm HSt
          have hRe : R = some k := by rw [HSt.out]; rfl
          subst hRe
          go_wp2_with fail
          refine (HSm.out _).mono ?_
          rintro e w1 ⟨rfl, bel⟩
          have HB1 := Lib.hid (HB.out.trans (bel.mono HB.out.size))
          have HR2 := Lib.hid (HR.out.below HB1.out)
          have HK2 : Hid (Kp (Only b) w w1) := Lib.hid (.of_below HB1.out)
          have f2 := HR2.out.free 9
          have c2 := HR2.out.cell 9 (v := .int .i64 s.m) rfl
          clear bel
          go_wp2
          go_ret
          exact ⟨rfl, HR2.out.set 9 _ rfl, HK2.out.set1 9 _⟩
        | false =>
          rw [hm] at HSm HSt
          have HRe : Hid (monF t.data.toList (13 - (k + 1)) (k + 1) = R) := Lib.hid (by rw [HSt.out]; rfl)
          go_wp2_with fail
          refine (HSm.out _).mono ?_
          rintro e w1 ⟨rfl, bel⟩
          have HB1 := Lib.hid (HB.out.trans (bel.mono HB.out.size))
          clear bel
          go_wp2
          go_roundw
          case rel => exact ⟨k + 1, by omega, by go_num, HRe, HB1⟩
          case measure => simp [intOf]; omega
      · have hk13 : k = 13 := by omega
        subst hk13
        have hRe : R = none := by rw [← HK.out]; rfl
        subst hRe
        go_wp2
        go_ret
        exact ⟨rfl, HR.out.below HB.out, .of_below HB.out⟩

end Go.Proofs.YtllpdnmhabpbcaaGreatDoor
