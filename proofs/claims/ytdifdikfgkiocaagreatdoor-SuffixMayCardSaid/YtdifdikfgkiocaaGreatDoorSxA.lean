/-
  Contracts: suffix.isPart, isParts, isRule, Check.
-/
import Derived.Test.YtdifdikfgkiocaaGreatDoorHsU
import Derived.Test.YtdifdikfgkiocaaGreatDoorShelfC
import Derived.Test.YtdifdikfgkiocaaGreatDoorSxM
import Derived.Test.YtdifdikfgkiocaaGreatDoorSxT
import Derived.RegionTactic
namespace Go.Proofs.YtdifdikfgkiocaaGreatDoor
open Go.RowKit

set_option maxRecDepth 100000 in
set_option maxHeartbeats 1000000 in
theorem isPart_any (p : ByteArray) (w : World) (hp : p.size ≤ 9000000) :
    Calls Tryz.prog 98 #[.string p] w fun e w' => e = .returned (.bool (partB p)) ∧ w = w' := by
  have CI : Hid (∀ (c : UInt8) w, Calls Tryz.prog 136 #[.string ⟨#[97, 98, 99, 100, 101, 102, 103, 104, 105, 106, 107, 108, 109, 110, 111, 112, 113, 114, 115, 116, 117, 118, 119, 120, 121, 122, 48, 49, 50, 51, 52, 53, 54, 55, 56, 57, 45]⟩, .int .u8 (c.toNat : Int)] w fun e w' => ∃ j : Int, e = .returned (.int .i64 j) ∧ sgnB c = decide (0 ≤ j) ∧ w = w') := Lib.hid (fun c w => by
    have := Tryz.strings_IndexByte ⟨#[97, 98, 99, 100, 101, 102, 103, 104, 105, 106, 107, 108, 109, 110, 111, 112, 113, 114, 115, 116, 117, 118, 119, 120, 121, 122, 48, 49, 50, 51, 52, 53, 54, 55, 56, 57, 45]⟩ (c.toNat : Int) w
    rw [show (c.toNat : Int).toNat.toUInt8 = c by simp] at this
    exact this.mono fun e w' ⟨h1, h2⟩ => ⟨_, h1, rfl, h2.symm⟩)
  go_enter Tryz.func98, Tryz.ntmps98
  go_wp2
  go_loop [3, 6] (fun _ i => ∃ k : Nat, k ≤ p.size ∧ i = .int .i64 k ∧ Hid (∀ j (h : j < p.size), j < k → sgnB p[j] = true)) (fun _ i => p.size - (intOf i).toNat)
  case atStart => exact ⟨0, Nat.zero_le _, rfl, Lib.hid (fun _ _ h => absurd h (Nat.not_lt_zero _))⟩
  case round =>
    obtain ⟨k, hk, rfl, HOk⟩ := hrel
    by_cases hlt : k < p.size
    · go_wp2_with fail
      refine (CI.out p[k] _).mono ?_
      rintro e w1 ⟨j, rfl, hj, rfl⟩
      by_cases h0 : j < 0
      · have HR : Hid (partB p = false) := Lib.hid (partB_no hlt (by rw [hj, decide_eq_false (by omega)]))
        clear hj
        go_wp2
        go_ret
        exact ⟨ret_bool (by rw [HR.out]), rfl⟩
      · have h1 : 0 ≤ j := by omega
        have HS : Hid (sgnB p[k] = true) := Lib.hid (by rw [hj, decide_eq_true h1])
        clear hj h0
        go_wp2
        go_round
        case rel => exact ⟨k + 1, by omega, by go_num, Lib.hid (fun j hj hjk => by
          by_cases e : j = k
          · subst e; exact HS.out
          · exact HOk.out j hj (by omega))⟩
        case measure => simp [intOf]; omega
    · have HR : Hid (partB p = (decide (0 < p.size) && decide (p.size ≤ 63))) := Lib.hid (partB_all (fun j hj => HOk.out j hj (by omega)))
      clear HOk
      by_cases h1 : 0 < p.size
      · by_cases h2 : p.size ≤ 63
        · have HR2 : Hid (partB p = true) := Lib.hid (by rw [HR.out, decide_eq_true h1, decide_eq_true h2]; rfl)
          have d1 : (0 : Int) < (p.size : Int) := by omega
          have d2 : (p.size : Int) ≤ 63 := by omega
          clear HR
          go_wp2
          go_ret
          exact ⟨ret_bool (by rw [HR2.out]), rfl⟩
        · have HR2 : Hid (partB p = false) := Lib.hid (by rw [HR.out, decide_eq_false h2, Bool.and_false])
          have d1 : (0 : Int) < (p.size : Int) := by omega
          have d2 : (63 : Int) < (p.size : Int) := by omega
          clear HR
          go_wp2
          go_ret
          exact ⟨ret_bool (by rw [HR2.out]; first | rfl | exact decide_eq_false (by omega)), rfl⟩
      · have HR2 : Hid (partB p = false) := Lib.hid (by rw [HR.out, decide_eq_false h1, Bool.false_and])
        have d1 : (p.size : Int) ≤ 0 := by omega
        clear HR
        go_wp2
        go_ret
        exact ⟨ret_bool (by rw [HR2.out]), rfl⟩

set_option maxRecDepth 100000 in
set_option maxHeartbeats 1000000 in
theorem isParts_any (s : ByteArray) (m : Int) (w : World) (hs : s.size ≤ 1000000) (hm : w.cell? ⟨0, 0, none⟩ = some (.int .i64 m)) :
    Calls Tryz.prog 63 #[.string s] w fun e w' => e = .returned (.bool (partsB s)) ∧ Below w.heap.size w w' := by
  have HM := Lib.hid hm; clear hm
  by_cases hbig : 253 < s.size
  · have HR : Hid (partsB s = false) := Lib.hid (by rw [partsB, decide_eq_false (by omega), Bool.false_and])
    have hI : (253 : Int) < (s.size : Int) := by omega
    go_enter Tryz.func63, Tryz.ntmps63
    go_wp2
    go_ret
    exact ⟨ret_bool (by rw [HR.out]), Below.refl _ _⟩
  have hI : (s.size : Int) ≤ 253 := by omega
  obtain ⟨P, HP⟩ : ∃ P, Hid (rawB 46 s = P) := ⟨_, Lib.hid rfl⟩
  have HR : Hid (partsB s = P.all partB) := Lib.hid (by rw [partsB, decide_eq_true (by omega), Bool.true_and, HP.out])
  obtain ⟨n, HN⟩ : ∃ n, Hid (P.length = n) := ⟨_, Lib.hid rfl⟩
  have hn : n ≤ 254 := by rw [← HN.out, ← HP.out]; have := rawB_count 46 s; omega
  have HPs : Hid (∀ p ∈ P, p.size ≤ 253) := Lib.hid (fun p hp => by rw [← HP.out] at hp; have := (rawB_mem 46 s p hp).1; omega)
  have HS : Hid (Calls Tryz.prog 33 #[.string s, .string ⟨#[46]⟩] w fun e w' => e = .returned (.slice (some ⟨w.heap.size, 0, none⟩) n n) ∧ w.alloc (.cells (P.map Value.string).toArray 9) = w') := Lib.hid (by
    have := Tryz.strings_Split s ⟨#[46]⟩ m w (by omega) HM.out (Nat.le_refl 1)
    rw [show Lib.splitB ⟨#[46]⟩ 0 (Lib.countB s ⟨#[46]⟩) s = P from HP.out, show Lib.countB s ⟨#[46]⟩ + 1 = n by rw [← rawB_len, HP.out, HN.out]] at this
    exact this.mono fun e w' ⟨h1, h2⟩ => ⟨h1, h2.symm⟩)
  have HRow : Hid ((w.alloc (.cells (P.map Value.string).toArray 9)).heap[w.heap.size]? = some (.cells (P.map Value.string).toArray 9 (0, 0))) := Lib.hid (heap_alloc_new w _)
  have HB : Hid (Below w.heap.size w (w.alloc (.cells (P.map Value.string).toArray 9))) := Lib.hid ((Below.refl _ _).alloc (Nat.le_refl _) _)
  clear hbig
  go_enter Tryz.func63, Tryz.ntmps63
  go_wp2_with fail
  refine HS.out.mono ?_
  rintro e w1 ⟨rfl, hw1⟩
  obtain ⟨W, HW⟩ : ∃ W, Hid (w.alloc (.cells (P.map Value.string).toArray 9) = W) := ⟨_, Lib.hid rfl⟩
  obtain rfl : W = w1 := HW.out.symm.trans hw1
  rw [HW.out] at HRow HB
  clear hw1
  go_wp2
  go_loop [4, 11] (fun _ i => ∃ k : Nat, k ≤ n ∧ i = .int .i64 k ∧ Hid (∀ j (h : j < P.length), j < k → partB P[j] = true)) (fun _ i => n - (intOf i).toNat)
  case atStart => exact ⟨0, Nat.zero_le _, rfl, Lib.hid (fun _ _ h => absurd h (Nat.not_lt_zero _))⟩
  case round =>
    obtain ⟨k, hk, rfl, HOk⟩ := hrel
    by_cases hlt : k < n
    · have hkP : k < P.length := by rw [HN.out]; exact hlt
      obtain ⟨p, Hp⟩ : ∃ p, Hid (P[k] = p) := ⟨_, Lib.hid rfl⟩
      have hps : p.size ≤ 253 := by rw [← Hp.out]; exact HPs.out _ (List.getElem_mem hkP)
      have hc : W.cell? ⟨w.heap.size, k, none⟩ = some (.string p) := by
        rw [cell_of_row W _ _ _ _ _ HRow.out, List.getElem?_toArray, List.getElem?_map, List.getElem?_eq_getElem hkP, Hp.out]; rfl
      obtain ⟨c, Hc⟩ : ∃ c, Hid (partB p = c) := ⟨_, Lib.hid rfl⟩
      have HCp := Lib.hid (isPart_any p)
      rw [Hc.out] at HCp
      cases c
      · have HR2 : Hid (partsB s = false) := Lib.hid (by rw [HR.out]; exact all_no hkP (by rw [Hp.out]; exact Hc.out))
        go_wp2_with fail
        refine (HCp.out _ (by omega)).mono ?_
        rintro e w1 ⟨rfl, rfl⟩
        go_wp2
        go_ret
        exact ⟨ret_bool (by rw [HR2.out]), HB.out⟩
      · go_wp2_with fail
        refine (HCp.out _ (by omega)).mono ?_
        rintro e w1 ⟨rfl, rfl⟩
        go_wp2
        go_round
        case rel => exact ⟨k + 1, by omega, by go_num, Lib.hid (fun j hj hjk => by
          by_cases e : j = k
          · subst e; rw [Hp.out]; exact Hc.out
          · exact HOk.out j hj (by omega))⟩
        case measure => simp [intOf]; omega
    · have HR2 : Hid (partsB s = true) := Lib.hid (by rw [HR.out]; exact all_yes (fun j hj => HOk.out j hj (by rw [HN.out] at hj; omega)))
      go_wp2
      go_ret
      exact ⟨ret_bool (by rw [HR2.out]), HB.out⟩

set_option maxRecDepth 100000 in
set_option maxHeartbeats 1000000 in
theorem isRule_any (s : ByteArray) (m : Int) (w : World) (hs : s.size ≤ 1000000) (hm : w.cell? ⟨0, 0, none⟩ = some (.int .i64 m)) :
    Calls Tryz.prog 39 #[.string s] w fun e w' => e = .returned (.bool (ruleB s)) ∧ Below w.heap.size w w' := by
  have HM := Lib.hid hm; clear hm
  obtain ⟨x, Hx⟩ : ∃ x, Hid (exB s = x) := ⟨_, Lib.hid rfl⟩
  obtain ⟨D, HD⟩ : ∃ D, Hid (bareS s = D) := ⟨_, Lib.hid rfl⟩
  obtain ⟨T, HT⟩ : ∃ T, Hid (starS s = T) := ⟨_, Lib.hid rfl⟩
  have hDs : D.size ≤ 1000000 := by rw [← HD.out]; have := bareS_size s; omega
  have hTs : T.size ≤ 1000000 := by rw [← HT.out]; have := starS_size s; omega
  have HC : Hid (∀ w, Calls Tryz.prog 34 #[.string s, .string ⟨#[33]⟩] w fun e w' => e = .returned (.tuple #[.string D, .bool x]) ∧ w = w') := Lib.hid (fun w => by
    have := Tryz.strings_CutPrefix s ⟨#[33]⟩ w
    rw [show Lib.hasPrefix s.data.toList (⟨#[33]⟩ : ByteArray).data.toList = x from Hx.out, show (⟨(Lib.trimPrefix s.data.toList (⟨#[33]⟩ : ByteArray).data.toList).toArray⟩ : ByteArray) = D from HD.out] at this
    exact this.mono fun e w' ⟨h1, h2⟩ => ⟨h1, h2.symm⟩)
  have HTp : Hid (∀ w, Calls Tryz.prog 65 #[.string s, .string ⟨#[42, 46]⟩] w fun e w' => e = .returned (.string T) ∧ w = w') := Lib.hid (fun w => by
    have := Tryz.strings_TrimPrefix s ⟨#[42, 46]⟩ w
    rw [show (⟨(Lib.trimPrefix s.data.toList (⟨#[42, 46]⟩ : ByteArray).data.toList).toArray⟩ : ByteArray) = T from HT.out] at this
    exact this.mono fun e w' ⟨h1, h2⟩ => ⟨h1, h2.symm⟩)
  have HCo : Hid (∀ w, Calls Tryz.prog 64 #[.string D, .string ⟨#[46]⟩] w fun e w' => e = .returned (.bool (pointB D)) ∧ w = w') := Lib.hid (fun w =>
    (Tryz.strings_Contains_one D 46 w).mono fun e w' ⟨h1, h2⟩ => ⟨h1, h2.symm⟩)
  have HR : Hid (ruleB s = if x then partsB D && pointB D else partsB T) := Lib.hid (by rw [ruleB, Hx.out, HD.out, HT.out])
  cases x
  · have HR2 : Hid (ruleB s = partsB T) := Lib.hid HR.out
    go_enter Tryz.func39, Tryz.ntmps39
    go_wp2_with fail
    refine (HC.out _).mono ?_
    rintro e w1 ⟨rfl, rfl⟩
    go_wp2_with fail
    refine (HTp.out _).mono ?_
    rintro e w1 ⟨rfl, rfl⟩
    go_wp2_with fail
    refine (isParts_any T m _ hTs HM.out).mono ?_
    rintro e w1 ⟨rfl, b1⟩
    have B1 := Lib.hid b1; clear b1
    go_wp2
    go_ret
    exact ⟨ret_bool (by rw [HR2.out]), B1.out⟩
  · have HR2 : Hid (ruleB s = (partsB D && pointB D)) := Lib.hid HR.out
    obtain ⟨y, Hy⟩ : ∃ y, Hid (partsB D = y) := ⟨_, Lib.hid rfl⟩
    have CP := Lib.hid (fun w hm => isParts_any D m w hDs hm)
    rw [Hy.out] at CP HR2
    cases y
    · go_enter Tryz.func39, Tryz.ntmps39
      go_wp2_with fail
      refine (HC.out _).mono ?_
      rintro e w1 ⟨rfl, rfl⟩
      go_wp2_with fail
      refine (CP.out _ HM.out).mono ?_
      rintro e w1 ⟨rfl, b1⟩
      have B1 := Lib.hid b1; clear b1
      go_wp2
      go_ret
      exact ⟨ret_bool (by rw [HR2.out]; rfl), B1.out⟩
    · go_enter Tryz.func39, Tryz.ntmps39
      go_wp2_with fail
      refine (HC.out _).mono ?_
      rintro e w1 ⟨rfl, rfl⟩
      go_wp2_with fail
      refine (CP.out _ HM.out).mono ?_
      rintro e w1 ⟨rfl, b1⟩
      have B1 := Lib.hid b1; clear b1
      go_wp2_with fail
      refine (HCo.out _).mono ?_
      rintro e w1 ⟨rfl, rfl⟩
      go_wp2
      go_ret
      exact ⟨ret_bool (by rw [HR2.out]; rfl), B1.out⟩

set_option maxRecDepth 100000 in
set_option maxHeartbeats 1000000 in
theorem Check_any (R : List ByteArray) (a0 : Option Addr) (b off cap : Nat) (m : Int) (w : World) (hT : TxAt R a0 b off w) (hn : R.length ≤ 2000000) (hz : ∀ r ∈ R, r.size ≤ 50000) (hm : w.cell? ⟨0, 0, none⟩ = some (.int .i64 m)) :
    Calls Tryz.prog 24 #[.slice a0 R.length cap] w fun e w' => e = .returned (.bool (rulesB R)) ∧ Below w.heap.size w w' := by
  have HM := Lib.hid hm; clear hm
  have HTx := Lib.hid hT; clear hT
  have HZ := Lib.hid hz; clear hz
  obtain ⟨n, HN⟩ : ∃ n, Hid (R.length = n) := ⟨_, Lib.hid rfl⟩
  rw [HN.out] at hn ⊢
  by_cases hbig : 1024 < n
  · have HR : Hid (rulesB R = false) := Lib.hid (by rw [rulesB, HN.out, decide_eq_false (by omega), Bool.false_and])
    have hI : (1024 : Int) < (n : Int) := by omega
    go_enter Tryz.func24, Tryz.ntmps24
    go_wp2
    go_ret
    exact ⟨ret_bool (by rw [HR.out]), Below.refl _ _⟩
  have hI : (n : Int) ≤ 1024 := by omega
  have HR : Hid (rulesB R = R.all ruleB) := Lib.hid (by rw [rulesB, HN.out, decide_eq_true (by omega), Bool.true_and])
  clear hbig
  go_enter Tryz.func24, Tryz.ntmps24
  go_wp2
  go_loopw [4, 10] (fun _ i wr => ∃ k : Nat, k ≤ n ∧ i = .int .i64 k ∧ Hid (Below w.heap.size w wr) ∧ Hid (∀ j (h : j < R.length), j < k → ruleB R[j] = true)) (fun _ i _ => n - (intOf i).toNat)
  case atStart => exact ⟨0, Nat.zero_le _, rfl, Lib.hid (Below.refl _ _), Lib.hid (fun _ _ h => absurd h (Nat.not_lt_zero _))⟩
  case round =>
    obtain ⟨k, hk, rfl, HB, HOk⟩ := hrel
    by_cases hlt : k < n
    · have hkP : k < R.length := by rw [HN.out]; exact hlt
      obtain ⟨p, Hp⟩ : ∃ p, Hid (R[k] = p) := ⟨_, Lib.hid rfl⟩
      have hps : p.size ≤ 50000 := by rw [← Hp.out]; exact HZ.out _ (List.getElem_mem hkP)
      have hc : wr.cell? ⟨b, off + k, none⟩ = some (.string p) := by rw [← Hp.out]; exact (HTx.out.later HB.out).cell k hkP
      have ha : a0 = some ⟨b, off, none⟩ := HTx.out.at0 (by omega)
      subst ha
      obtain ⟨c, Hc⟩ : ∃ c, Hid (ruleB p = c) := ⟨_, Lib.hid rfl⟩
      have HCp := Lib.hid (fun w hm => isRule_any p m w (by omega) hm)
      rw [Hc.out] at HCp
      have HMr : Hid (wr.cell? ⟨0, 0, none⟩ = some (.int .i64 m)) := Lib.hid ((HB.out.cell (block_lt_of_cell HM.out)).trans HM.out)
      cases c
      · have HR2 : Hid (rulesB R = false) := Lib.hid (by rw [HR.out]; exact all_no hkP (by rw [Hp.out]; exact Hc.out))
        go_wp2_with fail
        refine (HCp.out _ HMr.out).mono ?_
        rintro e w1 ⟨rfl, b1⟩
        have B1 : Hid (Below w.heap.size w w1) := Lib.hid (keepW HB.out b1)
        clear b1 hc
        go_wp2
        go_ret
        exact ⟨ret_bool (by rw [HR2.out]), B1.out⟩
      · go_wp2_with fail
        refine (HCp.out _ HMr.out).mono ?_
        rintro e w1 ⟨rfl, b1⟩
        have B1 : Hid (Below w.heap.size w w1) := Lib.hid (keepW HB.out b1)
        clear b1 hc
        go_wp2
        go_roundw
        case rel => exact ⟨k + 1, by omega, by go_num, B1, Lib.hid (fun j hj hjk => by
          by_cases e : j = k
          · subst e; rw [Hp.out]; exact Hc.out
          · exact HOk.out j hj (by omega))⟩
        case measure => simp [intOf]; omega
    · have HR2 : Hid (rulesB R = true) := Lib.hid (by rw [HR.out]; exact all_yes (fun j hj => HOk.out j hj (by rw [HN.out] at hj; omega)))
      go_wp2
      go_ret
      exact ⟨ret_bool (by rw [HR2.out]), HB.out⟩

end Go.Proofs.YtdifdikfgkiocaaGreatDoor
