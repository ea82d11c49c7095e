/-
  Contracts: the document's except, bare, part, may, Check.
  Contracts: the document's fits, many, last, wrong, Suffix, Own.
  Contract: the document's wrong.
  Contracts: the document's Suffix, Own.
-/
import Derived.Test.YtdifdikfgkiocaaGreatDoorHsRP
import Derived.Test.YtdifdikfgkiocaaGreatDoorMrA
import Derived.Test.YtdifdikfgkiocaaGreatDoorMsA
import Derived.RegionTactic
import Derived.Test.YtdifdikfgkiocaaGreatDoorMhH
import Derived.Test.YtdifdikfgkiocaaGreatDoorHsK2
namespace Go.Proofs.YtdifdikfgkiocaaGreatDoor
open Go.RowKit

theorem exB_none {s : ByteArray} (h : s.size = 0) : exB s = false := by
 have hl := lenB s
 rw [exB, show s.data.toList = [] from List.eq_nil_of_length_eq_zero (by omega)]; rfl
theorem exB_at {s : ByteArray} (h : 0 < s.size) : exB s = decide (s[0] = 33) := by
 have hl := lenB s
 cases e : s.data.toList with
 | nil => rw [e] at hl; simp at hl; omega
 | cons y r =>
  have h1 : s[0] = s.data.toList[0]'(by omega) := rfl
  have h2 : s[0] = y := by rw [h1]; simp only [e, List.getElem_cons_zero]
  rw [exB, e, h2, Bool.eq_iff_iff, decide_eq_true_eq]
  simp [Lib.hasPrefix, List.isPrefixOf]
  exact eq_comm
theorem bareS_ex {s : ByteArray} (h : exB s = true) : 1 ≤ s.size ∧ s.extract 1 s.size = bareS s := by
 have h0 : 0 < s.size := by
  refine Nat.pos_of_ne_zero (fun e => ?_)
  rw [exB_none e] at h; cases h
 refine ⟨h0, ba_of ?_⟩
 have hl := lenB s
 rw [ext_mid s 1 s.size (Nat.le_refl _), List.take_of_length_le (by rw [List.length_drop]; omega)]
 show _ = Lib.trimPrefix s.data.toList [33]
 rw [Lib.trimPrefix, if_pos (show Lib.hasPrefix s.data.toList [33] = true from h)]; rfl
theorem bareS_no {s : ByteArray} (h : exB s = false) : bareS s = s := by
 refine ba_of ?_
 show Lib.trimPrefix s.data.toList [33] = _
 rw [Lib.trimPrefix, if_neg (by rw [show Lib.hasPrefix s.data.toList [33] = false from h]; simp)]

set_option maxRecDepth 100000 in
set_option maxHeartbeats 1000000 in
theorem RefExcept_any (s : ByteArray) (w : World) :
  Calls Tryz.prog 48 #[.string s] w fun e w' => e = .returned (.bool (exB s)) ∧ w = w' := by
 by_cases h0 : 0 < s.size
 ·have hxe : s.toList.isEmpty = false := emF h0
  have hxn : ¬ s.toList = [] := fun e => by rw [e] at hxe; cases hxe
  by_cases h33 : s[0] = 33
  ·have HR : Hid (exB s = true) := Lib.hid (by rw [exB_at h0, decide_eq_true h33])
   have hxv : ((s[0].toNat : Int) == 33) = true := by rw [h33]; rfl
   clear h33
   go_enter Tryz.func48, Tryz.ntmps48
   go_wp2
   go_ret
   exact ⟨ret_bool (by rw [HR.out]), rfl⟩
  ·have HR : Hid (exB s = false) := Lib.hid (by rw [exB_at h0, decide_eq_false h33])
   have hxv : ((s[0].toNat : Int) == 33) = false := beq_eq_false_iff_ne.2 (fun e => h33 (UInt8.toNat_inj.1 (by have : (33 : UInt8).toNat = 33 := rfl; omega)))
   clear h33
   go_enter Tryz.func48, Tryz.ntmps48
   go_wp2
   go_ret
   exact ⟨ret_bool (by rw [HR.out]), rfl⟩
 ·have hxe : s.toList.isEmpty = true := emT (by omega)
  have hxn : s.toList = [] := List.isEmpty_iff.1 hxe
  have HR : Hid (exB s = false) := Lib.hid (exB_none (by omega))
  go_enter Tryz.func48, Tryz.ntmps48
  go_wp2
  go_ret
  exact ⟨ret_bool (by rw [HR.out]), rfl⟩

theorem rows_tx {w : World} {base : Nat} {v : Value} {T : List ByteArray} (hne : T ≠ []) (h : w.ownsRow base 9 1 v T.length (T.map Value.string)) : ∃ g cap, v = .slice (some ⟨g, 0, none⟩) T.length cap ∧ T.length ≤ cap ∧ base ≤ g ∧ g < w.heap.size ∧ ∀ j (h : j < T.length), w.cell? ⟨g, j, none⟩ = some (.string T[j]) := by
 have hl := List.length_pos_iff.2 hne
 rcases h.2 with ⟨h1, h2⟩ | ⟨g, cap, cur, hv, hg, hgb, hcap, hrow⟩
 ·omega
 ·refine ⟨g, cap, hv, hcap, hg, lt_of_block hgb, fun j hj => ?_⟩
  subst hv
  rw [h.cellAt j (by omega), List.getElem?_map, List.getElem?_eq_getElem hj]; rfl
set_option maxRecDepth 100000 in
set_option maxHeartbeats 1000000 in
theorem RefBare_any (s : ByteArray) (w : World) (hs : s.size ≤ 1000000) :
  Calls Tryz.prog 46 #[.string s] w fun e w' => ∃ g cap, e = .returned (.slice (some ⟨g, 0, none⟩) (bareL s).length cap) ∧ (bareL s).length ≤ cap ∧ w.heap.size ≤ g ∧ g < w'.heap.size ∧ Hid (∀ j (h : j < (bareL s).length), w'.cell? ⟨g, j, none⟩ = some (.string (bareL s)[j])) ∧ Below w.heap.size w w' := by
 obtain ⟨D, HD⟩ : ∃ D, Hid (bareS s = D) := ⟨_, Lib.hid rfl⟩
 have hDs : D.size ≤ 1000000 := by rw [← HD.out]; have := bareS_size s; omega
 have CP : Hid (∀ w, Calls Tryz.prog 27 #[.string D] w fun e w' => (∃ g cap, e = .returned (.slice (some ⟨g, 0, none⟩) (bareL s).length cap) ∧ (bareL s).length ≤ cap ∧ w.heap.size ≤ g ∧ g < w'.heap.size ∧ ∀ j (h : j < (bareL s).length), w'.cell? ⟨g, j, none⟩ = some (.string (bareL s)[j])) ∧ Below w.heap.size w w') := Lib.hid (fun w => by
  have := RefParts5_any D w (by omega)
  have hr : rawB 46 D = bareL s := by rw [bareL, HD.out]
  rw [hr] at this
  exact this.mono fun e w' ⟨v, h1, h2, h3⟩ => by
   obtain ⟨g, cap, hv, h4, h5, h6, h7⟩ := rows_tx (by rw [← hr]; exact rawB_ne 46 D) h2
   exact ⟨⟨g, cap, by rw [h1, hv], h4, h5, h6, h7⟩, h3⟩)
 obtain ⟨n, HN⟩ : ∃ n, Hid ((bareL s).length = n) := ⟨_, Lib.hid rfl⟩
 obtain ⟨x, Hx⟩ : ∃ x, Hid (exB s = x) := ⟨_, Lib.hid rfl⟩
 have CX := Lib.hid (RefExcept_any s)
 rw [Hx.out] at CX
 cases x
 ·have HS : Hid (s = D) := Lib.hid (by rw [← HD.out, bareS_no Hx.out])
  rw [← HS.out] at CP
  go_enter Tryz.func46, Tryz.ntmps46
  go_wp2_with fail
  refine (CX.out _).mono ?_
  rintro e w1 ⟨rfl, rfl⟩
  go_wp2_with fail
  refine (CP.out _).mono ?_
  rintro e w1 ⟨⟨g, cap, rfl, h4, h5, h6, h7⟩, b1⟩
  have B1 := Lib.hid b1
  have H7 := Lib.hid h7
  clear b1 h7
  go_wp2
  go_ret
  exact ⟨g, cap, rfl, h4, h5, h6, H7, B1.out⟩
 ·obtain ⟨h1, h2⟩ := bareS_ex Hx.out
  have HS : Hid (s.extract 1 s.size = D) := Lib.hid (by rw [h2, HD.out])
  have h1I : (1 : Int) ≤ (s.size : Int) := by omega
  rw [← HS.out] at CP
  clear h2
  go_enter Tryz.func46, Tryz.ntmps46
  go_wp2_with fail
  refine (CX.out _).mono ?_
  rintro e w1 ⟨rfl, rfl⟩
  go_wp2_with fail
  refine (CP.out _).mono ?_
  rintro e w1 ⟨⟨g, cap, rfl, h4, h5, h6, h7⟩, b1⟩
  have B1 := Lib.hid b1
  have H7 := Lib.hid h7
  clear b1 h7
  go_wp2
  go_ret
  exact ⟨g, cap, rfl, h4, h5, h6, H7, B1.out⟩

set_option maxRecDepth 100000 in
set_option maxHeartbeats 2000000 in
theorem RefPart_any (p : ByteArray) (w : World) (hp : p.size ≤ 9000000) :
  Calls Tryz.prog 105 #[.string p] w fun e w' => e = .returned (.bool (partB p)) ∧ w = w' := by
 go_enter Tryz.func105, Tryz.ntmps105
 go_wp2
 go_loop [3, 4] (fun i _ => ∃ k : Nat, k ≤ p.size ∧ i = .int .i64 k ∧ Hid (∀ j (h : j < p.size), j < k → sgnB p[j] = true)) (fun i _ => p.size - (intOf i).toNat)
 case atStart => exact ⟨0, Nat.zero_le _, rfl, Lib.hid (fun _ _ h => absurd h (Nat.not_lt_zero _))⟩
 case round =>
  obtain ⟨k, hk, rfl, HOk⟩ := hrel
  by_cases hlt : k < p.size
  ·obtain ⟨q, hq⟩ : ∃ q : Nat, q = p[k].toNat := ⟨_, rfl⟩
   have hq255 : q < 256 := by rw [hq]; exact p[k].toNat_lt
   have hqI : (p[k].toNat : Int) = (q : Int) := by rw [hq]
   obtain ⟨d, HDg⟩ : ∃ d, Hid (inR 48 57 (q : Int) = d) := ⟨_, Lib.hid rfl⟩
   have CD : Hid (∀ w, Calls Tryz.prog 139 #[.int .u8 (q : Int)] w fun e w' => e = .returned (.bool d) ∧ w = w') := Lib.hid (fun w => by
    have := Digit_any (q : Int) w
    rwa [HDg.out] at this)
   have HNext : Hid (sgnB p[k] = true → ∀ j (h : j < p.size), j < k + 1 → sgnB p[j] = true) := Lib.hid (fun hs j hj hjk => by
    by_cases e : j = k
    ·subst e; exact hs
    ·exact HOk.out j hj (by omega))
   rcases (show (0 ≤ q ∧ q ≤ 44) ∨ (45 ≤ q ∧ q ≤ 45) ∨ (46 ≤ q ∧ q ≤ 47) ∨ (48 ≤ q ∧ q ≤ 57) ∨ (58 ≤ q ∧ q ≤ 96) ∨ (97 ≤ q ∧ q ≤ 122) ∨ (123 ≤ q ∧ q ≤ 255) by omega) with ⟨hq1, hq2⟩ | ⟨hq1, hq2⟩ | ⟨hq1, hq2⟩ | ⟨hq1, hq2⟩ | ⟨hq1, hq2⟩ | ⟨hq1, hq2⟩ | ⟨hq1, hq2⟩
   ·have HS : Hid (sgnB p[k] = false) := Lib.hid (by rw [sgnB_eq, ← hq]; rw [decide_eq_false (by omega), decide_eq_false (by omega), decide_eq_false (by omega)]; rfl)
    obtain rfl : d = false := by rw [← HDg.out]; rw [inR_false]; omega
    have c97 : (q : Int) < 97 := by omega
    have c122 : (q : Int) ≤ 122 := by omega
    have c45 : ((q : Int) == 45) = false := beq_eq_false_iff_ne.2 (by omega)
    have c45n : ((q : Int) != 45) = true := by rw [bne, c45]; rfl
    have HR : Hid (partB p = false) := Lib.hid (partB_no hlt HS.out)
    clear hq1 hq2 hq
    go_wp2_with fail
    refine (CD.out _).mono ?_
    rintro e w1 ⟨rfl, rfl⟩
    go_wp2
    go_ret
    exact ⟨ret_bool (by rw [HR.out]), rfl⟩
   ·have HS : Hid (sgnB p[k] = true) := Lib.hid (by rw [sgnB_eq, ← hq]; rw [decide_eq_false (by omega), decide_eq_true (show q = 45 by omega)]; rfl)
    obtain rfl : d = false := by rw [← HDg.out]; rw [inR_false]; omega
    have c97 : (q : Int) < 97 := by omega
    have c122 : (q : Int) ≤ 122 := by omega
    have c45 : ((q : Int) == 45) = true := beq_iff_eq.2 (by omega)
    have c45n : ((q : Int) != 45) = false := by rw [bne, c45]; rfl
    clear hq1 hq2 hq
    go_wp2_with fail
    refine (CD.out _).mono ?_
    rintro e w1 ⟨rfl, rfl⟩
    go_wp2
    go_round
    case rel => exact ⟨k + 1, by omega, by go_num, Lib.hid (HNext.out HS.out)⟩
    case measure => simp [intOf]; omega
   ·have HS : Hid (sgnB p[k] = false) := Lib.hid (by rw [sgnB_eq, ← hq]; rw [decide_eq_false (by omega), decide_eq_false (by omega), decide_eq_false (by omega)]; rfl)
    obtain rfl : d = false := by rw [← HDg.out]; rw [inR_false]; omega
    have c97 : (q : Int) < 97 := by omega
    have c122 : (q : Int) ≤ 122 := by omega
    have c45 : ((q : Int) == 45) = false := beq_eq_false_iff_ne.2 (by omega)
    have c45n : ((q : Int) != 45) = true := by rw [bne, c45]; rfl
    have HR : Hid (partB p = false) := Lib.hid (partB_no hlt HS.out)
    clear hq1 hq2 hq
    go_wp2_with fail
    refine (CD.out _).mono ?_
    rintro e w1 ⟨rfl, rfl⟩
    go_wp2
    go_ret
    exact ⟨ret_bool (by rw [HR.out]), rfl⟩
   ·have HS : Hid (sgnB p[k] = true) := Lib.hid (by rw [sgnB_eq, ← hq]; rw [decide_eq_true (show 48 ≤ q ∧ q ≤ 57 by omega)]; rfl)
    obtain rfl : d = true := by rw [← HDg.out]; rw [inR_true]; omega
    have c97 : (q : Int) < 97 := by omega
    have c122 : (q : Int) ≤ 122 := by omega
    have c45 : ((q : Int) == 45) = false := beq_eq_false_iff_ne.2 (by omega)
    have c45n : ((q : Int) != 45) = true := by rw [bne, c45]; rfl
    clear hq1 hq2 hq
    go_wp2_with fail
    refine (CD.out _).mono ?_
    rintro e w1 ⟨rfl, rfl⟩
    go_wp2
    go_round
    case rel => exact ⟨k + 1, by omega, by go_num, Lib.hid (HNext.out HS.out)⟩
    case measure => simp [intOf]; omega
   ·have HS : Hid (sgnB p[k] = false) := Lib.hid (by rw [sgnB_eq, ← hq]; rw [decide_eq_false (by omega), decide_eq_false (by omega), decide_eq_false (by omega)]; rfl)
    obtain rfl : d = false := by rw [← HDg.out]; rw [inR_false]; omega
    have c97 : (q : Int) < 97 := by omega
    have c122 : (q : Int) ≤ 122 := by omega
    have c45 : ((q : Int) == 45) = false := beq_eq_false_iff_ne.2 (by omega)
    have c45n : ((q : Int) != 45) = true := by rw [bne, c45]; rfl
    have HR : Hid (partB p = false) := Lib.hid (partB_no hlt HS.out)
    clear hq1 hq2 hq
    go_wp2_with fail
    refine (CD.out _).mono ?_
    rintro e w1 ⟨rfl, rfl⟩
    go_wp2
    go_ret
    exact ⟨ret_bool (by rw [HR.out]), rfl⟩
   ·have HS : Hid (sgnB p[k] = true) := Lib.hid (by rw [sgnB_eq, ← hq]; rw [decide_eq_false (by omega), decide_eq_false (by omega), decide_eq_true (show 97 ≤ q ∧ q ≤ 122 by omega)]; rfl)
    obtain rfl : d = false := by rw [← HDg.out]; rw [inR_false]; omega
    have c97 : (97 : Int) ≤ (q : Int) := by omega
    have c122 : (q : Int) ≤ 122 := by omega
    have c45 : ((q : Int) == 45) = false := beq_eq_false_iff_ne.2 (by omega)
    have c45n : ((q : Int) != 45) = true := by rw [bne, c45]; rfl
    clear hq1 hq2 hq
    go_wp2_with fail
    refine (CD.out _).mono ?_
    rintro e w1 ⟨rfl, rfl⟩
    go_wp2
    go_round
    case rel => exact ⟨k + 1, by omega, by go_num, Lib.hid (HNext.out HS.out)⟩
    case measure => simp [intOf]; omega
   ·have HS : Hid (sgnB p[k] = false) := Lib.hid (by rw [sgnB_eq, ← hq]; rw [decide_eq_false (by omega), decide_eq_false (by omega), decide_eq_false (by omega)]; rfl)
    obtain rfl : d = false := by rw [← HDg.out]; rw [inR_false]; omega
    have c97 : (97 : Int) ≤ (q : Int) := by omega
    have c122 : (122 : Int) < (q : Int) := by omega
    have c45 : ((q : Int) == 45) = false := beq_eq_false_iff_ne.2 (by omega)
    have c45n : ((q : Int) != 45) = true := by rw [bne, c45]; rfl
    have HR : Hid (partB p = false) := Lib.hid (partB_no hlt HS.out)
    clear hq1 hq2 hq
    go_wp2_with fail
    refine (CD.out _).mono ?_
    rintro e w1 ⟨rfl, rfl⟩
    go_wp2
    go_ret
    exact ⟨ret_bool (by rw [HR.out]), rfl⟩
  ·have HR : Hid (partB p = (decide (0 < p.size) && decide (p.size ≤ 63))) := Lib.hid (partB_all (fun j hj => HOk.out j hj (by omega)))
   clear HOk
   by_cases h1 : 0 < p.size
   ·by_cases h2 : p.size ≤ 63
    ·have HR2 : Hid (partB p = true) := Lib.hid (by rw [HR.out, decide_eq_true h1, decide_eq_true h2]; rfl)
     have d1 : (1 : Int) ≤ (p.size : Int) := by omega
     have d2 : (p.size : Int) ≤ 63 := by omega
     clear HR
     go_wp2
     go_ret
     exact ⟨ret_bool (by rw [HR2.out]; first | done | (simp; omega)), rfl⟩
    ·have HR2 : Hid (partB p = false) := Lib.hid (by rw [HR.out, decide_eq_false h2, Bool.and_false])
     have d1 : (1 : Int) ≤ (p.size : Int) := by omega
     have d2 : (63 : Int) < (p.size : Int) := by omega
     clear HR
     go_wp2
     go_ret
     exact ⟨ret_bool (by rw [HR2.out]; first | done | (simp; omega)), rfl⟩
   ·have HR2 : Hid (partB p = false) := Lib.hid (by rw [HR.out, decide_eq_false h1, Bool.false_and])
    have d1 : (p.size : Int) < 1 := by omega
    clear HR
    go_wp2
    go_ret
    exact ⟨ret_bool (by rw [HR2.out]; first | done | (simp; omega)), rfl⟩

set_option maxRecDepth 100000 in
set_option maxHeartbeats 4000000 in
theorem RefMay_any (s : ByteArray) (w : World) (hs : s.size ≤ 1000000) :
  Calls Tryz.prog 70 #[.string s] w fun e w' => e = .returned (.bool (ruleB s)) ∧ Below w.heap.size w w' := by
 rw [← mayR_eq]
 obtain ⟨L, HL⟩ : ∃ L, Hid (bareL s = L) := ⟨_, Lib.hid rfl⟩
 have HLs : Hid (∀ p ∈ L, p.size ≤ 1000000) := Lib.hid (fun p hp => by rw [← HL.out] at hp; have := (rawB_mem 46 (bareS s) p hp).1; have := bareS_size s; omega)
 obtain ⟨n, HN⟩ : ∃ n, Hid (L.length = n) := ⟨_, Lib.hid rfl⟩
 have hn : n ≤ 1000001 := by rw [← HN.out, ← HL.out]; have := rawB_count 46 (bareS s); have := bareS_size s; show (rawB 46 (bareS s)).length ≤ _; omega
 have hn1 : 1 ≤ n := by rw [← HN.out, ← HL.out]; exact List.length_pos_iff.2 (rawB_ne 46 (bareS s))
 have CB : Hid (Calls Tryz.prog 46 #[.string s] w fun e w' => ∃ g cap, e = .returned (.slice (some ⟨g, 0, none⟩) n cap) ∧ n ≤ cap ∧ w.heap.size ≤ g ∧ g < w'.heap.size ∧ Hid (∀ j (h : j < L.length), w'.cell? ⟨g, j, none⟩ = some (.string L[j])) ∧ Below w.heap.size w w') := Lib.hid (by
  have := RefBare_any s w hs
  rw [HL.out] at this
  exact this.mono fun e w' ⟨g, cap, h1, h2, h3, h4, h5, h6⟩ => ⟨g, cap, by rw [h1, HN.out], by rw [← HN.out]; exact h2, h3, h4, h5, h6⟩)
 obtain ⟨x, Hx⟩ : ∃ x, Hid (exB s = x) := ⟨_, Lib.hid rfl⟩
 have CX := Lib.hid (RefExcept_any s)
 rw [Hx.out] at CX
 cases x
 ·have HLr : Hid (rawB 46 s = L) := Lib.hid (by rw [← HL.out, bareL, bareS_no Hx.out])
  by_cases hst : 1 < n ∧ L[0]? = some ⟨#[42]⟩
  ·obtain ⟨h1, h0⟩ := hst
   obtain ⟨T, HT⟩ : ∃ T, Hid (L.tail = T) := ⟨_, Lib.hid rfl⟩
   have HMay : Hid (mayR s = (T.all partB && decide (s.size - 2 ≤ 253))) := Lib.hid (by
    rw [mayR, Hx.out, if_neg (by simp), HLr.out, HN.out, if_pos ⟨h1, h0⟩, HT.out])
   have hs2 : 2 ≤ s.size := by
    obtain ⟨t, ht⟩ := star_of (s := s) (by rw [HLr.out, HN.out]; exact h1) (by rw [HLr.out]; exact h0)
    have := lenB s
    rw [ht] at this
    simp only [List.length_cons] at this
    omega
   have hs2I : (2 : Int) ≤ (s.size : Int) := by omega
   have hsI : (s.size : Int) ≤ 1000000 := by omega
   obtain ⟨y, hy, hye⟩ : ∃ y, L[0]? = some y ∧ y = ⟨#[42]⟩ := ⟨_, h0, rfl⟩
   have hy0 : L[0]'(by rw [HN.out]; omega) = y := Option.some.inj ((List.getElem?_eq_getElem _).symm.trans hy)
   have Hy0 := Lib.hid hy0
   have hyl : y.toList = [42] := by rw [hye, ByteArray.toList_eq]
   have h1I : (1 : Int) < (n : Int) := by omega
   obtain ⟨q, HQN⟩ : ∃ q, Hid (T.length = q) := ⟨_, Lib.hid rfl⟩
   have hq : q = n - 1 := by rw [← HQN.out, ← HT.out, List.length_tail, HN.out]
   have HQs : Hid (∀ p ∈ T, p.size ≤ 1000000) := Lib.hid (fun p hp => by rw [← HT.out] at hp; exact HLs.out p (List.mem_of_mem_tail hp))
   have hqI : (n : Int) - 1 = (q : Int) := by omega
   clear h0 hy hye hy0
   go_enter Tryz.func70, Tryz.ntmps70
   go_wp2_with fail
   refine CB.out.mono ?_
   rintro e w1 ⟨g, cap, rfl, hcap, hg, hgl, Hcell, b1⟩
   have B1 := Lib.hid b1
   have hc0 : w1.cell? ⟨g, 0, none⟩ = some (.string y) := by rw [← Hy0.out]; exact Hcell.out 0 (by rw [HN.out]; omega)
   have HQc : Hid (∀ j (h : j < T.length), w1.cell? ⟨g, 1 + j, none⟩ = some (.string T[j])) := Lib.hid (fun j hj => by
    have h2 : 1 + j < L.length := by rw [HN.out]; rw [HQN.out] at hj; omega
    rw [Hcell.out (1 + j) h2]
    congr 2
    simp only [← HT.out, List.getElem_tail, Nat.add_comm])
   have hcI : (1 : Int) < (cap : Int) := by omega
   have hnc : (n : Int) ≤ (cap : Int) := by omega
   have hc1 : 1 < cap := by omega
   clear b1
   go_wp2_with fail
   refine (CX.out _).mono ?_
   rintro e w2 ⟨rfl, rfl⟩
   go_wp2
   go_loopw [5] (fun i wr => ∃ k : Nat, k ≤ q ∧ i = .int .i64 k ∧ Hid (∀ j (h : j < T.length), j < k → partB T[j] = true) ∧ wr = w1) (fun i _ => q - (intOf i).toNat)
   case atStart => exact ⟨0, Nat.zero_le _, rfl, Lib.hid (fun _ _ h => absurd h (Nat.not_lt_zero _)), rfl⟩
   case round =>
    obtain ⟨k, hk, rfl, HOk, rfl⟩ := hrel
    by_cases hlt : k < q
    ·have hkP : k < T.length := by rw [HQN.out]; exact hlt
     obtain ⟨p, Hp⟩ : ∃ p, Hid (T[k] = p) := ⟨_, Lib.hid rfl⟩
     have hps : p.size ≤ 1000000 := by rw [← Hp.out]; exact HQs.out _ (List.getElem_mem hkP)
     have hc := HQc.out k hkP
     rw [Hp.out] at hc
     obtain ⟨c, Hc⟩ : ∃ c, Hid (partB p = c) := ⟨_, Lib.hid rfl⟩
     have HCp := Lib.hid (fun w => RefPart_any p w (by omega))
     rw [Hc.out] at HCp
     cases c
     ·have HR2 : Hid (mayR s = false) := Lib.hid (by rw [HMay.out, all_no hkP (by rw [Hp.out]; exact Hc.out), Bool.false_and])
      go_wp2_with fail
      refine (HCp.out _).mono ?_
      rintro e w2 ⟨rfl, rfl⟩
      go_wp2
      go_ret
      exact ⟨ret_bool (by rw [HR2.out]), B1.out⟩
     ·go_wp2_with fail
      refine (HCp.out _).mono ?_
      rintro e w2 ⟨rfl, rfl⟩
      go_wp2
      exact ⟨⟨k + 1, by omega, by go_num, Lib.hid (fun j hj hjk => by
       by_cases e : j = k
       ·subst e; rw [Hp.out]; exact Hc.out
       ·exact HOk.out j hj (by omega)), trivial⟩, by simp [intOf]; omega⟩
    ·have HR2 : Hid (mayR s = decide (s.size - 2 ≤ 253)) := Lib.hid (by rw [HMay.out, all_yes (fun j hj => HOk.out j hj (by rw [HQN.out] at hj; omega)), Bool.true_and])
     go_wp2
     go_ret
     exact ⟨ret_bool (by rw [HR2.out]; rw [Bool.eq_iff_iff, decide_eq_true_eq, decide_eq_true_eq]; omega), B1.out⟩
  ·obtain ⟨T, HT⟩ : ∃ T, Hid (L = T) := ⟨_, Lib.hid rfl⟩
   have HMay : Hid (mayR s = (L.all partB && decide (s.size ≤ 253))) := Lib.hid (by
    rw [mayR, Hx.out, if_neg (by simp), HLr.out, HN.out, if_neg hst])
   have hsI : (s.size : Int) ≤ 1000000 := by omega
   have HQs := HLs
   obtain ⟨y, Hy0⟩ : ∃ y, Hid (L[0]'(by rw [HN.out]; omega) = y) := ⟨_, Lib.hid rfl⟩
   have hcase : (n ≤ 1) ∨ (1 < n ∧ y ≠ ⟨#[42]⟩) := by
    by_cases h1 : 1 < n
    ·refine .inr ⟨h1, fun e => hst ⟨h1, ?_⟩⟩
     rw [List.getElem?_eq_getElem (by rw [HN.out]; omega), Hy0.out, e]
    ·exact .inl (by omega)
   clear hst HT
   rcases hcase with h1 | ⟨h1, hyn⟩
   ·have h1I : (n : Int) ≤ 1 := by omega
    go_enter Tryz.func70, Tryz.ntmps70
    go_wp2_with fail
    refine CB.out.mono ?_
    rintro e w1 ⟨g, cap, rfl, hcap, hg, hgl, Hcell, b1⟩
    have B1 := Lib.hid b1
    have hc0 : w1.cell? ⟨g, 0, none⟩ = some (.string y) := by rw [← Hy0.out]; exact Hcell.out 0 (by rw [HN.out]; omega)
    have HQc := Hcell
    clear b1
    go_wp2_with fail
    refine (CX.out _).mono ?_
    rintro e w2 ⟨rfl, rfl⟩
    go_wp2
    go_loopw [5] (fun i wr => ∃ k : Nat, k ≤ n ∧ i = .int .i64 k ∧ Hid (∀ j (h : j < L.length), j < k → partB L[j] = true) ∧ wr = w1) (fun i _ => n - (intOf i).toNat)
    case atStart => exact ⟨0, Nat.zero_le _, rfl, Lib.hid (fun _ _ h => absurd h (Nat.not_lt_zero _)), rfl⟩
    case round =>
     obtain ⟨k, hk, rfl, HOk, rfl⟩ := hrel
     by_cases hlt : k < n
     ·have hkP : k < L.length := by rw [HN.out]; exact hlt
      obtain ⟨p, Hp⟩ : ∃ p, Hid (L[k] = p) := ⟨_, Lib.hid rfl⟩
      have hps : p.size ≤ 1000000 := by rw [← Hp.out]; exact HQs.out _ (List.getElem_mem hkP)
      have hc := HQc.out k hkP
      rw [Hp.out] at hc
      obtain ⟨c, Hc⟩ : ∃ c, Hid (partB p = c) := ⟨_, Lib.hid rfl⟩
      have HCp := Lib.hid (fun w => RefPart_any p w (by omega))
      rw [Hc.out] at HCp
      cases c
      ·have HR2 : Hid (mayR s = false) := Lib.hid (by rw [HMay.out, all_no hkP (by rw [Hp.out]; exact Hc.out), Bool.false_and])
       go_wp2_with fail
       refine (HCp.out _).mono ?_
       rintro e w2 ⟨rfl, rfl⟩
       go_wp2
       go_ret
       exact ⟨ret_bool (by rw [HR2.out]), B1.out⟩
      ·go_wp2_with fail
       refine (HCp.out _).mono ?_
       rintro e w2 ⟨rfl, rfl⟩
       go_wp2
       exact ⟨⟨k + 1, by omega, by go_num, Lib.hid (fun j hj hjk => by
        by_cases e : j = k
        ·subst e; rw [Hp.out]; exact Hc.out
        ·exact HOk.out j hj (by omega)), trivial⟩, by simp [intOf]; omega⟩
     ·have HR2 : Hid (mayR s = decide (s.size ≤ 253)) := Lib.hid (by rw [HMay.out, all_yes (fun j hj => HOk.out j hj (by rw [HN.out] at hj; omega)), Bool.true_and])
      go_wp2
      go_ret
      exact ⟨ret_bool (by rw [HR2.out]; rw [Bool.eq_iff_iff, decide_eq_true_eq, decide_eq_true_eq]; omega), B1.out⟩
   ·have h1I : (1 : Int) < (n : Int) := by omega
    have hyl : ¬ y.toList = [42] := fun e => hyn (ba_of (by rw [ByteArray.toList_eq] at e; exact e))
    have hyb : (y.toList == [42]) = false := beq_eq_false_iff_ne.2 hyl
    clear hyn
    go_enter Tryz.func70, Tryz.ntmps70
    go_wp2_with fail
    refine CB.out.mono ?_
    rintro e w1 ⟨g, cap, rfl, hcap, hg, hgl, Hcell, b1⟩
    have B1 := Lib.hid b1
    have hc0 : w1.cell? ⟨g, 0, none⟩ = some (.string y) := by rw [← Hy0.out]; exact Hcell.out 0 (by rw [HN.out]; omega)
    have HQc := Hcell
    clear b1
    go_wp2_with fail
    refine (CX.out _).mono ?_
    rintro e w2 ⟨rfl, rfl⟩
    go_wp2
    go_loopw [5] (fun i wr => ∃ k : Nat, k ≤ n ∧ i = .int .i64 k ∧ Hid (∀ j (h : j < L.length), j < k → partB L[j] = true) ∧ wr = w1) (fun i _ => n - (intOf i).toNat)
    case atStart => exact ⟨0, Nat.zero_le _, rfl, Lib.hid (fun _ _ h => absurd h (Nat.not_lt_zero _)), rfl⟩
    case round =>
     obtain ⟨k, hk, rfl, HOk, rfl⟩ := hrel
     by_cases hlt : k < n
     ·have hkP : k < L.length := by rw [HN.out]; exact hlt
      obtain ⟨p, Hp⟩ : ∃ p, Hid (L[k] = p) := ⟨_, Lib.hid rfl⟩
      have hps : p.size ≤ 1000000 := by rw [← Hp.out]; exact HQs.out _ (List.getElem_mem hkP)
      have hc := HQc.out k hkP
      rw [Hp.out] at hc
      obtain ⟨c, Hc⟩ : ∃ c, Hid (partB p = c) := ⟨_, Lib.hid rfl⟩
      have HCp := Lib.hid (fun w => RefPart_any p w (by omega))
      rw [Hc.out] at HCp
      cases c
      ·have HR2 : Hid (mayR s = false) := Lib.hid (by rw [HMay.out, all_no hkP (by rw [Hp.out]; exact Hc.out), Bool.false_and])
       go_wp2_with fail
       refine (HCp.out _).mono ?_
       rintro e w2 ⟨rfl, rfl⟩
       go_wp2
       go_ret
       exact ⟨ret_bool (by rw [HR2.out]), B1.out⟩
      ·go_wp2_with fail
       refine (HCp.out _).mono ?_
       rintro e w2 ⟨rfl, rfl⟩
       go_wp2
       exact ⟨⟨k + 1, by omega, by go_num, Lib.hid (fun j hj hjk => by
        by_cases e : j = k
        ·subst e; rw [Hp.out]; exact Hc.out
        ·exact HOk.out j hj (by omega)), trivial⟩, by simp [intOf]; omega⟩
     ·have HR2 : Hid (mayR s = decide (s.size ≤ 253)) := Lib.hid (by rw [HMay.out, all_yes (fun j hj => HOk.out j hj (by rw [HN.out] at hj; omega)), Bool.true_and])
      go_wp2
      go_ret
      exact ⟨ret_bool (by rw [HR2.out]; rw [Bool.eq_iff_iff, decide_eq_true_eq, decide_eq_true_eq]; omega), B1.out⟩
 ·obtain ⟨hs1, -⟩ := bareS_ex Hx.out
  have hs1I : (1 : Int) ≤ (s.size : Int) := by omega
  have hsI : (s.size : Int) ≤ 1000000 := by omega
  have HMay0 : Hid (mayR s = (decide (2 ≤ n) && (L.all partB && decide (s.size - 1 ≤ 253)))) := Lib.hid (by rw [mayR, Hx.out, if_pos rfl, HL.out, HN.out])
  by_cases h2 : 2 ≤ n
  ·have HMay : Hid (mayR s = (L.all partB && decide (s.size - 1 ≤ 253))) := Lib.hid (by rw [HMay0.out, decide_eq_true h2, Bool.true_and])
   have HQs := HLs
   have h2I : (2 : Int) ≤ (n : Int) := by omega
   go_enter Tryz.func70, Tryz.ntmps70
   go_wp2_with fail
   refine CB.out.mono ?_
   rintro e w1 ⟨g, cap, rfl, hcap, hg, hgl, Hcell, b1⟩
   have B1 := Lib.hid b1
   have HQc := Hcell
   clear b1
   go_wp2_with fail
   refine (CX.out _).mono ?_
   rintro e w2 ⟨rfl, rfl⟩
   go_wp2
   go_loopw [5] (fun i wr => ∃ k : Nat, k ≤ n ∧ i = .int .i64 k ∧ Hid (∀ j (h : j < L.length), j < k → partB L[j] = true) ∧ wr = w1) (fun i _ => n - (intOf i).toNat)
   case atStart => exact ⟨0, Nat.zero_le _, rfl, Lib.hid (fun _ _ h => absurd h (Nat.not_lt_zero _)), rfl⟩
   case round =>
    obtain ⟨k, hk, rfl, HOk, rfl⟩ := hrel
    by_cases hlt : k < n
    ·have hkP : k < L.length := by rw [HN.out]; exact hlt
     obtain ⟨p, Hp⟩ : ∃ p, Hid (L[k] = p) := ⟨_, Lib.hid rfl⟩
     have hps : p.size ≤ 1000000 := by rw [← Hp.out]; exact HQs.out _ (List.getElem_mem hkP)
     have hc := HQc.out k hkP
     rw [Hp.out] at hc
     obtain ⟨c, Hc⟩ : ∃ c, Hid (partB p = c) := ⟨_, Lib.hid rfl⟩
     have HCp := Lib.hid (fun w => RefPart_any p w (by omega))
     rw [Hc.out] at HCp
     cases c
     ·have HR2 : Hid (mayR s = false) := Lib.hid (by rw [HMay.out, all_no hkP (by rw [Hp.out]; exact Hc.out), Bool.false_and])
      go_wp2_with fail
      refine (HCp.out _).mono ?_
      rintro e w2 ⟨rfl, rfl⟩
      go_wp2
      go_ret
      exact ⟨ret_bool (by rw [HR2.out]), B1.out⟩
     ·go_wp2_with fail
      refine (HCp.out _).mono ?_
      rintro e w2 ⟨rfl, rfl⟩
      go_wp2
      exact ⟨⟨k + 1, by omega, by go_num, Lib.hid (fun j hj hjk => by
       by_cases e : j = k
       ·subst e; rw [Hp.out]; exact Hc.out
       ·exact HOk.out j hj (by omega)), trivial⟩, by simp [intOf]; omega⟩
    ·have HR2 : Hid (mayR s = decide (s.size - 1 ≤ 253)) := Lib.hid (by rw [HMay.out, all_yes (fun j hj => HOk.out j hj (by rw [HN.out] at hj; omega)), Bool.true_and])
     go_wp2
     go_ret
     exact ⟨ret_bool (by rw [HR2.out]; rw [Bool.eq_iff_iff, decide_eq_true_eq, decide_eq_true_eq]; omega), B1.out⟩
  ·have HR2 : Hid (mayR s = false) := Lib.hid (by rw [HMay0.out, decide_eq_false h2, Bool.false_and])
   have h2I : (n : Int) < 2 := by omega
   go_enter Tryz.func70, Tryz.ntmps70
   go_wp2_with fail
   refine CB.out.mono ?_
   rintro e w1 ⟨g, cap, rfl, hcap, hg, hgl, Hcell, b1⟩
   have B1 := Lib.hid b1
   clear b1
   go_wp2_with fail
   refine (CX.out _).mono ?_
   rintro e w2 ⟨rfl, rfl⟩
   go_wp2
   go_ret
   exact ⟨ret_bool (by rw [HR2.out]), B1.out⟩

set_option maxRecDepth 100000 in
set_option maxHeartbeats 1000000 in
theorem RefCheck8_any (R : List ByteArray) (a0 : Option Addr) (b off cap : Nat) (w : World) (hT : TxAt R a0 b off w) (hn : R.length ≤ 2000000) (hz : ∀ r ∈ R, r.size ≤ 50000) :
  Calls Tryz.prog 43 #[.slice a0 R.length cap] w fun e w' => e = .returned (.bool (rulesB R)) ∧ Below w.heap.size w w' := by
 have HTx := Lib.hid hT; clear hT
 have HZ := Lib.hid hz; clear hz
 obtain ⟨n, HN⟩ : ∃ n, Hid (R.length = n) := ⟨_, Lib.hid rfl⟩
 rw [HN.out] at hn ⊢
 by_cases hbig : 1024 < n
 ·have HR : Hid (rulesB R = false) := Lib.hid (by rw [rulesB, HN.out, decide_eq_false (by omega), Bool.false_and])
  have hI : (1024 : Int) < (n : Int) := by omega
  go_enter Tryz.func43, Tryz.ntmps43
  go_wp2
  go_ret
  exact ⟨ret_bool (by rw [HR.out]), Below.refl _ _⟩
 have hI : (n : Int) ≤ 1024 := by omega
 have HR : Hid (rulesB R = R.all ruleB) := Lib.hid (by rw [rulesB, HN.out, decide_eq_true (by omega), Bool.true_and])
 clear hbig
 go_enter Tryz.func43, Tryz.ntmps43
 go_wp2
 go_loopw [3] (fun i wr => ∃ k : Nat, k ≤ n ∧ i = .int .i64 k ∧ Hid (Below w.heap.size w wr) ∧ Hid (∀ j (h : j < R.length), j < k → ruleB R[j] = true)) (fun i _ => n - (intOf i).toNat)
 case atStart => exact ⟨0, Nat.zero_le _, rfl, Lib.hid (Below.refl _ _), Lib.hid (fun _ _ h => absurd h (Nat.not_lt_zero _))⟩
 case round =>
  obtain ⟨k, hk, rfl, HB, HOk⟩ := hrel
  by_cases hlt : k < n
  ·have hkP : k < R.length := by rw [HN.out]; exact hlt
   obtain ⟨p, Hp⟩ : ∃ p, Hid (R[k] = p) := ⟨_, Lib.hid rfl⟩
   have hps : p.size ≤ 50000 := by rw [← Hp.out]; exact HZ.out _ (List.getElem_mem hkP)
   have hc : wr.cell? ⟨b, off + k, none⟩ = some (.string p) := by rw [← Hp.out]; exact (HTx.out.later HB.out).cell k hkP
   have ha : a0 = some ⟨b, off, none⟩ := HTx.out.at0 (by omega)
   subst ha
   obtain ⟨c, Hc⟩ : ∃ c, Hid (ruleB p = c) := ⟨_, Lib.hid rfl⟩
   have HCp := Lib.hid (fun w => RefMay_any p w (by omega))
   rw [Hc.out] at HCp
   cases c
   ·have HR2 : Hid (rulesB R = false) := Lib.hid (by rw [HR.out]; exact all_no hkP (by rw [Hp.out]; exact Hc.out))
    go_wp2_with fail
    refine (HCp.out _).mono ?_
    rintro e w1 ⟨rfl, b1⟩
    have B1 : Hid (Below w.heap.size w w1) := Lib.hid (keepW HB.out b1)
    clear b1 hc
    go_wp2
    go_ret
    exact ⟨ret_bool (by rw [HR2.out]), B1.out⟩
   ·go_wp2_with fail
    refine (HCp.out _).mono ?_
    rintro e w1 ⟨rfl, b1⟩
    have B1 : Hid (Below w.heap.size w w1) := Lib.hid (keepW HB.out b1)
    clear b1 hc
    go_wp2
    exact ⟨⟨k + 1, by omega, by go_num, B1, Lib.hid (fun j hj hjk => by
     by_cases e : j = k
     ·subst e; rw [Hp.out]; exact Hc.out
     ·exact HOk.out j hj (by omega))⟩, by simp [intOf]; omega⟩
  ·have HR2 : Hid (rulesB R = true) := Lib.hid (by rw [HR.out]; exact all_yes (fun j hj => HOk.out j hj (by rw [HN.out] at hj; omega)))
   go_wp2
   go_ret
   exact ⟨ret_bool (by rw [HR2.out]), HB.out⟩

end Go.Proofs.YtdifdikfgkiocaaGreatDoor
namespace Go.Proofs.YtdifdikfgkiocaaGreatDoor
open Go.RowKit

set_option maxRecDepth 100000 in
set_option maxHeartbeats 2000000 in
theorem RefFits_any (P H : List ByteArray) (gH cH gP cP : Nat) (w : World) (hn : P.length ≤ 1000000) (hnH : H.length ≤ 1000000) (hP0 : 0 < P.length) (hcap : H.length ≤ cH)
  (hH : ∀ j (h : j < H.length), w.cell? ⟨gH, j, none⟩ = some (.string H[j])) (hP : ∀ j (h : j < P.length), w.cell? ⟨gP, j, none⟩ = some (.string P[j])) :
  Calls Tryz.prog 47 #[.slice (some ⟨gP, 0, none⟩) P.length cP, .slice (some ⟨gH, 0, none⟩) H.length cH] w fun e w' => e = .returned (.bool (fitsB P H)) ∧ Below w.heap.size w w' := by
 have HH := Lib.hid hH; clear hH
 have HP := Lib.hid hP; clear hP
 obtain ⟨n, HN⟩ : ∃ n, Hid (P.length = n) := ⟨_, Lib.hid rfl⟩
 obtain ⟨m, HM⟩ : ∃ m, Hid (H.length = m) := ⟨_, Lib.hid rfl⟩
 rw [HN.out] at hn hP0 ⊢
 rw [HM.out] at hnH hcap ⊢
 by_cases hlong : m < n
 ·have HR : Hid (fitsB P H = false) := Lib.hid (fits_long (by rw [HN.out, HM.out]; exact hlong))
  have hI : (m : Int) < (n : Int) := by omega
  go_enter Tryz.func47, Tryz.ntmps47
  go_wp2
  go_ret
  exact ⟨ret_bool (by rw [HR.out]), Below.refl _ _⟩
 obtain ⟨d, hd⟩ : ∃ d : Nat, (m : Int) - (n : Int) = (d : Int) := ⟨m - n, by omega⟩
 have hdn : d + n = m := by omega
 have hd0 : (n : Int) ≤ (m : Int) := by omega
 have hdc : d < cH := by omega
 have hdm : d ≤ m := by omega
 have hmd : m - d = n := by omega
 go_enter Tryz.func47, Tryz.ntmps47
 go_wp2
 go_loopw [5] (fun i wr => ∃ k q : Nat, k ≤ n ∧ i = .int .i64 k ∧ Hid (∀ j, j < k → P[j]? = some ⟨#[42]⟩ ∨ P[j]? = H[d + j]?) ∧ wr = w.drewN q) (fun i _ => n - (intOf i).toNat)
 case atStart => exact ⟨0, 0, Nat.zero_le _, rfl, Lib.hid (fun _ h => absurd h (Nat.not_lt_zero _)), rfl⟩
 case round =>
  obtain ⟨k, q, hk, rfl, HOk, rfl⟩ := hrel
  by_cases hlt : k < n
  ·have hkP : k < P.length := by rw [HN.out]; exact hlt
   have hkH : d + k < H.length := by rw [HM.out]; omega
   obtain ⟨p, Hp⟩ : ∃ p, Hid (P[k] = p) := ⟨_, Lib.hid rfl⟩
   obtain ⟨x, Hx⟩ : ∃ x, Hid (H[d + k] = x) := ⟨_, Lib.hid rfl⟩
   have hc : w.cell? ⟨gP, k, none⟩ = some (.string p) := by rw [← Hp.out]; exact HP.out k hkP
   have hx : w.cell? ⟨gH, d + k, none⟩ = some (.string x) := by rw [← Hx.out]; exact HH.out (d + k) hkH
   have HPk : Hid (P[k]? = some p) := Lib.hid (by rw [List.getElem?_eq_getElem hkP, Hp.out])
   have HHk : Hid (H[d + k]? = some x) := Lib.hid (by rw [List.getElem?_eq_getElem hkH, Hx.out])
   have hkI : (k : Int) < (n : Int) := by omega
   have hdk : d + k < m := by omega
   by_cases h1 : p = ⟨#[42]⟩
   ·have e1 : p.toList = [42] := by rw [h1, ByteArray.toList_eq]
    have HOk2 : Hid (∀ j, j < k + 1 → P[j]? = some ⟨#[42]⟩ ∨ P[j]? = H[d + j]?) := Lib.hid (fun j hj => by
     by_cases e : j = k
     ·subst e; rw [HPk.out, h1]; exact .inl rfl
     ·exact HOk.out j (by omega))
    clear h1
    go_wp2
    go_quiet (fail)
    go_wp2
    exact ⟨⟨k + 1, _, by omega, by go_num, HOk2, rfl⟩, by simp [intOf]; omega⟩
   ·have e1 : ¬ p.toList = [42] := fun e => h1 (ba_of (by rw [ByteArray.toList_eq] at e; exact e))
    have e1b : (p.toList == [42]) = false := beq_eq_false_iff_ne.2 e1
    by_cases h2 : p = x
    ·have HOk2 : Hid (∀ j, j < k + 1 → P[j]? = some ⟨#[42]⟩ ∨ P[j]? = H[d + j]?) := Lib.hid (fun j hj => by
      by_cases e : j = k
      ·subst e; rw [HPk.out, HHk.out, h2]; exact .inr rfl
      ·exact HOk.out j (by omega))
     subst h2
     have e2 : (p.toList != p.toList) = false := by simp
     clear h1
     go_wp2
     go_quiet (fail)
     go_wp2
     exact ⟨⟨k + 1, _, by omega, by go_num, HOk2, rfl⟩, by simp [intOf]; omega⟩
    ·have e2 : ¬ p.toList = x.toList := fun e => h2 (ba_of (by rw [ByteArray.toList_eq, ByteArray.toList_eq] at e; exact e))
     have e2b : (p.toList == x.toList) = false := beq_eq_false_iff_ne.2 e2
     have HR : Hid (fitsB P H = false) := Lib.hid (fits_no hkP HPk.out (by rw [HM.out, HN.out, show m - n + k = d + k by omega]; exact HHk.out) h1 h2)
     clear h1 h2
     go_wp2
     go_quiet (fail)
     go_wp2
     go_ret
     exact ⟨ret_bool (by rw [HR.out]), { os := rfl, tape := rfl, output := rfl, size := Nat.le_refl _, block := fun _ _ => rfl }⟩
  ·have HR : Hid (fitsB P H = true) := Lib.hid (fits_yes (by rw [HM.out, HN.out]; omega) (fun j hj => by
    rw [HM.out, HN.out, show m - n = d by omega]
    exact HOk.out j (by rw [HN.out] at hj; omega)))
   go_wp2
   go_ret
   exact ⟨ret_bool (by rw [HR.out]), { os := rfl, tape := rfl, output := rfl, size := Nat.le_refl _, block := fun _ _ => rfl }⟩

set_option maxRecDepth 100000 in
set_option maxHeartbeats 2000000 in
theorem RefMany_any (R H : List ByteArray) (a0 : Option Addr) (b off cap gH cH : Nat) (w : World) (hT : TxAt R a0 b off w) (hRl : R.length ≤ 2000) (hRs : ∀ r ∈ R, r.size ≤ 50000) (hnH : H.length ≤ 1000000) (hcap : H.length ≤ cH)
  (hH : ∀ j (h : j < H.length), w.cell? ⟨gH, j, none⟩ = some (.string H[j])) :
  Calls Tryz.prog 29 #[.slice a0 R.length cap, .slice (some ⟨gH, 0, none⟩) H.length cH] w fun e w' => e = .returned (.int .i64 (manyN R H)) ∧ Below w.heap.size w w' := by
 have HTx := Lib.hid hT; clear hT
 have HRs := Lib.hid hRs; clear hRs
 have HH := Lib.hid hH; clear hH
 obtain ⟨n, HN⟩ : ∃ n, Hid (R.length = n) := ⟨_, Lib.hid rfl⟩
 rw [HN.out] at hRl ⊢
 go_enter Tryz.func29, Tryz.ntmps29
 go_wp2
 go_loopw [5, 6, 7] (fun u i _ wr => ∃ k : Nat, k ≤ n ∧ i = .int .i64 k ∧ u = .int .i64 (sufN (fitL (R.take k) H) 1) ∧ Hid (∀ x ∈ fitL (R.take k) H, x.2 = false) ∧ Hid (Below w.heap.size w wr)) (fun _ i _ _ => n - (intOf i).toNat)
 case atStart => exact ⟨0, Nat.zero_le _, rfl, rfl, Lib.hid (fun x hx => by cases hx), Lib.hid (Below.refl _ _)⟩
 case round =>
  obtain ⟨k, hk, rfl, rfl, HX, HB⟩ := hrel
  by_cases hlt : k < n
  ·have hkP : k < R.length := by rw [HN.out]; exact hlt
   obtain ⟨p, Hp⟩ : ∃ p, Hid (R[k] = p) := ⟨_, Lib.hid rfl⟩
   have hps : p.size ≤ 50000 := by rw [← Hp.out]; exact HRs.out _ (List.getElem_mem hkP)
   have hc : wr.cell? ⟨b, off + k, none⟩ = some (.string p) := by rw [← Hp.out]; exact (HTx.out.later HB.out).cell k hkP
   have ha : a0 = some ⟨b, off, none⟩ := HTx.out.at0 (by omega)
   subst ha
   obtain ⟨x, Hx⟩ : ∃ x, Hid (exB p = x) := ⟨_, Lib.hid rfl⟩
   obtain ⟨P, HP⟩ : ∃ P, Hid (bareL p = P) := ⟨_, Lib.hid rfl⟩
   obtain ⟨q, HQ⟩ : ∃ n, Hid (P.length = n) := ⟨_, Lib.hid rfl⟩
   have hq : q ≤ 50001 := by rw [← HQ.out, ← HP.out]; have := rawB_count 46 (bareS p); have := bareS_size p; show (rawB 46 (bareS p)).length ≤ _; omega
   have hq1 : 1 ≤ q := by rw [← HQ.out, ← HP.out]; exact List.length_pos_iff.2 (rawB_ne 46 (bareS p))
   obtain ⟨f, Hf⟩ : ∃ f, Hid (fitsB P H = f) := ⟨_, Lib.hid rfl⟩
   have HE2 : Hid (fitL (R.take (k + 1)) H = fitL (R.take k) H ++ if f then [(q, x)] else []) := Lib.hid (by
    rw [fitL_take R H k hkP, Hp.out, fit1, HP.out, Hx.out, HQ.out, Hf.out])
   have CB : Hid (Calls Tryz.prog 46 #[.string p] wr fun e w' => ∃ g cap, e = .returned (.slice (some ⟨g, 0, none⟩) q cap) ∧ Hid (∀ j (h : j < P.length), w'.cell? ⟨g, j, none⟩ = some (.string P[j])) ∧ Below wr.heap.size wr w') := Lib.hid (by
    have := RefBare_any p wr (by omega)
    rw [HP.out] at this
    exact this.mono fun e w' ⟨g, cap, h1, h2, h3, h4, h5, h6⟩ => ⟨g, cap, by rw [h1, HQ.out], h5, h6⟩)
   have CF : Hid (∀ w' g cp, Below w.heap.size w w' → Hid (∀ j (h : j < P.length), w'.cell? ⟨g, j, none⟩ = some (.string P[j])) → Calls Tryz.prog 47 #[.slice (some ⟨g, 0, none⟩) q cp, .slice (some ⟨gH, 0, none⟩) H.length cH] w' fun e w'' => e = .returned (.bool f) ∧ Below w'.heap.size w' w'') := Lib.hid (fun w' g cp hb hcell => by
    have := RefFits_any P H gH cH g cp w' (by rw [HQ.out]; omega) hnH (by rw [HQ.out]; omega) hcap (fun j h => (hb.cell (block_lt_of_cell (HH.out j h))).trans (HH.out j h)) hcell.out
    rwa [HQ.out, Hf.out] at this)
   have CX := Lib.hid (RefExcept_any p)
   rw [Hx.out] at CX
   obtain ⟨M, HMn⟩ : ∃ M, Hid (sufN (fitL (R.take k) H) 1 = M) := ⟨_, Lib.hid rfl⟩
   rw [HMn.out]
   go_wp2_with fail
   refine CB.out.mono ?_
   rintro e w1 ⟨g, cp, rfl, Hcell, b1⟩
   have B1 : Hid (Below w.heap.size w w1) := Lib.hid (keepW HB.out b1)
   have hc1 : w1.cell? ⟨b, off + k, none⟩ = some (.string p) := (b1.cell (block_lt_of_cell hc)).trans hc
   clear b1 hc
   go_wp2_with fail
   refine (CF.out _ _ _ B1.out Hcell).mono ?_
   rintro e w2 ⟨rfl, b2⟩
   have B2 : Hid (Below w.heap.size w w2) := Lib.hid (keepW B1.out b2)
   have hc2 : w2.cell? ⟨b, off + k, none⟩ = some (.string p) := (b2.cell (block_lt_of_cell hc1)).trans hc1
   clear b2 hc1
   cases f
   ·have HE3 : Hid (fitL (R.take (k + 1)) H = fitL (R.take k) H) := Lib.hid (by rw [HE2.out]; simp)
    go_wp2
    exact ⟨⟨k + 1, by omega, by go_num, by rw [HE3.out, HMn.out], Lib.hid (by rw [HE3.out]; exact HX.out), B2⟩, by simp [intOf]; omega⟩
   ·cases x
    ·have HE3 : Hid (sufN (fitL (R.take (k + 1)) H) 1 = max M q) := Lib.hid (by rw [HE2.out, if_pos rfl, sufN_one _ _ _ HX.out, HMn.out])
     have HX3 : Hid (∀ x ∈ fitL (R.take (k + 1)) H, x.2 = false) := Lib.hid (fun x hx => by
      rw [HE2.out, if_pos rfl] at hx
      rcases List.mem_append.1 hx with h | h
      ·exact HX.out x h
      ·rw [List.mem_singleton] at h; rw [h])
     have hmx : max (M : Int) (q : Int) = ((max M q : Nat) : Int) := by omega
     go_wp2_with fail
     refine (CX.out _).mono ?_
     rintro e w3 ⟨rfl, rfl⟩
     go_wp2
     exact ⟨⟨k + 1, by omega, by go_num, by rw [HE3.out], HX3, B2⟩, by simp [intOf]; omega⟩
    ·have HR : Hid ((q : Int) - 1 = (manyN R H : Int)) := Lib.hid (by
      obtain ⟨T, hTl⟩ := fitL_pre R H (k + 1)
      rw [HE2.out, if_pos rfl, List.append_assoc, List.singleton_append] at hTl
      have : manyN R H = q - 1 := by rw [manyN, ← hTl, sufN_stop _ _ _ _ HX.out]
      omega)
     have hqI : (1 : Int) ≤ (q : Int) := by omega
     go_wp2_with fail
     refine (CX.out _).mono ?_
     rintro e w3 ⟨rfl, rfl⟩
     go_wp2
     go_ret
     exact ⟨ret_int HR.out, B2.out⟩
  ·have HE : Hid (sufN (fitL (R.take k) H) 1 = manyN R H) := Lib.hid (by rw [List.take_of_length_le (by rw [HN.out]; omega)]; rfl)
   rw [HE.out]
   go_wp2
   go_ret
   exact ⟨rfl, HB.out⟩

theorem dotJ_small2 : ∀ L : List ByteArray, (∀ l ∈ L, l.size ≤ 253) → (dotJ L).size ≤ 254 * L.length
 | [], _ => by rw [dotJ, asB_size]; simp [Lib.join_nil]
 | [x], h => by
  have := h x List.mem_cons_self
  rw [dotJ_one]; simp; omega
 | x :: y :: r, h => by
  have h1 := h x List.mem_cons_self
  have h2 := dotJ_small2 (y :: r) (fun l hl => h l (List.mem_cons_of_mem _ hl))
  rw [dot_cons x (by simp), ByteArray.size_append, ByteArray.size_append, List.length_cons, Nat.mul_succ]
  show x.size + 1 + (dotJ (y :: r)).size ≤ _
  omega
theorem emp_cat (x : ByteArray) : (⟨#[]⟩ : ByteArray) ++ x = x := by
 refine ba_of ?_
 rw [ByteArray.data_append, Array.toList_append]; rfl
set_option maxRecDepth 100000 in
set_option maxHeartbeats 2000000 in
theorem RefLast_any (L : List ByteArray) (N g c : Nat) (w : World) (hn : L.length ≤ 254) (hN : N ≤ L.length) (hs : ∀ l ∈ L, l.size ≤ 253) (hL : ∀ j (h : j < L.length), w.cell? ⟨g, j, none⟩ = some (.string L[j])) :
  Calls Tryz.prog 28 #[.slice (some ⟨g, 0, none⟩) L.length c, .int .i64 (N : Int)] w fun e w' => e = .returned (.string (sfxB L N)) ∧ w = w' := by
 have HC := Lib.hid hL; clear hL
 have HS := Lib.hid hs; clear hs
 obtain ⟨n, HN⟩ : ∃ n, Hid (L.length = n) := ⟨_, Lib.hid rfl⟩
 obtain ⟨d, hd⟩ : ∃ d : Nat, (L.length : Int) - (N : Int) = (d : Int) := ⟨L.length - N, by omega⟩
 obtain ⟨X, HX⟩ : ∃ X, Hid (L.drop d = X) := ⟨_, Lib.hid rfl⟩
 have hXl : X.length = N := by rw [← HX.out, List.length_drop]; omega
 have HR : Hid (sfxB L N = tkJ X N) := Lib.hid (by rw [sfxB, show L.length - N = d by omega, HX.out, tkJ, List.take_of_length_le (by omega)])
 have HTk : Hid (∀ j, (tkJ X j).size ≤ 254 * 254) := Lib.hid (fun j => by
  have := dotJ_small2 (X.take j) (fun l hl => by rw [← HX.out] at hl; exact HS.out l (List.mem_of_mem_drop (List.mem_of_mem_take hl)))
  rw [List.length_take, hXl] at this
  have h2 : 254 * min j N ≤ 254 * 254 := Nat.mul_le_mul_left _ (by omega)
  exact Nat.le_trans this h2)
 rw [HN.out] at hn hN hd ⊢
 rw [HR.out]
 have hNI : (N : Int) ≤ (n : Int) := by omega
 have hnI : (n : Int) ≤ 254 := by omega
 have HXl := Lib.hid hXl
 clear hXl
 go_enter Tryz.func28, Tryz.ntmps28
 go_wp2
 go_loop [5, 6] (fun s i => ∃ j : Nat, j ≤ N ∧ i = .int .i64 ((d + j : Nat) : Int) ∧ s = .string (tkJ X j)) (fun _ i => n - (intOf i).toNat)
 case atStart => exact ⟨0, Nat.zero_le _, rfl, rfl⟩
 case round =>
  obtain ⟨j, hj, rfl, rfl⟩ := hrel
  obtain ⟨A, HA⟩ : ∃ A, Hid (tkJ X j = A) := ⟨_, Lib.hid rfl⟩
  have hAs : A.size ≤ 254 * 254 := by rw [← HA.out]; exact HTk.out j
  rw [HA.out]
  by_cases hlt : j < N
  ·have hjX : j < X.length := by rw [HXl.out]; exact hlt
   have hjL : d + j < L.length := by rw [HN.out]; omega
   obtain ⟨x, Hx⟩ : ∃ x, Hid (L[d + j] = x) := ⟨_, Lib.hid rfl⟩
   have hxX : X[j] = x := by rw [← Hx.out]; simp only [← HX.out, List.getElem_drop]
   have hxs : x.size ≤ 253 := by rw [← Hx.out]; exact HS.out _ (List.getElem_mem hjL)
   have hc : w.cell? ⟨g, d + j, none⟩ = some (.string x) := by rw [← Hx.out]; exact HC.out (d + j) hjL
   have hdj : d + j < n := by omega
   have hz1 : ¬ 9223372036854775807 < A.size + 1 := by omega
   have hz2 : ¬ 9223372036854775807 < A.size + 1 + x.size := by omega
   have hz3 : ¬ 9223372036854775807 < A.size + x.size := by omega
   by_cases hj0 : 0 < j
   ·have HE : Hid (tkJ X (j + 1) = A ++ ⟨#[46]⟩ ++ x) := Lib.hid (by rw [tkJ_succ X j hjX hj0, HA.out, hxX])
    have hjI : (d : Int) < ((d + j : Nat) : Int) := by omega
    clear hxX
    go_wp2
    go_round
    case rel => exact ⟨j + 1, by omega, by go_num, by rw [HE.out]⟩
    case measure => simp [intOf]; omega
   ·obtain rfl : j = 0 := by omega
    rw [Nat.add_zero] at hc hdj
    have HE : Hid (tkJ X (0 + 1) = A ++ x) := Lib.hid (by rw [tkJ_one X hjX, hxX, ← HA.out]; exact (emp_cat x).symm)
    clear hxX
    go_wp2
    go_round
    case rel => exact ⟨0 + 1, by omega, by go_num, by rw [HE.out]⟩
    case measure => simp [intOf]; omega
  ·obtain rfl : j = N := by omega
   have hdj : n ≤ d + j := by omega
   go_wp2
   go_ret
   exact ⟨by rw [HA.out]; first | done | rfl, rfl⟩

end Go.Proofs.YtdifdikfgkiocaaGreatDoor
namespace Go.Proofs.YtdifdikfgkiocaaGreatDoor
open Go.RowKit

def wrongN (R : List ByteArray) (h : ByteArray) : Int := if rulesB R = false then 1 else if nameB h = false then 5 else 0
set_option maxRecDepth 100000 in
set_option maxHeartbeats 2000000 in
theorem RefWrong_any (R : List ByteArray) (a0 : Option Addr) (b off cap : Nat) (h : ByteArray) (w : World) (hT : TxAt R a0 b off w) (hF : Fair R h) :
  Calls Tryz.prog 26 #[.slice a0 R.length cap, .string h] w fun e w' => e = .returned (.int .i64 (wrongN R h)) ∧ Below w.heap.size w w' := by
 obtain ⟨hRl, hRs, hh⟩ := hF
 have CC := Lib.hid (RefCheck8_any R a0 b off cap w hT (by omega) hRs)
 obtain ⟨c, Hc⟩ : ∃ c, Hid (rulesB R = c) := ⟨_, Lib.hid rfl⟩
 rw [Hc.out] at CC
 clear hT
 cases c
 ·have HR : Hid (wrongN R h = 1) := Lib.hid (by rw [wrongN, if_pos Hc.out])
  rw [HR.out]
  go_enter Tryz.func26, Tryz.ntmps26
  go_wp2_with fail
  refine CC.out.mono ?_
  rintro e w1 ⟨rfl, b1⟩
  have B1 := Lib.hid b1; clear b1
  go_wp2
  go_ret
  exact ⟨rfl, B1.out⟩
 cases hO : hostO h with
 | none =>
  have CP : Hid (∀ w, Calls Tryz.prog 44 #[.string h] w fun e w' => e = .returned (.tuple #[.string ⟨#[]⟩, .int .i64 5]) ∧ Below w.heap.size w w') := Lib.hid (fun w => by
   have := RefParse5_any h w hh
   rw [hO] at this
   exact this)
  have HR : Hid (wrongN R h = 5) := Lib.hid (by rw [wrongN, if_neg (by rw [Hc.out]; simp), nameB, hO, decide_eq_false (by simp), Bool.false_and, if_pos rfl])
  clear hO
  rw [HR.out]
  go_enter Tryz.func26, Tryz.ntmps26
  go_wp2_with fail
  refine CC.out.mono ?_
  rintro e w1 ⟨rfl, b1⟩
  have B1 := Lib.hid b1; clear b1
  go_wp2_with fail
  refine (CP.out _).mono ?_
  rintro e w2 ⟨rfl, b2⟩
  have B2 : Hid (Below w.heap.size w w2) := Lib.hid (keepW B1.out b2)
  clear b2
  go_wp2
  go_ret
  exact ⟨rfl, B2.out⟩
 | some x =>
  have CP : Hid (∀ w, Calls Tryz.prog 44 #[.string h] w fun e w' => e = .returned (.tuple #[.string x, .int .i64 0]) ∧ Below w.heap.size w w') := Lib.hid (fun w => by
   have := RefParse5_any h w hh
   rw [hO] at this
   exact this)
  by_cases hx : x = h
  ·subst hx
   obtain ⟨M, HMM⟩ : ∃ M, Hid (machB x = M) := ⟨_, Lib.hid rfl⟩
   have CM : Hid (∀ w, Calls Tryz.prog 45 #[.string x] w fun e w' => e = .returned (.bool M) ∧ Below w.heap.size w w') := Lib.hid (fun w => by rw [← HMM.out]; exact RefMachine_any x w (by omega))
   have HR : Hid (wrongN R x = if M then 5 else 0) := Lib.hid (by
    rw [wrongN, if_neg (by rw [Hc.out]; simp), nameB, hO, decide_eq_true rfl, HMM.out, Bool.true_and]
    cases M <;> rfl)
   have e2 : (x.toList != x.toList) = false := by simp
   clear hO
   rw [HR.out]
   cases M
   all_goals
    go_enter Tryz.func26, Tryz.ntmps26
    go_wp2_with fail
    refine CC.out.mono ?_
    rintro e w1 ⟨rfl, b1⟩
    have B1 := Lib.hid b1; clear b1
    go_wp2_with fail
    refine (CP.out _).mono ?_
    rintro e w2 ⟨rfl, b2⟩
    have B2 : Hid (Below w.heap.size w w2) := Lib.hid (keepW B1.out b2)
    clear b2
    go_wp2_with fail
    refine (CM.out _).mono ?_
    rintro e w3 ⟨rfl, b3⟩
    have B3 : Hid (Below w.heap.size w w3) := Lib.hid (keepW B2.out b3)
    clear b3
    go_wp2
    go_ret
    exact ⟨rfl, B3.out⟩
  ·have HR : Hid (wrongN R h = 5) := Lib.hid (by rw [wrongN, if_neg (by rw [Hc.out]; simp), nameB, hO, decide_eq_false (fun e => hx (Option.some.inj e)), Bool.false_and, if_pos rfl])
   have e1 : ¬ x.toList = h.toList := fun e => hx (ba_of (by rw [ByteArray.toList_eq, ByteArray.toList_eq] at e; exact e))
   have e1b : (x.toList == h.toList) = false := beq_eq_false_iff_ne.2 e1
   have e1c : (x.toList != h.toList) = true := by simp [bne, e1b]
   clear hO hx
   rw [HR.out]
   go_enter Tryz.func26, Tryz.ntmps26
   go_wp2_with fail
   refine CC.out.mono ?_
   rintro e w1 ⟨rfl, b1⟩
   have B1 := Lib.hid b1; clear b1
   go_wp2_with fail
   refine (CP.out _).mono ?_
   rintro e w2 ⟨rfl, b2⟩
   have B2 : Hid (Below w.heap.size w w2) := Lib.hid (keepW B1.out b2)
   clear b2
   go_wp2
   go_ret
   exact ⟨rfl, B2.out⟩

end Go.Proofs.YtdifdikfgkiocaaGreatDoor
namespace Go.Proofs.YtdifdikfgkiocaaGreatDoor
open Go.RowKit

set_option maxRecDepth 100000 in
set_option maxHeartbeats 2000000 in
theorem RefSuffix8_any (R : List ByteArray) (a0 : Option Addr) (b off cap : Nat) (h : ByteArray) (w : World) (hT : TxAt R a0 b off w) (hF : Fair R h) :
  Calls Tryz.prog 13 #[.slice a0 R.length cap, .string h] w fun e w' => e = .returned (.tuple #[.string (sufT R h 0).1, .int .i64 (sufT R h 0).2]) ∧ Below w.heap.size w w' := by
 have HTx := Lib.hid hT; clear hT
 have HF := Lib.hid hF
 obtain ⟨hRl, hRs, hh⟩ := hF
 have HRs := Lib.hid hRs; clear hRs
 have CW := Lib.hid (RefWrong_any R a0 b off cap h w HTx.out HF.out)
 obtain ⟨c, Hc⟩ : ∃ c, Hid (rulesB R = c) := ⟨_, Lib.hid rfl⟩
 cases c
 ·have HR : Hid (sufT R h 0 = (⟨#[]⟩, 1)) := Lib.hid (by rw [sufT, if_pos Hc.out])
  have HN : Hid (wrongN R h = 1) := Lib.hid (by rw [wrongN, if_pos Hc.out])
  rw [HN.out] at CW
  rw [HR.out]
  go_enter Tryz.func13, Tryz.ntmps13
  go_wp2_with fail
  refine CW.out.mono ?_
  rintro e w1 ⟨rfl, b1⟩
  have B1 := Lib.hid b1; clear b1
  go_wp2
  go_ret2
  exact ⟨rfl, B1.out⟩
 obtain ⟨d, Hd⟩ : ∃ d, Hid (nameB h = d) := ⟨_, Lib.hid rfl⟩
 cases d
 ·have HR : Hid (sufT R h 0 = (⟨#[]⟩, 5)) := Lib.hid (by rw [sufT, if_neg (by rw [Hc.out]; simp), if_pos Hd.out])
  have HN : Hid (wrongN R h = 5) := Lib.hid (by rw [wrongN, if_neg (by rw [Hc.out]; simp), if_pos Hd.out])
  rw [HN.out] at CW
  rw [HR.out]
  go_enter Tryz.func13, Tryz.ntmps13
  go_wp2_with fail
  refine CW.out.mono ?_
  rintro e w1 ⟨rfl, b1⟩
  have B1 := Lib.hid b1; clear b1
  go_wp2
  go_ret2
  exact ⟨rfl, B1.out⟩
 have HN0 : Hid (wrongN R h = 0) := Lib.hid (by rw [wrongN, if_neg (by rw [Hc.out]; simp), if_neg (by rw [Hd.out]; simp)])
 rw [HN0.out] at CW
 obtain ⟨-, -, -, hl4, hl5, -⟩ := sx_labels hh Hd.out
 obtain ⟨L, HL⟩ : ∃ L, Hid (rawB 46 h = L) := ⟨_, Lib.hid rfl⟩
 rw [HL.out] at hl4
 obtain ⟨n, HN⟩ : ∃ n, Hid (L.length = n) := ⟨_, Lib.hid rfl⟩
 obtain ⟨N, HNN⟩ : ∃ N, Hid (manyN R L = N) := ⟨_, Lib.hid rfl⟩
 have hN2 : N ≤ n := by rw [← HNN.out, ← HN.out]; exact manyN_le R L hl4
 have hn : n ≤ 254 := by rw [← HN.out, ← HL.out]; have := rawB_count 46 h; omega
 have HLs : Hid (∀ l ∈ L, l.size ≤ 253) := Lib.hid (fun l hl => by rw [← HL.out] at hl; have := (rawB_mem 46 h l hl).1; omega)
 have CP : Hid (∀ w, Calls Tryz.prog 27 #[.string h] w fun e w' => (∃ g cap, e = .returned (.slice (some ⟨g, 0, none⟩) n cap) ∧ n ≤ cap ∧ ∀ j (h : j < L.length), w'.cell? ⟨g, j, none⟩ = some (.string L[j])) ∧ Below w.heap.size w w') := Lib.hid (fun w => by
  have := RefParts5_any h w (by omega)
  rw [HL.out] at this
  exact this.mono fun e w' ⟨v, h1, h2, h3⟩ => by
   obtain ⟨g, cap, hv, h4, h5, h6, h7⟩ := rows_tx hl4 h2
   rw [HN.out] at hv h4
   exact ⟨⟨g, cap, by rw [h1, hv], h4, h7⟩, h3⟩)
 have CM : Hid (∀ w g cH, TxAt R a0 b off w → n ≤ cH → (∀ j (h : j < L.length), w.cell? ⟨g, j, none⟩ = some (.string L[j])) → Calls Tryz.prog 29 #[.slice a0 R.length cap, .slice (some ⟨g, 0, none⟩) n cH] w fun e w' => e = .returned (.int .i64 N) ∧ Below w.heap.size w w') := Lib.hid (fun w g cH hT hc hH => by
  have := RefMany_any R L a0 b off cap g cH w hT hRl HRs.out (by rw [HN.out]; omega) (by rw [HN.out]; exact hc) hH
  rwa [HN.out, HNN.out] at this)
 have HR : Hid (sufT R h 0 = (sfxB L N, 0)) := Lib.hid (by rw [sufT, if_neg (by rw [Hc.out]; simp), if_neg (by rw [Hd.out]; simp), HL.out, HN.out, HNN.out, if_neg (by omega)]; rfl)
 rw [HR.out]
 have CL : Hid (∀ w g cH, (∀ j (h : j < L.length), w.cell? ⟨g, j, none⟩ = some (.string L[j])) → Calls Tryz.prog 28 #[.slice (some ⟨g, 0, none⟩) n cH, .int .i64 (N : Int)] w fun e w' => e = .returned (.string (sfxB L N)) ∧ w = w') := Lib.hid (fun w g cH hH => by
  have := RefLast_any L N g cH w (by rw [HN.out]; exact hn) (by rw [HN.out]; exact hN2) HLs.out hH
  rwa [HN.out] at this)
 obtain ⟨X, HX⟩ : ∃ X, Hid (sfxB L N = X) := ⟨_, Lib.hid rfl⟩
 rw [HX.out] at CL ⊢
 clear hl4
 go_enter Tryz.func13, Tryz.ntmps13
 go_wp2_with fail
 refine CW.out.mono ?_
 rintro e w1 ⟨rfl, b1⟩
 have B1 := Lib.hid b1; clear b1
 go_wp2_with fail
 refine (CP.out _).mono ?_
 rintro e w2 ⟨⟨g, cH, rfl, hcH, hH⟩, b2⟩
 have B2 : Hid (Below w.heap.size w w2) := Lib.hid (keepW B1.out b2)
 have HH := Lib.hid hH
 clear b2 hH
 go_wp2_with fail
 refine (CM.out _ _ _ (HTx.out.later B2.out) hcH HH.out).mono ?_
 rintro e w3 ⟨rfl, b3⟩
 have B3 : Hid (Below w.heap.size w w3) := Lib.hid (keepW B2.out b3)
 have HH3 : Hid (∀ j (h : j < L.length), w3.cell? ⟨g, j, none⟩ = some (.string L[j])) := Lib.hid (fun j h => (b3.cell (block_lt_of_cell (HH.out j h))).trans (HH.out j h))
 clear b3
 go_wp2_with fail
 refine (CL.out _ _ _ HH3.out).mono ?_
 rintro e w4 ⟨rfl, rfl⟩
 go_wp2
 go_ret2
 exact ⟨rfl, B3.out⟩

set_option maxRecDepth 100000 in
set_option maxHeartbeats 2000000 in
theorem RefOwn8_any (R : List ByteArray) (a0 : Option Addr) (b off cap : Nat) (h : ByteArray) (w : World) (hT : TxAt R a0 b off w) (hF : Fair R h) :
  Calls Tryz.prog 16 #[.slice a0 R.length cap, .string h] w fun e w' => e = .returned (.tuple #[.string (sufT R h 1).1, .int .i64 (sufT R h 1).2]) ∧ Below w.heap.size w w' := by
 have HTx := Lib.hid hT; clear hT
 have HF := Lib.hid hF
 obtain ⟨hRl, hRs, hh⟩ := hF
 have HRs := Lib.hid hRs; clear hRs
 have CW := Lib.hid (RefWrong_any R a0 b off cap h w HTx.out HF.out)
 obtain ⟨c, Hc⟩ : ∃ c, Hid (rulesB R = c) := ⟨_, Lib.hid rfl⟩
 cases c
 ·have HR : Hid (sufT R h 1 = (⟨#[]⟩, 1)) := Lib.hid (by rw [sufT, if_pos Hc.out])
  have HN : Hid (wrongN R h = 1) := Lib.hid (by rw [wrongN, if_pos Hc.out])
  rw [HN.out] at CW
  rw [HR.out]
  go_enter Tryz.func16, Tryz.ntmps16
  go_wp2_with fail
  refine CW.out.mono ?_
  rintro e w1 ⟨rfl, b1⟩
  have B1 := Lib.hid b1; clear b1
  go_wp2
  go_ret2
  exact ⟨rfl, B1.out⟩
 obtain ⟨d, Hd⟩ : ∃ d, Hid (nameB h = d) := ⟨_, Lib.hid rfl⟩
 cases d
 ·have HR : Hid (sufT R h 1 = (⟨#[]⟩, 5)) := Lib.hid (by rw [sufT, if_neg (by rw [Hc.out]; simp), if_pos Hd.out])
  have HN : Hid (wrongN R h = 5) := Lib.hid (by rw [wrongN, if_neg (by rw [Hc.out]; simp), if_pos Hd.out])
  rw [HN.out] at CW
  rw [HR.out]
  go_enter Tryz.func16, Tryz.ntmps16
  go_wp2_with fail
  refine CW.out.mono ?_
  rintro e w1 ⟨rfl, b1⟩
  have B1 := Lib.hid b1; clear b1
  go_wp2
  go_ret2
  exact ⟨rfl, B1.out⟩
 have HN0 : Hid (wrongN R h = 0) := Lib.hid (by rw [wrongN, if_neg (by rw [Hc.out]; simp), if_neg (by rw [Hd.out]; simp)])
 rw [HN0.out] at CW
 obtain ⟨-, -, -, hl4, hl5, -⟩ := sx_labels hh Hd.out
 obtain ⟨L, HL⟩ : ∃ L, Hid (rawB 46 h = L) := ⟨_, Lib.hid rfl⟩
 rw [HL.out] at hl4
 obtain ⟨n, HN⟩ : ∃ n, Hid (L.length = n) := ⟨_, Lib.hid rfl⟩
 obtain ⟨N, HNN⟩ : ∃ N, Hid (manyN R L = N) := ⟨_, Lib.hid rfl⟩
 have hN2 : N ≤ n := by rw [← HNN.out, ← HN.out]; exact manyN_le R L hl4
 have hn : n ≤ 254 := by rw [← HN.out, ← HL.out]; have := rawB_count 46 h; omega
 have HLs : Hid (∀ l ∈ L, l.size ≤ 253) := Lib.hid (fun l hl => by rw [← HL.out] at hl; have := (rawB_mem 46 h l hl).1; omega)
 have CP : Hid (∀ w, Calls Tryz.prog 27 #[.string h] w fun e w' => (∃ g cap, e = .returned (.slice (some ⟨g, 0, none⟩) n cap) ∧ n ≤ cap ∧ ∀ j (h : j < L.length), w'.cell? ⟨g, j, none⟩ = some (.string L[j])) ∧ Below w.heap.size w w') := Lib.hid (fun w => by
  have := RefParts5_any h w (by omega)
  rw [HL.out] at this
  exact this.mono fun e w' ⟨v, h1, h2, h3⟩ => by
   obtain ⟨g, cap, hv, h4, h5, h6, h7⟩ := rows_tx hl4 h2
   rw [HN.out] at hv h4
   exact ⟨⟨g, cap, by rw [h1, hv], h4, h7⟩, h3⟩)
 have CM : Hid (∀ w g cH, TxAt R a0 b off w → n ≤ cH → (∀ j (h : j < L.length), w.cell? ⟨g, j, none⟩ = some (.string L[j])) → Calls Tryz.prog 29 #[.slice a0 R.length cap, .slice (some ⟨g, 0, none⟩) n cH] w fun e w' => e = .returned (.int .i64 N) ∧ Below w.heap.size w w') := Lib.hid (fun w g cH hT hc hH => by
  have := RefMany_any R L a0 b off cap g cH w hT hRl HRs.out (by rw [HN.out]; omega) (by rw [HN.out]; exact hc) hH
  rwa [HN.out, HNN.out] at this)
 by_cases hlt : n < N + 1
 ·have HR : Hid (sufT R h 1 = (⟨#[]⟩, 0)) := Lib.hid (by rw [sufT, if_neg (by rw [Hc.out]; simp), if_neg (by rw [Hd.out]; simp), HL.out, HN.out, HNN.out, if_pos hlt])
  rw [HR.out]
  have hI : (n : Int) < (N : Int) + 1 := by omega
  clear hl4
  go_enter Tryz.func16, Tryz.ntmps16
  go_wp2_with fail
  refine CW.out.mono ?_
  rintro e w1 ⟨rfl, b1⟩
  have B1 := Lib.hid b1; clear b1
  go_wp2_with fail
  refine (CP.out _).mono ?_
  rintro e w2 ⟨⟨g, cH, rfl, hcH, hH⟩, b2⟩
  have B2 : Hid (Below w.heap.size w w2) := Lib.hid (keepW B1.out b2)
  have HH := Lib.hid hH
  clear b2 hH
  go_wp2_with fail
  refine (CM.out _ _ _ (HTx.out.later B2.out) hcH HH.out).mono ?_
  rintro e w3 ⟨rfl, b3⟩
  have B3 : Hid (Below w.heap.size w w3) := Lib.hid (keepW B2.out b3)
  clear b3
  go_wp2
  go_ret2
  exact ⟨rfl, B3.out⟩
 ·have HR : Hid (sufT R h 1 = (sfxB L (N + 1), 0)) := Lib.hid (by rw [sufT, if_neg (by rw [Hc.out]; simp), if_neg (by rw [Hd.out]; simp), HL.out, HN.out, HNN.out, if_neg hlt])
  rw [HR.out]
  have CL : Hid (∀ w g cH, (∀ j (h : j < L.length), w.cell? ⟨g, j, none⟩ = some (.string L[j])) → Calls Tryz.prog 28 #[.slice (some ⟨g, 0, none⟩) n cH, .int .i64 ((N : Int) + 1)] w fun e w' => e = .returned (.string (sfxB L (N + 1))) ∧ w = w') := Lib.hid (fun w g cH hH => by
   have := RefLast_any L (N + 1) g cH w (by rw [HN.out]; exact hn) (by rw [HN.out]; omega) HLs.out hH
   rw [HN.out] at this
   exact this)
  obtain ⟨X, HX⟩ : ∃ X, Hid (sfxB L (N + 1) = X) := ⟨_, Lib.hid rfl⟩
  rw [HX.out] at CL ⊢
  have hI : (N : Int) + 1 ≤ (n : Int) := by omega
  clear hl4
  go_enter Tryz.func16, Tryz.ntmps16
  go_wp2_with fail
  refine CW.out.mono ?_
  rintro e w1 ⟨rfl, b1⟩
  have B1 := Lib.hid b1; clear b1
  go_wp2_with fail
  refine (CP.out _).mono ?_
  rintro e w2 ⟨⟨g, cH, rfl, hcH, hH⟩, b2⟩
  have B2 : Hid (Below w.heap.size w w2) := Lib.hid (keepW B1.out b2)
  have HH := Lib.hid hH
  clear b2 hH
  go_wp2_with fail
  refine (CM.out _ _ _ (HTx.out.later B2.out) hcH HH.out).mono ?_
  rintro e w3 ⟨rfl, b3⟩
  have B3 : Hid (Below w.heap.size w w3) := Lib.hid (keepW B2.out b3)
  have HH3 : Hid (∀ j (h : j < L.length), w3.cell? ⟨g, j, none⟩ = some (.string L[j])) := Lib.hid (fun j h => (b3.cell (block_lt_of_cell (HH.out j h))).trans (HH.out j h))
  clear b3
  go_wp2_with fail
  refine (CL.out _ _ _ HH3.out).mono ?_
  rintro e w4 ⟨rfl, rfl⟩
  go_wp2
  go_ret2
  exact ⟨rfl, B3.out⟩

end Go.Proofs.YtdifdikfgkiocaaGreatDoor
