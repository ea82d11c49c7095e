/-
  Contracts: the document's except, bare, part, may, Check.
  Contracts: the document's fits, many, last, wrong, Suffix, Own.
  Contract: the document's wrong.
  Contracts: the document's Suffix, Own.
-/
import Derived.Test.YtdifdikfgkiocaaDoorHsRP
import Derived.Test.YtdifdikfgkiocaaDoorMrA
import Derived.Test.YtdifdikfgkiocaaDoorMsA
import Derived.RegionTactic
import Derived.Test.YtdifdikfgkiocaaDoorMhH
import Derived.Test.YtdifdikfgkiocaaDoorHsK2
namespace Go.Proofs.YtdifdikfgkiocaaDoor
open Go.RowKit

theorem exB_none {s : ByteArray} (h : s.size = 0) : exB s = false := by
  have hl := lenB s
  rw [exB, show s.data.toList = [] from List.eq_nil_of_length_eq_zero (by omega)]; rfl
theorem exB_at {s : ByteArray} (h : 0 < s.size) : exB s = decide (s[0] = 33) := by
  have hl := lenB s
  cases e : s.data.toList with
  | nil => rw [e] at hl; simp at hl; omega
  | cons y r =>
    have h1 : s[0] = s.data.toList[0]'(by omega) := rfl
    have h2 : s[0] = y := by rw [h1]; simp only [e, List.getElem_cons_zero]
    rw [exB, e, h2, Bool.eq_iff_iff, decide_eq_true_eq]
    simp [Lib.hasPrefix, List.isPrefixOf]
    exact eq_comm
theorem bareS_ex {s : ByteArray} (h : exB s = true) : 1 ≤ s.size ∧ s.extract 1 s.size = bareS s := by
  have h0 : 0 < s.size := by
    refine Nat.pos_of_ne_zero (fun e => ?_)
    rw [exB_none e] at h; cases h
  refine ⟨h0, ba_of ?_⟩
  have hl := lenB s
  rw [ext_mid s 1 s.size (Nat.le_refl _), List.take_of_length_le (by rw [List.length_drop]; omega)]
  show _ = Lib.trimPrefix s.data.toList [33]
  rw [Lib.trimPrefix, if_pos (show Lib.hasPrefix s.data.toList [33] = true from h)]; rfl
theorem bareS_no {s : ByteArray} (h : exB s = false) : bareS s = s := by
  refine ba_of ?_
  show Lib.trimPrefix s.data.toList [33] = _
  rw [Lib.trimPrefix, if_neg (by rw [show Lib.hasPrefix s.data.toList [33] = false from h]; simp)]

set_option maxRecDepth 100000 in
set_option maxHeartbeats 1000000 in
theorem RefExcept_any (s : ByteArray) (w : World) :
    Calls Tryd.prog 17 #[.string s] w fun e w' => e = .returned (.bool (exB s)) ∧ w = w' := by
  by_cases h0 : 0 < s.size
  · have hxe : s.toList.isEmpty = false := emF h0
    have hxn : ¬ s.toList = [] := fun e => by rw [e] at hxe; cases hxe
    by_cases h33 : s[0] = 33
    · have HR : Hid (exB s = true) := Lib.hid (by rw [exB_at h0, decide_eq_true h33])
      have hxv : ((s[0].toNat : Int) == 33) = true := by rw [h33]; rfl
      clear h33
      go_enter Tryd.func17, Tryd.ntmps17
      go_wp2
      go_ret
      exact ⟨ret_bool (by rw [HR.out]), rfl⟩
    · have HR : Hid (exB s = false) := Lib.hid (by rw [exB_at h0, decide_eq_false h33])
      have hxv : ((s[0].toNat : Int) == 33) = false := beq_eq_false_iff_ne.2 (fun e => h33 (UInt8.toNat_inj.1 (by have : (33 : UInt8).toNat = 33 := rfl; omega)))
      clear h33
      go_enter Tryd.func17, Tryd.ntmps17
      go_wp2
      go_ret
      exact ⟨ret_bool (by rw [HR.out]), rfl⟩
  · have hxe : s.toList.isEmpty = true := emT (by omega)
    have hxn : s.toList = [] := List.isEmpty_iff.1 hxe
    have HR : Hid (exB s = false) := Lib.hid (exB_none (by omega))
    go_enter Tryd.func17, Tryd.ntmps17
    go_wp2
    go_ret
    exact ⟨ret_bool (by rw [HR.out]), rfl⟩

theorem rows_tx {w : World} {base : Nat} {v : Value} {T : List ByteArray} (hne : T ≠ []) (h : w.ownsRow base 9 1 v T.length (T.map Value.string)) : ∃ g cap, v = .slice (some ⟨g, 0, none⟩) T.length cap ∧ T.length ≤ cap ∧ base ≤ g ∧ g < w.heap.size ∧ ∀ j (h : j < T.length), w.cell? ⟨g, j, none⟩ = some (.string T[j]) := by
  have hl := List.length_pos_iff.2 hne
  rcases h.2 with ⟨h1, h2⟩ | ⟨g, cap, cur, hv, hg, hgb, hcap, hrow⟩
  · omega
  · refine ⟨g, cap, hv, hcap, hg, lt_of_block hgb, fun j hj => ?_⟩
    subst hv
    rw [h.cellAt j (by omega), List.getElem?_map, List.getElem?_eq_getElem hj]; rfl
set_option maxRecDepth 100000 in
set_option maxHeartbeats 1000000 in
theorem RefBare_any (s : ByteArray) (w : World) (hs : s.size ≤ 1000000) :
    Calls Tryd.prog 16 #[.string s] w fun e w' => ∃ g cap, e = .returned (.slice (some ⟨g, 0, none⟩) (bareL s).length cap) ∧ (bareL s).length ≤ cap ∧ w.heap.size ≤ g ∧ g < w'.heap.size ∧ Hid (∀ j (h : j < (bareL s).length), w'.cell? ⟨g, j, none⟩ = some (.string (bareL s)[j])) ∧ Below w.heap.size w w' := by
  obtain ⟨D, HD⟩ : ∃ D, Hid (bareS s = D) := ⟨_, Lib.hid rfl⟩
  have hDs : D.size ≤ 1000000 := by rw [← HD.out]; have := bareS_size s; omega
  have CP : Hid (∀ w, Calls Tryd.prog 24 #[.string D] w fun e w' => (∃ g cap, e = .returned (.slice (some ⟨g, 0, none⟩) (bareL s).length cap) ∧ (bareL s).length ≤ cap ∧ w.heap.size ≤ g ∧ g < w'.heap.size ∧ ∀ j (h : j < (bareL s).length), w'.cell? ⟨g, j, none⟩ = some (.string (bareL s)[j])) ∧ Below w.heap.size w w') := Lib.hid (fun w => by
    have := RefParts5_any D w (by omega)
    have hr : rawB 46 D = bareL s := by rw [bareL, HD.out]
    rw [hr] at this
    exact this.mono fun e w' ⟨v, h1, h2, h3⟩ => by
      obtain ⟨g, cap, hv, h4, h5, h6, h7⟩ := rows_tx (by rw [← hr]; exact rawB_ne 46 D) h2
      exact ⟨⟨g, cap, by rw [h1, hv], h4, h5, h6, h7⟩, h3⟩)
  obtain ⟨n, HN⟩ : ∃ n, Hid ((bareL s).length = n) := ⟨_, Lib.hid rfl⟩
  obtain ⟨x, Hx⟩ : ∃ x, Hid (exB s = x) := ⟨_, Lib.hid rfl⟩
  have CX := Lib.hid (RefExcept_any s)
  rw [Hx.out] at CX
  cases x
  · have HS : Hid (s = D) := Lib.hid (by rw [← HD.out, bareS_no Hx.out])
    rw [← HS.out] at CP
    go_enter Tryd.func16, Tryd.ntmps16
    go_wp2_with fail
    refine (CX.out _).mono ?_
    rintro e w1 ⟨rfl, rfl⟩
    go_wp2_with fail
    refine (CP.out _).mono ?_
    rintro e w1 ⟨⟨g, cap, rfl, h4, h5, h6, h7⟩, b1⟩
    have B1 := Lib.hid b1
    have H7 := Lib.hid h7
    clear b1 h7
    go_wp2
    go_ret
    exact ⟨g, cap, rfl, h4, h5, h6, H7, B1.out⟩
  · obtain ⟨h1, h2⟩ := bareS_ex Hx.out
    have HS : Hid (s.extract 1 s.size = D) := Lib.hid (by rw [h2, HD.out])
    have h1I : (1 : Int) ≤ (s.size : Int) := by omega
    rw [← HS.out] at CP
    clear h2
    go_enter Tryd.func16, Tryd.ntmps16
    go_wp2_with fail
    refine (CX.out _).mono ?_
    rintro e w1 ⟨rfl, rfl⟩
    go_wp2_with fail
    refine (CP.out _).mono ?_
    rintro e w1 ⟨⟨g, cap, rfl, h4, h5, h6, h7⟩, b1⟩
    have B1 := Lib.hid b1
    have H7 := Lib.hid h7
    clear b1 h7
    go_wp2
    go_ret
    exact ⟨g, cap, rfl, h4, h5, h6, H7, B1.out⟩

set_option maxRecDepth 100000 in
set_option maxHeartbeats 2000000 in
theorem RefPart_any (p : ByteArray) (w : World) (hp : p.size ≤ 9000000) :
    Calls Tryd.prog 18 #[.string p] w fun e w' => e = .returned (.bool (partB p)) ∧ w = w' := by
  go_enter Tryd.func18, Tryd.ntmps18
  go_wp2
  go_loop [3, 4] (fun i _ => ∃ k : Nat, k ≤ p.size ∧ i = .int .i64 k ∧ Hid (∀ j (h : j < p.size), j < k → sgnB p[j] = true)) (fun i _ => p.size - (intOf i).toNat)
  case atStart => exact ⟨0, Nat.zero_le _, rfl, Lib.hid (fun _ _ h => absurd h (Nat.not_lt_zero _))⟩
  case round =>
    obtain ⟨k, hk, rfl, HOk⟩ := hrel
    by_cases hlt : k < p.size
    · obtain ⟨q, hq⟩ : ∃ q : Nat, q = p[k].toNat := ⟨_, rfl⟩
      have hq255 : q < 256 := by rw [hq]; exact p[k].toNat_lt
      have hqI : (p[k].toNat : Int) = (q : Int) := by rw [hq]
      obtain ⟨d, HDg⟩ : ∃ d, Hid (inR 48 57 (q : Int) = d) := ⟨_, Lib.hid rfl⟩
      have CD : Hid (∀ w, Calls Tryd.prog 25 #[.int .u8 (q : Int)] w fun e w' => e = .returned (.bool d) ∧ w = w') := Lib.hid (fun w => by
        have := Digit_any (q : Int) w
        rwa [HDg.out] at this)
      have HNext : Hid (sgnB p[k] = true → ∀ j (h : j < p.size), j < k + 1 → sgnB p[j] = true) := Lib.hid (fun hs j hj hjk => by
        by_cases e : j = k
        · subst e; exact hs
        · exact HOk.out j hj (by omega))
      rcases (show (0 ≤ q ∧ q ≤ 44) ∨ (45 ≤ q ∧ q ≤ 45) ∨ (46 ≤ q ∧ q ≤ 47) ∨ (48 ≤ q ∧ q ≤ 57) ∨ (58 ≤ q ∧ q ≤ 96) ∨ (97 ≤ q ∧ q ≤ 122) ∨ (123 ≤ q ∧ q ≤ 255) by omega) with ⟨hq1, hq2⟩ | ⟨hq1, hq2⟩ | ⟨hq1, hq2⟩ | ⟨hq1, hq2⟩ | ⟨hq1, hq2⟩ | ⟨hq1, hq2⟩ | ⟨hq1, hq2⟩
      · have HS : Hid (sgnB p[k] = false) := Lib.hid (by rw [sgnB_eq, ← hq]; rw [decide_eq_false (by omega), decide_eq_false (by omega), decide_eq_false (by omega)]; rfl)
        obtain rfl : d = false := by rw [← HDg.out]; rw [inR_false]; omega
        have c97 : (q : Int) < 97 := by omega
        have c122 : (q : Int) ≤ 122 := by omega
        have c45 : ((q : Int) == 45) = false := beq_eq_false_iff_ne.2 (by omega)
        have c45n : ((q : Int) != 45) = true := by rw [bne, c45]; rfl
        have HR : Hid (partB p = false) := Lib.hid (partB_no hlt HS.out)
        clear hq1 hq2 hq
        go_wp2_with fail
        refine (CD.out _).mono ?_
        rintro e w1 ⟨rfl, rfl⟩
        go_wp2
        go_ret
        exact ⟨ret_bool (by rw [HR.out]), rfl⟩
      · have HS : Hid (sgnB p[k] = true) := Lib.hid (by rw [sgnB_eq, ← hq]; rw [decide_eq_false (by omega), decide_eq_true (show q = 45 by omega)]; rfl)
        obtain rfl : d = false := by rw [← HDg.out]; rw [inR_false]; omega
        have c97 : (q : Int) < 97 := by omega
        have c122 : (q : Int) ≤ 122 := by omega
        have c45 : ((q : Int) == 45) = true := beq_iff_eq.2 (by omega)
        have c45n : ((q : Int) != 45) = false := by rw [bne, c45]; rfl
        clear hq1 hq2 hq
        go_wp2_with fail
        refine (CD.out _).mono ?_
        rintro e w1 ⟨rfl, rfl⟩
        go_wp2
        go_round
        case rel => exact ⟨k + 1, by omega, by go_num, Lib.hid (HNext.out HS.out)⟩
        case measure => simp [intOf]; omega
      · have HS : Hid (sgnB p[k] = false) := Lib.hid (by rw [sgnB_eq, ← hq]; rw [decide_eq_false (by omega), decide_eq_false (by omega), decide_eq_false (by omega)]; rfl)
        obtain rfl : d = false := by rw [← HDg.out]; rw [inR_false]; omega
        have c97 : (q : Int) < 97 := by omega
        have c122 : (q : Int) ≤ 122 := by omega
        have c45 : ((q : Int) == 45) = false := beq_eq_false_iff_ne.2 (by omega)
        have c45n : ((q : Int) != 45) = true := by rw [bne, c45]; rfl
        have HR : Hid (partB p = false) := Lib.hid (partB_no hlt HS.out)
        clear hq1 hq2 hq
        go_wp2_with fail
        refine (CD.out _).mono ?_
        rintro e w1 ⟨rfl, rfl⟩
        go_wp2
        go_ret
        exact ⟨ret_bool (by rw [HR.out]), rfl⟩
      · have HS : Hid (sgnB p[k] = true) := Lib.hid (by rw [sgnB_eq, ← hq]; rw [decide_eq_true (show 48 ≤ q ∧ q ≤ 57 by omega)]; rfl)
        obtain rfl : d = true := by rw [← HDg.out]; rw [inR_true]; omega
        have c97 : (q : Int) < 97 := by omega
        have c122 : (q : Int) ≤ 122 := by omega
        have c45 : ((q : Int) == 45) = false := beq_eq_false_iff_ne.2 (by omega)
        have c45n : ((q : Int) != 45) = true := by rw [bne, c45]; rfl
        clear hq1 hq2 hq
        go_wp2_with fail
        refine (CD.out _).mono ?_
        rintro e w1 ⟨rfl, rfl⟩
        go_wp2
        go_round
        case rel => exact ⟨k + 1, by omega, by go_num, Lib.hid (HNext.out HS.out)⟩
        case measure => simp [intOf]; omega
      · have HS : Hid (sgnB p[k] = false) := Lib.hid (by rw [sgnB_eq, ← hq]; rw [decide_eq_false (by omega), decide_eq_false (by omega), decide_eq_false (by omega)]; rfl)
        obtain rfl : d = false := by rw [← HDg.out]; rw [inR_false]; omega
        have c97 : (q : Int) < 97 := by omega
        have c122 : (q : Int) ≤ 122 := by omega
        have c45 : ((q : Int) == 45) = false := beq_eq_false_iff_ne.2 (by omega)
        have c45n : ((q : Int) != 45) = true := by rw [bne, c45]; rfl
        have HR : Hid (partB p = false) := Lib.hid (partB_no hlt HS.out)
        clear hq1 hq2 hq
        go_wp2_with fail
        refine (CD.out _).mono ?_
        rintro e w1 ⟨rfl, rfl⟩
        go_wp2
        go_ret
        exact ⟨ret_bool (by rw [HR.out]), rfl⟩
      · have HS : Hid (sgnB p[k] = true) := Lib.hid (by rw [sgnB_eq, ← hq]; rw [decide_eq_false (by omega), decide_eq_false (by omega), decide_eq_true (show 97 ≤ q ∧ q ≤ 122 by omega)]; rfl)
        obtain rfl : d = false := by rw [← HDg.out]; rw [inR_false]; omega
        have c97 : (97 : Int) ≤ (q : Int) := by omega
        have c122 : (q : Int) ≤ 122 := by omega
        have c45 : ((q : Int) == 45) = false := beq_eq_false_iff_ne.2 (by omega)
        have c45n : ((q : Int) != 45) = true := by rw [bne, c45]; rfl
        clear hq1 hq2 hq
        go_wp2_with fail
        refine (CD.out _).mono ?_
        rintro e w1 ⟨rfl, rfl⟩
        go_wp2
        go_round
        case rel => exact ⟨k + 1, by omega, by go_num, Lib.hid (HNext.out HS.out)⟩
        case measure => simp [intOf]; omega
      · have HS : Hid (sgnB p[k] = false) := Lib.hid (by rw [sgnB_eq, ← hq]; rw [decide_eq_false (by omega), decide_eq_false (by omega), decide_eq_false (by omega)]; rfl)
        obtain rfl : d = false := by rw [← HDg.out]; rw [inR_false]; omega
        have c97 : (97 : Int) ≤ (q : Int) := by omega
        have c122 : (122 : Int) < (q : Int) := by omega
        have c45 : ((q : Int) == 45) = false := beq_eq_false_iff_ne.2 (by omega)
        have c45n : ((q : Int) != 45) = true := by rw [bne, c45]; rfl
        have HR : Hid (partB p = false) := Lib.hid (partB_no hlt HS.out)
        clear hq1 hq2 hq
        go_wp2_with fail
        refine (CD.out _).mono ?_
        rintro e w1 ⟨rfl, rfl⟩
        go_wp2
        go_ret
        exact ⟨ret_bool (by rw [HR.out]), rfl⟩
    · have HR : Hid (partB p = (decide (0 < p.size) && decide (p.size ≤ 63))) := Lib.hid (partB_all (fun j hj => HOk.out j hj (by omega)))
      clear HOk
      by_cases h1 : 0 < p.size
      · by_cases h2 : p.size ≤ 63
        · have HR2 : Hid (partB p = true) := Lib.hid (by rw [HR.out, decide_eq_true h1, decide_eq_true h2]; rfl)
          have d1 : (1 : Int) ≤ (p.size : Int) := by omega
          have d2 : (p.size : Int) ≤ 63 := by omega
          clear HR
          go_wp2
          go_ret
          exact ⟨ret_bool (by rw [HR2.out]; first | done | (simp; omega)), rfl⟩
        · have HR2 : Hid (partB p = false) := Lib.hid (by rw [HR.out, decide_eq_false h2, Bool.and_false])
          have d1 : (1 : Int) ≤ (p.size : Int) := by omega
          have d2 : (63 : Int) < (p.size : Int) := by omega
          clear HR
          go_wp2
          go_ret
          exact ⟨ret_bool (by rw [HR2.out]; first | done | (simp; omega)), rfl⟩
      · have HR2 : Hid (partB p = false) := Lib.hid (by rw [HR.out, decide_eq_false h1, Bool.false_and])
        have d1 : (p.size : Int) < 1 := by omega
        clear HR
        go_wp2
        go_ret
        exact ⟨ret_bool (by rw [HR2.out]; first | done | (simp; omega)), rfl⟩

set_option maxRecDepth 100000 in
set_option maxHeartbeats 4000000 in
theorem RefMay_any (s : ByteArray) (w : World) (hs : s.size ≤ 1000000) :
    Calls Tryd.prog 11 #[.string s] w fun e w' => e = .returned (.bool (ruleB s)) ∧ Below w.heap.size w w' := by
  rw [← mayR_eq]
  obtain ⟨L, HL⟩ : ∃ L, Hid (bareL s = L) := ⟨_, Lib.hid rfl⟩
  have HLs : Hid (∀ p ∈ L, p.size ≤ 1000000) := Lib.hid (fun p hp => by rw [← HL.out] at hp; have := (rawB_mem 46 (bareS s) p hp).1; have := bareS_size s; omega)
  obtain ⟨n, HN⟩ : ∃ n, Hid (L.length = n) := ⟨_, Lib.hid rfl⟩
  have hn : n ≤ 1000001 := by rw [← HN.out, ← HL.out]; have := rawB_count 46 (bareS s); have := bareS_size s; show (rawB 46 (bareS s)).length ≤ _; omega
  have hn1 : 1 ≤ n := by rw [← HN.out, ← HL.out]; exact List.length_pos_iff.2 (rawB_ne 46 (bareS s))
  have CB : Hid (Calls Tryd.prog 16 #[.string s] w fun e w' => ∃ g cap, e = .returned (.slice (some ⟨g, 0, none⟩) n cap) ∧ n ≤ cap ∧ w.heap.size ≤ g ∧ g < w'.heap.size ∧ Hid (∀ j (h : j < L.length), w'.cell? ⟨g, j, none⟩ = some (.string L[j])) ∧ Below w.heap.size w w') := Lib.hid (by
    have := RefBare_any s w hs
    rw [HL.out] at this
    exact this.mono fun e w' ⟨g, cap, h1, h2, h3, h4, h5, h6⟩ => ⟨g, cap, by rw [h1, HN.out], by rw [← HN.out]; exact h2, h3, h4, h5, h6⟩)
  obtain ⟨x, Hx⟩ : ∃ x, Hid (exB s = x) := ⟨_, Lib.hid rfl⟩
  have CX := Lib.hid (RefExcept_any s)
  rw [Hx.out] at CX
  cases x
  · have HLr : Hid (rawB 46 s = L) := Lib.hid (by rw [← HL.out, bareL, bareS_no Hx.out])
    by_cases hst : 1 < n ∧ L[0]? = some ⟨#[42]⟩
    · obtain ⟨h1, h0⟩ := hst
      obtain ⟨T, HT⟩ : ∃ T, Hid (L.tail = T) := ⟨_, Lib.hid rfl⟩
      have HMay : Hid (mayR s = (T.all partB && decide (s.size - 2 ≤ 253))) := Lib.hid (by
        rw [mayR, Hx.out, if_neg (by simp), HLr.out, HN.out, if_pos ⟨h1, h0⟩, HT.out])
      have hs2 : 2 ≤ s.size := by
        obtain ⟨t, ht⟩ := star_of (s := s) (by rw [HLr.out, HN.out]; exact h1) (by rw [HLr.out]; exact h0)
        have := lenB s
        rw [ht] at this
        simp only [List.length_cons] at this
        omega
      have hs2I : (2 : Int) ≤ (s.size : Int) := by omega
      have hsI : (s.size : Int) ≤ 1000000 := by omega
      obtain ⟨y, hy, hye⟩ : ∃ y, L[0]? = some y ∧ y = ⟨#[42]⟩ := ⟨_, h0, rfl⟩
      have hy0 : L[0]'(by rw [HN.out]; omega) = y := Option.some.inj ((List.getElem?_eq_getElem _).symm.trans hy)
      have Hy0 := Lib.hid hy0
      have hyl : y.toList = [42] := by rw [hye, ByteArray.toList_eq]
      have h1I : (1 : Int) < (n : Int) := by omega
      obtain ⟨q, HQN⟩ : ∃ q, Hid (T.length = q) := ⟨_, Lib.hid rfl⟩
      have hq : q = n - 1 := by rw [← HQN.out, ← HT.out, List.length_tail, HN.out]
      have HQs : Hid (∀ p ∈ T, p.size ≤ 1000000) := Lib.hid (fun p hp => by rw [← HT.out] at hp; exact HLs.out p (List.mem_of_mem_tail hp))
      have hqI : (n : Int) - 1 = (q : Int) := by omega
      clear h0 hy hye hy0
      go_enter Tryd.func11, Tryd.ntmps11
      go_wp2_with fail
      refine CB.out.mono ?_
      rintro e w1 ⟨g, cap, rfl, hcap, hg, hgl, Hcell, b1⟩
      have B1 := Lib.hid b1
      have hc0 : w1.cell? ⟨g, 0, none⟩ = some (.string y) := by rw [← Hy0.out]; exact Hcell.out 0 (by rw [HN.out]; omega)
      have HQc : Hid (∀ j (h : j < T.length), w1.cell? ⟨g, 1 + j, none⟩ = some (.string T[j])) := Lib.hid (fun j hj => by
        have h2 : 1 + j < L.length := by rw [HN.out]; rw [HQN.out] at hj; omega
        rw [Hcell.out (1 + j) h2]
        congr 2
        simp only [← HT.out, List.getElem_tail, Nat.add_comm])
      have hcI : (1 : Int) < (cap : Int) := by omega
      have hnc : (n : Int) ≤ (cap : Int) := by omega
      have hc1 : 1 < cap := by omega
      clear b1
      go_wp2_with fail
      refine (CX.out _).mono ?_
      rintro e w2 ⟨rfl, rfl⟩
      go_wp2
      go_loopw [5] (fun i wr => ∃ k : Nat, k ≤ q ∧ i = .int .i64 k ∧ Hid (∀ j (h : j < T.length), j < k → partB T[j] = true) ∧ wr = w1) (fun i _ => q - (intOf i).toNat)
      case atStart => exact ⟨0, Nat.zero_le _, rfl, Lib.hid (fun _ _ h => absurd h (Nat.not_lt_zero _)), rfl⟩
      case round =>
        obtain ⟨k, hk, rfl, HOk, rfl⟩ := hrel
        by_cases hlt : k < q
        · have hkP : k < T.length := by rw [HQN.out]; exact hlt
          obtain ⟨p, Hp⟩ : ∃ p, Hid (T[k] = p) := ⟨_, Lib.hid rfl⟩
          have hps : p.size ≤ 1000000 := by rw [← Hp.out]; exact HQs.out _ (List.getElem_mem hkP)
          have hc := HQc.out k hkP
          rw [Hp.out] at hc
          obtain ⟨c, Hc⟩ : ∃ c, Hid (partB p = c) := ⟨_, Lib.hid rfl⟩
          have HCp := Lib.hid (fun w => RefPart_any p w (by omega))
          rw [Hc.out] at HCp
          cases c
          · have HR2 : Hid (mayR s = false) := Lib.hid (by rw [HMay.out, all_no hkP (by rw [Hp.out]; exact Hc.out), Bool.false_and])
            go_wp2_with fail
            refine (HCp.out _).mono ?_
            rintro e w2 ⟨rfl, rfl⟩
            go_wp2
            go_ret
            exact ⟨ret_bool (by rw [HR2.out]), B1.out⟩
          · go_wp2_with fail
            refine (HCp.out _).mono ?_
            rintro e w2 ⟨rfl, rfl⟩
            go_wp2
            exact ⟨⟨k + 1, by omega, by go_num, Lib.hid (fun j hj hjk => by
              by_cases e : j = k
              · subst e; rw [Hp.out]; exact Hc.out
              · exact HOk.out j hj (by omega)), trivial⟩, by simp [intOf]; omega⟩
        · have HR2 : Hid (mayR s = decide (s.size - 2 ≤ 253)) := Lib.hid (by rw [HMay.out, all_yes (fun j hj => HOk.out j hj (by rw [HQN.out] at hj; omega)), Bool.true_and])
          go_wp2
          go_ret
          exact ⟨ret_bool (by rw [HR2.out]; rw [Bool.eq_iff_iff, decide_eq_true_eq, decide_eq_true_eq]; omega), B1.out⟩
    · obtain ⟨T, HT⟩ : ∃ T, Hid (L = T) := ⟨_, Lib.hid rfl⟩
      have HMay : Hid (mayR s = (L.all partB && decide (s.size ≤ 253))) := Lib.hid (by
        rw [mayR, Hx.out, if_neg (by simp), HLr.out, HN.out, if_neg hst])
      have hsI : (s.size : Int) ≤ 1000000 := by omega
      have HQs := HLs
      obtain ⟨y, Hy0⟩ : ∃ y, Hid (L[0]'(by rw [HN.out]; omega) = y) := ⟨_, Lib.hid rfl⟩
      have hcase : (n ≤ 1) ∨ (1 < n ∧ y ≠ ⟨#[42]⟩) := by
        by_cases h1 : 1 < n
        · refine .inr ⟨h1, fun e => hst ⟨h1, ?_⟩⟩
          rw [List.getElem?_eq_getElem (by rw [HN.out]; omega), Hy0.out, e]
        · exact .inl (by omega)
      clear hst HT
      rcases hcase with h1 | ⟨h1, hyn⟩
      · have h1I : (n : Int) ≤ 1 := by omega
        go_enter Tryd.func11, Tryd.ntmps11
        go_wp2_with fail
        refine CB.out.mono ?_
        rintro e w1 ⟨g, cap, rfl, hcap, hg, hgl, Hcell, b1⟩
        have B1 := Lib.hid b1
        have hc0 : w1.cell? ⟨g, 0, none⟩ = some (.string y) := by rw [← Hy0.out]; exact Hcell.out 0 (by rw [HN.out]; omega)
        have HQc := Hcell
        clear b1
        go_wp2_with fail
        refine (CX.out _).mono ?_
        rintro e w2 ⟨rfl, rfl⟩
        go_wp2
        go_loopw [5] (fun i wr => ∃ k : Nat, k ≤ n ∧ i = .int .i64 k ∧ Hid (∀ j (h : j < L.length), j < k → partB L[j] = true) ∧ wr = w1) (fun i _ => n - (intOf i).toNat)
        case atStart => exact ⟨0, Nat.zero_le _, rfl, Lib.hid (fun _ _ h => absurd h (Nat.not_lt_zero _)), rfl⟩
        case round =>
          obtain ⟨k, hk, rfl, HOk, rfl⟩ := hrel
          by_cases hlt : k < n
          · have hkP : k < L.length := by rw [HN.out]; exact hlt
            obtain ⟨p, Hp⟩ : ∃ p, Hid (L[k] = p) := ⟨_, Lib.hid rfl⟩
            have hps : p.size ≤ 1000000 := by rw [← Hp.out]; exact HQs.out _ (List.getElem_mem hkP)
            have hc := HQc.out k hkP
            rw [Hp.out] at hc
            obtain ⟨c, Hc⟩ : ∃ c, Hid (partB p = c) := ⟨_, Lib.hid rfl⟩
            have HCp := Lib.hid (fun w => RefPart_any p w (by omega))
            rw [Hc.out] at HCp
            cases c
            · have HR2 : Hid (mayR s = false) := Lib.hid (by rw [HMay.out, all_no hkP (by rw [Hp.out]; exact Hc.out), Bool.false_and])
              go_wp2_with fail
              refine (HCp.out _).mono ?_
              rintro e w2 ⟨rfl, rfl⟩
              go_wp2
              go_ret
              exact ⟨ret_bool (by rw [HR2.out]), B1.out⟩
            · go_wp2_with fail
              refine (HCp.out _).mono ?_
              rintro e w2 ⟨rfl, rfl⟩
              go_wp2
              exact ⟨⟨k + 1, by omega, by go_num, Lib.hid (fun j hj hjk => by
                by_cases e : j = k
                · subst e; rw [Hp.out]; exact Hc.out
                · exact HOk.out j hj (by omega)), trivial⟩, by simp [intOf]; omega⟩
          · have HR2 : Hid (mayR s = decide (s.size ≤ 253)) := Lib.hid (by rw [HMay.out, all_yes (fun j hj => HOk.out j hj (by rw [HN.out] at hj; omega)), Bool.true_and])
            go_wp2
            go_ret
            exact ⟨ret_bool (by rw [HR2.out]; rw [Bool.eq_iff_iff, decide_eq_true_eq, decide_eq_true_eq]; omega), B1.out⟩
      · have h1I : (1 : Int) < (n : Int) := by omega
        have hyl : ¬ y.toList = [42] := fun e => hyn (ba_of (by rw [ByteArray.toList_eq] at e; exact e))
        have hyb : (y.toList == [42]) = false := beq_eq_false_iff_ne.2 hyl
        clear hyn
        go_enter Tryd.func11, Tryd.ntmps11
        go_wp2_with fail
        refine CB.out.mono ?_
        rintro e w1 ⟨g, cap, rfl, hcap, hg, hgl, Hcell, b1⟩
        have B1 := Lib.hid b1
        have hc0 : w1.cell? ⟨g, 0, none⟩ = some (.string y) := by rw [← Hy0.out]; exact Hcell.out 0 (by rw [HN.out]; omega)
        have HQc := Hcell
        clear b1
        go_wp2_with fail
        refine (CX.out _).mono ?_
        rintro e w2 ⟨rfl, rfl⟩
        go_wp2
        go_loopw [5] (fun i wr => ∃ k : Nat, k ≤ n ∧ i = .int .i64 k ∧ Hid (∀ j (h : j < L.length), j < k → partB L[j] = true) ∧ wr = w1) (fun i _ => n - (intOf i).toNat)
        case atStart => exact ⟨0, Nat.zero_le _, rfl, Lib.hid (fun _ _ h => absurd h (Nat.not_lt_zero _)), rfl⟩
        case round =>
          obtain ⟨k, hk, rfl, HOk, rfl⟩ := hrel
          by_cases hlt : k < n
          · have hkP : k < L.length := by rw [HN.out]; exact hlt
            obtain ⟨p, Hp⟩ : ∃ p, Hid (L[k] = p) := ⟨_, Lib.hid rfl⟩
            have hps : p.size ≤ 1000000 := by rw [← Hp.out]; exact HQs.out _ (List.getElem_mem hkP)
            have hc := HQc.out k hkP
            rw [Hp.out] at hc
            obtain ⟨c, Hc⟩ : ∃ c, Hid (partB p = c) := ⟨_, Lib.hid rfl⟩
            have HCp := Lib.hid (fun w => RefPart_any p w (by omega))
            rw [Hc.out] at HCp
            cases c
            · have HR2 : Hid (mayR s = false) := Lib.hid (by rw [HMay.out, all_no hkP (by rw [Hp.out]; exact Hc.out), Bool.false_and])
              go_wp2_with fail
              refine (HCp.out _).mono ?_
              rintro e w2 ⟨rfl, rfl⟩
              go_wp2
              go_ret
              exact ⟨ret_bool (by rw [HR2.out]), B1.out⟩
            · go_wp2_with fail
              refine (HCp.out _).mono ?_
              rintro e w2 ⟨rfl, rfl⟩
              go_wp2
              exact ⟨⟨k + 1, by omega, by go_num, Lib.hid (fun j hj hjk => by
                by_cases e : j = k
                · subst e; rw [Hp.out]; exact Hc.out
                · exact HOk.out j hj (by omega)), trivial⟩, by simp [intOf]; omega⟩
          · have HR2 : Hid (mayR s = decide (s.size ≤ 253)) := Lib.hid (by rw [HMay.out, all_yes (fun j hj => HOk.out j hj (by rw [HN.out] at hj; omega)), Bool.true_and])
            go_wp2
            go_ret
            exact ⟨ret_bool (by rw [HR2.out]; rw [Bool.eq_iff_iff, decide_eq_true_eq, decide_eq_true_eq]; omega), B1.out⟩
  · obtain ⟨hs1, -⟩ := bareS_ex Hx.out
    have hs1I : (1 : Int) ≤ (s.size : Int) := by omega
    have hsI : (s.size : Int) ≤ 1000000 := by omega
    have HMay0 : Hid (mayR s = (decide (2 ≤ n) && (L.all partB && decide (s.size - 1 ≤ 253)))) := Lib.hid (by rw [mayR, Hx.out, if_pos rfl, HL.out, HN.out])
    by_cases h2 : 2 ≤ n
    · have HMay : Hid (mayR s = (L.all partB && decide (s.size - 1 ≤ 253))) := Lib.hid (by rw [HMay0.out, decide_eq_true h2, Bool.true_and])
      have HQs := HLs
      have h2I : (2 : Int) ≤ (n : Int) := by omega
      go_enter Tryd.func11, Tryd.ntmps11
      go_wp2_with fail
      refine CB.out.mono ?_
      rintro e w1 ⟨g, cap, rfl, hcap, hg, hgl, Hcell, b1⟩
      have B1 := Lib.hid b1
      have HQc := Hcell
      clear b1
      go_wp2_with fail
      refine (CX.out _).mono ?_
      rintro e w2 ⟨rfl, rfl⟩
      go_wp2
      go_loopw [5] (fun i wr => ∃ k : Nat, k ≤ n ∧ i = .int .i64 k ∧ Hid (∀ j (h : j < L.length), j < k → partB L[j] = true) ∧ wr = w1) (fun i _ => n - (intOf i).toNat)
      case atStart => exact ⟨0, Nat.zero_le _, rfl, Lib.hid (fun _ _ h => absurd h (Nat.not_lt_zero _)), rfl⟩
      case round =>
        obtain ⟨k, hk, rfl, HOk, rfl⟩ := hrel
        by_cases hlt : k < n
        · have hkP : k < L.length := by rw [HN.out]; exact hlt
          obtain ⟨p, Hp⟩ : ∃ p, Hid (L[k] = p) := ⟨_, Lib.hid rfl⟩
          have hps : p.size ≤ 1000000 := by rw [← Hp.out]; exact HQs.out _ (List.getElem_mem hkP)
          have hc := HQc.out k hkP
          rw [Hp.out] at hc
          obtain ⟨c, Hc⟩ : ∃ c, Hid (partB p = c) := ⟨_, Lib.hid rfl⟩
          have HCp := Lib.hid (fun w => RefPart_any p w (by omega))
          rw [Hc.out] at HCp
          cases c
          · have HR2 : Hid (mayR s = false) := Lib.hid (by rw [HMay.out, all_no hkP (by rw [Hp.out]; exact Hc.out), Bool.false_and])
            go_wp2_with fail
            refine (HCp.out _).mono ?_
            rintro e w2 ⟨rfl, rfl⟩
            go_wp2
            go_ret
            exact ⟨ret_bool (by rw [HR2.out]), B1.out⟩
          · go_wp2_with fail
            refine (HCp.out _).mono ?_
            rintro e w2 ⟨rfl, rfl⟩
            go_wp2
            exact ⟨⟨k + 1, by omega, by go_num, Lib.hid (fun j hj hjk => by
              by_cases e : j = k
              · subst e; rw [Hp.out]; exact Hc.out
              · exact HOk.out j hj (by omega)), trivial⟩, by simp [intOf]; omega⟩
        · have HR2 : Hid (mayR s = decide (s.size - 1 ≤ 253)) := Lib.hid (by rw [HMay.out, all_yes (fun j hj => HOk.out j hj (by rw [HN.out] at hj; omega)), Bool.true_and])
          go_wp2
          go_ret
          exact ⟨ret_bool (by rw [HR2.out]; rw [Bool.eq_iff_iff, decide_eq_true_eq, decide_eq_true_eq]; omega), B1.out⟩
    · have HR2 : Hid (mayR s = false) := Lib.hid (by rw [HMay0.out, decide_eq_false h2, Bool.false_and])
      have h2I : (n : Int) < 2 := by omega
      go_enter Tryd.func11, Tryd.ntmps11
      go_wp2_with fail
      refine CB.out.mono ?_
      rintro e w1 ⟨g, cap, rfl, hcap, hg, hgl, Hcell, b1⟩
      have B1 := Lib.hid b1
      clear b1
      go_wp2_with fail
      refine (CX.out _).mono ?_
      rintro e w2 ⟨rfl, rfl⟩
      go_wp2
      go_ret
      exact ⟨ret_bool (by rw [HR2.out]), B1.out⟩

set_option maxRecDepth 100000 in
set_option maxHeartbeats 1000000 in
theorem RefCheck8_any (R : List ByteArray) (a0 : Option Addr) (b off cap : Nat) (w : World) (hT : TxAt R a0 b off w) (hn : R.length ≤ 2000000) (hz : ∀ r ∈ R, r.size ≤ 50000) :
    Calls Tryd.prog 7 #[.slice a0 R.length cap] w fun e w' => e = .returned (.bool (rulesB R)) ∧ Below w.heap.size w w' := by
  have HTx := Lib.hid hT; clear hT
  have HZ := Lib.hid hz; clear hz
  obtain ⟨n, HN⟩ : ∃ n, Hid (R.length = n) := ⟨_, Lib.hid rfl⟩
  rw [HN.out] at hn ⊢
  by_cases hbig : 1024 < n
  · have HR : Hid (rulesB R = false) := Lib.hid (by rw [rulesB, HN.out, decide_eq_false (by omega), Bool.false_and])
    have hI : (1024 : Int) < (n : Int) := by omega
    go_enter Tryd.func7, Tryd.ntmps7
    go_wp2
    go_ret
    exact ⟨ret_bool (by rw [HR.out]), Below.refl _ _⟩
  have hI : (n : Int) ≤ 1024 := by omega
  have HR : Hid (rulesB R = R.all ruleB) := Lib.hid (by rw [rulesB, HN.out, decide_eq_true (by omega), Bool.true_and])
  clear hbig
  go_enter Tryd.func7, Tryd.ntmps7
  go_wp2
  go_loopw [3] (fun i wr => ∃ k : Nat, k ≤ n ∧ i = .int .i64 k ∧ Hid (Below w.heap.size w wr) ∧ Hid (∀ j (h : j < R.length), j < k → ruleB R[j] = true)) (fun i _ => n - (intOf i).toNat)
  case atStart => exact ⟨0, Nat.zero_le _, rfl, Lib.hid (Below.refl _ _), Lib.hid (fun _ _ h => absurd h (Nat.not_lt_zero _))⟩
  case round =>
    obtain ⟨k, hk, rfl, HB, HOk⟩ := hrel
    by_cases hlt : k < n
    · have hkP : k < R.length := by rw [HN.out]; exact hlt
      obtain ⟨p, Hp⟩ : ∃ p, Hid (R[k] = p) := ⟨_, Lib.hid rfl⟩
      have hps : p.size ≤ 50000 := by rw [← Hp.out]; exact HZ.out _ (List.getElem_mem hkP)
      have hc : wr.cell? ⟨b, off + k, none⟩ = some (.string p) := by rw [← Hp.out]; exact (HTx.out.later HB.out).cell k hkP
      have ha : a0 = some ⟨b, off, none⟩ := HTx.out.at0 (by omega)
      subst ha
      obtain ⟨c, Hc⟩ : ∃ c, Hid (ruleB p = c) := ⟨_, Lib.hid rfl⟩
      have HCp := Lib.hid (fun w => RefMay_any p w (by omega))
      rw [Hc.out] at HCp
      cases c
      · have HR2 : Hid (rulesB R = false) := Lib.hid (by rw [HR.out]; exact all_no hkP (by rw [Hp.out]; exact Hc.out))
        go_wp2_with fail
        refine (HCp.out _).mono ?_
        rintro e w1 ⟨rfl, b1⟩
        have B1 : Hid (Below w.heap.size w w1) := Lib.hid (keepW HB.out b1)
        clear b1 hc
        go_wp2
        go_ret
        exact ⟨ret_bool (by rw [HR2.out]), B1.out⟩
      · go_wp2_with fail
        refine (HCp.out _).mono ?_
        rintro e w1 ⟨rfl, b1⟩
        have B1 : Hid (Below w.heap.size w w1) := Lib.hid (keepW HB.out b1)
        clear b1 hc
        go_wp2
        exact ⟨⟨k + 1, by omega, by go_num, B1, Lib.hid (fun j hj hjk => by
          by_cases e : j = k
          · subst e; rw [Hp.out]; exact Hc.out
          · exact HOk.out j hj (by omega))⟩, by simp [intOf]; omega⟩
    · have HR2 : Hid (rulesB R = true) := Lib.hid (by rw [HR.out]; exact all_yes (fun j hj => HOk.out j hj (by rw [HN.out] at hj; omega)))
      go_wp2
      go_ret
      exact ⟨ret_bool (by rw [HR2.out]), HB.out⟩

end Go.Proofs.YtdifdikfgkiocaaDoor
namespace Go.Proofs.YtdifdikfgkiocaaDoor
open Go.RowKit

end Go.Proofs.YtdifdikfgkiocaaDoor
namespace Go.Proofs.YtdifdikfgkiocaaDoor
open Go.RowKit

end Go.Proofs.YtdifdikfgkiocaaDoor
namespace Go.Proofs.YtdifdikfgkiocaaDoor
open Go.RowKit

end Go.Proofs.YtdifdikfgkiocaaDoor
