/-
  The walk of SuffixMay.
-/
import Derived.Test.YtdifdikfgkiocaaGreatDoorSxL
import Derived.Test.YtdifdikfgkiocaaGreatDoorSxN
import Derived.RegionTactic
namespace Go.Proofs.YtdifdikfgkiocaaGreatDoor
open Go.RowKit

theorem tkJ_more (L : List ByteArray) (k : Nat) (h : k < L.length) (hk : 0 < k) : dotJ (L.take (max (k + 1) 1)) = dotJ (L.take (max k 1)) ++ ⟨#[46]⟩ ++ L[k] := by
  rw [show max (k + 1) 1 = k + 1 by omega, show max k 1 = k by omega]; exact tkJ_succ L k h hk
theorem all_take {f : ByteArray → Bool} (L : List ByteArray) (k : Nat) (h : k < L.length) : (L.take (k + 1)).all f = ((L.take k).all f && f L[k]) := by
  rw [List.take_succ_eq_append_getElem h, List.all_append, List.all_cons, List.all_nil, Bool.and_true]
theorem all_bytes (x : ByteArray) (j : Nat) (h : j < x.size) : (x.data.toList.take (j + 1)).all sgnB = ((x.data.toList.take j).all sgnB && sgnB x[j]) := by
  rw [take_snoc x j h, List.all_append, List.all_cons, List.all_nil, Bool.and_true]
theorem ret_eqb {a b : Bool} (h : a = b) : Ending.returned (.bool (a == b)) = .returned (.bool true) := by rw [h]; simp
set_option maxRecDepth 100000 in
set_option maxHeartbeats 4000000 in
theorem smay_walk (L : List ByteArray) (a0 : Option Addr) (b off cap : Nat) (w : World) (hT : TxAt L a0 b off w) (hn : L.length ≤ 140737488355328) (hs : ∀ x ∈ L, x.size ≤ 140737488355328) (hW : Hw w) :
    Calls Tryz.prog 9 #[.slice a0 L.length cap] w fun e w' => e = .returned (.bool true) ∧ Below w.heap.size w w' := by
  have HW := Lib.hid hW; clear hW
  have HTx := Lib.hid hT; clear hT
  obtain ⟨n, HN⟩ : ∃ n, Hid (L.length = n) := ⟨_, Lib.hid rfl⟩
  have back : ∀ W1, Below w.heap.size w W1 → Calls Tryz.prog 17 #[] W1 fun e w' => e = .returned (.bool true) ∧ Below W1.heap.size W1 w' := fun W1 h => alive8_any W1 (HW.out.later h)
  have HBk := Lib.hid back; clear back
  by_cases hout : n = 0 ∨ 10 < n
  · rw [HN.out] at hn ⊢
    rcases hout with h0 | h20
    · subst h0
      go_enter Tryz.func9, Tryz.ntmps9
      go_wp2_with fail
      refine (HBk.out _ (Below.refl _ _)).mono ?_
      rintro e w1 ⟨rfl, b1⟩
      have Z1 : Hid (Below w.heap.size w w1) := Lib.hid b1
      clear b1
      go_wp2_with fail
      refine (HBk.out _ Z1.out).mono ?_
      rintro e w2 ⟨rfl, b2⟩
      have Z2 : Hid (Below w.heap.size w w2) := Lib.hid (keepW Z1.out b2)
      clear b2
      go_wp2
      go_ret
      exact ⟨rfl, Z2.out⟩
    · have hI : (10 : Int) < (n : Int) := by omega
      have hI0 : ((n : Int) == 0) = false := beq_eq_false_iff_ne.2 (by omega)
      go_enter Tryz.func9, Tryz.ntmps9
      go_wp2_with fail
      refine (HBk.out _ (Below.refl _ _)).mono ?_
      rintro e w1 ⟨rfl, b1⟩
      have Z1 : Hid (Below w.heap.size w w1) := Lib.hid b1
      clear b1
      go_wp2_with fail
      refine (HBk.out _ Z1.out).mono ?_
      rintro e w2 ⟨rfl, b2⟩
      have Z2 : Hid (Below w.heap.size w w2) := Lib.hid (keepW Z1.out b2)
      clear b2
      go_wp2
      go_ret
      exact ⟨rfl, Z2.out⟩
  have hn1 : 1 ≤ n := by omega
  have hn10 : n ≤ 10 := by omega
  have ha : a0 = some ⟨b, off, none⟩ := HTx.out.at0 (by rw [HN.out]; omega)
  subst ha
  have CT : Hid (∀ w', Below w.heap.size w w' → Calls Tryz.prog 23 #[.slice (some ⟨b, off, none⟩) n cap] w' fun e w'' => (∃ r : Nat, e = .returned (.int .i64 r) ∧ (r ≤ 1048576 → n + szL L = r)) ∧ Below w'.heap.size w' w'') := Lib.hid (fun w' hb => by
    have := TextsSz_any L (some ⟨b, off, none⟩) b off cap w' (fun _ => rfl) (HTx.out.later hb).cell (by rw [HN.out]; omega) hs
    rw [HN.out] at this
    exact this.mono fun e w'' ⟨r, h1, h2, h3⟩ => ⟨⟨r, h1, h2⟩, h3⟩)
  have hI0 : ((n : Int) == 0) = false := beq_eq_false_iff_ne.2 (by omega)
  have hI10 : (n : Int) ≤ 10 := by omega
  have hI1 : (1 : Int) ≤ (n : Int) := by omega
  rw [HN.out]
  clear hout hn hs
  go_enter Tryz.func9, Tryz.ntmps9
  go_wp2_with fail
  refine (HBk.out _ (Below.refl _ _)).mono ?_
  rintro e w1 ⟨rfl, b1⟩
  have Z1 : Hid (Below w.heap.size w w1) := Lib.hid b1
  clear b1
  go_wp2_with fail
  refine (CT.out _ Z1.out).mono ?_
  rintro e W ⟨⟨r, rfl, hr⟩, b2⟩
  have ZW : Hid (Below w.heap.size w W) := Lib.hid (keepW Z1.out b2)
  clear b2
  by_cases hbig : 200 < r
  · have hbI : (200 : Int) < (r : Int) := by omega
    clear hr
    go_wp2_with fail
    refine (HBk.out _ ZW.out).mono ?_
    rintro e w3 ⟨rfl, b3⟩
    have Z3 : Hid (Below w.heap.size w w3) := Lib.hid (keepW ZW.out b3)
    clear b3
    go_wp2
    go_ret
    exact ⟨rfl, Z3.out⟩
  have hbI : (r : Int) ≤ 200 := by omega
  have hsum := hr (by omega)
  have HSz : Hid (∀ p ∈ L, p.size ≤ 200) := Lib.hid (fun p hp => by have := szL_mem hp; omega)
  have HSum : Hid (n + szL L ≤ 200) := Lib.hid (by omega)
  have HPre : Hid (∀ k, (dotJ (L.take k)).size ≤ 200) := Lib.hid (fun k => by
    have h1 := dotJ_szL (L.take k)
    have h2 : ((L.take k).map (·.size)).sum ≤ szL L := by
      have e : szL L = ((L.take k).map (·.size)).sum + ((L.drop k).map (·.size)).sum := by
        rw [← List.sum_append, ← List.map_append, List.take_append_drop]; rfl
      omega
    rw [List.length_take, HN.out] at h1
    have := HSum.out
    omega)
  clear hr hbig hsum
  have hL0 : 0 < L.length := by rw [HN.out]; omega
  obtain ⟨p0, Hp0⟩ : ∃ p, Hid (L[0] = p) := ⟨_, Lib.hid rfl⟩
  have hc0 : W.cell? ⟨b, off, none⟩ = some (.string p0) := by rw [← Hp0.out]; exact (HTx.out.later ZW.out).cell 0 hL0
  have HA0 : Hid (dotJ (L.take (max 0 1)) = p0) := Lib.hid (by rw [show max 0 1 = 0 + 1 from rfl, ← Hp0.out]; exact tkJ_one L hL0)
  go_wp2
  go_loop [3, 4, 5, 6, 7] (fun al my i _ _ => ∃ k : Nat, k ≤ n ∧ i = .int .i64 k ∧ al = .string (dotJ (L.take (max k 1))) ∧ my = .bool ((L.take k).all partB) ∧ Hid (∀ j (h : j < L.length), j < k → L[j] ≠ ⟨#[42]⟩ ∧ L[j].data.toList.head? ≠ some 33 ∧ ∀ c ∈ L[j].data.toList, c ≠ 46)) (fun _ _ i _ _ => n - (intOf i).toNat)
  case atStart => exact ⟨0, Nat.zero_le _, rfl, by rw [HA0.out], rfl, Lib.hid (fun _ _ h => absurd h (Nat.not_lt_zero _))⟩
  case round =>
    obtain ⟨k, hk, rfl, rfl, rfl, HOk⟩ := hrel
    by_cases hlt : k < n
    · have hkL : k < L.length := by rw [HN.out]; exact hlt
      obtain ⟨x, Hx⟩ : ∃ x, Hid (L[k] = x) := ⟨_, Lib.hid rfl⟩
      have hxs : x.size ≤ 200 := by rw [← Hx.out]; exact HSz.out _ (List.getElem_mem hkL)
      have hx : W.cell? ⟨b, off + k, none⟩ = some (.string x) := by rw [← Hx.out]; exact (HTx.out.later ZW.out).cell k hkL
      obtain ⟨A, HAa⟩ : ∃ A, Hid (dotJ (L.take (max k 1)) = A) := ⟨_, Lib.hid rfl⟩
      obtain ⟨A2, HA2⟩ : ∃ A, Hid (dotJ (L.take (max (k + 1) 1)) = A) := ⟨_, Lib.hid rfl⟩
      obtain ⟨m, HMy⟩ : ∃ m, Hid ((L.take k).all partB = m) := ⟨_, Lib.hid rfl⟩
      have hAs : A.size ≤ 200 := by rw [← HAa.out]; exact HPre.out _
      have hz1 : ¬ 9223372036854775807 < A.size + 1 := by omega
      have hz2 : ¬ 9223372036854775807 < A.size + 1 + x.size := by omega
      rw [HAa.out, HMy.out]
      have hkn : (k : Int) < (n : Int) := by omega
      have HL2 : Hid ((L.take (k + 1)).all partB = (m && partB x)) := Lib.hid (by rw [all_take L k hkL, HMy.out, Hx.out])
      have hfst : (0 < k ∧ A ++ ⟨#[46]⟩ ++ x = A2) ∨ (¬ 0 < k ∧ A = A2) := by
        by_cases hk0 : 0 < k
        · exact .inl ⟨hk0, by rw [← HA2.out, tkJ_more L k hkL hk0, HAa.out, Hx.out]⟩
        · refine .inr ⟨hk0, ?_⟩
          rw [← HA2.out, ← HAa.out, show max (k + 1) 1 = max k 1 by omega]
      rcases hfst with ⟨hk0, he⟩ | ⟨hk0, he⟩
      all_goals
        have HE := Lib.hid he
        clear he
      · have hkI : (0 : Int) < (k : Int) := by omega
        go_upto_region 10 with (fail)
        rw [HE.out]
        by_cases hst : x = ⟨#[42]⟩
        · have e1 : x.toList = [42] := by rw [hst, ByteArray.toList_eq]
          clear hst
          go_wp2
          go_ret
          exact ⟨rfl, ZW.out⟩
        have e1 : ¬ x.toList = [42] := fun e => hst (ba_of (by rw [ByteArray.toList_eq] at e; exact e))
        have e1b : (x.toList == [42]) = false := beq_eq_false_iff_ne.2 e1
        have HSt := Lib.hid hst
        clear hst
        by_cases h33 : x.data.toList.head? = some 33
        · obtain ⟨h0x, hx0⟩ : ∃ h : 0 < x.size, x[0] = 33 := by
            cases e : x.data.toList with
            | nil => rw [e] at h33; cases h33
            | cons y r =>
              have h0 : 0 < x.size := by rw [← lenB, e]; simp
              refine ⟨h0, ?_⟩
              rw [e] at h33
              have h1 : x[0] = x.data.toList[0]'(by rw [lenB]; exact h0) := rfl
              rw [h1]
              simp only [e, List.getElem_cons_zero]
              exact Option.some.inj h33
          have hxI : (0 : Int) < (x.size : Int) := by omega
          have hxv : ((x[0].toNat : Int) == 33) = true := by rw [hx0]; rfl
          clear h33 hx0
          go_wp2
          go_ret
          exact ⟨rfl, ZW.out⟩
        have HHd := Lib.hid h33
        have hgo : (∃ h : 0 < x.size, ((x[0].toNat : Int) == 33) = false) ∨ x.size = 0 := by
          by_cases h0 : 0 < x.size
          · refine .inl ⟨h0, beq_eq_false_iff_ne.2 (fun e => h33 ?_)⟩
            have h1 : x[0] = 33 := UInt8.toNat_inj.1 (by have : (33 : UInt8).toNat = 33 := rfl; omega)
            have hl := lenB x
            cases e : x.data.toList with
            | nil => rw [e] at hl; simp at hl; omega
            | cons y r =>
              have h2 : x[0] = x.data.toList[0]'(by omega) := rfl
              rw [h1] at h2
              simp only [e, List.getElem_cons_zero] at h2
              rw [← h2]; rfl
          · exact .inr (by omega)
        clear h33
        rcases hgo with ⟨h0x, hxv⟩ | h0x
        · have hxI : (0 : Int) < (x.size : Int) := by omega
          go_wp2
          go_loop [4, 6, 7] (fun my kk _ => ∃ j : Nat, j ≤ x.size ∧ kk = .int .i64 j ∧ my = .bool (m && (x.data.toList.take j).all sgnB) ∧ Hid (∀ q (h : q < x.size), q < j → x[q] ≠ 46)) (fun _ kk _ => x.size - (intOf kk).toNat)
          case atStart => exact ⟨0, Nat.zero_le _, rfl, by simp, Lib.hid (fun _ _ h => absurd h (Nat.not_lt_zero _))⟩
          case round =>
            obtain ⟨j, hj, rfl, rfl, HNo⟩ := hrel
            obtain ⟨u, HU⟩ : ∃ u, Hid ((m && (x.data.toList.take j).all sgnB) = u) := ⟨_, Lib.hid rfl⟩
            rw [HU.out]
            by_cases hj2 : j < x.size
            · by_cases h46 : x[j] = 46
              · have d46 : ((x[j].toNat : Int) == 46) = true := by rw [h46]; rfl
                clear h46
                go_wp2
                go_ret
                exact ⟨rfl, ZW.out⟩
              · have d46 : ((x[j].toNat : Int) == 46) = false := beq_eq_false_iff_ne.2 (fun e => h46 (UInt8.toNat_inj.1 (by have : (46 : UInt8).toNat = 46 := rfl; omega)))
                have HN2 : Hid (∀ q (h : q < x.size), q < j + 1 → x[q] ≠ 46) := Lib.hid (fun q hq hqj => by
                  by_cases e : q = j
                  · subst e; exact h46
                  · exact HNo.out q hq (by omega))
                have HU2 : Hid ((m && (x.data.toList.take (j + 1)).all sgnB) = (u && sgnB x[j])) := Lib.hid (by rw [all_bytes x j hj2, ← Bool.and_assoc, HU.out])
                clear h46
                cases u
                · have HU3 : Hid ((m && (x.data.toList.take (j + 1)).all sgnB) = false) := Lib.hid (by rw [HU2.out, Bool.false_and])
                  go_wp2
                  go_round
                  case rel => exact ⟨j + 1, by omega, by go_num, by rw [HU3.out]; first | done | (congr 1; simp; omega), HN2⟩
                  case measure => simp [intOf]; omega
                · obtain ⟨q, hq⟩ : ∃ q : Nat, q = x[j].toNat := ⟨_, rfl⟩
                  have hq255 : q < 256 := by rw [hq]; exact x[j].toNat_lt
                  have hqI : (x[j].toNat : Int) = (q : Int) := by rw [hq]
                  rcases (show (0 ≤ q ∧ q ≤ 44) ∨ (45 ≤ q ∧ q ≤ 45) ∨ (46 ≤ q ∧ q ≤ 47) ∨ (48 ≤ q ∧ q ≤ 57) ∨ (58 ≤ q ∧ q ≤ 96) ∨ (97 ≤ q ∧ q ≤ 122) ∨ (123 ≤ q ∧ q ≤ 255) by omega) with ⟨hq1, hq2⟩ | ⟨hq1, hq2⟩ | ⟨hq1, hq2⟩ | ⟨hq1, hq2⟩ | ⟨hq1, hq2⟩ | ⟨hq1, hq2⟩ | ⟨hq1, hq2⟩
                  · have HS : Hid (sgnB x[j] = false) := Lib.hid (by rw [sgnB_eq, ← hq]; rw [decide_eq_false (by omega), decide_eq_false (by omega), decide_eq_false (by omega)]; rfl)
                    have HU3 : Hid ((m && (x.data.toList.take (j + 1)).all sgnB) = false) := Lib.hid (by rw [HU2.out, HS.out]; rfl)
                    have c97 : (q : Int) < 97 := by omega
                    have c122 : (q : Int) ≤ 122 := by omega
                    have c48 : (q : Int) < 48 := by omega
                    have c57 : (q : Int) ≤ 57 := by omega
                    have c45 : ((q : Int) == 45) = false := beq_eq_false_iff_ne.2 (by omega)
                    clear hq1 hq2 hq
                    rw [hqI] at d46
                    go_wp2
                    go_round
                    case rel => exact ⟨j + 1, by omega, by go_num, by rw [HU3.out]; first | done | (congr 1; simp; omega), HN2⟩
                    case measure => simp [intOf]; omega
                  · have HS : Hid (sgnB x[j] = true) := Lib.hid (by rw [sgnB_eq, ← hq]; rw [decide_eq_false (by omega), decide_eq_true (show q = 45 by omega)]; rfl)
                    have HU3 : Hid ((m && (x.data.toList.take (j + 1)).all sgnB) = true) := Lib.hid (by rw [HU2.out, HS.out]; rfl)
                    have c97 : (q : Int) < 97 := by omega
                    have c122 : (q : Int) ≤ 122 := by omega
                    have c48 : (q : Int) < 48 := by omega
                    have c57 : (q : Int) ≤ 57 := by omega
                    have c45 : ((q : Int) == 45) = true := beq_iff_eq.2 (by omega)
                    clear hq1 hq2 hq
                    rw [hqI] at d46
                    go_wp2
                    go_round
                    case rel => exact ⟨j + 1, by omega, by go_num, by rw [HU3.out]; first | done | (congr 1; simp; omega), HN2⟩
                    case measure => simp [intOf]; omega
                  · have HS : Hid (sgnB x[j] = false) := Lib.hid (by rw [sgnB_eq, ← hq]; rw [decide_eq_false (by omega), decide_eq_false (by omega), decide_eq_false (by omega)]; rfl)
                    have HU3 : Hid ((m && (x.data.toList.take (j + 1)).all sgnB) = false) := Lib.hid (by rw [HU2.out, HS.out]; rfl)
                    have c97 : (q : Int) < 97 := by omega
                    have c122 : (q : Int) ≤ 122 := by omega
                    have c48 : (q : Int) < 48 := by omega
                    have c57 : (q : Int) ≤ 57 := by omega
                    have c45 : ((q : Int) == 45) = false := beq_eq_false_iff_ne.2 (by omega)
                    clear hq1 hq2 hq
                    rw [hqI] at d46
                    go_wp2
                    go_round
                    case rel => exact ⟨j + 1, by omega, by go_num, by rw [HU3.out]; first | done | (congr 1; simp; omega), HN2⟩
                    case measure => simp [intOf]; omega
                  · have HS : Hid (sgnB x[j] = true) := Lib.hid (by rw [sgnB_eq, ← hq]; rw [decide_eq_true (show 48 ≤ q ∧ q ≤ 57 by omega)]; rfl)
                    have HU3 : Hid ((m && (x.data.toList.take (j + 1)).all sgnB) = true) := Lib.hid (by rw [HU2.out, HS.out]; rfl)
                    have c97 : (q : Int) < 97 := by omega
                    have c122 : (q : Int) ≤ 122 := by omega
                    have c48 : (48 : Int) ≤ (q : Int) := by omega
                    have c57 : (q : Int) ≤ 57 := by omega
                    have c45 : ((q : Int) == 45) = false := beq_eq_false_iff_ne.2 (by omega)
                    clear hq1 hq2 hq
                    rw [hqI] at d46
                    go_wp2
                    go_round
                    case rel => exact ⟨j + 1, by omega, by go_num, by rw [HU3.out]; first | done | (congr 1; simp; omega), HN2⟩
                    case measure => simp [intOf]; omega
                  · have HS : Hid (sgnB x[j] = false) := Lib.hid (by rw [sgnB_eq, ← hq]; rw [decide_eq_false (by omega), decide_eq_false (by omega), decide_eq_false (by omega)]; rfl)
                    have HU3 : Hid ((m && (x.data.toList.take (j + 1)).all sgnB) = false) := Lib.hid (by rw [HU2.out, HS.out]; rfl)
                    have c97 : (q : Int) < 97 := by omega
                    have c122 : (q : Int) ≤ 122 := by omega
                    have c48 : (48 : Int) ≤ (q : Int) := by omega
                    have c57 : (57 : Int) < (q : Int) := by omega
                    have c45 : ((q : Int) == 45) = false := beq_eq_false_iff_ne.2 (by omega)
                    clear hq1 hq2 hq
                    rw [hqI] at d46
                    go_wp2
                    go_round
                    case rel => exact ⟨j + 1, by omega, by go_num, by rw [HU3.out]; first | done | (congr 1; simp; omega), HN2⟩
                    case measure => simp [intOf]; omega
                  · have HS : Hid (sgnB x[j] = true) := Lib.hid (by rw [sgnB_eq, ← hq]; rw [decide_eq_false (by omega), decide_eq_false (by omega), decide_eq_true (show 97 ≤ q ∧ q ≤ 122 by omega)]; rfl)
                    have HU3 : Hid ((m && (x.data.toList.take (j + 1)).all sgnB) = true) := Lib.hid (by rw [HU2.out, HS.out]; rfl)
                    have c97 : (97 : Int) ≤ (q : Int) := by omega
                    have c122 : (q : Int) ≤ 122 := by omega
                    have c48 : (48 : Int) ≤ (q : Int) := by omega
                    have c57 : (57 : Int) < (q : Int) := by omega
                    have c45 : ((q : Int) == 45) = false := beq_eq_false_iff_ne.2 (by omega)
                    clear hq1 hq2 hq
                    rw [hqI] at d46
                    go_wp2
                    go_round
                    case rel => exact ⟨j + 1, by omega, by go_num, by rw [HU3.out]; first | done | (congr 1; simp; omega), HN2⟩
                    case measure => simp [intOf]; omega
                  · have HS : Hid (sgnB x[j] = false) := Lib.hid (by rw [sgnB_eq, ← hq]; rw [decide_eq_false (by omega), decide_eq_false (by omega), decide_eq_false (by omega)]; rfl)
                    have HU3 : Hid ((m && (x.data.toList.take (j + 1)).all sgnB) = false) := Lib.hid (by rw [HU2.out, HS.out]; rfl)
                    have c97 : (97 : Int) ≤ (q : Int) := by omega
                    have c122 : (122 : Int) < (q : Int) := by omega
                    have c48 : (48 : Int) ≤ (q : Int) := by omega
                    have c57 : (57 : Int) < (q : Int) := by omega
                    have c45 : ((q : Int) == 45) = false := beq_eq_false_iff_ne.2 (by omega)
                    clear hq1 hq2 hq
                    rw [hqI] at d46
                    go_wp2
                    go_round
                    case rel => exact ⟨j + 1, by omega, by go_num, by rw [HU3.out]; first | done | (congr 1; simp; omega), HN2⟩
                    case measure => simp [intOf]; omega
            · obtain rfl : j = x.size := by omega
              have hpx : (m && partB x) = (u && (decide (0 < x.size) && decide (x.size ≤ 63))) := by
                have h1 := HU.out
                rw [List.take_of_length_le (by rw [lenB]; exact Nat.le_refl _)] at h1
                rw [partB, ← Bool.and_assoc, h1]
              have HOk2 : Hid (∀ j (h : j < L.length), j < k + 1 → L[j] ≠ ⟨#[42]⟩ ∧ L[j].data.toList.head? ≠ some 33 ∧ ∀ c ∈ L[j].data.toList, c ≠ 46) := Lib.hid (fun q hq hqk => by
                by_cases e : q = k
                · subst e
                  rw [Hx.out]
                  refine ⟨HSt.out, HHd.out, fun z hz => ?_⟩
                  obtain ⟨i, hi, rfl⟩ := List.getElem_of_mem hz
                  have hi' : i < x.size := by rw [← lenB]; exact hi
                  exact HNo.out i hi' hi'
                · exact HOk.out q hq (by omega))
              cases u
              · have HL3 : Hid ((L.take (k + 1)).all partB = false) := Lib.hid (by rw [HL2.out, hpx, Bool.false_and])
                clear hpx
                go_wp2
                go_round
                case rel => exact ⟨k + 1, by omega, by go_num, by rw [HA2.out], by rw [HL3.out]; first | done | (congr 1; simp; omega), HOk2⟩
                case measure => simp [intOf]; omega
              · by_cases g0 : 0 < x.size
                · by_cases g63 : x.size ≤ 63
                  · have HL3 : Hid ((L.take (k + 1)).all partB = true) := Lib.hid (by rw [HL2.out, hpx, decide_eq_true g0, decide_eq_true g63]; rfl)
                    have i0 : (0 : Int) < (x.size : Int) := by omega
                    have i63 : (x.size : Int) ≤ 63 := by omega
                    clear hpx
                    go_wp2
                    go_round
                    case rel => exact ⟨k + 1, by omega, by go_num, by rw [HA2.out], by rw [HL3.out]; first | done | (congr 1; simp; omega), HOk2⟩
                    case measure => simp [intOf]; omega
                  · have HL3 : Hid ((L.take (k + 1)).all partB = false) := Lib.hid (by rw [HL2.out, hpx, decide_eq_false g63, Bool.and_false, Bool.and_false])
                    have i0 : (0 : Int) < (x.size : Int) := by omega
                    have i63 : (63 : Int) < (x.size : Int) := by omega
                    clear hpx
                    go_wp2
                    go_round
                    case rel => exact ⟨k + 1, by omega, by go_num, by rw [HA2.out], by rw [HL3.out]; first | done | (congr 1; simp; omega), HOk2⟩
                    case measure => simp [intOf]; omega
                · have HL3 : Hid ((L.take (k + 1)).all partB = false) := Lib.hid (by rw [HL2.out, hpx, decide_eq_false g0, Bool.false_and, Bool.and_false])
                  have i0 : (x.size : Int) ≤ 0 := by omega
                  clear hpx
                  go_wp2
                  go_round
                  case rel => exact ⟨k + 1, by omega, by go_num, by rw [HA2.out], by rw [HL3.out]; first | done | (congr 1; simp; omega), HOk2⟩
                  case measure => simp [intOf]; omega
        · have hxI : (x.size : Int) ≤ 0 := by omega
          have hxz : x.size ≤ 0 := by omega
          clear h0x
          go_wp2
          go_loop [4, 6, 7] (fun my kk _ => ∃ j : Nat, j ≤ x.size ∧ kk = .int .i64 j ∧ my = .bool (m && (x.data.toList.take j).all sgnB) ∧ Hid (∀ q (h : q < x.size), q < j → x[q] ≠ 46)) (fun _ kk _ => x.size - (intOf kk).toNat)
          case atStart => exact ⟨0, Nat.zero_le _, rfl, by simp, Lib.hid (fun _ _ h => absurd h (Nat.not_lt_zero _))⟩
          case round =>
            obtain ⟨j, hj, rfl, rfl, HNo⟩ := hrel
            have hxz2 : x.size ≤ 0 := hxz
            obtain ⟨u, HU⟩ : ∃ u, Hid ((m && (x.data.toList.take j).all sgnB) = u) := ⟨_, Lib.hid rfl⟩
            rw [HU.out]
            by_cases hj2 : j < x.size
            · exact absurd hj2 (by omega)
            · obtain rfl : j = x.size := by omega
              have hpx : (m && partB x) = (u && (decide (0 < x.size) && decide (x.size ≤ 63))) := by
                have h1 := HU.out
                rw [List.take_of_length_le (by rw [lenB]; exact Nat.le_refl _)] at h1
                rw [partB, ← Bool.and_assoc, h1]
              have HOk2 : Hid (∀ j (h : j < L.length), j < k + 1 → L[j] ≠ ⟨#[42]⟩ ∧ L[j].data.toList.head? ≠ some 33 ∧ ∀ c ∈ L[j].data.toList, c ≠ 46) := Lib.hid (fun q hq hqk => by
                by_cases e : q = k
                · subst e
                  rw [Hx.out]
                  refine ⟨HSt.out, HHd.out, fun z hz => ?_⟩
                  obtain ⟨i, hi, rfl⟩ := List.getElem_of_mem hz
                  have hi' : i < x.size := by rw [← lenB]; exact hi
                  exact HNo.out i hi' hi'
                · exact HOk.out q hq (by omega))
              cases u
              · have HL3 : Hid ((L.take (k + 1)).all partB = false) := Lib.hid (by rw [HL2.out, hpx, Bool.false_and])
                clear hpx
                go_wp2
                go_round
                case rel => exact ⟨k + 1, by omega, by go_num, by rw [HA2.out], by rw [HL3.out]; first | done | (congr 1; simp; omega), HOk2⟩
                case measure => simp [intOf]; omega
              · have g0 : ¬ 0 < x.size := by omega
                have HL3 : Hid ((L.take (k + 1)).all partB = false) := Lib.hid (by rw [HL2.out, hpx, decide_eq_false g0, Bool.false_and, Bool.and_false])
                have i0 : (x.size : Int) ≤ 0 := by omega
                clear hpx
                go_wp2
                go_round
                case rel => exact ⟨k + 1, by omega, by go_num, by rw [HA2.out], by rw [HL3.out]; first | done | (congr 1; simp; omega), HOk2⟩
                case measure => simp [intOf]; omega
      · have hkI : (k : Int) ≤ 0 := by omega
        go_upto_region 10 with (fail)
        rw [HE.out]
        by_cases hst : x = ⟨#[42]⟩
        · have e1 : x.toList = [42] := by rw [hst, ByteArray.toList_eq]
          clear hst
          go_wp2
          go_ret
          exact ⟨rfl, ZW.out⟩
        have e1 : ¬ x.toList = [42] := fun e => hst (ba_of (by rw [ByteArray.toList_eq] at e; exact e))
        have e1b : (x.toList == [42]) = false := beq_eq_false_iff_ne.2 e1
        have HSt := Lib.hid hst
        clear hst
        by_cases h33 : x.data.toList.head? = some 33
        · obtain ⟨h0x, hx0⟩ : ∃ h : 0 < x.size, x[0] = 33 := by
            cases e : x.data.toList with
            | nil => rw [e] at h33; cases h33
            | cons y r =>
              have h0 : 0 < x.size := by rw [← lenB, e]; simp
              refine ⟨h0, ?_⟩
              rw [e] at h33
              have h1 : x[0] = x.data.toList[0]'(by rw [lenB]; exact h0) := rfl
              rw [h1]
              simp only [e, List.getElem_cons_zero]
              exact Option.some.inj h33
          have hxI : (0 : Int) < (x.size : Int) := by omega
          have hxv : ((x[0].toNat : Int) == 33) = true := by rw [hx0]; rfl
          clear h33 hx0
          go_wp2
          go_ret
          exact ⟨rfl, ZW.out⟩
        have HHd := Lib.hid h33
        have hgo : (∃ h : 0 < x.size, ((x[0].toNat : Int) == 33) = false) ∨ x.size = 0 := by
          by_cases h0 : 0 < x.size
          · refine .inl ⟨h0, beq_eq_false_iff_ne.2 (fun e => h33 ?_)⟩
            have h1 : x[0] = 33 := UInt8.toNat_inj.1 (by have : (33 : UInt8).toNat = 33 := rfl; omega)
            have hl := lenB x
            cases e : x.data.toList with
            | nil => rw [e] at hl; simp at hl; omega
            | cons y r =>
              have h2 : x[0] = x.data.toList[0]'(by omega) := rfl
              rw [h1] at h2
              simp only [e, List.getElem_cons_zero] at h2
              rw [← h2]; rfl
          · exact .inr (by omega)
        clear h33
        rcases hgo with ⟨h0x, hxv⟩ | h0x
        · have hxI : (0 : Int) < (x.size : Int) := by omega
          go_wp2
          go_loop [4, 6, 7] (fun my kk _ => ∃ j : Nat, j ≤ x.size ∧ kk = .int .i64 j ∧ my = .bool (m && (x.data.toList.take j).all sgnB) ∧ Hid (∀ q (h : q < x.size), q < j → x[q] ≠ 46)) (fun _ kk _ => x.size - (intOf kk).toNat)
          case atStart => exact ⟨0, Nat.zero_le _, rfl, by simp, Lib.hid (fun _ _ h => absurd h (Nat.not_lt_zero _))⟩
          case round =>
            obtain ⟨j, hj, rfl, rfl, HNo⟩ := hrel
            obtain ⟨u, HU⟩ : ∃ u, Hid ((m && (x.data.toList.take j).all sgnB) = u) := ⟨_, Lib.hid rfl⟩
            rw [HU.out]
            by_cases hj2 : j < x.size
            · by_cases h46 : x[j] = 46
              · have d46 : ((x[j].toNat : Int) == 46) = true := by rw [h46]; rfl
                clear h46
                go_wp2
                go_ret
                exact ⟨rfl, ZW.out⟩
              · have d46 : ((x[j].toNat : Int) == 46) = false := beq_eq_false_iff_ne.2 (fun e => h46 (UInt8.toNat_inj.1 (by have : (46 : UInt8).toNat = 46 := rfl; omega)))
                have HN2 : Hid (∀ q (h : q < x.size), q < j + 1 → x[q] ≠ 46) := Lib.hid (fun q hq hqj => by
                  by_cases e : q = j
                  · subst e; exact h46
                  · exact HNo.out q hq (by omega))
                have HU2 : Hid ((m && (x.data.toList.take (j + 1)).all sgnB) = (u && sgnB x[j])) := Lib.hid (by rw [all_bytes x j hj2, ← Bool.and_assoc, HU.out])
                clear h46
                cases u
                · have HU3 : Hid ((m && (x.data.toList.take (j + 1)).all sgnB) = false) := Lib.hid (by rw [HU2.out, Bool.false_and])
                  go_wp2
                  go_round
                  case rel => exact ⟨j + 1, by omega, by go_num, by rw [HU3.out]; first | done | (congr 1; simp; omega), HN2⟩
                  case measure => simp [intOf]; omega
                · obtain ⟨q, hq⟩ : ∃ q : Nat, q = x[j].toNat := ⟨_, rfl⟩
                  have hq255 : q < 256 := by rw [hq]; exact x[j].toNat_lt
                  have hqI : (x[j].toNat : Int) = (q : Int) := by rw [hq]
                  rcases (show (0 ≤ q ∧ q ≤ 44) ∨ (45 ≤ q ∧ q ≤ 45) ∨ (46 ≤ q ∧ q ≤ 47) ∨ (48 ≤ q ∧ q ≤ 57) ∨ (58 ≤ q ∧ q ≤ 96) ∨ (97 ≤ q ∧ q ≤ 122) ∨ (123 ≤ q ∧ q ≤ 255) by omega) with ⟨hq1, hq2⟩ | ⟨hq1, hq2⟩ | ⟨hq1, hq2⟩ | ⟨hq1, hq2⟩ | ⟨hq1, hq2⟩ | ⟨hq1, hq2⟩ | ⟨hq1, hq2⟩
                  · have HS : Hid (sgnB x[j] = false) := Lib.hid (by rw [sgnB_eq, ← hq]; rw [decide_eq_false (by omega), decide_eq_false (by omega), decide_eq_false (by omega)]; rfl)
                    have HU3 : Hid ((m && (x.data.toList.take (j + 1)).all sgnB) = false) := Lib.hid (by rw [HU2.out, HS.out]; rfl)
                    have c97 : (q : Int) < 97 := by omega
                    have c122 : (q : Int) ≤ 122 := by omega
                    have c48 : (q : Int) < 48 := by omega
                    have c57 : (q : Int) ≤ 57 := by omega
                    have c45 : ((q : Int) == 45) = false := beq_eq_false_iff_ne.2 (by omega)
                    clear hq1 hq2 hq
                    rw [hqI] at d46
                    go_wp2
                    go_round
                    case rel => exact ⟨j + 1, by omega, by go_num, by rw [HU3.out]; first | done | (congr 1; simp; omega), HN2⟩
                    case measure => simp [intOf]; omega
                  · have HS : Hid (sgnB x[j] = true) := Lib.hid (by rw [sgnB_eq, ← hq]; rw [decide_eq_false (by omega), decide_eq_true (show q = 45 by omega)]; rfl)
                    have HU3 : Hid ((m && (x.data.toList.take (j + 1)).all sgnB) = true) := Lib.hid (by rw [HU2.out, HS.out]; rfl)
                    have c97 : (q : Int) < 97 := by omega
                    have c122 : (q : Int) ≤ 122 := by omega
                    have c48 : (q : Int) < 48 := by omega
                    have c57 : (q : Int) ≤ 57 := by omega
                    have c45 : ((q : Int) == 45) = true := beq_iff_eq.2 (by omega)
                    clear hq1 hq2 hq
                    rw [hqI] at d46
                    go_wp2
                    go_round
                    case rel => exact ⟨j + 1, by omega, by go_num, by rw [HU3.out]; first | done | (congr 1; simp; omega), HN2⟩
                    case measure => simp [intOf]; omega
                  · have HS : Hid (sgnB x[j] = false) := Lib.hid (by rw [sgnB_eq, ← hq]; rw [decide_eq_false (by omega), decide_eq_false (by omega), decide_eq_false (by omega)]; rfl)
                    have HU3 : Hid ((m && (x.data.toList.take (j + 1)).all sgnB) = false) := Lib.hid (by rw [HU2.out, HS.out]; rfl)
                    have c97 : (q : Int) < 97 := by omega
                    have c122 : (q : Int) ≤ 122 := by omega
                    have c48 : (q : Int) < 48 := by omega
                    have c57 : (q : Int) ≤ 57 := by omega
                    have c45 : ((q : Int) == 45) = false := beq_eq_false_iff_ne.2 (by omega)
                    clear hq1 hq2 hq
                    rw [hqI] at d46
                    go_wp2
                    go_round
                    case rel => exact ⟨j + 1, by omega, by go_num, by rw [HU3.out]; first | done | (congr 1; simp; omega), HN2⟩
                    case measure => simp [intOf]; omega
                  · have HS : Hid (sgnB x[j] = true) := Lib.hid (by rw [sgnB_eq, ← hq]; rw [decide_eq_true (show 48 ≤ q ∧ q ≤ 57 by omega)]; rfl)
                    have HU3 : Hid ((m && (x.data.toList.take (j + 1)).all sgnB) = true) := Lib.hid (by rw [HU2.out, HS.out]; rfl)
                    have c97 : (q : Int) < 97 := by omega
                    have c122 : (q : Int) ≤ 122 := by omega
                    have c48 : (48 : Int) ≤ (q : Int) := by omega
                    have c57 : (q : Int) ≤ 57 := by omega
                    have c45 : ((q : Int) == 45) = false := beq_eq_false_iff_ne.2 (by omega)
                    clear hq1 hq2 hq
                    rw [hqI] at d46
                    go_wp2
                    go_round
                    case rel => exact ⟨j + 1, by omega, by go_num, by rw [HU3.out]; first | done | (congr 1; simp; omega), HN2⟩
                    case measure => simp [intOf]; omega
                  · have HS : Hid (sgnB x[j] = false) := Lib.hid (by rw [sgnB_eq, ← hq]; rw [decide_eq_false (by omega), decide_eq_false (by omega), decide_eq_false (by omega)]; rfl)
                    have HU3 : Hid ((m && (x.data.toList.take (j + 1)).all sgnB) = false) := Lib.hid (by rw [HU2.out, HS.out]; rfl)
                    have c97 : (q : Int) < 97 := by omega
                    have c122 : (q : Int) ≤ 122 := by omega
                    have c48 : (48 : Int) ≤ (q : Int) := by omega
                    have c57 : (57 : Int) < (q : Int) := by omega
                    have c45 : ((q : Int) == 45) = false := beq_eq_false_iff_ne.2 (by omega)
                    clear hq1 hq2 hq
                    rw [hqI] at d46
                    go_wp2
                    go_round
                    case rel => exact ⟨j + 1, by omega, by go_num, by rw [HU3.out]; first | done | (congr 1; simp; omega), HN2⟩
                    case measure => simp [intOf]; omega
                  · have HS : Hid (sgnB x[j] = true) := Lib.hid (by rw [sgnB_eq, ← hq]; rw [decide_eq_false (by omega), decide_eq_false (by omega), decide_eq_true (show 97 ≤ q ∧ q ≤ 122 by omega)]; rfl)
                    have HU3 : Hid ((m && (x.data.toList.take (j + 1)).all sgnB) = true) := Lib.hid (by rw [HU2.out, HS.out]; rfl)
                    have c97 : (97 : Int) ≤ (q : Int) := by omega
                    have c122 : (q : Int) ≤ 122 := by omega
                    have c48 : (48 : Int) ≤ (q : Int) := by omega
                    have c57 : (57 : Int) < (q : Int) := by omega
                    have c45 : ((q : Int) == 45) = false := beq_eq_false_iff_ne.2 (by omega)
                    clear hq1 hq2 hq
                    rw [hqI] at d46
                    go_wp2
                    go_round
                    case rel => exact ⟨j + 1, by omega, by go_num, by rw [HU3.out]; first | done | (congr 1; simp; omega), HN2⟩
                    case measure => simp [intOf]; omega
                  · have HS : Hid (sgnB x[j] = false) := Lib.hid (by rw [sgnB_eq, ← hq]; rw [decide_eq_false (by omega), decide_eq_false (by omega), decide_eq_false (by omega)]; rfl)
                    have HU3 : Hid ((m && (x.data.toList.take (j + 1)).all sgnB) = false) := Lib.hid (by rw [HU2.out, HS.out]; rfl)
                    have c97 : (97 : Int) ≤ (q : Int) := by omega
                    have c122 : (122 : Int) < (q : Int) := by omega
                    have c48 : (48 : Int) ≤ (q : Int) := by omega
                    have c57 : (57 : Int) < (q : Int) := by omega
                    have c45 : ((q : Int) == 45) = false := beq_eq_false_iff_ne.2 (by omega)
                    clear hq1 hq2 hq
                    rw [hqI] at d46
                    go_wp2
                    go_round
                    case rel => exact ⟨j + 1, by omega, by go_num, by rw [HU3.out]; first | done | (congr 1; simp; omega), HN2⟩
                    case measure => simp [intOf]; omega
            · obtain rfl : j = x.size := by omega
              have hpx : (m && partB x) = (u && (decide (0 < x.size) && decide (x.size ≤ 63))) := by
                have h1 := HU.out
                rw [List.take_of_length_le (by rw [lenB]; exact Nat.le_refl _)] at h1
                rw [partB, ← Bool.and_assoc, h1]
              have HOk2 : Hid (∀ j (h : j < L.length), j < k + 1 → L[j] ≠ ⟨#[42]⟩ ∧ L[j].data.toList.head? ≠ some 33 ∧ ∀ c ∈ L[j].data.toList, c ≠ 46) := Lib.hid (fun q hq hqk => by
                by_cases e : q = k
                · subst e
                  rw [Hx.out]
                  refine ⟨HSt.out, HHd.out, fun z hz => ?_⟩
                  obtain ⟨i, hi, rfl⟩ := List.getElem_of_mem hz
                  have hi' : i < x.size := by rw [← lenB]; exact hi
                  exact HNo.out i hi' hi'
                · exact HOk.out q hq (by omega))
              cases u
              · have HL3 : Hid ((L.take (k + 1)).all partB = false) := Lib.hid (by rw [HL2.out, hpx, Bool.false_and])
                clear hpx
                go_wp2
                go_round
                case rel => exact ⟨k + 1, by omega, by go_num, by rw [HA2.out], by rw [HL3.out]; first | done | (congr 1; simp; omega), HOk2⟩
                case measure => simp [intOf]; omega
              · by_cases g0 : 0 < x.size
                · by_cases g63 : x.size ≤ 63
                  · have HL3 : Hid ((L.take (k + 1)).all partB = true) := Lib.hid (by rw [HL2.out, hpx, decide_eq_true g0, decide_eq_true g63]; rfl)
                    have i0 : (0 : Int) < (x.size : Int) := by omega
                    have i63 : (x.size : Int) ≤ 63 := by omega
                    clear hpx
                    go_wp2
                    go_round
                    case rel => exact ⟨k + 1, by omega, by go_num, by rw [HA2.out], by rw [HL3.out]; first | done | (congr 1; simp; omega), HOk2⟩
                    case measure => simp [intOf]; omega
                  · have HL3 : Hid ((L.take (k + 1)).all partB = false) := Lib.hid (by rw [HL2.out, hpx, decide_eq_false g63, Bool.and_false, Bool.and_false])
                    have i0 : (0 : Int) < (x.size : Int) := by omega
                    have i63 : (63 : Int) < (x.size : Int) := by omega
                    clear hpx
                    go_wp2
                    go_round
                    case rel => exact ⟨k + 1, by omega, by go_num, by rw [HA2.out], by rw [HL3.out]; first | done | (congr 1; simp; omega), HOk2⟩
                    case measure => simp [intOf]; omega
                · have HL3 : Hid ((L.take (k + 1)).all partB = false) := Lib.hid (by rw [HL2.out, hpx, decide_eq_false g0, Bool.false_and, Bool.and_false])
                  have i0 : (x.size : Int) ≤ 0 := by omega
                  clear hpx
                  go_wp2
                  go_round
                  case rel => exact ⟨k + 1, by omega, by go_num, by rw [HA2.out], by rw [HL3.out]; first | done | (congr 1; simp; omega), HOk2⟩
                  case measure => simp [intOf]; omega
        · have hxI : (x.size : Int) ≤ 0 := by omega
          have hxz : x.size ≤ 0 := by omega
          clear h0x
          go_wp2
          go_loop [4, 6, 7] (fun my kk _ => ∃ j : Nat, j ≤ x.size ∧ kk = .int .i64 j ∧ my = .bool (m && (x.data.toList.take j).all sgnB) ∧ Hid (∀ q (h : q < x.size), q < j → x[q] ≠ 46)) (fun _ kk _ => x.size - (intOf kk).toNat)
          case atStart => exact ⟨0, Nat.zero_le _, rfl, by simp, Lib.hid (fun _ _ h => absurd h (Nat.not_lt_zero _))⟩
          case round =>
            obtain ⟨j, hj, rfl, rfl, HNo⟩ := hrel
            have hxz2 : x.size ≤ 0 := hxz
            obtain ⟨u, HU⟩ : ∃ u, Hid ((m && (x.data.toList.take j).all sgnB) = u) := ⟨_, Lib.hid rfl⟩
            rw [HU.out]
            by_cases hj2 : j < x.size
            · exact absurd hj2 (by omega)
            · obtain rfl : j = x.size := by omega
              have hpx : (m && partB x) = (u && (decide (0 < x.size) && decide (x.size ≤ 63))) := by
                have h1 := HU.out
                rw [List.take_of_length_le (by rw [lenB]; exact Nat.le_refl _)] at h1
                rw [partB, ← Bool.and_assoc, h1]
              have HOk2 : Hid (∀ j (h : j < L.length), j < k + 1 → L[j] ≠ ⟨#[42]⟩ ∧ L[j].data.toList.head? ≠ some 33 ∧ ∀ c ∈ L[j].data.toList, c ≠ 46) := Lib.hid (fun q hq hqk => by
                by_cases e : q = k
                · subst e
                  rw [Hx.out]
                  refine ⟨HSt.out, HHd.out, fun z hz => ?_⟩
                  obtain ⟨i, hi, rfl⟩ := List.getElem_of_mem hz
                  have hi' : i < x.size := by rw [← lenB]; exact hi
                  exact HNo.out i hi' hi'
                · exact HOk.out q hq (by omega))
              cases u
              · have HL3 : Hid ((L.take (k + 1)).all partB = false) := Lib.hid (by rw [HL2.out, hpx, Bool.false_and])
                clear hpx
                go_wp2
                go_round
                case rel => exact ⟨k + 1, by omega, by go_num, by rw [HA2.out], by rw [HL3.out]; first | done | (congr 1; simp; omega), HOk2⟩
                case measure => simp [intOf]; omega
              · have g0 : ¬ 0 < x.size := by omega
                have HL3 : Hid ((L.take (k + 1)).all partB = false) := Lib.hid (by rw [HL2.out, hpx, decide_eq_false g0, Bool.false_and, Bool.and_false])
                have i0 : (x.size : Int) ≤ 0 := by omega
                clear hpx
                go_wp2
                go_round
                case rel => exact ⟨k + 1, by omega, by go_num, by rw [HA2.out], by rw [HL3.out]; first | done | (congr 1; simp; omega), HOk2⟩
                case measure => simp [intOf]; omega
    · obtain rfl : k = n := by omega
      have hLne : L ≠ [] := List.ne_nil_of_length_pos hL0
      have hT1 : L.take (max k 1) = L := List.take_of_length_le (by rw [HN.out]; omega)
      have hT2 : L.take k = L := List.take_of_length_le (by rw [HN.out]; exact Nat.le_refl _)
      obtain ⟨A, HAa⟩ : ∃ A, Hid (dotJ L = A) := ⟨_, Lib.hid rfl⟩
      obtain ⟨u, HU⟩ : ∃ u, Hid (L.all partB = u) := ⟨_, Lib.hid rfl⟩
      have hAs : A.size ≤ 200 := by have := HPre.out k; rwa [hT2, HAa.out] at this
      obtain ⟨f1, f2, f3, f4, f5⟩ := may_facts hLne (fun x hx => by
        obtain ⟨j, hj, rfl⟩ := List.getElem_of_mem hx
        exact HOk.out j hj (by rw [HN.out] at hj; exact hj)) (by rw [HAa.out]; omega)
      rw [HAa.out, HU.out] at f1 f2
      rw [HAa.out, HU.out, HN.out] at f3
      rw [HAa.out] at f4 f5
      have CK : Hid (∀ (s : ByteArray) (r : Bool) (V : World), s.size ≤ 50000 → ruleB s = r → Below w.heap.size w V → Calls Tryz.prog 24 #[.slice (some ⟨V.heap.size, 0, none⟩) 1 1] (V.alloc (.cells #[.string s] 9)) fun e w' => e = .returned (.bool r) ∧ Below V.heap.size V w') := Lib.hid (fun s r V hs hr hb => by
        have hba : Below V.heap.size V (V.alloc (.cells #[.string s] 9)) := (Below.refl _ _).alloc (Nat.le_refl _) _
        obtain ⟨m, hm⟩ := (HW.out.later (keepW hb hba)).ml
        have := Check_any [s] (some ⟨V.heap.size, 0, none⟩) V.heap.size 0 1 m _ ⟨fun _ => rfl, fun j hj => by
          have hj' : j < 1 := hj
          obtain rfl : j = 0 := by omega
          rw [cell_of_row _ _ _ _ _ _ (heap_alloc_new V _)]; rfl⟩ (by show 1 ≤ 2000000; omega) (fun x hx => by rw [List.mem_singleton] at hx; rw [hx]; exact hs) hm
        have hR : rulesB [s] = r := by rw [rulesB, List.all_cons, List.all_nil, hr, Bool.and_true]; rfl
        rw [hR] at this
        exact this.mono fun e w' ⟨h1, h2⟩ => ⟨h1, keepW hba h2⟩)
      have s1 : ¬ 9223372036854775807 < 2 + A.size := by omega
      have s2 : ¬ 9223372036854775807 < 1 + A.size := by omega
      have s3 : ¬ 9223372036854775807 < 3 + A.size := by omega
      have s4 : ¬ 9223372036854775807 < A.size + 2 := by omega
      have HF1 := Lib.hid f1; have HF2 := Lib.hid f2; have HF3 := Lib.hid f3; have HF4 := Lib.hid f4; have HF5 := Lib.hid f5
      have y2 : ((⟨#[42, 46]⟩ : ByteArray) ++ A).size ≤ 50000 := by rw [ByteArray.size_append]; show 2 + A.size ≤ _; omega
      have y3 : ((⟨#[33]⟩ : ByteArray) ++ A).size ≤ 50000 := by rw [ByteArray.size_append]; show 1 + A.size ≤ _; omega
      have y4 : ((⟨#[33, 42, 46]⟩ : ByteArray) ++ A).size ≤ 50000 := by rw [ByteArray.size_append]; show 3 + A.size ≤ _; omega
      have y5 : (A ++ (⟨#[46, 42]⟩ : ByteArray)).size ≤ 50000 := by rw [ByteArray.size_append]; show A.size + 2 ≤ _; omega
      rw [hT1, hT2, HAa.out, HU.out]
      clear f1 f2 f3 f4 f5 hT1 hT2 hLne
      have hcase : u = false ∨ (u = true ∧ 1 < k) ∨ (u = true ∧ ¬ 1 < k) := by
        cases u
        · exact .inl rfl
        · by_cases h : 1 < k
          · exact .inr (.inl ⟨rfl, h⟩)
          · exact .inr (.inr ⟨rfl, h⟩)
      rcases hcase with rfl | ⟨rfl, h1⟩ | ⟨rfl, h1⟩
      · have G3 : Hid (ruleB (⟨#[33]⟩ ++ A) = false) := Lib.hid (by rw [HF3.out]; rfl)
        go_wp2_with fail
        refine (CK.out _ _ W (by omega) HF1.out ZW.out).mono ?_
        rintro e v0 ⟨rfl, b0⟩
        have V0 : Hid (Below w.heap.size w v0) := Lib.hid (keepW ZW.out b0)
        clear b0
        go_wp2_with fail
        refine (CK.out _ _ v0 y2 HF2.out V0.out).mono ?_
        rintro e v1 ⟨rfl, b1⟩
        have V1 : Hid (Below w.heap.size w v1) := Lib.hid (keepW V0.out b1)
        clear b1
        go_wp2_with fail
        refine (CK.out _ _ v1 y3 G3.out V1.out).mono ?_
        rintro e v2 ⟨rfl, b2⟩
        have V2 : Hid (Below w.heap.size w v2) := Lib.hid (keepW V1.out b2)
        clear b2
        go_wp2_with fail
        refine (CK.out _ _ v2 y4 HF4.out V2.out).mono ?_
        rintro e v3 ⟨rfl, b3⟩
        have V3 : Hid (Below w.heap.size w v3) := Lib.hid (keepW V2.out b3)
        clear b3
        go_wp2_with fail
        refine (CK.out _ _ v3 y5 HF5.out V3.out).mono ?_
        rintro e v4 ⟨rfl, b4⟩
        have V4 : Hid (Below w.heap.size w v4) := Lib.hid (keepW V3.out b4)
        clear b4
        go_wp2
        go_ret
        exact ⟨ret_bool (by simp), V4.out⟩
      · have G3 : Hid (ruleB (⟨#[33]⟩ ++ A) = true) := Lib.hid (by rw [HF3.out, decide_eq_true h1]; rfl)
        have hI2 : (1 : Int) < (k : Int) := by omega
        go_wp2_with fail
        refine (CK.out _ _ W (by omega) HF1.out ZW.out).mono ?_
        rintro e v0 ⟨rfl, b0⟩
        have V0 : Hid (Below w.heap.size w v0) := Lib.hid (keepW ZW.out b0)
        clear b0
        go_wp2_with fail
        refine (CK.out _ _ v0 y2 HF2.out V0.out).mono ?_
        rintro e v1 ⟨rfl, b1⟩
        have V1 : Hid (Below w.heap.size w v1) := Lib.hid (keepW V0.out b1)
        clear b1
        go_wp2_with fail
        refine (CK.out _ _ v1 y3 G3.out V1.out).mono ?_
        rintro e v2 ⟨rfl, b2⟩
        have V2 : Hid (Below w.heap.size w v2) := Lib.hid (keepW V1.out b2)
        clear b2
        go_wp2_with fail
        refine (CK.out _ _ v2 y4 HF4.out V2.out).mono ?_
        rintro e v3 ⟨rfl, b3⟩
        have V3 : Hid (Below w.heap.size w v3) := Lib.hid (keepW V2.out b3)
        clear b3
        go_wp2_with fail
        refine (CK.out _ _ v3 y5 HF5.out V3.out).mono ?_
        rintro e v4 ⟨rfl, b4⟩
        have V4 : Hid (Below w.heap.size w v4) := Lib.hid (keepW V3.out b4)
        clear b4
        go_wp2
        go_ret
        exact ⟨ret_bool (by simp), V4.out⟩
      · have G3 : Hid (ruleB (⟨#[33]⟩ ++ A) = false) := Lib.hid (by rw [HF3.out, decide_eq_false h1]; rfl)
        have hI2 : (k : Int) ≤ 1 := by omega
        have hI3 : decide ((1 : Int) < (k : Int)) = false := decide_eq_false (by omega)
        go_wp2_with fail
        refine (CK.out _ _ W (by omega) HF1.out ZW.out).mono ?_
        rintro e v0 ⟨rfl, b0⟩
        have V0 : Hid (Below w.heap.size w v0) := Lib.hid (keepW ZW.out b0)
        clear b0
        go_wp2_with fail
        refine (CK.out _ _ v0 y2 HF2.out V0.out).mono ?_
        rintro e v1 ⟨rfl, b1⟩
        have V1 : Hid (Below w.heap.size w v1) := Lib.hid (keepW V0.out b1)
        clear b1
        go_wp2_with fail
        refine (CK.out _ _ v1 y3 G3.out V1.out).mono ?_
        rintro e v2 ⟨rfl, b2⟩
        have V2 : Hid (Below w.heap.size w v2) := Lib.hid (keepW V1.out b2)
        clear b2
        go_wp2_with fail
        refine (CK.out _ _ v2 y4 HF4.out V2.out).mono ?_
        rintro e v3 ⟨rfl, b3⟩
        have V3 : Hid (Below w.heap.size w v3) := Lib.hid (keepW V2.out b3)
        clear b3
        go_wp2_with fail
        refine (CK.out _ _ v3 y5 HF5.out V3.out).mono ?_
        rintro e v4 ⟨rfl, b4⟩
        have V4 : Hid (Below w.heap.size w v4) := Lib.hid (keepW V3.out b4)
        clear b4
        go_wp2
        go_ret
        exact ⟨ret_bool (by simp), V4.out⟩

end Go.Proofs.YtdifdikfgkiocaaGreatDoor
