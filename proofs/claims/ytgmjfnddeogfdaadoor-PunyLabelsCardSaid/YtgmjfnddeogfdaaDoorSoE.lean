/-
  Contract: slices.symMergeCmpFunc over pairs, where the second row has one.
-/
import Derived.Test.YtgmjfnddeogfdaaDoorSoC
namespace Go.Proofs.YtgmjfnddeogfdaaDoor
open Go.RowKit Go.Sort

theorem at_ahead (P A : List Pr) (y : Pr) (S : List Pr) (t : Nat) (ht : t < A.length) : (P ++ A ++ y :: S)[P.length + t]? = some A[t] := by
  rw [List.append_assoc, List.getElem?_append_right (by omega), show P.length + t - P.length = t by omega, List.getElem?_append_left ht, List.getElem?_eq_getElem ht]
theorem at_last (P A : List Pr) (y : Pr) (S : List Pr) : (P ++ A ++ y :: S)[P.length + A.length]? = some y := by
  rw [List.getElem?_append_right (by simp)]; simp

set_option maxHeartbeats 1000000 in
set_option maxRecDepth 1000000 in
theorem merge_last (g cap : Nat) (P A S : List Pr) (y : Pr) (w : World) (hrow : Row2 w g cap (P ++ A ++ y :: S)) (hA : 1 < A.length) (hs : Srt A) (hy : ∀ x ∈ A, x.2 < y.2) (hcap : (P ++ A ++ y :: S).length ≤ 100000000) (N a m b : Nat) (hN : (P ++ A ++ y :: S).length = N) (ha : P.length = a) (hm : a + A.length = m) (hb : m + 1 = b) :
    Calls Tryd.prog 68 #[.slice (some ⟨g, 0, none⟩) N cap, .int .i64 a, .int .i64 m, .int .i64 b, .func (.func 51) #[] #[]] w fun e w' =>
      (∃ v, e = .returned v) ∧ ∃ R, R.Perm (A ++ [y]) ∧ Srt R ∧ Row2 w' g cap (P ++ R ++ S) ∧ Gro g w w' := by
  have mixed := mixedD
  have hNc : N ≤ 100000000 := by rw [← hN]; exact hcap
  clear hcap
  have o3 : b ≤ N := by rw [← hN, ← hb, ← hm, ← ha]; simp; omega
  have HN := Lib.hid hN
  have HRow := Lib.hid hrow
  have HPl := Lib.hid ha
  have HAl := Lib.hid hm
  have o2 : a < m := by omega
  have hm1 : ((m : Int) - (a : Int) == 1) = false := beq_eq_false_iff_ne.2 (by omega)
  have hm2 : ((b : Int) - (m : Int) == 1) = true := beq_iff_eq.2 (by omega)
  clear hN hrow ha hm hA
  obtain ⟨M, HM⟩ : ∃ M, Hid (M = P ++ A ++ y :: S) := ⟨_, Lib.hid rfl⟩
  rw [← HM.out] at HRow HN
  have gy : M[m]? = some y := by
    have := at_last P A y S
    rw [HPl.out, HAl.out, ← HM.out] at this
    exact this
  go_enter Tryd.func68, Tryd.ntmps68
  go_wp2
  go_loopw [14, 15] (fun vi vj wr => ∃ I J : Nat, vi = .int .i64 I ∧ vj = .int .i64 J ∧ a ≤ I ∧ I ≤ J ∧ J ≤ m ∧ Hid ((∀ t (ht : t < A.length), t < I - a → A[t].1 ≤ y.1) ∧ (∀ t (ht : t < A.length), J - a ≤ t → y.1 < A[t].1)) ∧ Hid (Row2 wr g cap M) ∧ Hid (Gro g w wr)) (fun vi vj _ => (intOf vj - intOf vi).toNat)
  case atStart => exact ⟨a, m, rfl, rfl, Nat.le_refl _, by omega, Nat.le_refl _, Lib.hid ⟨fun t ht h => by omega, fun t ht h => by have := HAl.out; omega⟩, HRow, Lib.hid (Gro.refl _ _)⟩
  case round =>
    obtain ⟨I, J, rfl, rfl, hmI, hij, hjb, HI, HR, HG⟩ := hrel
    by_cases hlt : I < J
    · obtain ⟨h, Hh⟩ : ∃ h, Hid (h = (I + J) / 2) := ⟨_, Lib.hid rfl⟩
      have hh1 : I ≤ h ∧ h < J := by rw [Hh.out]; omega
      obtain ⟨hh1, hh2⟩ := hh1
      have hhe : ((I : Int) + (J : Int)) / 2 = (h : Int) := by rw [Hh.out]; omega
      have htA : h - a < A.length := by have := HAl.out; omega
      obtain ⟨x, Hx⟩ : ∃ x, Hid (A[h - a] = x) := ⟨_, Lib.hid rfl⟩
      have gx : M[h]? = some x := by
        have := at_ahead P A y S (h - a) htA
        rw [HPl.out, show a + (h - a) = h by omega, Hx.out, ← HM.out] at this
        exact this
      have l1 := fun n os => (cells2 wr g cap M HR.out h x gx n os).1
      have l1' := fun n os => (cells2 wr g cap M HR.out h x gx n os).2
      have l2 := fun n os => (cells2 wr g cap M HR.out m y gy n os).1
      have l2' := fun n os => (cells2 wr g cap M HR.out m y gy n os).2
      have z1 : (h : Int) < (N : Int) := by omega
      have z2 : (m : Int) < (N : Int) := by omega
      have HGx := Lib.hid gx
      clear gx
      by_cases hlv : y.1 < x.1
      · have HCm := Lib.hid (cmpN_neg hlv)
        have HCall : Hid (∀ n os, Calls Tryd.prog 51 #[.agg #[.int .i32 (y.1 : Int), .int .i64 (y.2 : Int)], .agg #[.int .i32 (x.1 : Int), .int .i64 (x.2 : Int)]] (grow (wr.drewN n) os) fun e w' => e = .returned (.int .i64 (-1)) ∧ ∃ q os', w' = grow ((grow (wr.drewN n) os).drewN q) os') := Lib.hid (fun n os => by rw [← HCm.out]; exact cmp_any y x _)
        go_wp2_with fail
        go_quiet_grown (first | exact Calls.grown_of (HCall.out _ _) | exact ⟨rfl, Calls.grown_of (HCall.out _ _)⟩)
        have HR3 : Hid (Row2 (grow (wr.drewN nq) osq) g cap M) := Lib.hid (HR.out.grown nq osq)
        have HG3 : Hid (Gro g w (grow (wr.drewN nq) osq)) := Lib.hid (HG.out.grow nq osq)
        clear l1 l1' l2 l2'
        generalize grow (wr.drewN nq) osq = W2 at HR3 HG3 ⊢
        go_wp2
        go_roundw
        case rel =>
          refine ⟨I, h, rfl, by go_num, hmI, by omega, by omega, Lib.hid ⟨HI.out.1, fun t ht hk => ?_⟩, HR3, HG3⟩
          have := srt_get_le hs (show h - a ≤ t by omega) ht
          rw [Hx.out] at this
          omega
        case measure => simp [intOf]; omega
      · have hcp := cmpN_pos hlv
        obtain ⟨cc, HCc⟩ : ∃ cc, Hid (cmpN y.1 x.1 = cc) := ⟨_, Lib.hid rfl⟩
        rw [HCc.out] at hcp
        have hcn : (!decide (cc < 0)) = true := by rw [decide_eq_false (by omega)]; rfl
        have HCall : Hid (∀ n os, Calls Tryd.prog 51 #[.agg #[.int .i32 (y.1 : Int), .int .i64 (y.2 : Int)], .agg #[.int .i32 (x.1 : Int), .int .i64 (x.2 : Int)]] (grow (wr.drewN n) os) fun e w' => e = .returned (.int .i64 cc) ∧ ∃ q os', w' = grow ((grow (wr.drewN n) os).drewN q) os') := Lib.hid (fun n os => by rw [← HCc.out]; exact cmp_any y x _)
        go_wp2_with fail
        go_quiet_grown (first | exact Calls.grown_of (HCall.out _ _) | exact ⟨rfl, Calls.grown_of (HCall.out _ _)⟩)
        have HR3 : Hid (Row2 (grow (wr.drewN nq) osq) g cap M) := Lib.hid (HR.out.grown nq osq)
        have HG3 : Hid (Gro g w (grow (wr.drewN nq) osq)) := Lib.hid (HG.out.grow nq osq)
        clear l1 l1' l2 l2'
        generalize grow (wr.drewN nq) osq = W2 at HR3 HG3 ⊢
        go_wp2
        go_roundw
        case rel =>
          refine ⟨h + 1, J, by go_num, rfl, by omega, by omega, hjb, Lib.hid ⟨fun t ht hk => ?_, HI.out.2⟩, HR3, HG3⟩
          have := srt_get_le hs (show t ≤ h - a by omega) htA
          rw [Hx.out] at this
          omega
        case measure => simp [intOf]; omega
    · obtain rfl : I = J := by omega
      obtain ⟨k, Hk⟩ : ∃ k, Hid (k = I - a) := ⟨_, Lib.hid rfl⟩
      have HF := Lib.hid (one_behind (k := k) hs hy (fun t ht h => HI.out.1 t ht (by have := Hk.out; omega)) (fun t ht h => HI.out.2 t ht (by have := Hk.out; omega)))
      have hkA : k ≤ A.length := by rw [Hk.out]; have := HAl.out; omega
      have hIk : I = a + k := by have := Hk.out; omega
      obtain ⟨A1, HA1⟩ : ∃ A1, Hid (A1 = A.take k) := ⟨_, Lib.hid rfl⟩
      obtain ⟨A2, HA2⟩ : ∃ A2, Hid (A2 = A.drop k) := ⟨_, Lib.hid rfl⟩
      rw [← HA1.out, ← HA2.out] at HF
      have HA1L : Hid (A1.length = k) := Lib.hid (by rw [HA1.out]; simp; omega)
      have HA2L : Hid (A2.length = m - I) := Lib.hid (by rw [HA2.out]; simp; have := HAl.out; omega)
      have HAe : Hid (A = A1 ++ A2) := Lib.hid (by rw [HA1.out, HA2.out, List.take_append_drop])
      clear hkA
      go_wp2
      go_loopw [17] (fun vk wr => ∃ q : Nat, vk = .int .i64 q ∧ I ≤ q ∧ q ≤ m ∧ Hid (Row2 wr g cap (P ++ A1 ++ (A2.take (q - I) ++ y :: A2.drop (q - I)) ++ S)) ∧ Hid (Gro g w wr)) (fun vk _ => (intOf vk).toNat)
      case atStart =>
        refine ⟨m, rfl, hjb, Nat.le_refl _, Lib.hid ?_, HG⟩
        have := HR.out
        rw [HM.out, HAe.out] at this
        rw [List.take_of_length_le (by rw [HA2L.out]; omega), List.drop_of_length_le (by rw [HA2L.out]; omega)]
        simpa using this
      case round =>
        obtain ⟨q, rfl, hq1, hq2, HR4, HG4⟩ := hrel
        by_cases hqk : I < q
        · obtain ⟨p, rfl⟩ : ∃ p, q = p + 1 := ⟨q - 1, by omega⟩
          have hqA : p - I < A2.length := by rw [HA2L.out]; omega
          obtain ⟨x, Hx⟩ : ∃ x, Hid (A2[p - I] = x) := ⟨_, Lib.hid rfl⟩
          obtain ⟨X, HX⟩ : ∃ X, Hid (X = P ++ A1 ++ A2.take (p - I)) := ⟨_, Lib.hid rfl⟩
          obtain ⟨Z, HZ⟩ : ∃ Z, Hid (Z = A2.drop (p - I + 1) ++ S) := ⟨_, Lib.hid rfl⟩
          have HE : Hid (P ++ A1 ++ (A2.take (p + 1 - I) ++ y :: A2.drop (p + 1 - I)) ++ S = X ++ x :: [] ++ y :: Z) := Lib.hid (by
            rw [HX.out, HZ.out, show p + 1 - I = (p - I) + 1 by omega, List.take_succ_eq_append_getElem hqA, Hx.out]; simp)
          have HE2 : Hid (X ++ y :: [] ++ x :: Z = P ++ A1 ++ (A2.take (p - I) ++ y :: A2.drop (p - I)) ++ S) := Lib.hid (by
            rw [HX.out, HZ.out, List.drop_eq_getElem_cons hqA, Hx.out]; simp)
          have hXl : X.length = p := by
            have h1 := HPl.out
            have h2 := HA1L.out
            rw [HX.out]; simp; omega
          rw [HE.out] at HR4
          have gx := at_first X [] Z x y
          have gy := at_second X [] Z x y
          have HSw := Lib.hid (swap_list X y x Z)
          have e3 : X ++ x :: [] ++ y :: Z = X ++ x :: y :: Z := by simp
          have e4 : X ++ y :: [] ++ x :: Z = X ++ y :: x :: Z := by simp
          rw [hXl] at gx gy HSw
          simp only [List.length_nil, Nat.add_zero] at gy
          rw [← e3, ← e4, HE2.out] at HSw
          have hl : p + 1 < (X ++ x :: [] ++ y :: Z).length := (List.getElem?_eq_some_iff.1 gy).1
          have HL := Lib.hid hl
          clear hl hXl e3 e4
          obtain ⟨c1, c1'⟩ := HR4.out.cells' p x gx
          obtain ⟨c2, c2'⟩ := HR4.out.cells' (p + 1) y gy
          have f1 := HR4.out.frozen (p * 2)
          have f1' := HR4.out.frozen (p * 2 + 1)
          have f2 := HR4.out.frozen ((p + 1) * 2)
          have f2' := HR4.out.frozen ((p + 1) * 2 + 1)
          have hw1 : IntKind.i64.wrap (p : Int) = (p : Int) := by rw [IntKind.wrap_i64]; omega
          have t1 : ((p : Int) + 1).toNat = p + 1 := by omega
          have zz : (0 : Int) ≤ (p : Int) + 1 := by omega
          have n1 : (p : Int) < (N : Int) := by omega
          have n2 : (p : Int) + 1 < (N : Int) := by omega
          have hIz : (I : Int) < (p : Int) + 1 := by omega
          clear gx gy hIk
          go_wp2
          go_region
          go_wp2
          go_roundw
          case rel =>
            refine ⟨p, by go_num, by omega, by omega, Lib.hid ?_, Lib.hid (((((HG4.out.setCell _ _).setCell _ _).setCell _ _).setCell _ _).drew)⟩
            have h9 := (HR4.out.set' (p + 1) x HL.out).set' p y (by rw [List.length_set]; have := HL.out; omega)
            rw [HSw.out] at h9
            exact h9
          case measure => simp [intOf]
        · have HE : Hid (P ++ A1 ++ (A2.take (q - I) ++ y :: A2.drop (q - I)) ++ S = P ++ (A1 ++ y :: A2) ++ S) := Lib.hid (by
            rw [show q - I = 0 by omega]; simp)
          rw [HE.out] at HR4
          have hIz : ¬ ((I : Int) < (q : Int)) := by omega
          go_wp2
          refine bodyPost_ret (results_none rfl _ _ _) rfl ?_
          refine ⟨⟨_, rfl⟩, _, HF.out.1, HF.out.2, ?_, HG4.out⟩
          have := HR4.out
          simpa using this

end Go.Proofs.YtgmjfnddeogfdaaDoor
