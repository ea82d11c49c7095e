/-
  Contract: slices.symMergeCmpFunc over pairs, where the first row is the longer one.
-/
import Derived.Test.YtcphokaamkalfaaGreatDoorMpF
namespace Go.Proofs.YtcphokaamkalfaaGreatDoor
open Go.RowKit Go.Sort

set_option maxHeartbeats 4000000 in
set_option maxRecDepth 1000000 in
theorem merge_hi (g cap : Nat) (P A B S : List Pr) (w : World) (N a m b n : Nat) (ih : Merges g cap n) (hn : A.length + B.length ≤ n + 1) (hrow : Row2 w g cap (P ++ A ++ B ++ S)) (hA2 : 1 < A.length) (hB2 : 1 < B.length) (hA : Srt A) (hB : Srt B) (hx : ∀ x ∈ A, ∀ y ∈ B, x.2 < y.2) (hcap : N ≤ 100000000)
  (hN : (P ++ A ++ B ++ S).length = N) (hP : P.length = a) (hm : a + A.length = m) (hb : m + B.length = b) (hmm : (a + b) / 2 < m) :
  Calls Tryz.prog 197 #[.slice (some ⟨g, 0, none⟩) N cap, .int .i64 a, .int .i64 m, .int .i64 b, .func (.func 183) #[] #[]] w fun e w' =>
   (∃ v, e = .returned v) ∧ ∃ R, R.Perm (A ++ B) ∧ Srt R ∧ Row2 w' g cap (P ++ R ++ S) ∧ Gro g w w' := by
 have mixed := mixedD
 have hNc : N ≤ 100000000 := hcap
 have o3 : b ≤ N := by rw [← hN, ← hb, ← hm, ← hP]; simp; omega
 have HIH := Lib.hid ih
 have HN := Lib.hid hN
 have HRow := Lib.hid hrow
 have HPl := Lib.hid hP
 have HAl := Lib.hid hm
 have HBl := Lib.hid hb
 have o1 : a + 1 < m := by omega
 have o2 : m + 1 < b := by omega
 have hm1 : ((m : Int) - (a : Int) == 1) = false := beq_eq_false_iff_ne.2 (by omega)
 have hm2 : ((b : Int) - (m : Int) == 1) = false := beq_eq_false_iff_ne.2 (by omega)
 clear ih hN hrow hP hm hb hA2 hB2
 obtain ⟨M, HM⟩ : ∃ M, Hid (M = P ++ A ++ B ++ S) := ⟨_, Lib.hid rfl⟩
 rw [← HM.out] at HRow HN
 obtain ⟨mid, Hmid⟩ : ∃ mid, Hid (mid = (a + b) / 2) := ⟨_, Lib.hid rfl⟩
 have hmid : ((a : Int) + (b : Int)) / 2 = (mid : Int) := by rw [Hmid.out]; omega
 have hmd : 2 * mid ≤ a + b ∧ a + b < 2 * mid + 2 := by rw [Hmid.out]; omega
 obtain ⟨hmd1, hmd2⟩ := hmd
 rw [← Hmid.out] at hmm
 obtain ⟨nn, Hnn⟩ : ∃ nn, Hid (nn = mid + m) := ⟨_, Lib.hid rfl⟩
 have hnn : (mid : Int) + (m : Int) = (nn : Int) := by rw [Hnn.out]; omega
 have hnn2 : nn = mid + m := Hnn.out
 obtain ⟨pp, Hpp⟩ : ∃ pp, Hid (pp = nn - 1) := ⟨_, Lib.hid rfl⟩
 have hpp : (nn : Int) - 1 = (pp : Int) := by rw [Hpp.out]; omega
 have hpp2 : pp + 1 = mid + m := by rw [Hpp.out]; omega
 obtain ⟨S0, HS0⟩ : ∃ S0, Hid (S0 = nn - b) := ⟨_, Lib.hid rfl⟩
 have hS0 : (nn : Int) - (b : Int) = (S0 : Int) := by rw [HS0.out]; omega
 have hS0a : a ≤ S0 ∧ S0 ≤ mid ∧ S0 + b = mid + m := by rw [HS0.out]; omega
 obtain ⟨hS0a, hS0b, hS0c⟩ := hS0a
 have HNN := Lib.hid hnn2
 have hnn3 : nn ≤ mid + m := by omega
 have hnn4 : mid + m ≤ nn := by omega
 clear hnn2
 go_enter Tryz.func197, Tryz.ntmps197
 go_wp2
 have hdm : decide (mid < m) = true := decide_eq_true (by omega)
 have hdm' : decide ((mid : Int) < (m : Int)) = true := decide_eq_true (by omega)
 try simp only [hdm, hdm']
 clear hdm hdm'
 go_loopw [20, 21] (fun vi vj wr => ∃ s r : Nat, vi = .int .i64 s ∧ vj = .int .i64 r ∧ S0 ≤ s ∧ s ≤ r ∧ r ≤ mid ∧ Hid ((∀ c, S0 ≤ c → c < s → ∀ (h1 : c - a < A.length) (h2 : pp - c - m < B.length), A[c - a].1 ≤ B[pp - c - m].1) ∧ (∀ c, r ≤ c → c < mid → ∀ (h1 : c - a < A.length) (h2 : pp - c - m < B.length), B[pp - c - m].1 < A[c - a].1)) ∧ Hid (Row2 wr g cap M) ∧ Hid (Gro g w wr)) (fun vi vj _ => (intOf vj - intOf vi).toNat)
 case atStart => exact ⟨S0, mid, by go_num, by go_num, Nat.le_refl _, by omega, Nat.le_refl _, Lib.hid ⟨fun c h1 h2 => by omega, fun c h1 h2 => by omega⟩, HRow, Lib.hid (Gro.refl _ _)⟩
 case round =>
  obtain ⟨s, r, rfl, rfl, hs0, hsr, hr0, HI, HR, HG⟩ := hrel
  by_cases hlt : s < r
  ·obtain ⟨c, Hc⟩ : ∃ c, Hid (c = (s + r) / 2) := ⟨_, Lib.hid rfl⟩
   have hc1 : s ≤ c ∧ c < r := by rw [Hc.out]; omega
   obtain ⟨hc1, hc2⟩ := hc1
   have hhe : ((s : Int) + (r : Int)) / 2 = (c : Int) := by rw [Hc.out]; omega
   have htA : c - a < A.length := by have := HAl.out; omega
   have htB : pp - c - m < B.length := by have := HBl.out; omega
   obtain ⟨x, Hx⟩ : ∃ x, Hid (A[c - a] = x) := ⟨_, Lib.hid rfl⟩
   obtain ⟨y, Hy⟩ : ∃ y, Hid (B[pp - c - m] = y) := ⟨_, Lib.hid rfl⟩
   obtain ⟨d, Hd⟩ : ∃ d, Hid (d = pp - c) := ⟨_, Lib.hid rfl⟩
   have hde : (pp : Int) - (c : Int) = (d : Int) := by rw [Hd.out]; omega
   have hdb : d < b := by rw [Hd.out]; omega
   have hwd : IntKind.i64.wrap (d : Int) = (d : Int) := by rw [IntKind.wrap_i64]; omega
   have gx : M[c]? = some x := by
    have := at_A P A B S (c - a) htA
    rw [HPl.out, show a + (c - a) = c by omega, Hx.out, ← HM.out] at this
    exact this
   have gy : M[d]? = some y := by
    have := at_B P A B S (pp - c - m) htB
    rw [HPl.out, HAl.out, show m + (pp - c - m) = d by rw [Hd.out]; omega, Hy.out, ← HM.out] at this
    exact this
   have l1 := fun n os => (cells2 wr g cap M HR.out c x gx n os).1
   have l1' := fun n os => (cells2 wr g cap M HR.out c x gx n os).2
   have l2 := fun n os => (cells2 wr g cap M HR.out d y gy n os).1
   have l2' := fun n os => (cells2 wr g cap M HR.out d y gy n os).2
   have z1 : (c : Int) < (N : Int) := by omega
   have z2 : (d : Int) < (N : Int) := by omega
   clear gx gy
   by_cases hlv : y.1 < x.1
   ·have HCm := Lib.hid (cmpN_neg hlv)
    have HCall : Hid (∀ n os, Calls Tryz.prog 183 #[.agg #[.int .i32 (y.1 : Int), .int .i64 (y.2 : Int)], .agg #[.int .i32 (x.1 : Int), .int .i64 (x.2 : Int)]] (grow (wr.drewN n) os) fun e w' => e = .returned (.int .i64 (-1)) ∧ ∃ q os', w' = grow ((grow (wr.drewN n) os).drewN q) os') := Lib.hid (fun n os => by rw [← HCm.out]; exact cmp_any y x _)
    go_wp2_with fail
    go_quiet_grown (first | exact Calls.grown_of (HCall.out _ _) | exact ⟨rfl, Calls.grown_of (HCall.out _ _)⟩)
    have HR3 : Hid (Row2 (grow (wr.drewN nq) osq) g cap M) := Lib.hid (HR.out.grown nq osq)
    have HG3 : Hid (Gro g w (grow (wr.drewN nq) osq)) := Lib.hid (HG.out.grow nq osq)
    clear l1 l1' l2 l2'
    generalize grow (wr.drewN nq) osq = W2 at HR3 HG3 ⊢
    go_wp2
    go_roundw
    case measure => simp [intOf]; omega
    case rel =>
     refine ⟨s, c, rfl, by go_num, hs0, by omega, by omega, Lib.hid ⟨HI.out.1, fun c' k1 k2 q1 q2 => ?_⟩, HR3, HG3⟩
     have e1 := srt_get_le hA (show c - a ≤ c' - a by omega) q1
     have e2 := srt_get_le hB (show pp - c' - m ≤ pp - c - m by omega) htB
     rw [Hx.out] at e1
     rw [Hy.out] at e2
     omega
   ·have hcp := cmpN_pos hlv
    obtain ⟨cc, HCc⟩ : ∃ cc, Hid (cmpN y.1 x.1 = cc) := ⟨_, Lib.hid rfl⟩
    rw [HCc.out] at hcp
    have hcn : (!decide (cc < 0)) = true := by rw [decide_eq_false (by omega)]; rfl
    have HCall : Hid (∀ n os, Calls Tryz.prog 183 #[.agg #[.int .i32 (y.1 : Int), .int .i64 (y.2 : Int)], .agg #[.int .i32 (x.1 : Int), .int .i64 (x.2 : Int)]] (grow (wr.drewN n) os) fun e w' => e = .returned (.int .i64 cc) ∧ ∃ q os', w' = grow ((grow (wr.drewN n) os).drewN q) os') := Lib.hid (fun n os => by rw [← HCc.out]; exact cmp_any y x _)
    go_wp2_with fail
    go_quiet_grown (first | exact Calls.grown_of (HCall.out _ _) | exact ⟨rfl, Calls.grown_of (HCall.out _ _)⟩)
    have HR3 : Hid (Row2 (grow (wr.drewN nq) osq) g cap M) := Lib.hid (HR.out.grown nq osq)
    have HG3 : Hid (Gro g w (grow (wr.drewN nq) osq)) := Lib.hid (HG.out.grow nq osq)
    clear l1 l1' l2 l2'
    generalize grow (wr.drewN nq) osq = W2 at HR3 HG3 ⊢
    go_wp2
    go_roundw
    case measure => simp [intOf]; omega
    case rel =>
     refine ⟨c + 1, r, by go_num, rfl, by omega, by omega, hr0, Lib.hid ⟨fun c' k1 k2 q1 q2 => ?_, HI.out.2⟩, HR3, HG3⟩
     have e1 := srt_get_le hA (show c' - a ≤ c - a by omega) htA
     have e2 := srt_get_le hB (show pp - c - m ≤ pp - c' - m by omega) q2
     rw [Hx.out] at e1
     rw [Hy.out] at e2
     omega
  ·obtain rfl : s = r := by omega
   obtain ⟨e, He⟩ : ∃ e, Hid (e = nn - s) := ⟨_, Lib.hid rfl⟩
   have hes : e + s = mid + m := by rw [He.out]; omega
   have hez : (nn : Int) - (s : Int) = (e : Int) := by rw [He.out]; omega
   obtain ⟨HRotC, HSame, HLeft, HNoL, HRight, HNoR⟩ := merge_steps g cap P A B S w wr N a m b mid s e n hn HPl.out HAl.out HBl.out hA hB hx hcap (by have := HN.out; rw [HM.out] at this; exact this) (by have := HR.out; rw [HM.out] at this; exact this) HG.out (by omega) (by omega) (by omega) (by omega) ⟨by omega, by omega⟩ hes HIH.out
    (by
     by_cases q : S0 = s
     ·right; left; have := HBl.out; omega
     ·right; right
      have q1 : s - a - 1 < A.length := by have := HAl.out; omega
      have q2 : e - m < B.length := by have := HBl.out; omega
      refine ⟨q1, q2, ?_⟩
      have := HI.out.1 (s - 1) (by omega) (by omega) (by omega) (by omega)
      simp only [show pp - (s - 1) - m = e - m by omega, show s - 1 - a = s - a - 1 by omega] at this
      exact this)
    (by
     by_cases q : s = mid
     ·right; left; omega
     ·right; right
      have q1 : s - a < A.length := by have := HAl.out; omega
      have q2 : e - m - 1 < B.length := by have := HBl.out; omega
      refine ⟨q1, q2, ?_⟩
      have := HI.out.2 s (Nat.le_refl _) (by omega) (by omega) (by omega)
      simp only [show pp - s - m = e - m - 1 by omega] at this
      exact this)
   clear hlt hsr
   by_cases hal : s < m
   ·by_cases hbe : s < mid
    ·by_cases hga : a < s
     ·by_cases hde : e < b
      ·go_wp2_with fail
       refine (HRotC (by omega) (by omega)).out.mono ?_
       rintro e w1 ⟨⟨v, rfl⟩, hk1⟩
       have HK1 := Lib.hid hk1
       clear hk1
       go_wp2_with fail
       refine (HLeft.out _ (by omega) (by omega) HK1).mono ?_
       rintro e w2 ⟨⟨v2, rfl⟩, R1, hk2⟩
       have HK2 := Lib.hid hk2
       clear hk2
       go_wp2_with fail
       refine (HRight.out _ _ (by omega) (by omega) HK2).mono ?_
       rintro e w3 ⟨⟨v3, rfl⟩, hk3⟩
       have HK3 := Lib.hid hk3
       clear hk3
       go_wp2
       go_end0
       exact ⟨⟨_, rfl⟩, HK3.out⟩
      ·go_wp2_with fail
       refine (HRotC (by omega) (by omega)).out.mono ?_
       rintro e w1 ⟨⟨v, rfl⟩, hk1⟩
       have HK1 := Lib.hid hk1
       clear hk1
       go_wp2_with fail
       refine (HLeft.out _ (by omega) (by omega) HK1).mono ?_
       rintro e w2 ⟨⟨v2, rfl⟩, R1, hk2⟩
       have HK2 := Lib.hid hk2
       clear hk2
       have HK3 := Lib.hid (HNoR.out _ _ (by omega) HK2)
       go_wp2
       go_end0
       exact ⟨⟨_, rfl⟩, HK3.out⟩
     ·by_cases hde : e < b
      ·exfalso; omega
      ·go_wp2_with fail
       refine (HRotC (by omega) (by omega)).out.mono ?_
       rintro e w1 ⟨⟨v, rfl⟩, hk1⟩
       have HK1 := Lib.hid hk1
       clear hk1
       obtain ⟨R1, HK2⟩ := HNoL.out _ (by omega) HK1
       have HK3 := Lib.hid (HNoR.out _ _ (by omega) HK2)
       go_wp2
       go_end0
       exact ⟨⟨_, rfl⟩, HK3.out⟩
    ·by_cases hga : a < s
     ·by_cases hde : e < b
      ·have HK1 := Lib.hid (HSame.out (by omega))
       obtain ⟨R1, HK2⟩ := HNoL.out _ (by omega) HK1
       go_wp2_with fail
       refine (HRight.out _ _ (by omega) (by omega) HK2).mono ?_
       rintro e w3 ⟨⟨v3, rfl⟩, hk3⟩
       have HK3 := Lib.hid hk3
       clear hk3
       go_wp2
       go_end0
       exact ⟨⟨_, rfl⟩, HK3.out⟩
      ·exfalso; omega
     ·exfalso; omega
   ·exfalso; omega


end Go.Proofs.YtcphokaamkalfaaGreatDoor
