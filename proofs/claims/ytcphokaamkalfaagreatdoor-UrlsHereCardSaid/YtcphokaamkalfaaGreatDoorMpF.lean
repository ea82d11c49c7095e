/-
  Contract: slices.symMergeCmpFunc over pairs, where the second row has one.
  Contract: slices.symMergeCmpFunc over pairs.
-/
import Derived.Test.YtcphokaamkalfaaGreatDoorMpE
namespace Go.Proofs.YtcphokaamkalfaaGreatDoor
open Go.RowKit Go.Sort

theorem at_ahead (P A : List Pr) (y : Pr) (S : List Pr) (t : Nat) (ht : t < A.length) : (P ++ A ++ y :: S)[P.length + t]? = some A[t] := by
 rw [List.append_assoc, List.getElem?_append_right (by omega), show P.length + t - P.length = t by omega, List.getElem?_append_left ht, List.getElem?_eq_getElem ht]
theorem at_last (P A : List Pr) (y : Pr) (S : List Pr) : (P ++ A ++ y :: S)[P.length + A.length]? = some y := by
 rw [List.getElem?_append_right (by simp)]; simp

set_option maxHeartbeats 1000000 in
set_option maxRecDepth 1000000 in
theorem merge_last (g cap : Nat) (P A S : List Pr) (y : Pr) (w : World) (hrow : Row2 w g cap (P ++ A ++ y :: S)) (hA : 1 < A.length) (hs : Srt A) (hy : ∀ x ∈ A, x.2 < y.2) (hcap : (P ++ A ++ y :: S).length ≤ 100000000) (N a m b : Nat) (hN : (P ++ A ++ y :: S).length = N) (ha : P.length = a) (hm : a + A.length = m) (hb : m + 1 = b) :
  Calls Tryz.prog 197 #[.slice (some ⟨g, 0, none⟩) N cap, .int .i64 a, .int .i64 m, .int .i64 b, .func (.func 183) #[] #[]] w fun e w' =>
   (∃ v, e = .returned v) ∧ ∃ R, R.Perm (A ++ [y]) ∧ Srt R ∧ Row2 w' g cap (P ++ R ++ S) ∧ Gro g w w' := by
 have mixed := mixedD
 have hNc : N ≤ 100000000 := by rw [← hN]; exact hcap
 clear hcap
 have o3 : b ≤ N := by rw [← hN, ← hb, ← hm, ← ha]; simp; omega
 have HN := Lib.hid hN
 have HRow := Lib.hid hrow
 have HPl := Lib.hid ha
 have HAl := Lib.hid hm
 have o2 : a < m := by omega
 have hm1 : ((m : Int) - (a : Int) == 1) = false := beq_eq_false_iff_ne.2 (by omega)
 have hm2 : ((b : Int) - (m : Int) == 1) = true := beq_iff_eq.2 (by omega)
 clear hN hrow ha hm hA
 obtain ⟨M, HM⟩ : ∃ M, Hid (M = P ++ A ++ y :: S) := ⟨_, Lib.hid rfl⟩
 rw [← HM.out] at HRow HN
 have gy : M[m]? = some y := by
  have := at_last P A y S
  rw [HPl.out, HAl.out, ← HM.out] at this
  exact this
 go_enter Tryz.func197, Tryz.ntmps197
 go_wp2
 go_loopw [14, 15] (fun vi vj wr => ∃ I J : Nat, vi = .int .i64 I ∧ vj = .int .i64 J ∧ a ≤ I ∧ I ≤ J ∧ J ≤ m ∧ Hid ((∀ t (ht : t < A.length), t < I - a → A[t].1 ≤ y.1) ∧ (∀ t (ht : t < A.length), J - a ≤ t → y.1 < A[t].1)) ∧ Hid (Row2 wr g cap M) ∧ Hid (Gro g w wr)) (fun vi vj _ => (intOf vj - intOf vi).toNat)
 case atStart => exact ⟨a, m, rfl, rfl, Nat.le_refl _, by omega, Nat.le_refl _, Lib.hid ⟨fun t ht h => by omega, fun t ht h => by have := HAl.out; omega⟩, HRow, Lib.hid (Gro.refl _ _)⟩
 case round =>
  obtain ⟨I, J, rfl, rfl, hmI, hij, hjb, HI, HR, HG⟩ := hrel
  by_cases hlt : I < J
  ·obtain ⟨h, Hh⟩ : ∃ h, Hid (h = (I + J) / 2) := ⟨_, Lib.hid rfl⟩
   have hh1 : I ≤ h ∧ h < J := by rw [Hh.out]; omega
   obtain ⟨hh1, hh2⟩ := hh1
   have hhe : ((I : Int) + (J : Int)) / 2 = (h : Int) := by rw [Hh.out]; omega
   have htA : h - a < A.length := by have := HAl.out; omega
   obtain ⟨x, Hx⟩ : ∃ x, Hid (A[h - a] = x) := ⟨_, Lib.hid rfl⟩
   have gx : M[h]? = some x := by
    have := at_ahead P A y S (h - a) htA
    rw [HPl.out, show a + (h - a) = h by omega, Hx.out, ← HM.out] at this
    exact this
   have l1 := fun n os => (cells2 wr g cap M HR.out h x gx n os).1
   have l1' := fun n os => (cells2 wr g cap M HR.out h x gx n os).2
   have l2 := fun n os => (cells2 wr g cap M HR.out m y gy n os).1
   have l2' := fun n os => (cells2 wr g cap M HR.out m y gy n os).2
   have z1 : (h : Int) < (N : Int) := by omega
   have z2 : (m : Int) < (N : Int) := by omega
   have HGx := Lib.hid gx
   clear gx
   by_cases hlv : y.1 < x.1
   ·have HCm := Lib.hid (cmpN_neg hlv)
    have HCall : Hid (∀ n os, Calls Tryz.prog 183 #[.agg #[.int .i32 (y.1 : Int), .int .i64 (y.2 : Int)], .agg #[.int .i32 (x.1 : Int), .int .i64 (x.2 : Int)]] (grow (wr.drewN n) os) fun e w' => e = .returned (.int .i64 (-1)) ∧ ∃ q os', w' = grow ((grow (wr.drewN n) os).drewN q) os') := Lib.hid (fun n os => by rw [← HCm.out]; exact cmp_any y x _)
    go_wp2_with fail
    go_quiet_grown (first | exact Calls.grown_of (HCall.out _ _) | exact ⟨rfl, Calls.grown_of (HCall.out _ _)⟩)
    have HR3 : Hid (Row2 (grow (wr.drewN nq) osq) g cap M) := Lib.hid (HR.out.grown nq osq)
    have HG3 : Hid (Gro g w (grow (wr.drewN nq) osq)) := Lib.hid (HG.out.grow nq osq)
    clear l1 l1' l2 l2'
    generalize grow (wr.drewN nq) osq = W2 at HR3 HG3 ⊢
    go_wp2
    go_roundw
    case rel =>
     refine ⟨I, h, rfl, by go_num, hmI, by omega, by omega, Lib.hid ⟨HI.out.1, fun t ht hk => ?_⟩, HR3, HG3⟩
     have := srt_get_le hs (show h - a ≤ t by omega) ht
     rw [Hx.out] at this
     omega
    case measure => simp [intOf]; omega
   ·have hcp := cmpN_pos hlv
    obtain ⟨cc, HCc⟩ : ∃ cc, Hid (cmpN y.1 x.1 = cc) := ⟨_, Lib.hid rfl⟩
    rw [HCc.out] at hcp
    have hcn : (!decide (cc < 0)) = true := by rw [decide_eq_false (by omega)]; rfl
    have HCall : Hid (∀ n os, Calls Tryz.prog 183 #[.agg #[.int .i32 (y.1 : Int), .int .i64 (y.2 : Int)], .agg #[.int .i32 (x.1 : Int), .int .i64 (x.2 : Int)]] (grow (wr.drewN n) os) fun e w' => e = .returned (.int .i64 cc) ∧ ∃ q os', w' = grow ((grow (wr.drewN n) os).drewN q) os') := Lib.hid (fun n os => by rw [← HCc.out]; exact cmp_any y x _)
    go_wp2_with fail
    go_quiet_grown (first | exact Calls.grown_of (HCall.out _ _) | exact ⟨rfl, Calls.grown_of (HCall.out _ _)⟩)
    have HR3 : Hid (Row2 (grow (wr.drewN nq) osq) g cap M) := Lib.hid (HR.out.grown nq osq)
    have HG3 : Hid (Gro g w (grow (wr.drewN nq) osq)) := Lib.hid (HG.out.grow nq osq)
    clear l1 l1' l2 l2'
    generalize grow (wr.drewN nq) osq = W2 at HR3 HG3 ⊢
    go_wp2
    go_roundw
    case rel =>
     refine ⟨h + 1, J, by go_num, rfl, by omega, by omega, hjb, Lib.hid ⟨fun t ht hk => ?_, HI.out.2⟩, HR3, HG3⟩
     have := srt_get_le hs (show t ≤ h - a by omega) htA
     rw [Hx.out] at this
     omega
    case measure => simp [intOf]; omega
  ·obtain rfl : I = J := by omega
   obtain ⟨k, Hk⟩ : ∃ k, Hid (k = I - a) := ⟨_, Lib.hid rfl⟩
   have HF := Lib.hid (one_behind (k := k) hs hy (fun t ht h => HI.out.1 t ht (by have := Hk.out; omega)) (fun t ht h => HI.out.2 t ht (by have := Hk.out; omega)))
   have hkA : k ≤ A.length := by rw [Hk.out]; have := HAl.out; omega
   have hIk : I = a + k := by have := Hk.out; omega
   obtain ⟨A1, HA1⟩ : ∃ A1, Hid (A1 = A.take k) := ⟨_, Lib.hid rfl⟩
   obtain ⟨A2, HA2⟩ : ∃ A2, Hid (A2 = A.drop k) := ⟨_, Lib.hid rfl⟩
   rw [← HA1.out, ← HA2.out] at HF
   have HA1L : Hid (A1.length = k) := Lib.hid (by rw [HA1.out]; simp; omega)
   have HA2L : Hid (A2.length = m - I) := Lib.hid (by rw [HA2.out]; simp; have := HAl.out; omega)
   have HAe : Hid (A = A1 ++ A2) := Lib.hid (by rw [HA1.out, HA2.out, List.take_append_drop])
   clear hkA
   go_wp2
   go_loopw [17] (fun vk wr => ∃ q : Nat, vk = .int .i64 q ∧ I ≤ q ∧ q ≤ m ∧ Hid (Row2 wr g cap (P ++ A1 ++ (A2.take (q - I) ++ y :: A2.drop (q - I)) ++ S)) ∧ Hid (Gro g w wr)) (fun vk _ => (intOf vk).toNat)
   case atStart =>
    refine ⟨m, rfl, hjb, Nat.le_refl _, Lib.hid ?_, HG⟩
    have := HR.out
    rw [HM.out, HAe.out] at this
    rw [List.take_of_length_le (by rw [HA2L.out]; omega), List.drop_of_length_le (by rw [HA2L.out]; omega)]
    simpa using this
   case round =>
    obtain ⟨q, rfl, hq1, hq2, HR4, HG4⟩ := hrel
    by_cases hqk : I < q
    ·obtain ⟨p, rfl⟩ : ∃ p, q = p + 1 := ⟨q - 1, by omega⟩
     have hqA : p - I < A2.length := by rw [HA2L.out]; omega
     obtain ⟨x, Hx⟩ : ∃ x, Hid (A2[p - I] = x) := ⟨_, Lib.hid rfl⟩
     obtain ⟨X, HX⟩ : ∃ X, Hid (X = P ++ A1 ++ A2.take (p - I)) := ⟨_, Lib.hid rfl⟩
     obtain ⟨Z, HZ⟩ : ∃ Z, Hid (Z = A2.drop (p - I + 1) ++ S) := ⟨_, Lib.hid rfl⟩
     have HE : Hid (P ++ A1 ++ (A2.take (p + 1 - I) ++ y :: A2.drop (p + 1 - I)) ++ S = X ++ x :: [] ++ y :: Z) := Lib.hid (by
      rw [HX.out, HZ.out, show p + 1 - I = (p - I) + 1 by omega, List.take_succ_eq_append_getElem hqA, Hx.out]; simp)
     have HE2 : Hid (X ++ y :: [] ++ x :: Z = P ++ A1 ++ (A2.take (p - I) ++ y :: A2.drop (p - I)) ++ S) := Lib.hid (by
      rw [HX.out, HZ.out, List.drop_eq_getElem_cons hqA, Hx.out]; simp)
     have hXl : X.length = p := by
      have h1 := HPl.out
      have h2 := HA1L.out
      rw [HX.out]; simp; omega
     rw [HE.out] at HR4
     have gx := at_first X [] Z x y
     have gy := at_second X [] Z x y
     have HSw := Lib.hid (swap_list X y x Z)
     have e3 : X ++ x :: [] ++ y :: Z = X ++ x :: y :: Z := by simp
     have e4 : X ++ y :: [] ++ x :: Z = X ++ y :: x :: Z := by simp
     rw [hXl] at gx gy HSw
     simp only [List.length_nil, Nat.add_zero] at gy
     rw [← e3, ← e4, HE2.out] at HSw
     have hl : p + 1 < (X ++ x :: [] ++ y :: Z).length := (List.getElem?_eq_some_iff.1 gy).1
     have HL := Lib.hid hl
     clear hl hXl e3 e4
     obtain ⟨c1, c1'⟩ := HR4.out.cells' p x gx
     obtain ⟨c2, c2'⟩ := HR4.out.cells' (p + 1) y gy
     have f1 := HR4.out.frozen (p * 2)
     have f1' := HR4.out.frozen (p * 2 + 1)
     have f2 := HR4.out.frozen ((p + 1) * 2)
     have f2' := HR4.out.frozen ((p + 1) * 2 + 1)
     have hw1 : IntKind.i64.wrap (p : Int) = (p : Int) := by rw [IntKind.wrap_i64]; omega
     have t1 : ((p : Int) + 1).toNat = p + 1 := by omega
     have zz : (0 : Int) ≤ (p : Int) + 1 := by omega
     have n1 : (p : Int) < (N : Int) := by omega
     have n2 : (p : Int) + 1 < (N : Int) := by omega
     have hIz : (I : Int) < (p : Int) + 1 := by omega
     clear gx gy hIk
     go_wp2
     go_region
     go_wp2
     go_roundw
     case rel =>
      refine ⟨p, by go_num, by omega, by omega, Lib.hid ?_, Lib.hid (((((HG4.out.setCell _ _).setCell _ _).setCell _ _).setCell _ _).drew)⟩
      have h9 := (HR4.out.set' (p + 1) x HL.out).set' p y (by rw [List.length_set]; have := HL.out; omega)
      rw [HSw.out] at h9
      exact h9
     case measure => simp [intOf]
    ·have HE : Hid (P ++ A1 ++ (A2.take (q - I) ++ y :: A2.drop (q - I)) ++ S = P ++ (A1 ++ y :: A2) ++ S) := Lib.hid (by
      rw [show q - I = 0 by omega]; simp)
     rw [HE.out] at HR4
     have hIz : ¬ ((I : Int) < (q : Int)) := by omega
     go_wp2
     refine bodyPost_ret (results_none rfl _ _ _) rfl ?_
     refine ⟨⟨_, rfl⟩, _, HF.out.1, HF.out.2, ?_, HG4.out⟩
     have := HR4.out
     simpa using this

end Go.Proofs.YtcphokaamkalfaaGreatDoor
namespace Go.Proofs.YtcphokaamkalfaaGreatDoor
open Go.RowKit Go.Sort

theorem at_A (P A B S : List Pr) (t : Nat) (ht : t < A.length) : (P ++ A ++ B ++ S)[P.length + t]? = some A[t] := by
 rw [List.append_assoc, List.append_assoc, List.getElem?_append_right (by omega), show P.length + t - P.length = t by omega, List.getElem?_append_left ht, List.getElem?_eq_getElem ht]
theorem at_B (P A B S : List Pr) (t : Nat) (ht : t < B.length) : (P ++ A ++ B ++ S)[P.length + A.length + t]? = some B[t] := by
 rw [List.append_assoc, List.getElem?_append_right (by simp)]
 simp only [List.length_append]
 rw [show P.length + A.length + t - (P.length + A.length) = t by omega, List.getElem?_append_left ht, List.getElem?_eq_getElem ht]

/-- What is asked of a merge of rows of at most n. -/
def Merges (g cap n : Nat) : Prop := ∀ (P A B S : List Pr) (w : World) (N a m b : Nat), A.length + B.length ≤ n → Row2 w g cap (P ++ A ++ B ++ S) → 0 < A.length → 0 < B.length → Srt A → Srt B → (∀ x ∈ A, ∀ y ∈ B, x.2 < y.2) →
  (P ++ A ++ B ++ S).length = N → P.length = a → a + A.length = m → m + B.length = b → N ≤ 100000000 →
  Calls Tryz.prog 197 #[.slice (some ⟨g, 0, none⟩) N cap, .int .i64 a, .int .i64 m, .int .i64 b, .func (.func 183) #[] #[]] w fun e w' =>
   (∃ v, e = .returned v) ∧ ∃ R, R.Perm (A ++ B) ∧ Srt R ∧ Row2 w' g cap (P ++ R ++ S) ∧ Gro g w w'

set_option maxHeartbeats 1000000 in
/-- The steps behind the search: rows are exchanged, and each half is merged. -/
theorem merge_steps (g cap : Nat) (P A B S : List Pr) (w wr : World) (N a m b mid s e n : Nat) (hn : A.length + B.length ≤ n + 1) (hP : P.length = a) (hAl : a + A.length = m) (hBl : m + B.length = b) (hA : Srt A) (hB : Srt B) (hx : ∀ x ∈ A, ∀ y ∈ B, x.2 < y.2) (hcap : N ≤ 100000000)
  (hN : (P ++ A ++ B ++ S).length = N) (hrow : Row2 wr g cap (P ++ A ++ B ++ S)) (hG : Gro g w wr) (has : a ≤ s) (hsm : s ≤ m) (hsmid : s ≤ mid) (heb : e ≤ b) (hmid : a < mid ∧ mid < b) (hes : e + s = mid + m) (ih : Merges g cap n)
  (c1 : s - a = 0 ∨ B.length ≤ e - m ∨ ∃ (hi : s - a - 1 < A.length) (hj : e - m < B.length), A[s - a - 1].1 ≤ B[e - m].1)
  (c2 : A.length ≤ s - a ∨ e - m = 0 ∨ ∃ (hi : s - a < A.length) (hj : e - m - 1 < B.length), B[e - m - 1].1 < A[s - a].1) :
  (s < m → m < e → Hid (Calls Tryz.prog 201 #[.slice (some ⟨g, 0, none⟩) N cap, .int .i64 s, .int .i64 m, .int .i64 e, .func (.func 183) #[] #[]] wr fun e' w' => (∃ v, e' = .returned v) ∧ (Row2 w' g cap (P ++ (A.take (s - a) ++ B.take (e - m)) ++ (A.drop (s - a) ++ B.drop (e - m)) ++ S) ∧ Gro g w w'))) ∧
  Hid (¬ (s < m ∧ m < e) → (Row2 wr g cap (P ++ (A.take (s - a) ++ B.take (e - m)) ++ (A.drop (s - a) ++ B.drop (e - m)) ++ S) ∧ Gro g w wr)) ∧
  Hid (∀ W, a < s → s < mid → Hid ((Row2 W g cap (P ++ (A.take (s - a) ++ B.take (e - m)) ++ (A.drop (s - a) ++ B.drop (e - m)) ++ S) ∧ Gro g w W)) → Calls Tryz.prog 197 #[.slice (some ⟨g, 0, none⟩) N cap, .int .i64 a, .int .i64 s, .int .i64 mid, .func (.func 183) #[] #[]] W fun e' w' => (∃ v, e' = .returned v) ∧ ∃ R1, (R1.Perm (A.take (s - a) ++ B.take (e - m)) ∧ Srt R1 ∧ Row2 w' g cap (P ++ R1 ++ (A.drop (s - a) ++ B.drop (e - m)) ++ S) ∧ Gro g w w')) ∧
  Hid (∀ W, ¬ (a < s ∧ s < mid) → Hid ((Row2 W g cap (P ++ (A.take (s - a) ++ B.take (e - m)) ++ (A.drop (s - a) ++ B.drop (e - m)) ++ S) ∧ Gro g w W)) → ∃ R1, Hid ((R1.Perm (A.take (s - a) ++ B.take (e - m)) ∧ Srt R1 ∧ Row2 W g cap (P ++ R1 ++ (A.drop (s - a) ++ B.drop (e - m)) ++ S) ∧ Gro g w W))) ∧
  Hid (∀ W R1, mid < e → e < b → Hid ((R1.Perm (A.take (s - a) ++ B.take (e - m)) ∧ Srt R1 ∧ Row2 W g cap (P ++ R1 ++ (A.drop (s - a) ++ B.drop (e - m)) ++ S) ∧ Gro g w W)) → Calls Tryz.prog 197 #[.slice (some ⟨g, 0, none⟩) N cap, .int .i64 mid, .int .i64 e, .int .i64 b, .func (.func 183) #[] #[]] W fun e' w' => (∃ v, e' = .returned v) ∧ (∃ R, R.Perm (A ++ B) ∧ Srt R ∧ Row2 w' g cap (P ++ R ++ S) ∧ Gro g w w')) ∧
  Hid (∀ W R1, ¬ (mid < e ∧ e < b) → Hid ((R1.Perm (A.take (s - a) ++ B.take (e - m)) ∧ Srt R1 ∧ Row2 W g cap (P ++ R1 ++ (A.drop (s - a) ++ B.drop (e - m)) ++ S) ∧ Gro g w W)) → (∃ R, R.Perm (A ++ B) ∧ Srt R ∧ Row2 W g cap (P ++ R ++ S) ∧ Gro g w W)) := by
 have x1 := cross1 hA hB c1
 have x2 := cross2 hA hB c2
 clear c1 c2
 obtain ⟨i, hi⟩ : ∃ i, i = s - a := ⟨_, rfl⟩
 obtain ⟨j, hj⟩ : ∃ j, j = e - m := ⟨_, rfl⟩
 rw [← hi, ← hj]
 rw [← hi, ← hj] at x1 x2
 have hme : m ≤ e := by omega
 have lA1 : (A.take i).length = i := by simp; omega
 have lA2 : (A.drop i).length = m - s := by simp; omega
 have lB1 : (B.take j).length = j := by simp; omega
 have lB2 : (B.drop j).length = b - e := by simp; omega
 have eA : A.take i ++ A.drop i = A := List.take_append_drop i A
 have eB : B.take j ++ B.drop j = B := List.take_append_drop j B
 have hNl : N = a + (m - a) + (b - m) + S.length := by rw [← hN]; simp; omega
 refine ⟨fun q1 q2 => Lib.hid ?_, Lib.hid (fun q => ⟨?_, hG⟩), Lib.hid (fun W q1 q2 hk => ?_), Lib.hid (fun W q hk => ?_), Lib.hid (fun W R1 q1 q2 hk => ?_), Lib.hid (fun W R1 q hk => ?_)⟩
 ·have h := rotate_any g cap (P ++ A.take i) (A.drop i) (B.take j) (B.drop j ++ S) (.func (.func 183) #[] #[]) wr (by
   have e1 : P ++ A.take i ++ A.drop i ++ B.take j ++ (B.drop j ++ S) = P ++ A ++ B ++ S := by
    rw [List.append_assoc P, eA, List.append_assoc (P ++ A), ← List.append_assoc (B.take j), eB, List.append_assoc (P ++ A)]
   rw [e1]; exact hrow) (by omega) (by omega) (by
   simp only [List.length_append, lA1, lA2, lB1, lB2]; omega) N s m e (by
   rw [hNl]; simp only [List.length_append, lA1, lA2, lB1, lB2]; omega) (by rw [List.length_append, lA1]; omega) (by rw [List.length_append, lA1, lA2]; omega) (by rw [List.length_append, lA1, lA2, lB1]; omega)
  refine h.mono ?_
  rintro e' w' ⟨h1, h2, h3⟩
  refine ⟨h1, ?_, hG.trans h3⟩
  simpa [List.append_assoc] using h2
 ·have h3 : A.drop i = [] ∨ B.take j = [] := by
   by_cases q1 : s < m
   ·exact .inr (List.eq_nil_of_length_eq_zero (by omega))
   ·exact .inl (List.eq_nil_of_length_eq_zero (by omega))
  have e1 : P ++ (A.take i ++ B.take j) ++ (A.drop i ++ B.drop j) ++ S = P ++ A ++ B ++ S := by
   rcases h3 with h3 | h3
   ·have eA' := eA
    rw [h3, List.append_nil] at eA'
    rw [h3, eA', List.nil_append, List.append_assoc P, List.append_assoc A, eB, ← List.append_assoc P]
   ·have eB' := eB
    rw [h3, List.nil_append] at eB'
    rw [h3, eB', List.append_nil, List.append_assoc P, ← List.append_assoc (A.take i), eA, ← List.append_assoc P]
  rw [e1]; exact hrow
 ·have h := ih P (A.take i) (B.take j) (A.drop i ++ B.drop j ++ S) W N a s mid (by omega) (by
   have := hk.out.1; simpa [List.append_assoc] using this) (by omega) (by omega) (srt_take hA i) (srt_take hB j) (fun x h1 y h2 => hx x (List.mem_of_mem_take h1) y (List.mem_of_mem_take h2)) (by
   rw [hNl]; simp only [List.length_append, lA1, lA2, lB1, lB2]; omega) hP (by omega) (by omega) hcap
  refine h.mono ?_
  rintro e' w' ⟨h1, R, h2, h3, h4, h5⟩
  refine ⟨h1, R, h2, h3, ?_, hk.out.2.trans h5⟩
  simpa [List.append_assoc] using h4
 ·refine ⟨A.take i ++ B.take j, Lib.hid ⟨.refl _, srt_half (srt_take hA i) (srt_take hB j) ?_, hk.out.1, hk.out.2⟩⟩
  by_cases q1 : a < s
  ·exact .inr (by omega)
  ·exact .inl (by omega)
 ·obtain ⟨p1, s1, r1, g1⟩ := hk.out
  have lR : R1.length = mid - a := by rw [p1.length_eq, List.length_append, lA1, lB1]; omega
  have h := ih (P ++ R1) (A.drop i) (B.drop j) S W N mid e b (by omega) (by
   simpa [List.append_assoc] using r1) (by omega) (by omega) (srt_drop hA i) (srt_drop hB j) (fun x h1 y h2 => hx x (List.mem_of_mem_drop h1) y (List.mem_of_mem_drop h2)) (by
   rw [hNl]; simp only [List.length_append, lA2, lB2, lR]; omega) (by rw [List.length_append, lR]; omega) (by omega) (by omega) hcap
  refine h.mono ?_
  rintro e' w' ⟨h1, R2, h2, h3, h4, h5⟩
  have hf := merge_fin hA hB hx x1 x2 p1 s1 h2 h3
  refine ⟨h1, R1 ++ R2, hf.1, hf.2, ?_, g1.trans h5⟩
  simpa [List.append_assoc] using h4
 ·obtain ⟨p1, s1, r1, g1⟩ := hk.out
  have hf := merge_fin hA hB hx x1 x2 p1 s1 (.refl _) (srt_half (srt_drop hA i) (srt_drop hB j) (by
   by_cases q1 : mid < e
   ·exact .inr (by omega)
   ·exact .inl (by omega)))
  refine ⟨R1 ++ (A.drop i ++ B.drop j), hf.1, hf.2, ?_, g1⟩
  simpa [List.append_assoc] using r1

end Go.Proofs.YtcphokaamkalfaaGreatDoor
