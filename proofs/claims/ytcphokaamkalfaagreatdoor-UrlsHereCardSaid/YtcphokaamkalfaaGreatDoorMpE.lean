/-
  Contracts: slices.swapRangeCmpFunc and slices.rotateCmpFunc over pairs.
  Contract: slices.symMergeCmpFunc over pairs, where the first row has one.
-/
import Derived.Test.YtcphokaamkalfaaGreatDoorMpD
namespace Go.Proofs.YtcphokaamkalfaaGreatDoor
open Go.RowKit Go.Sort

set_option maxHeartbeats 1000000 in
set_option maxRecDepth 1000000 in
theorem swapRange_any (g cap : Nat) (P A M B S : List Pr) (f : Value) (w : World) (hrow : Row2 w g cap (P ++ A ++ M ++ B ++ S)) (hAB : A.length = B.length) (hcap : (P ++ A ++ M ++ B ++ S).length ≤ 100000000) :
  Calls Tryz.prog 203 #[.slice (some ⟨g, 0, none⟩) (P ++ A ++ M ++ B ++ S).length cap, .int .i64 P.length, .int .i64 ((P.length + A.length + M.length : Nat) : Int), .int .i64 A.length, f] w fun e w' =>
   (∃ v, e = .returned v) ∧ Row2 w' g cap (P ++ B ++ M ++ A ++ S) ∧ Gro g w w' := by
 obtain ⟨N, HN⟩ : ∃ N, Hid (N = (P ++ A ++ M ++ B ++ S).length) := ⟨_, Lib.hid rfl⟩
 have hNc : N ≤ 100000000 := by rw [HN.out]; exact hcap
 clear hcap
 have hNl : N = P.length + A.length + M.length + B.length + S.length := by rw [HN.out]; simp; omega
 rw [← HN.out]
 obtain ⟨b, Hb⟩ : ∃ b, Hid (b = P.length + A.length + M.length) := ⟨_, Lib.hid rfl⟩
 have hbN : b + A.length ≤ N := by rw [Hb.out]; omega
 have haN : P.length + A.length ≤ N := by omega
 have HNL := Lib.hid hNl
 rw [← Hb.out]
 clear hNl
 have HRow := Lib.hid hrow; clear hrow
 have HAB := Lib.hid hAB; clear hAB
 obtain ⟨a, Ha⟩ : ∃ a, Hid (a = P.length) := ⟨_, Lib.hid rfl⟩
 obtain ⟨n, Hn⟩ : ∃ n, Hid (n = A.length) := ⟨_, Lib.hid rfl⟩
 rw [← Ha.out, ← Hn.out] at haN ⊢
 rw [← Hn.out] at hbN
 go_enter Tryz.func203, Tryz.ntmps203
 go_wp2
 go_loopw [10] (fun vi wr => ∃ i : Nat, vi = .int .i64 i ∧ i ≤ n ∧ Hid (Row2 wr g cap (swTo P A M B S i)) ∧ Hid (Gro g w wr)) (fun vi _ => n - (intOf vi).toNat)
 case atStart => exact ⟨0, rfl, Nat.zero_le _, Lib.hid (by rw [swTo_zero]; exact HRow.out), Lib.hid (Gro.refl _ _)⟩
 case round =>
  obtain ⟨i, rfl, hi, HR, HG⟩ := hrel
  by_cases hlt : i < n
  ·have hA : i < A.length := by rw [← Hn.out]; exact hlt
   have hB : i < B.length := by rw [← HAB.out]; exact hA
   obtain ⟨x, Hx⟩ : ∃ x, Hid (A[i] = x) := ⟨_, Lib.hid rfl⟩
   obtain ⟨y, Hy⟩ : ∃ y, Hid (B[i] = y) := ⟨_, Lib.hid rfl⟩
   have HAt := Lib.hid (swTo_at P A M B S i hA hB)
   have HNx := Lib.hid (swTo_next P A M B S i hA hB)
   rw [Hx.out, Hy.out] at HAt HNx
   obtain ⟨X, HX⟩ : ∃ X, Hid (X = P ++ B.take i) := ⟨_, Lib.hid rfl⟩
   obtain ⟨Y, HY⟩ : ∃ Y, Hid (Y = A.drop (i + 1) ++ M ++ A.take i) := ⟨_, Lib.hid rfl⟩
   obtain ⟨Z, HZ⟩ : ∃ Z, Hid (Z = B.drop (i + 1) ++ S) := ⟨_, Lib.hid rfl⟩
   have hXl : X.length = a + i := by rw [HX.out, Ha.out]; simp; omega
   have hYl : X.length + 1 + Y.length = b + i := by
    have := Hb.out
    have h2 := Ha.out
    rw [hXl, HY.out]; simp; omega
   rw [← HX.out, ← HY.out, ← HZ.out] at HAt HNx
   rw [HAt.out] at HR
   have gx := at_first X Y Z x y
   have gy := at_second X Y Z x y
   rw [hXl] at gx
   rw [hYl] at gy
   have HSw := Lib.hid (swap_far X Y Z x y)
   rw [hXl, show a + i + 1 + Y.length = b + i by omega, HNx.out] at HSw
   have hl : (X ++ x :: Y ++ y :: Z).length = N := by
    rw [← HAt.out, HNL.out]
    have h3 := HAB.out
    simp [swTo]; omega
   have HL := Lib.hid hl
   clear hl hXl hYl
   obtain ⟨c1, c1'⟩ := HR.out.cells' (a + i) x gx
   obtain ⟨c2, c2'⟩ := HR.out.cells' (b + i) y gy
   have f1 := HR.out.frozen ((a + i) * 2)
   have f1' := HR.out.frozen ((a + i) * 2 + 1)
   have f2 := HR.out.frozen ((b + i) * 2)
   have f2' := HR.out.frozen ((b + i) * 2 + 1)
   have hw1 : IntKind.i64.wrap ((a : Int) + (i : Int)) = (a : Int) + (i : Int) := by rw [IntKind.wrap_i64]; omega
   have hw2 : IntKind.i64.wrap ((b : Int) + (i : Int)) = (b : Int) + (i : Int) := by rw [IntKind.wrap_i64]; omega
   have t1 : ((a : Int) + (i : Int)).toNat = a + i := by omega
   have t2 : ((b : Int) + (i : Int)).toNat = b + i := by omega
   have z1 : (0 : Int) ≤ (a : Int) + (i : Int) := by omega
   have z2 : (0 : Int) ≤ (b : Int) + (i : Int) := by omega
   have n1 : (a : Int) + (i : Int) < (N : Int) := by omega
   have n2 : (b : Int) + (i : Int) < (N : Int) := by omega
   clear gx gy
   have hab : a < b := by
    have h1 := Hb.out
    have h2 := Ha.out
    have h3 := Hn.out
    omega
   have d1 : ¬ ((a + i) * 2 = (b + i) * 2) := by omega
   have d2 : ¬ ((a + i) * 2 = (b + i) * 2 + 1) := by omega
   have d3 : ¬ ((a + i) * 2 + 1 = (b + i) * 2) := by omega
   have d4 : ¬ ((a + i) * 2 + 1 = (b + i) * 2 + 1) := by omega
   have d5 : ¬ (a = b) := by omega
   have d5' : ¬ (b = a) := by omega
   have e1 : ¬ ((b + i) * 2 = (a + i) * 2) := by omega
   have e2 : ¬ ((b + i) * 2 + 1 = (a + i) * 2) := by omega
   have e3 : ¬ ((b + i) * 2 = (a + i) * 2 + 1) := by omega
   have e4 : ¬ ((b + i) * 2 + 1 = (a + i) * 2 + 1) := by omega
   go_wp2
   go_region
   go_wp2
   go_roundw
   case rel =>
    refine ⟨i + 1, by go_num, by omega, Lib.hid ?_, Lib.hid (((((HG.out.setCell _ _).setCell _ _).setCell _ _).setCell _ _).drew)⟩
    have h := (HR.out.set' (a + i) y (by rw [HL.out]; omega)).set' (b + i) x (by rw [List.length_set, HL.out]; omega)
    rw [HSw.out] at h
    exact h
   case measure => simp [intOf]; omega
  ·have HE : Hid (swTo P A M B S i = P ++ B ++ M ++ A ++ S) := Lib.hid (by rw [show i = A.length by have := Hn.out; omega]; exact swTo_all P A M B S HAB.out)
   rw [HE.out] at HR
   go_wp2
   go_end0
   exact ⟨⟨_, rfl⟩, HR.out, HG.out⟩

/-- The same, with its numbers told. -/
theorem swapRange_at (g cap : Nat) (P A M B S : List Pr) (f : Value) (w : World) (hrow : Row2 w g cap (P ++ A ++ M ++ B ++ S)) (hAB : A.length = B.length) (hcap : (P ++ A ++ M ++ B ++ S).length ≤ 100000000) (N : Nat) (a b n : Int) (hN : (P ++ A ++ M ++ B ++ S).length = N) (ha : (P.length : Int) = a) (hb : ((P.length + A.length + M.length : Nat) : Int) = b) (hn : (A.length : Int) = n) :
  Calls Tryz.prog 203 #[.slice (some ⟨g, 0, none⟩) N cap, .int .i64 a, .int .i64 b, .int .i64 n, f] w fun e w' =>
   (∃ v, e = .returned v) ∧ Row2 w' g cap (P ++ B ++ M ++ A ++ S) ∧ Gro g w w' := by
 subst hN ha hb hn
 exact swapRange_any g cap P A M B S f w hrow hAB hcap

set_option maxHeartbeats 1000000 in
set_option maxRecDepth 1000000 in
theorem rotate_any (g cap : Nat) (P X Y S : List Pr) (f : Value) (w : World) (hrow : Row2 w g cap (P ++ X ++ Y ++ S)) (hX : 0 < X.length) (hY : 0 < Y.length) (hcap : (P ++ X ++ Y ++ S).length ≤ 100000000) (N a m b : Nat) (hN : (P ++ X ++ Y ++ S).length = N) (ha : P.length = a) (hm : P.length + X.length = m) (hb : P.length + X.length + Y.length = b) :
  Calls Tryz.prog 201 #[.slice (some ⟨g, 0, none⟩) N cap, .int .i64 a, .int .i64 m, .int .i64 b, f] w fun e w' =>
   (∃ v, e = .returned v) ∧ Row2 w' g cap (P ++ Y ++ X ++ S) ∧ Gro g w w' := by
 have hNc : N ≤ 100000000 := by rw [← hN]; exact hcap
 clear hcap
 have hNl : N = P.length + X.length + Y.length + S.length := by rw [← hN]; simp; omega
 have HN := Lib.hid hN
 have HRow := Lib.hid hrow
 have HXl := Lib.hid (show X.length = m - a by omega)
 have HYl := Lib.hid (show Y.length = b - m by omega)
 have HPl := Lib.hid ha
 have o1 : a < m := by omega
 have o2 : m < b := by omega
 have o3 : b ≤ N := by omega
 clear hN hrow hX hY ha hm hb hNl
 obtain ⟨T, HT⟩ : ∃ T, Hid (T = P ++ Y ++ X ++ S) := ⟨_, Lib.hid rfl⟩
 rw [← HT.out]
 go_enter Tryz.func201, Tryz.ntmps201
 go_wp2
 go_loopw [10, 11] (fun vi vj wr => ∃ (i j : Nat) (P' U V S' : List Pr), vi = .int .i64 i ∧ vj = .int .i64 j ∧ 0 < i ∧ 0 < j ∧ i ≤ m ∧ m + j ≤ N ∧ Hid (U.length = i ∧ V.length = j ∧ P'.length + i = m ∧ (P' ++ U ++ V ++ S').length = N) ∧ Hid (P' ++ V ++ U ++ S' = T) ∧ Hid (Row2 wr g cap (P' ++ U ++ V ++ S')) ∧ Hid (Gro g w wr)) (fun vi vj _ => (intOf vi).toNat + (intOf vj).toNat)
 case atStart =>
  have h1 := HPl.out
  have h2 := HXl.out
  have h3 := HYl.out
  exact ⟨m - a, b - m, P, X, Y, S, by go_num, by go_num, by omega, by omega, by omega, by omega, Lib.hid ⟨by omega, by omega, by omega, HN.out⟩, Lib.hid HT.out.symm, HRow, Lib.hid (Gro.refl _ _)⟩
 case round =>
  obtain ⟨i, j, P', U, V, S', rfl, rfl, hi0, hj0, him, hjN, HL, HTg, HR, HG⟩ := hrel
  by_cases hne : i = j
  ·have heq : ((i : Int) != (j : Int)) = false := by rw [hne]; simp
   have HC : Hid (Calls Tryz.prog 203 #[.slice (some ⟨g, 0, none⟩) N cap, .int .i64 ((m : Int) - (i : Int)), .int .i64 m, .int .i64 i, f] wr fun e w' => (∃ v, e = .returned v) ∧ Row2 w' g cap T ∧ Gro g wr w') := Lib.hid (by
    obtain ⟨h1, h2, h3, h4⟩ := HL.out
    have h := swapRange_at g cap P' U [] V S' f wr (by have := HR.out; simpa using this) (by omega) (by have h9 : (P' ++ U ++ [] ++ V ++ S').length = N := by simpa using h4
                                                                                                        rw [h9]; exact hNc) N ((m : Int) - i) m i (by simpa using h4) (by omega) (by simp; omega) (by omega)
    refine h.mono ?_
    rintro e w' ⟨h5, h6, h7⟩
    refine ⟨h5, ?_, h7⟩
    rw [← HTg.out]; simpa using h6)
   clear hne
   go_wp2_with fail
   refine HC.out.mono ?_
   rintro e w1 ⟨⟨v, rfl⟩, h6, h7⟩
   have H6 := Lib.hid h6
   have H7 := Lib.hid (HG.out.trans h7)
   clear h6 h7
   go_wp2
   go_end0
   exact ⟨⟨_, rfl⟩, H6.out, H7.out⟩
  ·have heq : ((i : Int) != (j : Int)) = true := bne_iff_ne.2 (by omega)
   by_cases hgt : j < i
   ·have HC : Hid (Calls Tryz.prog 203 #[.slice (some ⟨g, 0, none⟩) N cap, .int .i64 ((m : Int) - (i : Int)), .int .i64 m, .int .i64 j, f] wr fun e w' => (∃ v, e = .returned v) ∧ Row2 w' g cap ((P' ++ V) ++ (U.drop j) ++ (U.take j) ++ S') ∧ Gro g wr w') := Lib.hid (by
     obtain ⟨h1, h2, h3, h4⟩ := HL.out
     have hU : U.take j ++ U.drop j = U := List.take_append_drop j U
     have e : P' ++ U.take j ++ U.drop j ++ V ++ S' = P' ++ U ++ V ++ S' := by rw [List.append_assoc P', hU]
     have h := swapRange_at g cap P' (U.take j) (U.drop j) V S' f wr (by rw [e]; exact HR.out) (by simp; omega) (by rw [e, h4]; exact hNc) N ((m : Int) - i) m j (by rw [e]; exact h4) (by omega) (by simp; omega) (by simp; omega)
     refine h.mono ?_
     rintro e w' ⟨h5, h6, h7⟩
     exact ⟨h5, h6, h7⟩)
    go_wp2_with (go_at_call 203; refine HC.out.mono ?_; rintro e w1 ⟨⟨v, rfl⟩, h6, h7⟩; have H6 := Lib.hid h6; have H7 := Lib.hid (HG.out.trans h7); clear h6 h7)
    go_roundw
    case rel =>
     obtain ⟨h1, h2, h3, h4⟩ := HL.out
     refine ⟨i - j, j, P' ++ V, U.drop j, U.take j, S', by go_num, rfl, by omega, hj0, by omega, hjN, Lib.hid ⟨by simp; omega, by simp; omega, by simp; omega, ?_⟩, Lib.hid ?_, H6, H7⟩
     ·simp at h4 ⊢; omega
     ·rw [← HTg.out, List.append_assoc (P' ++ V), List.take_append_drop]
    case measure => simp [intOf]; omega
   ·have HC : Hid (Calls Tryz.prog 203 #[.slice (some ⟨g, 0, none⟩) N cap, .int .i64 ((m : Int) - (i : Int)), .int .i64 ((m : Int) + (j : Int) - (i : Int)), .int .i64 i, f] wr fun e w' => (∃ v, e = .returned v) ∧ Row2 w' g cap (P' ++ (V.drop (j - i)) ++ (V.take (j - i)) ++ (U ++ S')) ∧ Gro g wr w') := Lib.hid (by
     obtain ⟨h1, h2, h3, h4⟩ := HL.out
     have hV : V.take (j - i) ++ V.drop (j - i) = V := List.take_append_drop (j - i) V
     have e : P' ++ U ++ V.take (j - i) ++ V.drop (j - i) ++ S' = P' ++ U ++ V ++ S' := by rw [List.append_assoc (P' ++ U), hV]
     have h := swapRange_at g cap P' U (V.take (j - i)) (V.drop (j - i)) S' f wr (by rw [e]; exact HR.out) (by simp; omega) (by rw [e, h4]; exact hNc) N ((m : Int) - i) ((m : Int) + j - i) i (by rw [e]; exact h4) (by omega) (by simp; omega) (by omega)
     refine h.mono ?_
     rintro e w' ⟨h5, h6, h7⟩
     refine ⟨h5, ?_, h7⟩
     simpa using h6)
    go_wp2_with (go_at_call 203; refine HC.out.mono ?_; rintro e w1 ⟨⟨v, rfl⟩, h6, h7⟩; have H6 := Lib.hid h6; have H7 := Lib.hid (HG.out.trans h7); clear h6 h7)
    go_roundw
    case rel =>
     obtain ⟨h1, h2, h3, h4⟩ := HL.out
     refine ⟨i, j - i, P', V.drop (j - i), V.take (j - i), U ++ S', rfl, by go_num, hi0, by omega, him, by omega, Lib.hid ⟨by simp; omega, by simp; omega, h3, ?_⟩, Lib.hid ?_, H6, H7⟩
     ·simp at h4 ⊢; omega
     ·rw [← HTg.out, List.append_assoc P', List.take_append_drop]; simp
    case measure => simp [intOf]; omega

end Go.Proofs.YtcphokaamkalfaaGreatDoor
namespace Go.Proofs.YtcphokaamkalfaaGreatDoor
open Go.RowKit Go.Sort

theorem at_behind (P : List Pr) (x : Pr) (B S : List Pr) (t : Nat) (ht : t < B.length) : (P ++ x :: B ++ S)[P.length + 1 + t]? = some B[t] := by
 rw [List.append_assoc, List.getElem?_append_right (by omega), show P.length + 1 + t - P.length = t + 1 by omega, List.cons_append, List.getElem?_cons_succ, List.getElem?_append_left ht, List.getElem?_eq_getElem ht]
theorem at_head (P : List Pr) (x : Pr) (B S : List Pr) : (P ++ x :: B ++ S)[P.length]? = some x := by
 rw [List.append_assoc, List.getElem?_append_right (Nat.le_refl _)]; simp

set_option maxHeartbeats 1000000 in
set_option maxRecDepth 1000000 in
theorem merge_one (g cap : Nat) (P B S : List Pr) (x : Pr) (w : World) (hrow : Row2 w g cap (P ++ x :: B ++ S)) (hB : 0 < B.length) (hs : Srt B) (hx : ∀ y ∈ B, x.2 < y.2) (hcap : (P ++ x :: B ++ S).length ≤ 100000000) (N a m b : Nat) (hN : (P ++ x :: B ++ S).length = N) (ha : P.length = a) (hm : a + 1 = m) (hb : m + B.length = b) :
  Calls Tryz.prog 197 #[.slice (some ⟨g, 0, none⟩) N cap, .int .i64 a, .int .i64 m, .int .i64 b, .func (.func 183) #[] #[]] w fun e w' =>
   (∃ v, e = .returned v) ∧ ∃ R, R.Perm (x :: B) ∧ Srt R ∧ Row2 w' g cap (P ++ R ++ S) ∧ Gro g w w' := by
 have mixed := mixedD
 have hNc : N ≤ 100000000 := by rw [← hN]; exact hcap
 clear hcap
 have o3 : b ≤ N := by rw [← hN, ← hb, ← hm, ← ha]; simp; omega
 have HN := Lib.hid hN
 have HRow := Lib.hid hrow
 have HPl := Lib.hid ha
 have HBl := Lib.hid hb
 have o2 : m < b := by omega
 have hm1 : ((m : Int) - (a : Int) == 1) = true := beq_iff_eq.2 (by omega)
 clear hN hrow ha hb hB
 obtain ⟨M, HM⟩ : ∃ M, Hid (M = P ++ x :: B ++ S) := ⟨_, Lib.hid rfl⟩
 rw [← HM.out] at HRow HN
 have gx : M[a]? = some x := by rw [HM.out, ← HPl.out]; exact at_head P x B S
 go_enter Tryz.func197, Tryz.ntmps197
 go_wp2
 go_loopw [10, 11] (fun vi vj wr => ∃ I J : Nat, vi = .int .i64 I ∧ vj = .int .i64 J ∧ m ≤ I ∧ I ≤ J ∧ J ≤ b ∧ Hid ((∀ t (ht : t < B.length), t < I - m → B[t].1 < x.1) ∧ (∀ t (ht : t < B.length), J - m ≤ t → x.1 ≤ B[t].1)) ∧ Hid (Row2 wr g cap M) ∧ Hid (Gro g w wr)) (fun vi vj _ => (intOf vj - intOf vi).toNat)
 case atStart => exact ⟨m, b, rfl, rfl, Nat.le_refl _, by omega, Nat.le_refl _, Lib.hid ⟨fun t ht h => by omega, fun t ht h => by have := HBl.out; omega⟩, HRow, Lib.hid (Gro.refl _ _)⟩
 case round =>
  obtain ⟨I, J, rfl, rfl, hmI, hij, hjb, HI, HR, HG⟩ := hrel
  by_cases hlt : I < J
  ·obtain ⟨h, Hh⟩ : ∃ h, Hid (h = (I + J) / 2) := ⟨_, Lib.hid rfl⟩
   have hh1 : I ≤ h ∧ h < J := by rw [Hh.out]; omega
   obtain ⟨hh1, hh2⟩ := hh1
   have hhe : ((I : Int) + (J : Int)) / 2 = (h : Int) := by rw [Hh.out]; omega
   have htB : h - m < B.length := by have := HBl.out; omega
   obtain ⟨y, Hy⟩ : ∃ y, Hid (B[h - m] = y) := ⟨_, Lib.hid rfl⟩
   have gy : M[h]? = some y := by
    have := at_behind P x B S (h - m) htB
    rw [HPl.out, show a + 1 + (h - m) = h by omega, Hy.out, ← HM.out] at this
    exact this
   have l1 := fun n os => (cells2 wr g cap M HR.out h y gy n os).1
   have l1' := fun n os => (cells2 wr g cap M HR.out h y gy n os).2
   have l2 := fun n os => (cells2 wr g cap M HR.out a x gx n os).1
   have l2' := fun n os => (cells2 wr g cap M HR.out a x gx n os).2
   have z1 : (h : Int) < (N : Int) := by omega
   have z2 : (a : Int) < (N : Int) := by omega
   have HGy := Lib.hid gy
   clear gy
   by_cases hlv : y.1 < x.1
   ·have HCm := Lib.hid (cmpN_neg hlv)
    have HCall : Hid (∀ n os, Calls Tryz.prog 183 #[.agg #[.int .i32 (y.1 : Int), .int .i64 (y.2 : Int)], .agg #[.int .i32 (x.1 : Int), .int .i64 (x.2 : Int)]] (grow (wr.drewN n) os) fun e w' => e = .returned (.int .i64 (-1)) ∧ ∃ q os', w' = grow ((grow (wr.drewN n) os).drewN q) os') := Lib.hid (fun n os => by rw [← HCm.out]; exact cmp_any y x _)
    go_wp2_with fail
    go_quiet_grown (first | exact Calls.grown_of (HCall.out _ _) | exact ⟨rfl, Calls.grown_of (HCall.out _ _)⟩)
    have HR3 : Hid (Row2 (grow (wr.drewN nq) osq) g cap M) := Lib.hid (HR.out.grown nq osq)
    have HG3 : Hid (Gro g w (grow (wr.drewN nq) osq)) := Lib.hid (HG.out.grow nq osq)
    clear l1 l1' l2 l2'
    generalize grow (wr.drewN nq) osq = W2 at HR3 HG3 ⊢
    go_wp2
    go_roundw
    case rel =>
     refine ⟨h + 1, J, by go_num, rfl, by omega, by omega, hjb, Lib.hid ⟨fun t ht hk => ?_, HI.out.2⟩, HR3, HG3⟩
     have := srt_get_le hs (show t ≤ h - m by omega) htB
     rw [Hy.out] at this
     omega
    case measure => simp [intOf]; omega
   ·have hcp := cmpN_pos hlv
    obtain ⟨cc, HCc⟩ : ∃ cc, Hid (cmpN y.1 x.1 = cc) := ⟨_, Lib.hid rfl⟩
    rw [HCc.out] at hcp
    have HCall : Hid (∀ n os, Calls Tryz.prog 183 #[.agg #[.int .i32 (y.1 : Int), .int .i64 (y.2 : Int)], .agg #[.int .i32 (x.1 : Int), .int .i64 (x.2 : Int)]] (grow (wr.drewN n) os) fun e w' => e = .returned (.int .i64 cc) ∧ ∃ q os', w' = grow ((grow (wr.drewN n) os).drewN q) os') := Lib.hid (fun n os => by rw [← HCc.out]; exact cmp_any y x _)
    go_wp2_with fail
    go_quiet_grown (first | exact Calls.grown_of (HCall.out _ _) | exact ⟨rfl, Calls.grown_of (HCall.out _ _)⟩)
    have HR3 : Hid (Row2 (grow (wr.drewN nq) osq) g cap M) := Lib.hid (HR.out.grown nq osq)
    have HG3 : Hid (Gro g w (grow (wr.drewN nq) osq)) := Lib.hid (HG.out.grow nq osq)
    clear l1 l1' l2 l2'
    generalize grow (wr.drewN nq) osq = W2 at HR3 HG3 ⊢
    go_wp2
    go_roundw
    case rel =>
     refine ⟨I, h, rfl, by go_num, hmI, by omega, by omega, Lib.hid ⟨HI.out.1, fun t ht hk => ?_⟩, HR3, HG3⟩
     have := srt_get_le hs (show h - m ≤ t by omega) ht
     rw [Hy.out] at this
     omega
    case measure => simp [intOf]; omega
  ·obtain rfl : I = J := by omega
   obtain ⟨k, Hk⟩ : ∃ k, Hid (k = I - m) := ⟨_, Lib.hid rfl⟩
   have HF := Lib.hid (one_ahead (k := k) hs hx (fun t ht h => HI.out.1 t ht (by have := Hk.out; omega)) (fun t ht h => HI.out.2 t ht (by have := Hk.out; omega)))
   have hkB : k ≤ B.length := by rw [Hk.out]; have := HBl.out; omega
   have hIk : I = m + k := by have := Hk.out; omega
   obtain ⟨B1, HB1⟩ : ∃ B1, Hid (B1 = B.take k) := ⟨_, Lib.hid rfl⟩
   obtain ⟨B2, HB2⟩ : ∃ B2, Hid (B2 = B.drop k) := ⟨_, Lib.hid rfl⟩
   rw [← HB1.out, ← HB2.out] at HF
   have hB1l : B1.length = k := by rw [HB1.out]; simp; omega
   have HBe : Hid (B = B1 ++ B2) := Lib.hid (by rw [HB1.out, HB2.out, List.take_append_drop])
   have HB1L := Lib.hid hB1l
   clear hB1l hkB
   go_wp2
   go_loopw [13] (fun vk wr => ∃ q : Nat, vk = .int .i64 ((a + q : Nat) : Int) ∧ q ≤ k ∧ Hid (Row2 wr g cap (P ++ (B1.take q ++ x :: B1.drop q) ++ (B2 ++ S))) ∧ Hid (Gro g w wr)) (fun vk _ => b - (intOf vk).toNat)
   case atStart => exact ⟨0, by go_num, Nat.zero_le _, Lib.hid (by have := HR.out; rw [HM.out, HBe.out] at this; simpa using this), HG⟩
   case round =>
    obtain ⟨q, rfl, hq, HR4, HG4⟩ := hrel
    by_cases hqk : q < k
    ·obtain ⟨p, Hp⟩ : ∃ p, Hid (p = a + q) := ⟨_, Lib.hid rfl⟩
     rw [← Hp.out]
     have hp1 : p < I - 1 := by rw [Hp.out]; omega
     have hqB : q < B1.length := by rw [HB1L.out]; exact hqk
     obtain ⟨y, Hy⟩ : ∃ y, Hid (B1[q] = y) := ⟨_, Lib.hid rfl⟩
     obtain ⟨X, HX⟩ : ∃ X, Hid (X = P ++ B1.take q) := ⟨_, Lib.hid rfl⟩
     obtain ⟨Z, HZ⟩ : ∃ Z, Hid (Z = B1.drop (q + 1) ++ (B2 ++ S)) := ⟨_, Lib.hid rfl⟩
     have HE : Hid (P ++ (B1.take q ++ x :: B1.drop q) ++ (B2 ++ S) = X ++ x :: [] ++ y :: Z) := Lib.hid (by
      rw [HX.out, HZ.out, List.drop_eq_getElem_cons hqB, Hy.out]; simp)
     have HE2 : Hid (X ++ y :: [] ++ x :: Z = P ++ (B1.take (q + 1) ++ x :: B1.drop (q + 1)) ++ (B2 ++ S)) := Lib.hid (by
      rw [HX.out, HZ.out, List.take_succ_eq_append_getElem hqB, Hy.out]; simp)
     have hXl : X.length = p := by rw [HX.out, Hp.out, ← HPl.out]; simp; omega
     rw [HE.out] at HR4
     have gx := at_first X [] Z x y
     have gy := at_second X [] Z x y
     have HSw := Lib.hid (swap_far X [] Z x y)
     rw [hXl] at gx gy HSw
     simp only [List.length_nil, Nat.add_zero] at gy HSw
     rw [HE2.out] at HSw
     have hl : p + 1 < (X ++ x :: [] ++ y :: Z).length := (List.getElem?_eq_some_iff.1 gy).1
     have HL := Lib.hid hl
     clear hl hXl
     obtain ⟨c1, c1'⟩ := HR4.out.cells' p x gx
     obtain ⟨c2, c2'⟩ := HR4.out.cells' (p + 1) y gy
     have f1 := HR4.out.frozen (p * 2)
     have f1' := HR4.out.frozen (p * 2 + 1)
     have f2 := HR4.out.frozen ((p + 1) * 2)
     have f2' := HR4.out.frozen ((p + 1) * 2 + 1)
     have hw1 : IntKind.i64.wrap ((p : Int) + 1) = (p : Int) + 1 := by rw [IntKind.wrap_i64]; omega
     have t1 : ((p : Int) + 1).toNat = p + 1 := by omega
     have zz : (0 : Int) ≤ (p : Int) + 1 := by omega
     have n1 : (p : Int) < (N : Int) := by omega
     have n2 : (p : Int) + 1 < (N : Int) := by omega
     have hIz : (p : Int) < (I : Int) - 1 := by omega
     clear gx gy hIk
     go_wp2
     go_region
     go_wp2
     go_roundw
     case rel =>
      refine ⟨q + 1, by have := Hp.out; go_num, by omega, Lib.hid ?_, Lib.hid (((((HG4.out.setCell _ _).setCell _ _).setCell _ _).setCell _ _).drew)⟩
      have h9 := (HR4.out.set' p y (by have := HL.out; omega)).set' (p + 1) x (by rw [List.length_set]; exact HL.out)
      rw [HSw.out] at h9
      exact h9
     case measure => simp [intOf]; omega
    ·have HE : Hid (P ++ (B1.take q ++ x :: B1.drop q) ++ (B2 ++ S) = P ++ (B1 ++ x :: B2) ++ S) := Lib.hid (by
      rw [List.take_of_length_le (by rw [HB1L.out]; omega), List.drop_of_length_le (by rw [HB1L.out]; omega)]; simp)
     rw [HE.out] at HR4
     have hIz : ¬ (((a + q : Nat) : Int) < (I : Int) - 1) := by omega
     go_wp2
     refine bodyPost_ret (results_none rfl _ _ _) rfl ?_
     refine ⟨⟨_, rfl⟩, _, HF.out.1, HF.out.2, ?_, HG4.out⟩
     have := HR4.out
     simpa using this

end Go.Proofs.YtcphokaamkalfaaGreatDoor
