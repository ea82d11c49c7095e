/-
  Contracts: slices.swapRangeCmpFunc and slices.rotateCmpFunc over pairs.
-/
import Derived.Test.YtgmjfnddeogfdaaDoorSoB
namespace Go.Proofs.YtgmjfnddeogfdaaDoor
open Go.RowKit Go.Sort

set_option maxHeartbeats 1000000 in
set_option maxRecDepth 1000000 in
theorem swapRange_any (g cap : Nat) (P A M B S : List Pr) (f : Value) (w : World) (hrow : Row2 w g cap (P ++ A ++ M ++ B ++ S)) (hAB : A.length = B.length) (hcap : (P ++ A ++ M ++ B ++ S).length ≤ 100000000) :
    Calls Tryd.prog 71 #[.slice (some ⟨g, 0, none⟩) (P ++ A ++ M ++ B ++ S).length cap, .int .i64 P.length, .int .i64 ((P.length + A.length + M.length : Nat) : Int), .int .i64 A.length, f] w fun e w' =>
      (∃ v, e = .returned v) ∧ Row2 w' g cap (P ++ B ++ M ++ A ++ S) ∧ Gro g w w' := by
  obtain ⟨N, HN⟩ : ∃ N, Hid (N = (P ++ A ++ M ++ B ++ S).length) := ⟨_, Lib.hid rfl⟩
  have hNc : N ≤ 100000000 := by rw [HN.out]; exact hcap
  clear hcap
  have hNl : N = P.length + A.length + M.length + B.length + S.length := by rw [HN.out]; simp; omega
  rw [← HN.out]
  obtain ⟨b, Hb⟩ : ∃ b, Hid (b = P.length + A.length + M.length) := ⟨_, Lib.hid rfl⟩
  have hbN : b + A.length ≤ N := by rw [Hb.out]; omega
  have haN : P.length + A.length ≤ N := by omega
  have HNL := Lib.hid hNl
  rw [← Hb.out]
  clear hNl
  have HRow := Lib.hid hrow; clear hrow
  have HAB := Lib.hid hAB; clear hAB
  obtain ⟨a, Ha⟩ : ∃ a, Hid (a = P.length) := ⟨_, Lib.hid rfl⟩
  obtain ⟨n, Hn⟩ : ∃ n, Hid (n = A.length) := ⟨_, Lib.hid rfl⟩
  rw [← Ha.out, ← Hn.out] at haN ⊢
  rw [← Hn.out] at hbN
  go_enter Tryd.func71, Tryd.ntmps71
  go_wp2
  go_loopw [10] (fun vi wr => ∃ i : Nat, vi = .int .i64 i ∧ i ≤ n ∧ Hid (Row2 wr g cap (swTo P A M B S i)) ∧ Hid (Gro g w wr)) (fun vi _ => n - (intOf vi).toNat)
  case atStart => exact ⟨0, rfl, Nat.zero_le _, Lib.hid (by rw [swTo_zero]; exact HRow.out), Lib.hid (Gro.refl _ _)⟩
  case round =>
    obtain ⟨i, rfl, hi, HR, HG⟩ := hrel
    by_cases hlt : i < n
    · have hA : i < A.length := by rw [← Hn.out]; exact hlt
      have hB : i < B.length := by rw [← HAB.out]; exact hA
      obtain ⟨x, Hx⟩ : ∃ x, Hid (A[i] = x) := ⟨_, Lib.hid rfl⟩
      obtain ⟨y, Hy⟩ : ∃ y, Hid (B[i] = y) := ⟨_, Lib.hid rfl⟩
      have HAt := Lib.hid (swTo_at P A M B S i hA hB)
      have HNx := Lib.hid (swTo_next P A M B S i hA hB)
      rw [Hx.out, Hy.out] at HAt HNx
      obtain ⟨X, HX⟩ : ∃ X, Hid (X = P ++ B.take i) := ⟨_, Lib.hid rfl⟩
      obtain ⟨Y, HY⟩ : ∃ Y, Hid (Y = A.drop (i + 1) ++ M ++ A.take i) := ⟨_, Lib.hid rfl⟩
      obtain ⟨Z, HZ⟩ : ∃ Z, Hid (Z = B.drop (i + 1) ++ S) := ⟨_, Lib.hid rfl⟩
      have hXl : X.length = a + i := by rw [HX.out, Ha.out]; simp; omega
      have hYl : X.length + 1 + Y.length = b + i := by
        have := Hb.out
        have h2 := Ha.out
        rw [hXl, HY.out]; simp; omega
      rw [← HX.out, ← HY.out, ← HZ.out] at HAt HNx
      rw [HAt.out] at HR
      have gx := at_first X Y Z x y
      have gy := at_second X Y Z x y
      rw [hXl] at gx
      rw [hYl] at gy
      have HSw := Lib.hid (swap_far X Y Z x y)
      rw [hXl, show a + i + 1 + Y.length = b + i by omega, HNx.out] at HSw
      have hl : (X ++ x :: Y ++ y :: Z).length = N := by
        rw [← HAt.out, HNL.out]
        have h3 := HAB.out
        simp [swTo]; omega
      have HL := Lib.hid hl
      clear hl hXl hYl
      obtain ⟨c1, c1'⟩ := HR.out.cells' (a + i) x gx
      obtain ⟨c2, c2'⟩ := HR.out.cells' (b + i) y gy
      have f1 := HR.out.frozen ((a + i) * 2)
      have f1' := HR.out.frozen ((a + i) * 2 + 1)
      have f2 := HR.out.frozen ((b + i) * 2)
      have f2' := HR.out.frozen ((b + i) * 2 + 1)
      have hw1 : IntKind.i64.wrap ((a : Int) + (i : Int)) = (a : Int) + (i : Int) := by rw [IntKind.wrap_i64]; omega
      have hw2 : IntKind.i64.wrap ((b : Int) + (i : Int)) = (b : Int) + (i : Int) := by rw [IntKind.wrap_i64]; omega
      have t1 : ((a : Int) + (i : Int)).toNat = a + i := by omega
      have t2 : ((b : Int) + (i : Int)).toNat = b + i := by omega
      have z1 : (0 : Int) ≤ (a : Int) + (i : Int) := by omega
      have z2 : (0 : Int) ≤ (b : Int) + (i : Int) := by omega
      have n1 : (a : Int) + (i : Int) < (N : Int) := by omega
      have n2 : (b : Int) + (i : Int) < (N : Int) := by omega
      clear gx gy
      have hab : a < b := by
        have h1 := Hb.out
        have h2 := Ha.out
        have h3 := Hn.out
        omega
      have d1 : ¬ ((a + i) * 2 = (b + i) * 2) := by omega
      have d2 : ¬ ((a + i) * 2 = (b + i) * 2 + 1) := by omega
      have d3 : ¬ ((a + i) * 2 + 1 = (b + i) * 2) := by omega
      have d4 : ¬ ((a + i) * 2 + 1 = (b + i) * 2 + 1) := by omega
      have d5 : ¬ (a = b) := by omega
      have d5' : ¬ (b = a) := by omega
      have e1 : ¬ ((b + i) * 2 = (a + i) * 2) := by omega
      have e2 : ¬ ((b + i) * 2 + 1 = (a + i) * 2) := by omega
      have e3 : ¬ ((b + i) * 2 = (a + i) * 2 + 1) := by omega
      have e4 : ¬ ((b + i) * 2 + 1 = (a + i) * 2 + 1) := by omega
      go_wp2
      go_region
      go_wp2
      go_roundw
      case rel =>
        refine ⟨i + 1, by go_num, by omega, Lib.hid ?_, Lib.hid (((((HG.out.setCell _ _).setCell _ _).setCell _ _).setCell _ _).drew)⟩
        have h := (HR.out.set' (a + i) y (by rw [HL.out]; omega)).set' (b + i) x (by rw [List.length_set, HL.out]; omega)
        rw [HSw.out] at h
        exact h
      case measure => simp [intOf]; omega
    · have HE : Hid (swTo P A M B S i = P ++ B ++ M ++ A ++ S) := Lib.hid (by rw [show i = A.length by have := Hn.out; omega]; exact swTo_all P A M B S HAB.out)
      rw [HE.out] at HR
      go_wp2
      go_end0
      exact ⟨⟨_, rfl⟩, HR.out, HG.out⟩

/-- The same, with its numbers told. -/
theorem swapRange_at (g cap : Nat) (P A M B S : List Pr) (f : Value) (w : World) (hrow : Row2 w g cap (P ++ A ++ M ++ B ++ S)) (hAB : A.length = B.length) (hcap : (P ++ A ++ M ++ B ++ S).length ≤ 100000000) (N : Nat) (a b n : Int) (hN : (P ++ A ++ M ++ B ++ S).length = N) (ha : (P.length : Int) = a) (hb : ((P.length + A.length + M.length : Nat) : Int) = b) (hn : (A.length : Int) = n) :
    Calls Tryd.prog 71 #[.slice (some ⟨g, 0, none⟩) N cap, .int .i64 a, .int .i64 b, .int .i64 n, f] w fun e w' =>
      (∃ v, e = .returned v) ∧ Row2 w' g cap (P ++ B ++ M ++ A ++ S) ∧ Gro g w w' := by
  subst hN ha hb hn
  exact swapRange_any g cap P A M B S f w hrow hAB hcap

set_option maxHeartbeats 1000000 in
set_option maxRecDepth 1000000 in
theorem rotate_any (g cap : Nat) (P X Y S : List Pr) (f : Value) (w : World) (hrow : Row2 w g cap (P ++ X ++ Y ++ S)) (hX : 0 < X.length) (hY : 0 < Y.length) (hcap : (P ++ X ++ Y ++ S).length ≤ 100000000) (N a m b : Nat) (hN : (P ++ X ++ Y ++ S).length = N) (ha : P.length = a) (hm : P.length + X.length = m) (hb : P.length + X.length + Y.length = b) :
    Calls Tryd.prog 70 #[.slice (some ⟨g, 0, none⟩) N cap, .int .i64 a, .int .i64 m, .int .i64 b, f] w fun e w' =>
      (∃ v, e = .returned v) ∧ Row2 w' g cap (P ++ Y ++ X ++ S) ∧ Gro g w w' := by
  have hNc : N ≤ 100000000 := by rw [← hN]; exact hcap
  clear hcap
  have hNl : N = P.length + X.length + Y.length + S.length := by rw [← hN]; simp; omega
  have HN := Lib.hid hN
  have HRow := Lib.hid hrow
  have HXl := Lib.hid (show X.length = m - a by omega)
  have HYl := Lib.hid (show Y.length = b - m by omega)
  have HPl := Lib.hid ha
  have o1 : a < m := by omega
  have o2 : m < b := by omega
  have o3 : b ≤ N := by omega
  clear hN hrow hX hY ha hm hb hNl
  obtain ⟨T, HT⟩ : ∃ T, Hid (T = P ++ Y ++ X ++ S) := ⟨_, Lib.hid rfl⟩
  rw [← HT.out]
  go_enter Tryd.func70, Tryd.ntmps70
  go_wp2
  go_loopw [10, 11] (fun vi vj wr => ∃ (i j : Nat) (P' U V S' : List Pr), vi = .int .i64 i ∧ vj = .int .i64 j ∧ 0 < i ∧ 0 < j ∧ i ≤ m ∧ m + j ≤ N ∧ Hid (U.length = i ∧ V.length = j ∧ P'.length + i = m ∧ (P' ++ U ++ V ++ S').length = N) ∧ Hid (P' ++ V ++ U ++ S' = T) ∧ Hid (Row2 wr g cap (P' ++ U ++ V ++ S')) ∧ Hid (Gro g w wr)) (fun vi vj _ => (intOf vi).toNat + (intOf vj).toNat)
  case atStart =>
    have h1 := HPl.out
    have h2 := HXl.out
    have h3 := HYl.out
    exact ⟨m - a, b - m, P, X, Y, S, by go_num, by go_num, by omega, by omega, by omega, by omega, Lib.hid ⟨by omega, by omega, by omega, HN.out⟩, Lib.hid HT.out.symm, HRow, Lib.hid (Gro.refl _ _)⟩
  case round =>
    obtain ⟨i, j, P', U, V, S', rfl, rfl, hi0, hj0, him, hjN, HL, HTg, HR, HG⟩ := hrel
    by_cases hne : i = j
    · have heq : ((i : Int) != (j : Int)) = false := by rw [hne]; simp
      have HC : Hid (Calls Tryd.prog 71 #[.slice (some ⟨g, 0, none⟩) N cap, .int .i64 ((m : Int) - (i : Int)), .int .i64 m, .int .i64 i, f] wr fun e w' => (∃ v, e = .returned v) ∧ Row2 w' g cap T ∧ Gro g wr w') := Lib.hid (by
        obtain ⟨h1, h2, h3, h4⟩ := HL.out
        have h := swapRange_at g cap P' U [] V S' f wr (by have := HR.out; simpa using this) (by omega) (by have h9 : (P' ++ U ++ [] ++ V ++ S').length = N := by simpa using h4
                                                                                                            rw [h9]; exact hNc) N ((m : Int) - i) m i (by simpa using h4) (by omega) (by simp; omega) (by omega)
        refine h.mono ?_
        rintro e w' ⟨h5, h6, h7⟩
        refine ⟨h5, ?_, h7⟩
        rw [← HTg.out]; simpa using h6)
      clear hne
      go_wp2_with fail
      refine HC.out.mono ?_
      rintro e w1 ⟨⟨v, rfl⟩, h6, h7⟩
      have H6 := Lib.hid h6
      have H7 := Lib.hid (HG.out.trans h7)
      clear h6 h7
      go_wp2
      go_end0
      exact ⟨⟨_, rfl⟩, H6.out, H7.out⟩
    · have heq : ((i : Int) != (j : Int)) = true := bne_iff_ne.2 (by omega)
      by_cases hgt : j < i
      · have HC : Hid (Calls Tryd.prog 71 #[.slice (some ⟨g, 0, none⟩) N cap, .int .i64 ((m : Int) - (i : Int)), .int .i64 m, .int .i64 j, f] wr fun e w' => (∃ v, e = .returned v) ∧ Row2 w' g cap ((P' ++ V) ++ (U.drop j) ++ (U.take j) ++ S') ∧ Gro g wr w') := Lib.hid (by
          obtain ⟨h1, h2, h3, h4⟩ := HL.out
          have hU : U.take j ++ U.drop j = U := List.take_append_drop j U
          have e : P' ++ U.take j ++ U.drop j ++ V ++ S' = P' ++ U ++ V ++ S' := by rw [List.append_assoc P', hU]
          have h := swapRange_at g cap P' (U.take j) (U.drop j) V S' f wr (by rw [e]; exact HR.out) (by simp; omega) (by rw [e, h4]; exact hNc) N ((m : Int) - i) m j (by rw [e]; exact h4) (by omega) (by simp; omega) (by simp; omega)
          refine h.mono ?_
          rintro e w' ⟨h5, h6, h7⟩
          exact ⟨h5, h6, h7⟩)
        go_wp2_with (go_at_call 71; refine HC.out.mono ?_; rintro e w1 ⟨⟨v, rfl⟩, h6, h7⟩; have H6 := Lib.hid h6; have H7 := Lib.hid (HG.out.trans h7); clear h6 h7)
        go_roundw
        case rel =>
          obtain ⟨h1, h2, h3, h4⟩ := HL.out
          refine ⟨i - j, j, P' ++ V, U.drop j, U.take j, S', by go_num, rfl, by omega, hj0, by omega, hjN, Lib.hid ⟨by simp; omega, by simp; omega, by simp; omega, ?_⟩, Lib.hid ?_, H6, H7⟩
          · simp at h4 ⊢; omega
          · rw [← HTg.out, List.append_assoc (P' ++ V), List.take_append_drop]
        case measure => simp [intOf]; omega
      · have HC : Hid (Calls Tryd.prog 71 #[.slice (some ⟨g, 0, none⟩) N cap, .int .i64 ((m : Int) - (i : Int)), .int .i64 ((m : Int) + (j : Int) - (i : Int)), .int .i64 i, f] wr fun e w' => (∃ v, e = .returned v) ∧ Row2 w' g cap (P' ++ (V.drop (j - i)) ++ (V.take (j - i)) ++ (U ++ S')) ∧ Gro g wr w') := Lib.hid (by
          obtain ⟨h1, h2, h3, h4⟩ := HL.out
          have hV : V.take (j - i) ++ V.drop (j - i) = V := List.take_append_drop (j - i) V
          have e : P' ++ U ++ V.take (j - i) ++ V.drop (j - i) ++ S' = P' ++ U ++ V ++ S' := by rw [List.append_assoc (P' ++ U), hV]
          have h := swapRange_at g cap P' U (V.take (j - i)) (V.drop (j - i)) S' f wr (by rw [e]; exact HR.out) (by simp; omega) (by rw [e, h4]; exact hNc) N ((m : Int) - i) ((m : Int) + j - i) i (by rw [e]; exact h4) (by omega) (by simp; omega) (by omega)
          refine h.mono ?_
          rintro e w' ⟨h5, h6, h7⟩
          refine ⟨h5, ?_, h7⟩
          simpa using h6)
        go_wp2_with (go_at_call 71; refine HC.out.mono ?_; rintro e w1 ⟨⟨v, rfl⟩, h6, h7⟩; have H6 := Lib.hid h6; have H7 := Lib.hid (HG.out.trans h7); clear h6 h7)
        go_roundw
        case rel =>
          obtain ⟨h1, h2, h3, h4⟩ := HL.out
          refine ⟨i, j - i, P', V.drop (j - i), V.take (j - i), U ++ S', rfl, by go_num, hi0, by omega, him, by omega, Lib.hid ⟨by simp; omega, by simp; omega, h3, ?_⟩, Lib.hid ?_, H6, H7⟩
          · simp at h4 ⊢; omega
          · rw [← HTg.out, List.append_assoc P', List.take_append_drop]; simp
        case measure => simp [intOf]; omega

end Go.Proofs.YtgmjfnddeogfdaaDoor
