/-
  Contract: slices.insertionSortCmpFunc over pairs.
-/
import Derived.Test.YtgmjfnddeogfdaaDoorSoA
import Derived.Shelf.SlSortCmp.InsertionK
namespace Go.Proofs.YtgmjfnddeogfdaaDoor
open Go.RowKit Go.Sort

theorem mixedD : Tryd.prog.follows .mixedOrders = true := by kernel_rfl
theorem cells2 (w : World) (g cap : Nat) (l : List Pr) (h : Row2 w g cap l) (j : Nat) (p : Pr) (hp : l[j]? = some p) (n : Nat) (os : Array Obj) :
    (grow (w.drewN n) os).cell? ⟨g, j * 2, none⟩ = some (.int .i32 (p.1 : Int)) ∧ (grow (w.drewN n) os).cell? ⟨g, j * 2 + 1, none⟩ = some (.int .i64 (p.2 : Int)) :=
  (h.grown n os).cells' j p hp
theorem cmpN_neg {a b : Nat} (h : a < b) : cmpN a b = -1 := by rw [cmpN, if_pos h]
theorem cmpN_pos {a b : Nat} (h : ¬ a < b) : 0 ≤ cmpN a b := by rw [cmpN, if_neg h]; split <;> omega

set_option maxHeartbeats 1000000 in
set_option maxRecDepth 1000000 in
theorem insertion_any (g cap : Nat) (P T S : List Pr) (w : World) (hrow : Row2 w g cap (P ++ T ++ S)) (hr : Ris T) (hcap : (P ++ T ++ S).length ≤ 100000000) :
    Calls Tryd.prog 67 #[.slice (some ⟨g, 0, none⟩) (P ++ T ++ S).length cap, .int .i64 P.length, .int .i64 ((P.length + T.length : Nat) : Int), .func (.func 51) #[] #[]] w fun e w' =>
      (∃ v, e = .returned v) ∧ ∃ R, R.Perm T ∧ Srt R ∧ Row2 w' g cap (P ++ R ++ S) ∧ Gro g w w' := by
  have mixed := mixedD
  obtain ⟨N, HN⟩ : ∃ N, Hid (N = (P ++ T ++ S).length) := ⟨_, Lib.hid rfl⟩
  have hNl : N = P.length + T.length + S.length := by rw [HN.out]; simp; omega
  have hNc : N ≤ 100000000 := by rw [HN.out]; exact hcap
  clear hcap
  rw [← HN.out]
  have HRow := Lib.hid hrow; clear hrow
  obtain ⟨a, Ha⟩ : ∃ a, Hid (a = P.length) := ⟨_, Lib.hid rfl⟩
  obtain ⟨b, Hb⟩ : ∃ b, Hid (b = P.length + T.length) := ⟨_, Lib.hid rfl⟩
  have hab : a ≤ b ∧ b ≤ N := by rw [Ha.out, Hb.out]; omega
  rw [← Hb.out, ← Ha.out]
  clear hNl
  obtain ⟨hab, hbN⟩ := hab
  go_enter Tryd.func67, Tryd.ntmps67
  go_wp2
  go_loopw [8] (fun vi wr => ∃ (i : Nat) (R T2 : List Pr), vi = .int .i64 i ∧ a < i ∧ i ≤ b + 1 ∧ Hid ((T2 = [] ∧ b ≤ i ∧ R.Perm T) ∨ (i < b ∧ ∃ T1, T = T1 ++ T2 ∧ R.Perm T1 ∧ T1.length + a = i)) ∧ Hid (Srt R) ∧ Hid (Row2 wr g cap (P ++ R ++ T2 ++ S)) ∧ Hid (Gro g w wr)) (fun vi _ => b + 1 - (intOf vi).toNat)
  case atStart =>
    have h1 := Ha.out
    have h2 := Hb.out
    cases T with
    | nil => exact ⟨a + 1, [], [], by go_num, by omega, by simp at h2; omega, Lib.hid (.inl ⟨rfl, by simp at h2; omega, .refl _⟩), Lib.hid List.Pairwise.nil, Lib.hid (by have := HRow.out; simpa using this), Lib.hid (Gro.refl _ _)⟩
    | cons t T' =>
      simp at h2
      refine ⟨a + 1, [t], T', by go_num, by omega, by omega, Lib.hid ?_, Lib.hid (by simp [Srt]), Lib.hid (by have := HRow.out; simpa using this), Lib.hid (Gro.refl _ _)⟩
      cases T' with
      | nil => exact .inl ⟨rfl, by simp at h2; omega, .refl _⟩
      | cons u T'' => exact .inr ⟨by simp at h2; omega, [t], rfl, .refl _, by simp; omega⟩
  case round =>
    obtain ⟨i, R, T2, rfl, hai, hib, HP, HS, HR, HG⟩ := hrel
    by_cases hlt : i < b
    · have HP2 : Hid (∃ T1, T = T1 ++ T2 ∧ R.Perm T1 ∧ T1.length + a = i) := Lib.hid (by
        rcases HP.out with ⟨_, h, _⟩ | ⟨_, h⟩
        · omega
        · exact h)
      clear HP
      obtain ⟨x, T3, rfl⟩ : ∃ x T3, T2 = x :: T3 := by
        obtain ⟨T1, h1, h2, h3⟩ := HP2.out
        cases T2 with
        | nil =>
          have := congrArg List.length h1
          have h4 := Ha.out
          have h5 := Hb.out
          simp at this; omega
        | cons x T3 => exact ⟨x, T3, rfl⟩
      go_wp2
      go_loopw [9] (fun vj wr2 => ∃ (j : Nat) (U V : List Pr), vj = .int .i64 j ∧ a ≤ j ∧ j ≤ i ∧ Hid (U ++ V = R ∧ U.length + a = j ∧ ∀ v ∈ V, x.1 < v.1) ∧ Hid (Row2 wr2 g cap (P ++ (U ++ x :: V) ++ T3 ++ S)) ∧ Hid (Gro g w wr2)) (fun vj _ => (intOf vj).toNat)
      case atStart =>
        refine ⟨i, R, [], rfl, by omega, Nat.le_refl _, Lib.hid ⟨by simp, ?_, by simp⟩, Lib.hid (by have := HR.out; simpa using this), HG⟩
        obtain ⟨T1, h1, h2, h3⟩ := HP2.out
        rw [h2.length_eq]; exact h3
      case round =>
        obtain ⟨j, U, V, rfl, haj, hji, HU, HR2, HG2⟩ := hrel
        have hfun : Enters Tryd.prog 51 := enters_of Tryd.func51 (by kernel_rfl) rfl
        by_cases hja : a < j
        · obtain ⟨jp, rfl⟩ : ∃ jp, j = jp + 1 := ⟨j - 1, by omega⟩
          obtain ⟨M, HM⟩ : ∃ M, Hid (M = P ++ (U ++ x :: V) ++ T3 ++ S) := ⟨_, Lib.hid rfl⟩
          rw [← HM.out] at HR2
          have HUe : Hid (∃ U', ∃ y, U = U' ++ [y] ∧ U'.length + a = jp) := Lib.hid (by
            obtain ⟨h1, h2, h3⟩ := HU.out
            have hne : U ≠ [] := fun h => by rw [h] at h2; simp at h2; omega
            exact ⟨U.dropLast, U.getLast hne, (List.dropLast_concat_getLast hne).symm, by simp; omega⟩)
          obtain ⟨U', y, rfl, hU'⟩ := HUe.out
          have HE : Hid (M = (P ++ U') ++ y :: x :: (V ++ T3 ++ S)) := Lib.hid (by rw [HM.out]; simp)
          have HPl : Hid ((P ++ U').length = jp) := Lib.hid (by have := Ha.out; simp; omega)
          have gy : M[jp]? = some y := by rw [HE.out, List.getElem?_append_right (by rw [HPl.out]; omega), HPl.out]; simp
          have gx : M[jp + 1]? = some x := by rw [HE.out, List.getElem?_append_right (by rw [HPl.out]; omega), HPl.out]; simp
          have HMl : Hid (M.length = N) := Lib.hid (by
            obtain ⟨T1, h1, h2, h3⟩ := HP2.out
            obtain ⟨h4, _, _⟩ := HU.out
            have h5 := h2.length_eq
            have h6 := congrArg List.length h1
            have h7 := congrArg List.length h4
            have h8 := HN.out
            rw [HE.out]
            simp at h6 h7 h8 ⊢; omega)
          have l1 := fun n os => (cells2 wr g cap M HR2.out (jp + 1) x gx n os).1
          have l1' := fun n os => (cells2 wr g cap M HR2.out (jp + 1) x gx n os).2
          have l2 := fun n os => (cells2 wr g cap M HR2.out jp y gy n os).1
          have l2' := fun n os => (cells2 wr g cap M HR2.out jp y gy n os).2
          have hz1 : (jp : Int) + 1 < (N : Int) := by omega
          have hwp : IntKind.i64.wrap (jp : Int) = (jp : Int) := by rw [IntKind.wrap_i64]; omega
          have jz1 : (jp : Int) < (N : Int) := by omega
          have hjaz' : (a : Int) < (jp : Int) + 1 := by omega
          have p0 : (0 : Int) ≤ (jp : Int) + 1 := by omega
          have e0 : ((jp : Int) + 1).toNat = jp + 1 := by omega
          have HGy := Lib.hid gy
          have HGx := Lib.hid gx
          clear gy gx hU'
          by_cases hlv : x.1 < y.1
          · have HCm := Lib.hid (cmpN_neg hlv)
            have HCall : Hid (∀ n os, Calls Tryd.prog 51 #[.agg #[.int .i32 (x.1 : Int), .int .i64 (x.2 : Int)], .agg #[.int .i32 (y.1 : Int), .int .i64 (y.2 : Int)]] (grow (wr.drewN n) os) fun e w' => e = .returned (.int .i64 (-1)) ∧ ∃ q os', w' = grow ((grow (wr.drewN n) os).drewN q) os') := Lib.hid (fun n os => by
              rw [← HCm.out]; exact cmp_any x y _)
            go_wp2_with fail
            go_quiet_grown (first | exact Calls.grown_of (HCall.out _ _) | exact ⟨rfl, Calls.grown_of (HCall.out _ _)⟩ | (go_at_call 51; exact Calls.grown_of (HCall.out _ _)))
            have HR3 : Hid (Row2 (grow (wr.drewN nq) osq) g cap M) := Lib.hid (HR2.out.grown nq osq)
            have HG3 : Hid (Gro g w (grow (wr.drewN nq) osq)) := Lib.hid (HG2.out.grow nq osq)
            clear l1 l1' l2 l2'
            generalize grow (wr.drewN nq) osq = W2 at HR3 HG3 ⊢
            obtain ⟨c1, c1'⟩ := HR3.out.cells' (jp + 1) x HGx.out
            obtain ⟨c2, c2'⟩ := HR3.out.cells' jp y HGy.out
            have f1 := HR3.out.frozen ((jp + 1) * 2)
            have f1' := HR3.out.frozen ((jp + 1) * 2 + 1)
            have f2 := HR3.out.frozen (jp * 2)
            have f2' := HR3.out.frozen (jp * 2 + 1)
            go_wp2
            go_region
            go_wp2
            go_roundw
            case rel =>
              have hm1 := HMl.out
              refine ⟨jp, U', y :: V, by go_num, by omega, by omega, Lib.hid ?_, Lib.hid ?_, Lib.hid ((((((HG3.out.setCell _ _).setCell _ _).setCell _ _).setCell _ _)).drew)⟩
              · obtain ⟨h4, h5, h6⟩ := HU.out
                refine ⟨by rw [← h4]; simp, by simp at h5; omega, fun v hv => ?_⟩
                rcases List.mem_cons.1 hv with rfl | hv
                · exact hlv
                · exact h6 v hv
              · have h9 := (HR3.out.set' (jp + 1) y (by omega)).set' jp x (by simp; omega)
                have h10 := swap_list (P ++ U') x y (V ++ T3 ++ S)
                rw [HPl.out, ← HE.out] at h10
                rw [h10] at h9
                have e : P ++ U' ++ x :: y :: (V ++ T3 ++ S) = P ++ (U' ++ x :: y :: V) ++ T3 ++ S := by simp
                rw [e] at h9
                exact h9
            case measure => simp [intOf]
          · have hcp := cmpN_pos hlv
            obtain ⟨cc, HCc⟩ : ∃ cc, Hid (cmpN x.1 y.1 = cc) := ⟨_, Lib.hid rfl⟩
            rw [HCc.out] at hcp
            have HCall : Hid (∀ n os, Calls Tryd.prog 51 #[.agg #[.int .i32 (x.1 : Int), .int .i64 (x.2 : Int)], .agg #[.int .i32 (y.1 : Int), .int .i64 (y.2 : Int)]] (grow (wr.drewN n) os) fun e w' => e = .returned (.int .i64 cc) ∧ ∃ q os', w' = grow ((grow (wr.drewN n) os).drewN q) os') := Lib.hid (fun n os => by
              rw [← HCc.out]; exact cmp_any x y _)
            go_wp2_with fail
            go_quiet_grown (first | exact Calls.grown_of (HCall.out _ _) | exact ⟨rfl, Calls.grown_of (HCall.out _ _)⟩ | (go_at_call 51; exact Calls.grown_of (HCall.out _ _)))
            have HR3 : Hid (Row2 (grow (wr.drewN nq) osq) g cap M) := Lib.hid (HR2.out.grown nq osq)
            have HG3 : Hid (Gro g w (grow (wr.drewN nq) osq)) := Lib.hid (HG2.out.grow nq osq)
            clear l1 l1' l2 l2'
            generalize grow (wr.drewN nq) osq = W2 at HR3 HG3 ⊢
            have HEnd : Hid (∃ T1, T = T1 ++ x :: T3 ∧ T1.length + a = i ∧ (U' ++ [y] ++ x :: V).Perm (T1 ++ [x]) ∧ Srt (U' ++ [y] ++ x :: V)) := Lib.hid (by
              obtain ⟨T1, h1, h2, h3⟩ := HP2.out
              obtain ⟨h4, h5, h6⟩ := HU.out
              have hs := HS.out
              rw [← h4] at hs h2
              have hsU : Srt (U' ++ [y]) := by unfold Srt at hs ⊢; rw [List.pairwise_append] at hs; exact hs.1
              have := ins_end (by rw [← h1]; exact hr) h2 hs h6 (fun u hu => Nat.le_trans (srt_le_last hsU u hu) (by omega))
              exact ⟨T1, h1, h3, this⟩)
            go_wp2
            go_roundw
            case rel =>
              obtain ⟨T1, h1, h2, h3, h4⟩ := HEnd.out
              refine ⟨i + 1, U' ++ [y] ++ x :: V, T3, by go_num, by omega, by omega, Lib.hid ?_, Lib.hid h4, Lib.hid (by rw [← HM.out]; exact HR3.out), HG3⟩
              have h5 := congrArg List.length h1
              have h6 := Ha.out
              have h7 := Hb.out
              simp at h5
              by_cases hq : i + 1 < b
              · exact .inr ⟨hq, T1 ++ [x], by rw [h1]; simp, h3, by simp; omega⟩
              · have h8 : T3 = [] := List.eq_nil_of_length_eq_zero (by omega)
                exact .inl ⟨h8, by omega, by rw [h1, h8]; exact h3⟩
            case measure => simp [intOf]; omega
        · have hjaz : decide ((j : Int) > (a : Int)) = false := decide_eq_false (by omega)
          have hjaz' : ¬ (a : Int) < (j : Int) := by omega
          obtain ⟨M, HM⟩ : ∃ M, Hid (M = P ++ (U ++ x :: V) ++ T3 ++ S) := ⟨_, Lib.hid rfl⟩
          rw [← HM.out] at HR2
          have HEnd : Hid (∃ T1, T = T1 ++ x :: T3 ∧ T1.length + a = i ∧ (U ++ x :: V).Perm (T1 ++ [x]) ∧ Srt (U ++ x :: V)) := Lib.hid (by
            obtain ⟨T1, h1, h2, h3⟩ := HP2.out
            obtain ⟨h4, h5, h6⟩ := HU.out
            have hs := HS.out
            rw [← h4] at hs h2
            have hU : U = [] := List.eq_nil_of_length_eq_zero (by omega)
            have := ins_end (by rw [← h1]; exact hr) h2 hs h6 (fun u hu => by rw [hU] at hu; simp at hu)
            exact ⟨T1, h1, h3, this⟩)
          have HR3 : Hid (Row2 wr.drew g cap M) := HR2
          have HG3 : Hid (Gro g w wr.drew) := Lib.hid HG2.out.drew
          go_wp2_with fail
          go_big_region
          all_goals go_wp2
          go_roundw
          case rel =>
            obtain ⟨T1, h1, h2, h3, h4⟩ := HEnd.out
            refine ⟨i + 1, U ++ x :: V, T3, by go_num, by omega, by omega, Lib.hid ?_, Lib.hid h4, Lib.hid (by rw [← HM.out]; exact HR3.out), HG3⟩
            have h5 := congrArg List.length h1
            have h6 := Ha.out
            have h7 := Hb.out
            simp at h5
            by_cases hq : i + 1 < b
            · exact .inr ⟨hq, T1 ++ [x], by rw [h1]; simp, h3, by simp; omega⟩
            · have h8 : T3 = [] := List.eq_nil_of_length_eq_zero (by omega)
              exact .inl ⟨h8, by omega, by rw [h1, h8]; exact h3⟩
          case measure => simp [intOf]; omega
    · have HF : Hid (R.Perm T ∧ T2 = []) := Lib.hid (by
        rcases HP.out with ⟨h1, _, h2⟩ | ⟨h, _⟩
        · exact ⟨h2, h1⟩
        · omega)
      go_wp2
      go_end0
      refine ⟨⟨_, rfl⟩, R, HF.out.1, HS.out, ?_, HG.out⟩
      have := HR.out
      rw [HF.out.2] at this
      simpa using this

end Go.Proofs.YtgmjfnddeogfdaaDoor
