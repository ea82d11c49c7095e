/-
  Contracts: slices.stableCmpFunc and slices.SortStableFunc over pairs.
-/
import Derived.Test.YtgmjfnddeogfdaaDoorSoI
namespace Go.Proofs.YtgmjfnddeogfdaaDoor
open Go.RowKit Go.Sort

theorem insertion_at (g cap : Nat) (P T S : List Pr) (w : World) (hrow : Row2 w g cap (P ++ T ++ S)) (hr : Ris T) (hcap : (P ++ T ++ S).length ≤ 100000000) (N a b : Nat) (hN : (P ++ T ++ S).length = N) (ha : P.length = a) (hb : P.length + T.length = b) :
    Calls Tryd.prog 67 #[.slice (some ⟨g, 0, none⟩) N cap, .int .i64 a, .int .i64 b, .func (.func 51) #[] #[]] w fun e w' =>
      (∃ v, e = .returned v) ∧ ∃ R, R.Perm T ∧ Srt R ∧ Row2 w' g cap (P ++ R ++ S) ∧ Gro g w w' := by
  subst hN ha hb
  exact insertion_any g cap P T S w hrow hr hcap
theorem flat_snoc (Bs : List (List Pr)) (l : List Pr) : (Bs ++ [l]).flatten = Bs.flatten ++ l := by simp

/-- What stands between two passes: rows of k in order, and a shorter one. -/
def Rows2 (k : Nat) (Bs : List (List Pr)) (l : List Pr) : Prop := (∀ b ∈ Bs, b.length = k) ∧ l.length < k ∧ Good (Bs ++ [l])
/-- What stands within a pass. -/
def Pass (k : Nat) (Ms Rs : List (List Pr)) (l : List Pr) : Prop := (∀ b ∈ Ms, b.length = 2 * k) ∧ (∀ b ∈ Rs, b.length = k) ∧ l.length < k ∧ Good (Ms ++ (Rs ++ [l]))

set_option maxHeartbeats 2000000 in
set_option maxRecDepth 1000000 in
theorem stable_any (g cap : Nat) (T : List Pr) (w : World) (hrow : Row2 w g cap T) (hr : Ris T) (hcap : T.length ≤ 10000000) :
    Calls Tryd.prog 64 #[.slice (some ⟨g, 0, none⟩) T.length cap, .int .i64 T.length, .func (.func 51) #[] #[]] w fun e w' =>
      (∃ v, e = .returned v) ∧ ∃ R, R.Perm T ∧ Srt R ∧ Row2 w' g cap R ∧ Gro g w w' := by
  obtain ⟨N, HN⟩ : ∃ N, Hid (N = T.length) := ⟨_, Lib.hid rfl⟩
  have hNc : N ≤ 10000000 := by rw [HN.out]; exact hcap
  clear hcap
  rw [← HN.out]
  have HRow := Lib.hid hrow; clear hrow
  go_enter Tryd.func64, Tryd.ntmps64
  go_wp2
  go_loopw [7, 8] (fun va vb wr => ∃ (a b : Nat) (Bs : List (List Pr)) (R : List Pr), va = .int .i64 a ∧ vb = .int .i64 b ∧ b ≤ a + 20 ∧ a + 20 ≤ b ∧ a ≤ N ∧ Hid (Bs.flatten.length = a ∧ (Bs.flatten ++ R).length = N ∧ (∀ l ∈ Bs, l.length = 20) ∧ Part Bs R ∧ (Bs.flatten ++ R).Perm T) ∧ Hid (Row2 wr g cap (Bs.flatten ++ R)) ∧ Hid (Gro g w wr)) (fun va _ _ => N - (intOf va).toNat)
  case atStart => exact ⟨0, 20, [], T, rfl, rfl, Nat.le_refl _, Nat.le_refl _, Nat.zero_le _, Lib.hid ⟨rfl, by simpa using HN.out.symm, by simp, part_start hr, by simp⟩, Lib.hid (by simpa using HRow.out), Lib.hid (Gro.refl _ _)⟩
  case round =>
    obtain ⟨a, b, Bs, R, rfl, rfl, hba1, hba2, haN, HI, HR, HG⟩ := hrel
    by_cases hlt : b ≤ N
    · have HC : Hid (Calls Tryd.prog 67 #[.slice (some ⟨g, 0, none⟩) N cap, .int .i64 a, .int .i64 b, .func (.func 51) #[] #[]] wr fun e w' =>
          (∃ v, e = .returned v) ∧ ∃ l, l.Perm (R.take 20) ∧ Srt l ∧ Row2 w' g cap (Bs.flatten ++ l ++ R.drop 20) ∧ Gro g wr w') := Lib.hid (by
        obtain ⟨h1, h2, h3, h4, h5⟩ := HI.out
        have e : Bs.flatten ++ R.take 20 ++ R.drop 20 = Bs.flatten ++ R := by rw [List.append_assoc, List.take_append_drop]
        have h6 := h4.2.1
        rw [← List.take_append_drop 20 R] at h6
        rw [List.length_append] at h2
        exact insertion_at g cap Bs.flatten (R.take 20) (R.drop 20) wr (by rw [e]; exact HR.out) (ris_split h6).1 (by rw [e, List.length_append, h2]; omega) N a b (by rw [e, List.length_append]; exact h2) h1 (by rw [h1, List.length_take]; omega))
      go_wp2_with fail
      refine HC.out.mono ?_
      rintro e w1 ⟨⟨v, rfl⟩, l, p1, s1, r1, g1⟩
      have HE : Hid (l.Perm (R.take 20) ∧ Srt l ∧ Row2 w1 g cap (Bs.flatten ++ l ++ R.drop 20) ∧ Gro g wr w1) := Lib.hid ⟨p1, s1, r1, g1⟩
      clear p1 s1 r1 g1
      go_wp2
      go_roundw
      case rel =>
        obtain ⟨h1, h2, h3, h4, h5⟩ := HI.out
        obtain ⟨p1, s1, r1, g1⟩ := HE.out
        have h2' := h2
        rw [List.length_append, h1] at h2'
        have hR : (R.take 20).length = 20 := by rw [List.length_take]; omega
        have e : R.take 20 ++ R.drop 20 = R := List.take_append_drop 20 R
        have pl := p1.length_eq
        refine ⟨b, b + 20, Bs ++ [l], R.drop 20, by go_num, by go_num, Nat.le_refl _, Nat.le_refl _, hlt, Lib.hid ⟨?_, ?_, ?_, ?_, ?_⟩, Lib.hid (by rw [flat_snoc]; exact r1), Lib.hid (HG.out.trans g1)⟩
        · rw [flat_snoc, List.length_append]; omega
        · rw [flat_snoc, List.length_append, List.length_append, List.length_drop]; omega
        · intro m hm
          rcases List.mem_append.1 hm with hm | hm
          · exact h3 m hm
          · simp at hm; subst hm; omega
        · rw [← e] at h4
          exact part_next h4 p1 s1
        · rw [flat_snoc]
          have h6 : (Bs.flatten ++ l ++ R.drop 20).Perm (Bs.flatten ++ R.take 20 ++ R.drop 20) := (List.Perm.append_left _ p1).append_right _
          rw [List.append_assoc _ (R.take 20), e] at h6
          exact h6.trans h5
      case measure => simp [intOf]; omega
    · have HC : Hid (Calls Tryd.prog 67 #[.slice (some ⟨g, 0, none⟩) N cap, .int .i64 a, .int .i64 N, .func (.func 51) #[] #[]] wr fun e w' =>
          (∃ v, e = .returned v) ∧ ∃ l, l.Perm R ∧ Srt l ∧ Row2 w' g cap (Bs.flatten ++ l) ∧ Gro g wr w') := Lib.hid (by
        obtain ⟨h1, h2, h3, h4, h5⟩ := HI.out
        have h := insertion_at g cap Bs.flatten R [] wr (by simpa using HR.out) h4.2.1 (by
          have h9 : (Bs.flatten ++ R ++ []).length = N := by simpa using h2
          rw [h9]; omega) N a N (by simpa using h2) h1 (by rw [← List.length_append]; exact h2)
        refine h.mono ?_
        rintro e w' ⟨q1, l, q2, q3, q4, q5⟩
        exact ⟨q1, l, q2, q3, by simpa using q4, q5⟩)
      go_wp2_with fail
      refine HC.out.mono ?_
      rintro e w1 ⟨⟨v, rfl⟩, l, p1, s1, r1, g1⟩
      have HS : Hid (∃ Bs l, Rows2 20 Bs l ∧ (Bs.flatten ++ l).Perm T ∧ (Bs.flatten ++ l).length = N ∧ Row2 w1 g cap (Bs.flatten ++ l) ∧ Gro g w w1) := Lib.hid (by
        obtain ⟨h1, h2, h3, h4, h5⟩ := HI.out
        have pl := p1.length_eq
        have hp := part_next (R := []) (by simpa using h4) p1 s1
        have h2' := h2
        rw [List.length_append, h1] at h2'
        exact ⟨Bs, l, ⟨h3, by omega, hp.1⟩, (List.Perm.append_left _ p1).trans h5, by rw [List.length_append]; omega, r1, HG.out.trans g1⟩)
      clear p1 s1 r1 g1 HC HI HR HG
      go_wp2
      go_loopw [6] (fun vk wr => ∃ k : Nat, vk = .int .i64 k ∧ 0 < k ∧ k ≤ 40000000 ∧ Hid (∃ Bs l, Rows2 k Bs l ∧ (Bs.flatten ++ l).Perm T ∧ (Bs.flatten ++ l).length = N ∧ Row2 wr g cap (Bs.flatten ++ l) ∧ Gro g w wr)) (fun vk _ => N + 1 - (intOf vk).toNat)
      case atStart => exact ⟨20, rfl, by omega, by omega, HS⟩
      case round =>
        obtain ⟨k, rfl, hk0, hkb, HI⟩ := hrel
        by_cases hkn : k < N
        · go_wp2
          go_loopw [7, 8] (fun va vb wr => ∃ (a b : Nat), va = .int .i64 a ∧ vb = .int .i64 b ∧ b ≤ a + 2 * k ∧ a + 2 * k ≤ b ∧ a ≤ N ∧ Hid (∃ Ms Rs l, Ms.flatten.length = a ∧ Pass k Ms Rs l ∧ (Ms.flatten ++ (Rs.flatten ++ l)).Perm T ∧ (Ms.flatten ++ (Rs.flatten ++ l)).length = N ∧ Row2 wr g cap (Ms.flatten ++ (Rs.flatten ++ l)) ∧ Gro g w wr)) (fun va _ _ => N - (intOf va).toNat)
          case atStart =>
            obtain ⟨Bs, l, ⟨q1, q2, q3⟩, q4, q5, q6, q7⟩ := HI.out
            exact ⟨0, 2 * k, rfl, by go_num, by omega, by omega, Nat.zero_le _, Lib.hid ⟨[], Bs, l, rfl, ⟨by simp, q1, q2, by simpa using q3⟩, by simpa using q4, by simpa using q5, by simpa using q6, q7⟩⟩
          case round =>
            obtain ⟨a, b, rfl, rfl, hb1, hb2, haN, HP⟩ := hrel
            by_cases hbn : b ≤ N
            · have HC : Hid (Calls Tryd.prog 68 #[.slice (some ⟨g, 0, none⟩) N cap, .int .i64 a, .int .i64 ((a : Int) + (k : Int)), .int .i64 b, .func (.func 51) #[] #[]] wr fun e w' =>
                  (∃ v, e = .returned v) ∧ ∃ Ms Rs l, Ms.flatten.length = b ∧ Pass k Ms Rs l ∧ (Ms.flatten ++ (Rs.flatten ++ l)).Perm T ∧ (Ms.flatten ++ (Rs.flatten ++ l)).length = N ∧ Row2 w' g cap (Ms.flatten ++ (Rs.flatten ++ l)) ∧ Gro g w w') := Lib.hid (by
                obtain ⟨Ms, Rs, l, q0, ⟨q1, q2, q3, q4⟩, q5, q6, q7, q8⟩ := HP.out
                have hl : a + (Rs.flatten.length + l.length) = N := by rw [← q6, List.length_append, List.length_append, q0]
                obtain ⟨l1, l2, Rs, rfl⟩ : ∃ l1 l2 Rs', Rs = l1 :: l2 :: Rs' := by
                  match Rs with
                  | [] => simp at hl; omega
                  | [l1] => have := q2 l1 (by simp); simp at hl; omega
                  | l1 :: l2 :: Rs' => exact ⟨l1, l2, Rs', rfl⟩
                have k1 := q2 l1 (by simp)
                have k2 := q2 l2 (by simp)
                obtain ⟨s1, s2, x12⟩ := good_crs (Rs := Rs ++ [l]) (by simpa using q4)
                have e : Ms.flatten ++ l1 ++ l2 ++ (Rs.flatten ++ l) = Ms.flatten ++ ((l1 :: l2 :: Rs).flatten ++ l) := by simp
                have h := merges g cap (l1.length + l2.length) Ms.flatten l1 l2 (Rs.flatten ++ l) wr N a (a + k) b (Nat.le_refl _) (by rw [e]; exact q7) (by omega) (by omega) s1 s2 x12 (by rw [e]; exact q6) q0 (by omega) (by omega) (by omega)
                rw [Int.natCast_add] at h
                refine h.mono ?_
                rintro e' w' ⟨r1, R, p1, s1, r2, g1⟩
                have pl := p1.length_eq
                rw [List.length_append] at pl
                refine ⟨r1, Ms ++ [R], Rs, l, ?_, ⟨?_, fun x hx => q2 x (by simp [hx]), q3, ?_⟩, ?_, ?_, ?_, q8.trans g1⟩
                · rw [flat_snoc, List.length_append]; omega
                · intro x hx
                  rcases List.mem_append.1 hx with hx | hx
                  · exact q1 x hx
                  · simp at hx; subst hx; omega
                · have := good_merge (Ms := Ms) (Rs := Rs ++ [l]) (by simpa using q4) p1 s1
                  simpa using this
                · rw [flat_snoc]
                  refine List.Perm.trans ?_ q5
                  rw [← e]
                  refine List.Perm.append_right _ ?_
                  rw [List.append_assoc]
                  exact List.Perm.append_left _ p1
                · have hf : (l1 :: l2 :: Rs).flatten.length = l1.length + (l2.length + Rs.flatten.length) := by rw [List.flatten_cons, List.flatten_cons, List.length_append, List.length_append]
                  rw [hf] at hl
                  rw [flat_snoc, List.length_append, List.length_append, List.length_append, pl, q0]; omega
                · rw [flat_snoc]; exact r2)
              go_wp2_with fail
              refine HC.out.mono ?_
              rintro e w1 ⟨⟨v, rfl⟩, hk⟩
              have HK := Lib.hid hk
              clear hk
              go_wp2
              go_roundw
              case rel => exact ⟨b, b + 2 * k, by go_num, by go_num, Nat.le_refl _, Nat.le_refl _, hbn, HK⟩
              case measure => simp [intOf]; omega
            · by_cases hmn : a + k < N
              · have HC : Hid (Calls Tryd.prog 68 #[.slice (some ⟨g, 0, none⟩) N cap, .int .i64 a, .int .i64 ((a : Int) + (k : Int)), .int .i64 N, .func (.func 51) #[] #[]] wr fun e w' =>
                    (∃ v, e = .returned v) ∧ ∃ Bs l, Rows2 (2 * k) Bs l ∧ (Bs.flatten ++ l).Perm T ∧ (Bs.flatten ++ l).length = N ∧ Row2 w' g cap (Bs.flatten ++ l) ∧ Gro g w w') := Lib.hid (by
                  obtain ⟨Ms, Rs, l, q0, ⟨q1, q2, q3, q4⟩, q5, q6, q7, q8⟩ := HP.out
                  have hl : a + (Rs.flatten.length + l.length) = N := by rw [← q6, List.length_append, List.length_append, q0]
                  obtain ⟨l1, rfl⟩ : ∃ l1, Rs = [l1] := by
                    match Rs with
                    | [] => simp at hl; omega
                    | [l1] => exact ⟨l1, rfl⟩
                    | l1 :: l2 :: Rs' =>
                      have h1 := q2 l1 (by simp)
                      have h2 := q2 l2 (by simp)
                      rw [List.flatten_cons, List.flatten_cons, List.length_append, List.length_append] at hl
                      omega
                  have k1 := q2 l1 (by simp)
                  have ef : [l1].flatten = l1 := by simp
                  rw [ef] at hl q5 q6 q7
                  obtain ⟨s1, s2, x12⟩ := good_crs (Rs := []) (by simpa using q4)
                  have e : Ms.flatten ++ l1 ++ l ++ [] = Ms.flatten ++ (l1 ++ l) := by simp
                  have h := merges g cap (l1.length + l.length) Ms.flatten l1 l [] wr N a (a + k) N (Nat.le_refl _) (by rw [e]; exact q7) (by omega) (by omega) s1 s2 x12 (by rw [e]; exact q6) q0 (by omega) (by omega) (by omega)
                  rw [Int.natCast_add] at h
                  refine h.mono ?_
                  rintro e' w' ⟨r1, R, p1, s1, r2, g1⟩
                  have pl := p1.length_eq
                  rw [List.length_append] at pl
                  refine ⟨r1, Ms, R, ⟨q1, by omega, ?_⟩, (List.Perm.append_left _ p1).trans q5, by rw [List.length_append, q0]; omega, by simpa using r2, q8.trans g1⟩
                  exact good_merge (Ms := Ms) (Rs := []) (by simpa using q4) p1 s1)
                go_wp2_with fail
                refine HC.out.mono ?_
                rintro e w1 ⟨⟨v, rfl⟩, hk⟩
                have HK := Lib.hid hk
                clear hk
                go_wp2
                go_roundw
                case rel => exact ⟨2 * k, by go_num, by omega, by omega, HK⟩
                case measure => simp [intOf]; omega
              · have HK : Hid (∃ Bs l, Rows2 (2 * k) Bs l ∧ (Bs.flatten ++ l).Perm T ∧ (Bs.flatten ++ l).length = N ∧ Row2 wr g cap (Bs.flatten ++ l) ∧ Gro g w wr) := Lib.hid (by
                  obtain ⟨Ms, Rs, l, q0, ⟨q1, q2, q3, q4⟩, q5, q6, q7, q8⟩ := HP.out
                  have hl : a + (Rs.flatten.length + l.length) = N := by rw [← q6, List.length_append, List.length_append, q0]
                  match Rs with
                  | [] => exact ⟨Ms, l, ⟨q1, by omega, by simpa using q4⟩, by simpa using q5, by simpa using q6, by simpa using q7, q8⟩
                  | [l1] =>
                    have k1 := q2 l1 (by simp)
                    have ef : [l1].flatten = l1 := by simp
                    rw [ef] at hl q5 q6 q7
                    have h2 : l = [] := List.eq_nil_of_length_eq_zero (by omega)
                    subst h2
                    obtain ⟨s1, s2, x12⟩ := good_crs (Ms := Ms) (Rs := []) (l1 := l1) (l2 := []) (by simpa using q4)
                    have hg := good_merge (Ms := Ms) (Rs := []) (l1 := l1) (l2 := []) (R := l1) (by simpa using q4) (by simp) s1
                    exact ⟨Ms, l1, ⟨q1, by omega, by simpa using hg⟩, by simpa using q5, by simpa using q6, by simpa using q7, q8⟩
                  | l1 :: l2 :: Rs' =>
                    have h1 := q2 l1 (by simp)
                    have h2 := q2 l2 (by simp)
                    rw [List.flatten_cons, List.flatten_cons, List.length_append, List.length_append] at hl
                    omega)
                go_wp2
                go_roundw
                case rel => exact ⟨2 * k, by go_num, by omega, by omega, HK⟩
                case measure => simp [intOf]; omega
        · have HF : Hid (∃ R, R.Perm T ∧ Srt R ∧ Row2 wr g cap R ∧ Gro g w wr) := Lib.hid (by
            obtain ⟨Bs, l, ⟨q1, q2, q3⟩, q4, q5, q6, q7⟩ := HI.out
            cases Bs with
            | nil => exact ⟨l, by simpa using q4, q3.1 l (by simp), by simpa using q6, q7⟩
            | cons c Bs =>
              have h1 := q1 c (by simp)
              simp at q5
              have h2 : l = [] := List.eq_nil_of_length_eq_zero (by omega)
              have h3 : Bs.flatten = [] := List.eq_nil_of_length_eq_zero (by simp; omega)
              subst h2
              refine ⟨c, ?_, q3.1 c (by simp), ?_, q7⟩
              · have := q4; simp only [List.flatten_cons, h3, List.append_nil] at this; exact this
              · have := q6; simp only [List.flatten_cons, h3, List.append_nil] at this; exact this)
          go_wp2
          go_end0
          exact ⟨⟨_, rfl⟩, HF.out⟩

set_option maxHeartbeats 400000 in
/-- slices.SortStableFunc over pairs whose places rise: the same pairs, by their signs, then by their places. -/
theorem SortStable_any (g cap : Nat) (T : List Pr) (w : World) (hrow : Row2 w g cap T) (hr : Ris T) (hcap : T.length ≤ 10000000) :
    Calls Tryd.prog 50 #[.slice (some ⟨g, 0, none⟩) T.length cap, .func (.func 51) #[] #[]] w fun e w' =>
      (∃ v, e = .returned v) ∧ ∃ R, R.Perm T ∧ Srt R ∧ Row2 w' g cap R ∧ Gro g w w' := by
  have HC := Lib.hid (stable_any g cap T w hrow hr hcap)
  have hNc : T.length ≤ 10000000 := hcap
  clear hrow
  go_enter Tryd.func50, Tryd.ntmps50
  go_wp2_with fail
  refine HC.out.mono ?_
  rintro e w1 ⟨⟨v, rfl⟩, hk⟩
  have HK := Lib.hid hk
  clear hk
  go_wp2
  go_end0
  exact ⟨⟨_, rfl⟩, HK.out⟩

end Go.Proofs.YtgmjfnddeogfdaaDoor
