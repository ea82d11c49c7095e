/-
  Contracts: slices.symMergeCmpFunc, slices.stableCmpFunc and slices.SortStableFunc over pairs.
  Contracts: slices.stableCmpFunc and slices.SortStableFunc over pairs.
  An append onto a row of one's own answers in its own block or in a new one. Of no program.
  Contract: puny.sorted: a text's plain signs, its others in order, and the tree of sums over the places of the plain ones.
  Contract: puny.sorted.
  What puny.sorted begins with: a tree of sums of noughts, an iterator at the first byte, two empty rows.
  Contract: slices.SortStableFunc over a nil slice.
  Contract: puny.sorted: a text's plain signs, its others in order, and the tree of sums over the places of the plain ones.
-/
import Derived.Test.YtcphokaamkalfaaGreatDoorSoG
import Derived.Test.YtcphokaamkalfaaGreatDoorSoH
import Derived.Test.YtcphokaamkalfaaGreatDoorPnU
import Derived.Lib.OthersKept
import Derived.Laws.MakeOwn
namespace Go.Proofs.YtcphokaamkalfaaGreatDoor
open Go.RowKit Go.Sort

theorem merges (g cap : Nat) : ∀ n, Merges g cap n
  | 0 => fun P A B S w N a m b hn hrow hA0 hB0 hA hB hx hN hP hm hb hcap => by omega
  | n + 1 => fun P A B S w N a m b hn hrow hA0 hB0 hA hB hx hN hP hm hb hcap => by
    by_cases h1 : A.length = 1
    · obtain ⟨x, rfl⟩ := List.length_eq_one_iff.1 h1
      have e : P ++ [x] ++ B ++ S = P ++ x :: B ++ S := by simp
      rw [e] at hrow hN
      exact merge_one g cap P B S x w hrow hB0 hB (fun y hy => hx x (by simp) y hy) (by rw [hN]; exact hcap) N a m b hN hP (by simpa using hm) hb
    · by_cases h2 : B.length = 1
      · obtain ⟨y, rfl⟩ := List.length_eq_one_iff.1 h2
        have e : P ++ A ++ [y] ++ S = P ++ A ++ y :: S := by simp
        rw [e] at hrow hN
        exact merge_last g cap P A S y w hrow (by omega) hA (fun x hx' => hx x hx' y (by simp)) (by rw [hN]; exact hcap) N a m b hN hP hm (by simpa using hb)
      · by_cases h3 : (a + b) / 2 < m
        · exact merge_hi g cap P A B S w N a m b n (merges g cap n) hn hrow (by omega) (by omega) hA hB hx hcap hN hP hm hb h3
        · exact merge_lo g cap P A B S w N a m b n (merges g cap n) hn hrow (by omega) (by omega) hA hB hx hcap hN hP hm hb (by omega)

/-- Every place of the one ahead of every place of the other. -/
def Crs (l l' : List Pr) : Prop := ∀ x ∈ l, ∀ y ∈ l', x.2 < y.2
/-- Rows in order, one behind the other. -/
def Good (Bs : List (List Pr)) : Prop := (∀ l ∈ Bs, Srt l) ∧ Bs.Pairwise Crs
theorem ris_split {t R : List Pr} (h : Ris (t ++ R)) : Ris t ∧ Ris R ∧ Crs t R := by
  unfold Ris at h
  rw [List.pairwise_append] at h
  exact h
theorem crs_perm_l {l l2 l' : List Pr} (h : Crs l l') (p : l2.Perm l) : Crs l2 l' := fun x hx y hy => h x (p.mem_iff.1 hx) y hy
theorem crs_perm_r {l l2 l' : List Pr} (h : Crs l' l) (p : l2.Perm l) : Crs l' l2 := fun x hx y hy => h x hx y (p.mem_iff.1 hy)
theorem crs_app_l {l1 l2 l' : List Pr} (h1 : Crs l1 l') (h2 : Crs l2 l') : Crs (l1 ++ l2) l' := fun x hx y hy => by
  rcases List.mem_append.1 hx with h | h
  · exact h1 x h y hy
  · exact h2 x h y hy
theorem crs_app_r {l1 l2 l' : List Pr} (h1 : Crs l' l1) (h2 : Crs l' l2) : Crs l' (l1 ++ l2) := fun x hx y hy => by
  rcases List.mem_append.1 hy with h | h
  · exact h1 x hx y h
  · exact h2 x hx y h
/-- Two rows are merged. -/
theorem good_merge {Ms Rs : List (List Pr)} {l1 l2 R : List Pr} (h : Good (Ms ++ l1 :: l2 :: Rs)) (p : R.Perm (l1 ++ l2)) (s : Srt R) : Good (Ms ++ R :: Rs) := by
  obtain ⟨h1, h2⟩ := h
  rw [List.pairwise_append, List.pairwise_cons, List.pairwise_cons] at h2
  obtain ⟨a1, ⟨a2, a3, a4⟩, a5⟩ := h2
  refine ⟨fun l hl => ?_, ?_⟩
  · rcases List.mem_append.1 hl with hl | hl
    · exact h1 l (by simp [hl])
    · rcases List.mem_cons.1 hl with rfl | hl
      · exact s
      · exact h1 l (by simp [hl])
  · rw [List.pairwise_append, List.pairwise_cons]
    refine ⟨a1, ⟨fun l hl => crs_perm_l (crs_app_l (a2 l (by simp [hl])) (a3 l hl)) p, a4⟩, fun m hm l hl => ?_⟩
    rcases List.mem_cons.1 hl with rfl | hl
    · exact crs_perm_r (crs_app_r (a5 m hm l1 (by simp)) (a5 m hm l2 (by simp))) p
    · exact a5 m hm l (by simp [hl])
theorem good_crs {Ms Rs : List (List Pr)} {l1 l2 : List Pr} (h : Good (Ms ++ l1 :: l2 :: Rs)) : Srt l1 ∧ Srt l2 ∧ Crs l1 l2 := by
  obtain ⟨h1, h2⟩ := h
  rw [List.pairwise_append, List.pairwise_cons] at h2
  exact ⟨h1 l1 (by simp), h1 l2 (by simp), h2.2.1.1 l2 (by simp)⟩
/-- Rows in order, and a rest whose places rise. -/
def Part (Bs : List (List Pr)) (R : List Pr) : Prop := Good Bs ∧ Ris R ∧ ∀ l ∈ Bs, Crs l R
theorem part_start {T : List Pr} (h : Ris T) : Part [] T := ⟨⟨fun l hl => by simp at hl, .nil⟩, h, fun l hl => by simp at hl⟩
theorem part_next {Bs : List (List Pr)} {t R l : List Pr} (h : Part Bs (t ++ R)) (p : l.Perm t) (s : Srt l) : Part (Bs ++ [l]) R := by
  obtain ⟨⟨h1, h2⟩, h3, h4⟩ := h
  obtain ⟨r1, r2, r3⟩ := ris_split h3
  refine ⟨⟨fun m hm => ?_, ?_⟩, r2, fun m hm => ?_⟩
  · rcases List.mem_append.1 hm with hm | hm
    · exact h1 m hm
    · simp at hm; subst hm; exact s
  · rw [List.pairwise_append]
    refine ⟨h2, by simp, fun m hm q hq => ?_⟩
    simp at hq; subst hq
    exact crs_perm_r (fun x hx y hy => h4 m hm x hx y (by simp [hy])) p
  · rcases List.mem_append.1 hm with hm | hm
    · exact fun x hx y hy => h4 m hm x hx y (by simp [hy])
    · simp at hm; subst hm; exact crs_perm_l r3 p

end Go.Proofs.YtcphokaamkalfaaGreatDoor
namespace Go.Proofs.YtcphokaamkalfaaGreatDoor
open Go.RowKit Go.Sort

theorem insertion_at (g cap : Nat) (P T S : List Pr) (w : World) (hrow : Row2 w g cap (P ++ T ++ S)) (hr : Ris T) (hcap : (P ++ T ++ S).length ≤ 100000000) (N a b : Nat) (hN : (P ++ T ++ S).length = N) (ha : P.length = a) (hb : P.length + T.length = b) :
    Calls Tryz.prog 196 #[.slice (some ⟨g, 0, none⟩) N cap, .int .i64 a, .int .i64 b, .func (.func 183) #[] #[]] w fun e w' =>
      (∃ v, e = .returned v) ∧ ∃ R, R.Perm T ∧ Srt R ∧ Row2 w' g cap (P ++ R ++ S) ∧ Gro g w w' := by
  subst hN ha hb
  exact insertion_any g cap P T S w hrow hr hcap
theorem flat_snoc (Bs : List (List Pr)) (l : List Pr) : (Bs ++ [l]).flatten = Bs.flatten ++ l := by simp

/-- What stands between two passes: rows of k in order, and a shorter one. -/
def Rows2 (k : Nat) (Bs : List (List Pr)) (l : List Pr) : Prop := (∀ b ∈ Bs, b.length = k) ∧ l.length < k ∧ Good (Bs ++ [l])
/-- What stands within a pass. -/
def Pass (k : Nat) (Ms Rs : List (List Pr)) (l : List Pr) : Prop := (∀ b ∈ Ms, b.length = 2 * k) ∧ (∀ b ∈ Rs, b.length = k) ∧ l.length < k ∧ Good (Ms ++ (Rs ++ [l]))

set_option maxHeartbeats 2000000 in
set_option maxRecDepth 1000000 in
theorem stable_any (g cap : Nat) (T : List Pr) (w : World) (hrow : Row2 w g cap T) (hr : Ris T) (hcap : T.length ≤ 10000000) :
    Calls Tryz.prog 191 #[.slice (some ⟨g, 0, none⟩) T.length cap, .int .i64 T.length, .func (.func 183) #[] #[]] w fun e w' =>
      (∃ v, e = .returned v) ∧ ∃ R, R.Perm T ∧ Srt R ∧ Row2 w' g cap R ∧ Gro g w w' := by
  obtain ⟨N, HN⟩ : ∃ N, Hid (N = T.length) := ⟨_, Lib.hid rfl⟩
  have hNc : N ≤ 10000000 := by rw [HN.out]; exact hcap
  clear hcap
  rw [← HN.out]
  have HRow := Lib.hid hrow; clear hrow
  go_enter Tryz.func191, Tryz.ntmps191
  go_wp2
  go_loopw [7, 8] (fun va vb wr => ∃ (a b : Nat) (Bs : List (List Pr)) (R : List Pr), va = .int .i64 a ∧ vb = .int .i64 b ∧ b ≤ a + 20 ∧ a + 20 ≤ b ∧ a ≤ N ∧ Hid (Bs.flatten.length = a ∧ (Bs.flatten ++ R).length = N ∧ (∀ l ∈ Bs, l.length = 20) ∧ Part Bs R ∧ (Bs.flatten ++ R).Perm T) ∧ Hid (Row2 wr g cap (Bs.flatten ++ R)) ∧ Hid (Gro g w wr)) (fun va _ _ => N - (intOf va).toNat)
  case atStart => exact ⟨0, 20, [], T, rfl, rfl, Nat.le_refl _, Nat.le_refl _, Nat.zero_le _, Lib.hid ⟨rfl, by simpa using HN.out.symm, by simp, part_start hr, by simp⟩, Lib.hid (by simpa using HRow.out), Lib.hid (Gro.refl _ _)⟩
  case round =>
    obtain ⟨a, b, Bs, R, rfl, rfl, hba1, hba2, haN, HI, HR, HG⟩ := hrel
    by_cases hlt : b ≤ N
    · have HC : Hid (Calls Tryz.prog 196 #[.slice (some ⟨g, 0, none⟩) N cap, .int .i64 a, .int .i64 b, .func (.func 183) #[] #[]] wr fun e w' =>
          (∃ v, e = .returned v) ∧ ∃ l, l.Perm (R.take 20) ∧ Srt l ∧ Row2 w' g cap (Bs.flatten ++ l ++ R.drop 20) ∧ Gro g wr w') := Lib.hid (by
        obtain ⟨h1, h2, h3, h4, h5⟩ := HI.out
        have e : Bs.flatten ++ R.take 20 ++ R.drop 20 = Bs.flatten ++ R := by rw [List.append_assoc, List.take_append_drop]
        have h6 := h4.2.1
        rw [← List.take_append_drop 20 R] at h6
        rw [List.length_append] at h2
        exact insertion_at g cap Bs.flatten (R.take 20) (R.drop 20) wr (by rw [e]; exact HR.out) (ris_split h6).1 (by rw [e, List.length_append, h2]; omega) N a b (by rw [e, List.length_append]; exact h2) h1 (by rw [h1, List.length_take]; omega))
      go_wp2_with fail
      refine HC.out.mono ?_
      rintro e w1 ⟨⟨v, rfl⟩, l, p1, s1, r1, g1⟩
      have HE : Hid (l.Perm (R.take 20) ∧ Srt l ∧ Row2 w1 g cap (Bs.flatten ++ l ++ R.drop 20) ∧ Gro g wr w1) := Lib.hid ⟨p1, s1, r1, g1⟩
      clear p1 s1 r1 g1
      go_wp2
      go_roundw
      case rel =>
        obtain ⟨h1, h2, h3, h4, h5⟩ := HI.out
        obtain ⟨p1, s1, r1, g1⟩ := HE.out
        have h2' := h2
        rw [List.length_append, h1] at h2'
        have hR : (R.take 20).length = 20 := by rw [List.length_take]; omega
        have e : R.take 20 ++ R.drop 20 = R := List.take_append_drop 20 R
        have pl := p1.length_eq
        refine ⟨b, b + 20, Bs ++ [l], R.drop 20, by go_num, by go_num, Nat.le_refl _, Nat.le_refl _, hlt, Lib.hid ⟨?_, ?_, ?_, ?_, ?_⟩, Lib.hid (by rw [flat_snoc]; exact r1), Lib.hid (HG.out.trans g1)⟩
        · rw [flat_snoc, List.length_append]; omega
        · rw [flat_snoc, List.length_append, List.length_append, List.length_drop]; omega
        · intro m hm
          rcases List.mem_append.1 hm with hm | hm
          · exact h3 m hm
          · simp at hm; subst hm; omega
        · rw [← e] at h4
          exact part_next h4 p1 s1
        · rw [flat_snoc]
          have h6 : (Bs.flatten ++ l ++ R.drop 20).Perm (Bs.flatten ++ R.take 20 ++ R.drop 20) := (List.Perm.append_left _ p1).append_right _
          rw [List.append_assoc _ (R.take 20), e] at h6
          exact h6.trans h5
      case measure => simp [intOf]; omega
    · have HC : Hid (Calls Tryz.prog 196 #[.slice (some ⟨g, 0, none⟩) N cap, .int .i64 a, .int .i64 N, .func (.func 183) #[] #[]] wr fun e w' =>
          (∃ v, e = .returned v) ∧ ∃ l, l.Perm R ∧ Srt l ∧ Row2 w' g cap (Bs.flatten ++ l) ∧ Gro g wr w') := Lib.hid (by
        obtain ⟨h1, h2, h3, h4, h5⟩ := HI.out
        have h := insertion_at g cap Bs.flatten R [] wr (by simpa using HR.out) h4.2.1 (by
          have h9 : (Bs.flatten ++ R ++ []).length = N := by simpa using h2
          rw [h9]; omega) N a N (by simpa using h2) h1 (by rw [← List.length_append]; exact h2)
        refine h.mono ?_
        rintro e w' ⟨q1, l, q2, q3, q4, q5⟩
        exact ⟨q1, l, q2, q3, by simpa using q4, q5⟩)
      go_wp2_with fail
      refine HC.out.mono ?_
      rintro e w1 ⟨⟨v, rfl⟩, l, p1, s1, r1, g1⟩
      have HS : Hid (∃ Bs l, Rows2 20 Bs l ∧ (Bs.flatten ++ l).Perm T ∧ (Bs.flatten ++ l).length = N ∧ Row2 w1 g cap (Bs.flatten ++ l) ∧ Gro g w w1) := Lib.hid (by
        obtain ⟨h1, h2, h3, h4, h5⟩ := HI.out
        have pl := p1.length_eq
        have hp := part_next (R := []) (by simpa using h4) p1 s1
        have h2' := h2
        rw [List.length_append, h1] at h2'
        exact ⟨Bs, l, ⟨h3, by omega, hp.1⟩, (List.Perm.append_left _ p1).trans h5, by rw [List.length_append]; omega, r1, HG.out.trans g1⟩)
      clear p1 s1 r1 g1 HC HI HR HG
      go_wp2
      go_loopw [6] (fun vk wr => ∃ k : Nat, vk = .int .i64 k ∧ 0 < k ∧ k ≤ 40000000 ∧ Hid (∃ Bs l, Rows2 k Bs l ∧ (Bs.flatten ++ l).Perm T ∧ (Bs.flatten ++ l).length = N ∧ Row2 wr g cap (Bs.flatten ++ l) ∧ Gro g w wr)) (fun vk _ => N + 1 - (intOf vk).toNat)
      case atStart => exact ⟨20, rfl, by omega, by omega, HS⟩
      case round =>
        obtain ⟨k, rfl, hk0, hkb, HI⟩ := hrel
        by_cases hkn : k < N
        · go_wp2
          go_loopw [7, 8] (fun va vb wr => ∃ (a b : Nat), va = .int .i64 a ∧ vb = .int .i64 b ∧ b ≤ a + 2 * k ∧ a + 2 * k ≤ b ∧ a ≤ N ∧ Hid (∃ Ms Rs l, Ms.flatten.length = a ∧ Pass k Ms Rs l ∧ (Ms.flatten ++ (Rs.flatten ++ l)).Perm T ∧ (Ms.flatten ++ (Rs.flatten ++ l)).length = N ∧ Row2 wr g cap (Ms.flatten ++ (Rs.flatten ++ l)) ∧ Gro g w wr)) (fun va _ _ => N - (intOf va).toNat)
          case atStart =>
            obtain ⟨Bs, l, ⟨q1, q2, q3⟩, q4, q5, q6, q7⟩ := HI.out
            exact ⟨0, 2 * k, rfl, by go_num, by omega, by omega, Nat.zero_le _, Lib.hid ⟨[], Bs, l, rfl, ⟨by simp, q1, q2, by simpa using q3⟩, by simpa using q4, by simpa using q5, by simpa using q6, q7⟩⟩
          case round =>
            obtain ⟨a, b, rfl, rfl, hb1, hb2, haN, HP⟩ := hrel
            by_cases hbn : b ≤ N
            · have HC : Hid (Calls Tryz.prog 197 #[.slice (some ⟨g, 0, none⟩) N cap, .int .i64 a, .int .i64 ((a : Int) + (k : Int)), .int .i64 b, .func (.func 183) #[] #[]] wr fun e w' =>
                  (∃ v, e = .returned v) ∧ ∃ Ms Rs l, Ms.flatten.length = b ∧ Pass k Ms Rs l ∧ (Ms.flatten ++ (Rs.flatten ++ l)).Perm T ∧ (Ms.flatten ++ (Rs.flatten ++ l)).length = N ∧ Row2 w' g cap (Ms.flatten ++ (Rs.flatten ++ l)) ∧ Gro g w w') := Lib.hid (by
                obtain ⟨Ms, Rs, l, q0, ⟨q1, q2, q3, q4⟩, q5, q6, q7, q8⟩ := HP.out
                have hl : a + (Rs.flatten.length + l.length) = N := by rw [← q6, List.length_append, List.length_append, q0]
                obtain ⟨l1, l2, Rs, rfl⟩ : ∃ l1 l2 Rs', Rs = l1 :: l2 :: Rs' := by
                  match Rs with
                  | [] => simp at hl; omega
                  | [l1] => have := q2 l1 (by simp); simp at hl; omega
                  | l1 :: l2 :: Rs' => exact ⟨l1, l2, Rs', rfl⟩
                have k1 := q2 l1 (by simp)
                have k2 := q2 l2 (by simp)
                obtain ⟨s1, s2, x12⟩ := good_crs (Rs := Rs ++ [l]) (by simpa using q4)
                have e : Ms.flatten ++ l1 ++ l2 ++ (Rs.flatten ++ l) = Ms.flatten ++ ((l1 :: l2 :: Rs).flatten ++ l) := by simp
                have h := merges g cap (l1.length + l2.length) Ms.flatten l1 l2 (Rs.flatten ++ l) wr N a (a + k) b (Nat.le_refl _) (by rw [e]; exact q7) (by omega) (by omega) s1 s2 x12 (by rw [e]; exact q6) q0 (by omega) (by omega) (by omega)
                rw [Int.natCast_add] at h
                refine h.mono ?_
                rintro e' w' ⟨r1, R, p1, s1, r2, g1⟩
                have pl := p1.length_eq
                rw [List.length_append] at pl
                refine ⟨r1, Ms ++ [R], Rs, l, ?_, ⟨?_, fun x hx => q2 x (by simp [hx]), q3, ?_⟩, ?_, ?_, ?_, q8.trans g1⟩
                · rw [flat_snoc, List.length_append]; omega
                · intro x hx
                  rcases List.mem_append.1 hx with hx | hx
                  · exact q1 x hx
                  · simp at hx; subst hx; omega
                · have := good_merge (Ms := Ms) (Rs := Rs ++ [l]) (by simpa using q4) p1 s1
                  simpa using this
                · rw [flat_snoc]
                  refine List.Perm.trans ?_ q5
                  rw [← e]
                  refine List.Perm.append_right _ ?_
                  rw [List.append_assoc]
                  exact List.Perm.append_left _ p1
                · have hf : (l1 :: l2 :: Rs).flatten.length = l1.length + (l2.length + Rs.flatten.length) := by rw [List.flatten_cons, List.flatten_cons, List.length_append, List.length_append]
                  rw [hf] at hl
                  rw [flat_snoc, List.length_append, List.length_append, List.length_append, pl, q0]; omega
                · rw [flat_snoc]; exact r2)
              go_wp2_with fail
              refine HC.out.mono ?_
              rintro e w1 ⟨⟨v, rfl⟩, hk⟩
              have HK := Lib.hid hk
              clear hk
              go_wp2
              go_roundw
              case rel => exact ⟨b, b + 2 * k, by go_num, by go_num, Nat.le_refl _, Nat.le_refl _, hbn, HK⟩
              case measure => simp [intOf]; omega
            · by_cases hmn : a + k < N
              · have HC : Hid (Calls Tryz.prog 197 #[.slice (some ⟨g, 0, none⟩) N cap, .int .i64 a, .int .i64 ((a : Int) + (k : Int)), .int .i64 N, .func (.func 183) #[] #[]] wr fun e w' =>
                    (∃ v, e = .returned v) ∧ ∃ Bs l, Rows2 (2 * k) Bs l ∧ (Bs.flatten ++ l).Perm T ∧ (Bs.flatten ++ l).length = N ∧ Row2 w' g cap (Bs.flatten ++ l) ∧ Gro g w w') := Lib.hid (by
                  obtain ⟨Ms, Rs, l, q0, ⟨q1, q2, q3, q4⟩, q5, q6, q7, q8⟩ := HP.out
                  have hl : a + (Rs.flatten.length + l.length) = N := by rw [← q6, List.length_append, List.length_append, q0]
                  obtain ⟨l1, rfl⟩ : ∃ l1, Rs = [l1] := by
                    match Rs with
                    | [] => simp at hl; omega
                    | [l1] => exact ⟨l1, rfl⟩
                    | l1 :: l2 :: Rs' =>
                      have h1 := q2 l1 (by simp)
                      have h2 := q2 l2 (by simp)
                      rw [List.flatten_cons, List.flatten_cons, List.length_append, List.length_append] at hl
                      omega
                  have k1 := q2 l1 (by simp)
                  have ef : [l1].flatten = l1 := by simp
                  rw [ef] at hl q5 q6 q7
                  obtain ⟨s1, s2, x12⟩ := good_crs (Rs := []) (by simpa using q4)
                  have e : Ms.flatten ++ l1 ++ l ++ [] = Ms.flatten ++ (l1 ++ l) := by simp
                  have h := merges g cap (l1.length + l.length) Ms.flatten l1 l [] wr N a (a + k) N (Nat.le_refl _) (by rw [e]; exact q7) (by omega) (by omega) s1 s2 x12 (by rw [e]; exact q6) q0 (by omega) (by omega) (by omega)
                  rw [Int.natCast_add] at h
                  refine h.mono ?_
                  rintro e' w' ⟨r1, R, p1, s1, r2, g1⟩
                  have pl := p1.length_eq
                  rw [List.length_append] at pl
                  refine ⟨r1, Ms, R, ⟨q1, by omega, ?_⟩, (List.Perm.append_left _ p1).trans q5, by rw [List.length_append, q0]; omega, by simpa using r2, q8.trans g1⟩
                  exact good_merge (Ms := Ms) (Rs := []) (by simpa using q4) p1 s1)
                go_wp2_with fail
                refine HC.out.mono ?_
                rintro e w1 ⟨⟨v, rfl⟩, hk⟩
                have HK := Lib.hid hk
                clear hk
                go_wp2
                go_roundw
                case rel => exact ⟨2 * k, by go_num, by omega, by omega, HK⟩
                case measure => simp [intOf]; omega
              · have HK : Hid (∃ Bs l, Rows2 (2 * k) Bs l ∧ (Bs.flatten ++ l).Perm T ∧ (Bs.flatten ++ l).length = N ∧ Row2 wr g cap (Bs.flatten ++ l) ∧ Gro g w wr) := Lib.hid (by
                  obtain ⟨Ms, Rs, l, q0, ⟨q1, q2, q3, q4⟩, q5, q6, q7, q8⟩ := HP.out
                  have hl : a + (Rs.flatten.length + l.length) = N := by rw [← q6, List.length_append, List.length_append, q0]
                  match Rs with
                  | [] => exact ⟨Ms, l, ⟨q1, by omega, by simpa using q4⟩, by simpa using q5, by simpa using q6, by simpa using q7, q8⟩
                  | [l1] =>
                    have k1 := q2 l1 (by simp)
                    have ef : [l1].flatten = l1 := by simp
                    rw [ef] at hl q5 q6 q7
                    have h2 : l = [] := List.eq_nil_of_length_eq_zero (by omega)
                    subst h2
                    obtain ⟨s1, s2, x12⟩ := good_crs (Ms := Ms) (Rs := []) (l1 := l1) (l2 := []) (by simpa using q4)
                    have hg := good_merge (Ms := Ms) (Rs := []) (l1 := l1) (l2 := []) (R := l1) (by simpa using q4) (by simp) s1
                    exact ⟨Ms, l1, ⟨q1, by omega, by simpa using hg⟩, by simpa using q5, by simpa using q6, by simpa using q7, q8⟩
                  | l1 :: l2 :: Rs' =>
                    have h1 := q2 l1 (by simp)
                    have h2 := q2 l2 (by simp)
                    rw [List.flatten_cons, List.flatten_cons, List.length_append, List.length_append] at hl
                    omega)
                go_wp2
                go_roundw
                case rel => exact ⟨2 * k, by go_num, by omega, by omega, HK⟩
                case measure => simp [intOf]; omega
        · have HF : Hid (∃ R, R.Perm T ∧ Srt R ∧ Row2 wr g cap R ∧ Gro g w wr) := Lib.hid (by
            obtain ⟨Bs, l, ⟨q1, q2, q3⟩, q4, q5, q6, q7⟩ := HI.out
            cases Bs with
            | nil => exact ⟨l, by simpa using q4, q3.1 l (by simp), by simpa using q6, q7⟩
            | cons c Bs =>
              have h1 := q1 c (by simp)
              simp at q5
              have h2 : l = [] := List.eq_nil_of_length_eq_zero (by omega)
              have h3 : Bs.flatten = [] := List.eq_nil_of_length_eq_zero (by simp; omega)
              subst h2
              refine ⟨c, ?_, q3.1 c (by simp), ?_, q7⟩
              · have := q4; simp only [List.flatten_cons, h3, List.append_nil] at this; exact this
              · have := q6; simp only [List.flatten_cons, h3, List.append_nil] at this; exact this)
          go_wp2
          go_end0
          exact ⟨⟨_, rfl⟩, HF.out⟩

set_option maxHeartbeats 400000 in
/-- slices.SortStableFunc over pairs whose places rise: the same pairs, by their signs, then by their places. -/
theorem SortStable_any (g cap : Nat) (T : List Pr) (w : World) (hrow : Row2 w g cap T) (hr : Ris T) (hcap : T.length ≤ 10000000) :
    Calls Tryz.prog 182 #[.slice (some ⟨g, 0, none⟩) T.length cap, .func (.func 183) #[] #[]] w fun e w' =>
      (∃ v, e = .returned v) ∧ ∃ R, R.Perm T ∧ Srt R ∧ Row2 w' g cap R ∧ Gro g w w' := by
  have HC := Lib.hid (stable_any g cap T w hrow hr hcap)
  have hNc : T.length ≤ 10000000 := hcap
  clear hrow
  go_enter Tryz.func182, Tryz.ntmps182
  go_wp2_with fail
  refine HC.out.mono ?_
  rintro e w1 ⟨⟨v, rfl⟩, hk⟩
  have HK := Lib.hid hk
  clear hk
  go_wp2
  go_end0
  exact ⟨⟨_, rfl⟩, HK.out⟩

end Go.Proofs.YtcphokaamkalfaaGreatDoor
namespace Go.Proofs.YtcphokaamkalfaaGreatDoor
open Go.RowKit

theorem app_own2 {P : Program} (w : World) (base : Nat) (t ty e : TypeId) (i : TypeInfo) (z : Value) (size bytes : Nat) (ht : P.underlying t = some (.slice e)) (hi : P.info? e = some i) (hz : i.zero = some z)
    (hsize : i.size = size) (hby : i.bytes = bytes) (hzs : z.cells.size = size) (hsz : 0 < size)
    (v : Value) (n : Nat) (xs : List Value) (hown : w.ownsRow base e size v n xs)
    (a : Addr) (m c : Nat) (news : List Value) (hl : news.length = m * size) (hnews : ∀ j u, news[j]? = some u → w.cell? (a.add j) = some u) (h1 : ∀ u ∈ news, u.oneCell' = true)
    (h63 : n + m ≤ maxLen) (hbytes : (n + m) * bytes ≤ 140737488355328) (hbase : base ≤ w.heap.size) :
    ∃ v' w', (Builtin.append_ #[t, t] ty #[v, .slice (some a) m c]).run P w = .ok v' w' ∧ w'.ownsRow base e size v' (n + m) (xs ++ news) ∧ w.grownBy w' v.ownBlock ∧ (v'.ownBlock = v.ownBlock ∨ ∀ q, v'.ownBlock = some q → w.heap.size ≤ q) := by
  obtain ⟨v', w', hrun, hown', hgrow, _⟩ := run_append_own (P := P) w base t ty e i z size bytes ht hi hz hsize hby hzs hsz v n xs hown a m c news hl hnews h1 h63 hbytes hbase
  refine ⟨v', w', hrun, hown', hgrow, ?_⟩
  rcases hown.2 with ⟨rfl, hn⟩ | ⟨g, cap, cur, rfl, hgb, hg, hnc, hcm, hcs, hct⟩
  · subst hn
    obtain ⟨v2, w2, hrun2, hown2, _, _⟩ := run_append_own (P := P) w w.heap.size t ty e i z size bytes ht hi hz hsize hby hzs hsz (.slice none 0 0) 0 [] (World.ownsRow_nil _ _ _ _) a m c news hl hnews h1 h63 hbytes (Nat.le_refl _)
    rw [hrun] at hrun2
    injection hrun2 with e1 e2
    subst e1 e2
    exact .inr (fun q hq => (hown2.lt q hq).1)
  · by_cases hroom : n + m ≤ cap
    · have h2 := run_append_room (P := P) w t ty e i ht hi g n cap cur hg a m c news (by rw [hsize]; exact hl) hnews h1 hroom (by
        rw [hsize, hl, hcs, ← Nat.add_mul]; exact Nat.mul_le_mul_right _ hroom)
      rw [hrun] at h2
      injection h2 with e1 e2
      subst e1
      exact .inl rfl
    · have hxl : xs.length = n * i.size := by rw [hsize]; exact hown.1
      have h2 := run_append_grow (P := P) w t ty e i z ht hi hz ⟨g, 0, none⟩ n cap xs hxl (hown.cells rfl) a m c news (by rw [hsize]; exact hl) hnews (by omega) (by unfold maxLen at h63; omega) (by rw [hby]; exact growslice_fits (by omega) hbytes)
      rw [hrun] at h2
      injection h2 with e1 e2
      subst e1
      refine .inr (fun q hq => ?_)
      have : q = w.heap.size := by simpa [Value.ownBlock] using hq.symm
      omega

end Go.Proofs.YtcphokaamkalfaaGreatDoor
namespace Go.Proofs.YtcphokaamkalfaaGreatDoor
open Go.RowKit

/-- The signs of a text from a place on, each with its place. -/
def sgn (s : ByteArray) : Nat → Nat → List Pr
  | 0, _ => []
  | f + 1, p => if p < s.size then ((Utf8.decode s p).1, p) :: sgn s f (p + (Utf8.decode s p).2) else []
def isPl (p : Pr) : Bool := decide (p.1 < 128)
def plB (D : List Pr) : List UInt8 := (D.filter isPl).map fun p => UInt8.ofNat p.1
def otL (D : List Pr) : List Pr := D.filter fun p => !isPl p
def plA (D : List Pr) : List Nat := ((D.filter isPl).map (·.2)).reverse

theorem plB_snoc (D : List Pr) (x : Pr) : plB (D ++ [x]) = plB D ++ (if isPl x then [UInt8.ofNat x.1] else []) := by
  cases h : isPl x <;> simp [plB, h]
theorem otL_snoc (D : List Pr) (x : Pr) : otL (D ++ [x]) = otL D ++ (if isPl x then [] else [x]) := by
  cases h : isPl x <;> simp [otL, h]
theorem plA_snoc (D : List Pr) (x : Pr) : plA (D ++ [x]) = (if isPl x then [x.2] else []) ++ plA D := by
  cases h : isPl x <;> simp [plA, h]

theorem infoO : (Tryz.prog.info? 169).map (fun i => (i.zero, i.size, i.bytes)) = some (some (.agg #[.int .i32 0, .int .i64 0]), 2, 16) := by kernel_rfl

/-- What has been gathered of a text's first signs. -/
structure Gth (s : ByteArray) (w0 : World) (gt k base pos : Nat) (vo vt : Value) (D : List Pr) (wr : World) : Prop where
  it : wr.heap[k]? = some (.stringIter s pos)
  fen : Fen wr gt (s.size + 1) (cntAt (plA D))
  out : wr.ownsRow base 5 1 vo (plB D).length ((plB D).map bv)
  oth : wr.ownsRow base 169 2 vt (otL D).length (flat (otL D))
  ne : ∀ q, vo.ownBlock = some q → vt.ownBlock ≠ some q
  bel : Below w0.heap.size w0 wr
  ord : w0.heap.size ≤ gt ∧ gt < k ∧ k < base ∧ base ≤ wr.heap.size
theorem Fen.old {w w' : World} {g n : Nat} {f : Nat → Nat} (h : Fen w g n f) (hb : w'.heap[g]? = w.heap[g]?) : Fen w' g n f := by
  obtain ⟨cs, h1, h2⟩ := h
  exact ⟨cs, hb.trans h1, h2⟩
theorem Fen.lt {w : World} {g n : Nat} {f : Nat → Nat} (h : Fen w g n f) : g < w.heap.size := by
  obtain ⟨cs, h1, h2⟩ := h
  exact (Array.getElem?_eq_some_iff.1 h1).1
theorem iter_grown (w : World) (k : Nat) (s : ByteArray) (pos : Nat) : w.grownBy (w.iterAt k s pos) (some k) :=
  ⟨rfl, rfl, rfl, by rw [Lib.iterAt_size]; exact Nat.le_refl _, fun j _ hne => Lib.iterAt_other w k j s pos (fun h => hne (by rw [h]))⟩
theorem But.grown {g : Nat} {w w' : World} (h : But g w w') : w.grownBy w' (some g) := ⟨h.os, h.tape, h.output, by rw [h.size]; exact Nat.le_refl _, fun j _ hne => h.block j (fun e => hne (by rw [e]))⟩
theorem Gth.next {s : ByteArray} {w0 : World} {gt k base pos : Nat} {vo vt : Value} {D : List Pr} {wr : World} (h : Gth s w0 gt k base pos vo vt D wr) (pos' : Nat) : Gth s w0 gt k base pos' vo vt D (wr.iterAt k s pos') := by
  have o := h.ord
  have g := iter_grown wr k s pos'
  refine ⟨Lib.iterAt_heap wr k s pos pos' h.it, h.fen.old (Lib.iterAt_other wr k gt s pos' (by omega)), h.out.kept g (.inr ?_), h.oth.kept g (.inr ?_), h.ne, h.bel.grown g (by omega) (fun q hq => by cases hq; omega), ⟨o.1, o.2.1, o.2.2.1, by rw [Lib.iterAt_size]; exact o.2.2.2⟩⟩
  · intro e
    have := (h.out.lt k e).1
    omega
  · intro e
    have := (h.oth.lt k e).1
    omega
/-- One plain sign more: its byte is appended; then its place is told. -/
theorem Gth.plain {s : ByteArray} {w0 : World} {gt k base pos : Nat} {vo vt : Value} {D : List Pr} {wr : World} (h : Gth s w0 gt k base pos vo vt D wr) (x : Pr) (hx : isPl x = true) (hD : D.length ≤ 1000000) :
    ∃ vo' w1, (Builtin.append_ #[81, 81] 81 #[vo, .slice (some ⟨wr.heap.size, 0, none⟩) 1 1]).run Tryz.prog (wr.alloc (.cells #[.int .u8 (x.1 : Int)] 5)) = .ok vo' w1 ∧ Fen w1 gt (s.size + 1) (cntAt (plA D)) ∧
      ∀ w2, Fen w2 gt (s.size + 1) (cntAt (x.2 :: plA D)) → But gt w1 w2 → Gth s w0 gt k base pos vo' vt (D ++ [x]) w2 := by
  have o := h.ord
  have hx' : x.1 < 128 := by simpa [isPl] using hx
  obtain ⟨i0, hi, hz0, hz1, hz2⟩ := info_parts infoB
  have hpl : (plB D).length ≤ D.length := by simp [plB]; exact List.length_filter_le _ _
  obtain ⟨vo', w1, hrun, hown, hg, hblk⟩ := app_own2 (P := Tryz.prog) (wr.alloc (.cells #[.int .u8 (x.1 : Int)] 5)) base 81 81 5 i0 (.int .u8 0) 1 1 Tryz.underlying81 hi hz0 hz1 hz2 rfl (by decide)
    vo (plB D).length ((plB D).map bv) (h.out.alloc _) ⟨wr.heap.size, 0, none⟩ 1 1 [.int .u8 (x.1 : Int)] (by simp) (World.news_of_block (cs := #[.int .u8 (x.1 : Int)]) (t := 5) (fr := (0, 0)) (heap_alloc_new wr _)) (by simp [Value.oneCell']) (by unfold maxLen; omega) (by omega) (by simp; omega)
  have hga := World.grownBy_alloc wr (.cells #[.int .u8 (x.1 : Int)] 5) none
  have hsz : wr.heap.size ≤ w1.heap.size := by have := hg.size; simp at this; omega
  have hnk : ∀ j, j < base → w1.heap[j]? = wr.heap[j]? := fun j hj => by
    have hj1 : some j ≠ vo.ownBlock := fun e => by have := (h.out.lt j e.symm).1; omega
    rw [hg.block j (by simp; omega) hj1]
    exact hga.block j (by omega) (by simp)
  refine ⟨vo', w1, hrun, h.fen.old (hnk gt (by omega)), fun w2 hF hB => ?_⟩
  have hgb := hB.grown
  have hlen : (plB (D ++ [x])).length = (plB D).length + 1 := by rw [plB_snoc, if_pos hx]; simp
  have hmap : (plB (D ++ [x])).map bv = (plB D).map bv ++ [.int .u8 (x.1 : Int)] := by rw [plB_snoc, if_pos hx, List.map_append, List.map_singleton, bvN (by omega)]
  have hot : otL (D ++ [x]) = otL D := by rw [otL_snoc, if_pos hx, List.append_nil]
  have hoth1 : w1.ownsRow base 169 2 vt (otL D).length (flat (otL D)) := (h.oth.alloc _).kept hg (by
    cases e : vt.ownBlock with
    | none => exact .inl rfl
    | some q => exact .inr (fun e2 => h.ne q e2.symm e))
  refine ⟨?_, ?_, ?_, ?_, ?_, ?_, ?_⟩
  · rw [hB.block k (by omega), hnk k (by omega)]; exact h.it
  · rw [plA_snoc, if_pos hx]; exact hF
  · rw [hlen, hmap]
    exact hown.kept hgb (.inr (fun e => by have := (hown.lt gt e).1; omega))
  · rw [hot]
    exact hoth1.kept hgb (.inr (fun e => by have := (hoth1.lt gt e).1; omega))
  · intro q hq hv
    rcases hblk with hb | hb
    · rw [hb] at hq; exact h.ne q hq hv
    · have h1 := hb q hq
      have h2 := (h.oth.lt q hv).2
      simp at h1; omega
  · exact ((h.bel.grown hga (by omega) (fun q hq => by cases hq)).grown hg (by simp; omega) (fun q hq => by have := (h.out.lt q hq).1; omega)).grown hgb (by omega) (fun q hq => by cases hq; omega)
  · exact ⟨o.1, o.2.1, o.2.2.1, by rw [hB.size]; omega⟩

end Go.Proofs.YtcphokaamkalfaaGreatDoor
namespace Go.Proofs.YtcphokaamkalfaaGreatDoor
open Go.RowKit

/-- One other sign more. -/
theorem Gth.other {s : ByteArray} {w0 : World} {gt k base pos : Nat} {vo vt : Value} {D : List Pr} {wr : World} (h : Gth s w0 gt k base pos vo vt D wr) (x : Pr) (hx : isPl x = false) (hD : D.length ≤ 1000000) :
    ∃ vt' w1, (Builtin.append_ #[164, 164] 164 #[vt, .slice (some ⟨wr.heap.size, 0, none⟩) 1 1]).run Tryz.prog (wr.alloc (.cells #[.int .i32 (x.1 : Int), .int .i64 (x.2 : Int)] 169)) = .ok vt' w1 ∧
      Gth s w0 gt k base pos vo vt' (D ++ [x]) w1 := by
  have o := h.ord
  obtain ⟨i0, hi, hz0, hz1, hz2⟩ := info_parts infoO
  have hol : (otL D).length ≤ D.length := by simp [otL]; exact List.length_filter_le _ _
  obtain ⟨vt', w1, hrun, hown, hg, hblk⟩ := app_own2 (P := Tryz.prog) (wr.alloc (.cells #[.int .i32 (x.1 : Int), .int .i64 (x.2 : Int)] 169)) base 164 164 169 i0 (.agg #[.int .i32 0, .int .i64 0]) 2 16 Tryz.underlying164 hi hz0 hz1 hz2 rfl (by decide)
    vt (otL D).length (flat (otL D)) (h.oth.alloc _) ⟨wr.heap.size, 0, none⟩ 1 1 [.int .i32 (x.1 : Int), .int .i64 (x.2 : Int)] (by simp) (World.news_of_block (cs := #[.int .i32 (x.1 : Int), .int .i64 (x.2 : Int)]) (t := 169) (fr := (0, 0)) (heap_alloc_new wr _)) (by simp [Value.oneCell']) (by unfold maxLen; omega) (by omega) (by simp; omega)
  have hga := World.grownBy_alloc wr (.cells #[.int .i32 (x.1 : Int), .int .i64 (x.2 : Int)] 169) none
  have hsz : wr.heap.size ≤ w1.heap.size := by have := hg.size; simp at this; omega
  have hnk : ∀ j, j < base → w1.heap[j]? = wr.heap[j]? := fun j hj => by
    have hj1 : some j ≠ vt.ownBlock := fun e => by have := (h.oth.lt j e.symm).1; omega
    rw [hg.block j (by simp; omega) hj1]
    exact hga.block j (by omega) (by simp)
  have hlen : (otL (D ++ [x])).length = (otL D).length + 1 := by rw [otL_snoc, hx]; simp
  have hmap : flat (otL (D ++ [x])) = flat (otL D) ++ [.int .i32 (x.1 : Int), .int .i64 (x.2 : Int)] := by rw [otL_snoc, hx, flat_append]; rfl
  have hpb : plB (D ++ [x]) = plB D := by rw [plB_snoc, hx]; simp
  have hpa : plA (D ++ [x]) = plA D := by rw [plA_snoc, hx]; simp
  refine ⟨vt', w1, hrun, ?_, ?_, ?_, ?_, ?_, ?_, ?_⟩
  · rw [hnk k (by omega)]; exact h.it
  · rw [hpa]; exact h.fen.old (hnk gt (by omega))
  · rw [hpb]
    exact (h.out.alloc _).kept hg (by
      cases e : vo.ownBlock with
      | none => exact .inl rfl
      | some q => exact .inr (fun e2 => h.ne q e e2.symm))
  · rw [hlen, hmap]; exact hown
  · intro q hq hv
    rcases hblk with hb | hb
    · rw [hb] at hv; exact h.ne q hq hv
    · have h1 := hb q hv
      have h2 := (h.out.lt q hq).2
      simp at h1; omega
  · exact (h.bel.grown hga (by omega) (fun q hq => by cases hq)).grown hg (by simp; omega) (fun q hq => by have := (h.oth.lt q hq).1; omega)
  · exact ⟨o.1, o.2.1, o.2.2.1, by omega⟩

theorem width_pos (s : ByteArray) (p : Nat) : 1 ≤ (Utf8.decode s p).2 := by
  rw [Lib.decode_at]
  unfold Lib.decodeN
  repeat' split
  all_goals simp
theorem sgn_end (s : ByteArray) (f p : Nat) (h : ¬ p < s.size) : sgn s f p = [] := by
  cases f with
  | zero => rfl
  | succ f => rw [sgn, if_neg h]
theorem sgn_on (s : ByteArray) (f p : Nat) (h : p < s.size) : sgn s (f + 1) p = ((Utf8.decode s p).1, p) :: sgn s f (p + (Utf8.decode s p).2) := by rw [sgn, if_pos h]
theorem sgn_ge (s : ByteArray) : ∀ f p, ∀ x ∈ sgn s f p, p ≤ x.2
  | 0, _, x, h => by simp [sgn] at h
  | f + 1, p, x, h => by
    rw [sgn] at h
    split at h
    · rcases List.mem_cons.1 h with rfl | h
      · exact Nat.le_refl _
      · have := sgn_ge s f _ x h
        omega
    · simp at h
theorem sgn_ris (s : ByteArray) : ∀ f p, Ris (sgn s f p)
  | 0, _ => .nil
  | f + 1, p => by
    rw [sgn]
    split
    · refine List.Pairwise.cons (fun y hy => ?_) (sgn_ris s f _)
      have h1 := sgn_ge s f _ y hy
      have h2 := width_pos s p
      show p < y.2
      omega
    · exact .nil
theorem ot_ris {D : List Pr} (h : Ris D) : Ris (otL D) := List.Pairwise.sublist List.filter_sublist h

end Go.Proofs.YtcphokaamkalfaaGreatDoor
namespace Go.Proofs.YtcphokaamkalfaaGreatDoor
open Go.RowKit

theorem make_tally (n : Nat) (w : World) (hn : n ≤ 10000000) : (Instr.makeSlice 165 (.int .i64 (n : Int)) (.int .i64 (n : Int))).run Tryz.prog w = .ok (.slice (some ⟨w.heap.size, 0, none⟩) n n) (w.alloc (.cells (madeCells (Value.int .i64 0).cells n) 3)) := by
  obtain ⟨i0, hi, hz0, hz1, hz2⟩ := info_parts infoI
  have h := run_make w 165 3 i0 (.int .i64 0) Tryz.underlying165 hi hz0 .i64 .i64 (n : Int) (n : Int) (by omega) (Int.le_refl _) (by rw [hz2]; omega) (by omega)
  rw [hz1, Nat.mul_one] at h
  simpa using h
theorem fen_made (n : Nat) (w : World) : Fen (w.alloc (.cells (madeCells (Value.int .i64 0).cells n) 3)) w.heap.size n (cntAt []) := by
  refine ⟨_, heap_alloc_new _ _, ?_, fun j h0 hj => ?_⟩
  · simp [madeCells, Value.cells]
  · have : cntAt [] j = 0 := rfl
    rw [this]
    simp [madeCells, Value.cells, iv]
    exact ⟨j, by rw [Array.getElem?_eq_getElem (by simpa using hj)]; simp, by rw [Nat.mod_one]; rfl⟩
theorem rune_bd (s : ByteArray) (p : Nat) : (Utf8.decode s p).1 ≤ 1114111 := by
  rw [Lib.decode_at]
  have := (s.get! p).toNat_lt
  generalize (s.get! p).toNat = b0 at *
  unfold Lib.decodeN
  repeat' split
  all_goals simp only
  all_goals omega

theorem iterPos_of {w : World} {k p : Nat} {s : ByteArray} (h : w.heap[k]? = some (.stringIter s p)) : w.iterPos k = p := by simp [World.iterPos, h]

theorem gth_start (s : ByteArray) (w : World) : Gth s w w.heap.size (w.heap.size + 1) (w.heap.size + 2) 0 (.slice none 0 0) (.slice none 0 0) [] ((w.alloc (.cells (madeCells (Value.int .i64 0).cells (s.size + 1)) 3)).iter s 0) := by
  have hz : (w.alloc (.cells (madeCells (Value.int .i64 0).cells (s.size + 1)) 3)).heap.size = w.heap.size + 1 := by simp
  refine ⟨?_, ?_, World.ownsRow_nil _ _ _ _, World.ownsRow_nil _ _ _ _, fun q hq => (by cases hq), ((Below.refl _ _).alloc (Nat.le_refl _) _).alloc (by simp) _, by omega, by omega, by omega, ?_⟩
  · rw [← hz]; exact World.iter_heap _ s 0
  · exact (fen_made (s.size + 1) w).old (by
      show ((w.alloc _).heap.push _)[w.heap.size]? = _
      rw [Array.getElem?_push_lt (by rw [hz]; omega)]; simp)
  · show _ ≤ ((w.alloc _).heap.push _).size
    rw [Array.size_push, hz]; omega

end Go.Proofs.YtcphokaamkalfaaGreatDoor
namespace Go.Proofs.YtcphokaamkalfaaGreatDoor
open Go.RowKit Go.Sort

set_option maxHeartbeats 400000 in
theorem insertion_nil (w : World) :
    Calls Tryz.prog 196 #[.slice none 0 0, .int .i64 0, .int .i64 0, .func (.func 183) #[] #[]] w fun e w' => (∃ v, e = .returned v) ∧ w = w' := by
  go_enter Tryz.func196, Tryz.ntmps196
  go_wp2
  go_loopw [8] (fun vi wr => vi = .int .i64 1 ∧ wr = w) (fun _ _ => 0)
  case atStart => exact ⟨rfl, rfl⟩
  case round =>
    obtain ⟨rfl, rfl⟩ := hrel
    go_wp2
    go_end0
    exact ⟨⟨_, rfl⟩, rfl⟩

set_option maxHeartbeats 400000 in
theorem stable_nil (w : World) :
    Calls Tryz.prog 191 #[.slice none 0 0, .int .i64 0, .func (.func 183) #[] #[]] w fun e w' => (∃ v, e = .returned v) ∧ w = w' := by
  go_enter Tryz.func191, Tryz.ntmps191
  go_wp2
  go_loopw [7, 8] (fun va vb wr => va = .int .i64 0 ∧ vb = .int .i64 20 ∧ wr = w) (fun _ _ _ => 0)
  case atStart => exact ⟨rfl, rfl, rfl⟩
  case round =>
    obtain ⟨rfl, rfl, rfl⟩ := hrel
    go_wp2_with fail
    refine (insertion_nil _).mono ?_
    rintro e w1 ⟨⟨v, rfl⟩, rfl⟩
    go_wp2
    go_loopw [6] (fun vk wr2 => vk = .int .i64 20 ∧ wr2 = wr) (fun _ _ => 0)
    case atStart => exact ⟨rfl, rfl⟩
    case round =>
      obtain ⟨rfl, rfl⟩ := hrel
      go_wp2
      go_end0
      exact ⟨⟨_, rfl⟩, rfl⟩

set_option maxHeartbeats 400000 in
theorem SortStable_nil (w : World) :
    Calls Tryz.prog 182 #[.slice none 0 0, .func (.func 183) #[] #[]] w fun e w' => (∃ v, e = .returned v) ∧ w = w' := by
  go_enter Tryz.func182, Tryz.ntmps182
  go_wp2_with fail
  refine (stable_nil _).mono ?_
  rintro e w1 ⟨⟨v, rfl⟩, rfl⟩
  go_wp2
  go_end0
  exact ⟨⟨_, rfl⟩, rfl⟩

end Go.Proofs.YtcphokaamkalfaaGreatDoor
namespace Go.Proofs.YtcphokaamkalfaaGreatDoor
open Go.RowKit

/-- What puny.sorted leaves. -/
structure Srtd (s : ByteArray) (SG : List Pr) (w w' : World) (vo vt : Value) (gt : Nat) (R : List Pr) : Prop where
  fen : Fen w' gt (s.size + 1) (cntAt (plA SG))
  out : w'.ownsRow w.heap.size 5 1 vo (plB SG).length ((plB SG).map bv)
  oth : (vt = .slice none 0 0 ∧ R = []) ∨ ∃ g cap, vt = .slice (some ⟨g, 0, none⟩) R.length cap ∧ Row2 w' g cap R ∧ w.heap.size ≤ g ∧ g ≠ gt ∧ vo.ownBlock ≠ some g
  gtl : w.heap.size ≤ gt ∧ vo.ownBlock ≠ some gt
  perm : R.Perm (otL SG)
  srt : Srt R
  bel : Below w.heap.size w w'
theorem Gro.grown {g : Nat} {w w' : World} (h : Gro g w w') : w.grownBy w' (some g) := ⟨h.os, h.tape, h.output, h.size, fun j hj hne => h.block j hj (fun e => hne (by rw [e]))⟩
theorem own_down {w : World} {base base' : Nat} {e : TypeId} {size : Nat} {v : Value} {n : Nat} {xs : List Value} (h : w.ownsRow base e size v n xs) (hb : base' ≤ base) : w.ownsRow base' e size v n xs := by
  obtain ⟨hl, h | ⟨g, cap, cur, hv, hg, hr⟩⟩ := h
  · exact ⟨hl, .inl h⟩
  · exact ⟨hl, .inr ⟨g, cap, cur, hv, Nat.le_trans hb hg, hr⟩⟩

set_option maxHeartbeats 1000000 in
set_option maxRecDepth 1000000 in
theorem sorted_any (s : ByteArray) (w : World) (hs : s.size ≤ 1000000) :
    Calls Tryz.prog 167 #[.string s] w fun e w' => ∃ vo vt gt R, e = .returned (.tuple #[vo, vt, .slice (some ⟨gt, 0, none⟩) (s.size + 1) (s.size + 1)]) ∧ Srtd s (sgn s s.size 0) w w' vo vt gt R := by
  have hmk := make_tally (s.size + 1) w (by omega)
  rw [show ((s.size + 1 : Nat) : Int) = (s.size : Int) + 1 by omega] at hmk
  obtain ⟨SG, HSG⟩ : ∃ SG, Hid (SG = sgn s s.size 0) := ⟨_, Lib.hid rfl⟩
  have HG0 := Lib.hid (gth_start s w)
  obtain ⟨C0, HC0⟩ : ∃ C0, Hid (C0 = madeCells (Value.int .i64 0).cells (s.size + 1)) := ⟨_, Lib.hid rfl⟩
  rw [← HC0.out] at hmk HG0
  go_enter Tryz.func167, Tryz.ntmps167
  go_wp2
  clear hmk
  go_loopw [5, 6] (fun vo vt wr => ∃ (f pos : Nat) (D : List Pr), Hid (Gth s w w.heap.size (w.heap.size + 1) (w.heap.size + 2) pos vo vt D wr) ∧ Hid (D ++ sgn s f pos = SG) ∧ s.size ≤ pos + f ∧ D.length ≤ pos ∧ D.length ≤ s.size) (fun _ _ wr => s.size - wr.iterPos (w.heap.size + 1))
  case atStart =>
    refine ⟨s.size, 0, [], Lib.hid ?_, Lib.hid (by rw [HSG.out]; rfl), by omega, Nat.zero_le _, Nat.zero_le _⟩
    exact HG0.out
  case round =>
    obtain ⟨f, pos, D, HG, HE, hf, hDp, hDs⟩ := hrel
    by_cases hp : pos < s.size
    · obtain ⟨f, rfl⟩ : ∃ q, f = q + 1 := ⟨f - 1, by omega⟩
      have hnx := fun ty => Lib.run_next_any_at (P := Tryz.prog) wr (w.heap.size + 1) s pos ty HG.out.it hp
      have hwd := width_pos s pos
      have HE2 := Lib.hid (sgn_on s f pos hp)
      have hrl := rune_bd s pos
      obtain ⟨r, Hr⟩ : ∃ r, Hid (r = (Utf8.decode s pos).1) := ⟨_, Lib.hid rfl⟩
      obtain ⟨wd, Hwd⟩ : ∃ wd, Hid (wd = (Utf8.decode s pos).2) := ⟨_, Lib.hid rfl⟩
      rw [← Hr.out, ← Hwd.out] at hnx HE2
      rw [← Hwd.out] at hwd
      rw [← Hr.out] at hrl
      have HG1 := Lib.hid (HG.out.next (pos + wd))
      have HE3 : Hid (D ++ [(r, pos)] ++ sgn s f (pos + wd) = SG) := Lib.hid (by rw [← HE.out, HE2.out]; simp)
      have HP0 := Lib.hid (iterPos_of HG.out.it)
      have hDl : (D ++ [(r, pos)]).length = D.length + 1 := by simp
      have HDl := Lib.hid hDl
      clear hDl
      have hDs2 : D.length + 1 ≤ s.size := by omega
      by_cases hr : r < 128
      · obtain ⟨vo', w1, hrun, hF1, hfin⟩ := HG1.out.plain (r, pos) (by simpa [isPl] using hr) (by omega)
        have HRun := Lib.hid hrun
        have HFin := Lib.hid hfin
        have hpl : (plA D).length ≤ D.length := by simp [plA]; exact List.length_filter_le _ _
        have HAdd := Lib.hid (add_any w.heap.size (s.size + 1) pos (plA D) w1 hF1 (by omega) (by omega) (by omega))
        clear hrun hfin hF1 hpl
        go_wp2_with (first | (at_builtin; refine Lib.wpList_append_run _ rfl _ _ _ _ rfl _ _ rfl rfl _ _ HRun.out ?_) | (go_at_call 171; refine HAdd.out.mono ?_; rintro e w2 ⟨⟨v, rfl⟩, hF2, hB2⟩; have HG2 := Lib.hid (HFin.out w2 hF2 hB2); clear hF2 hB2))
        go_roundw
        case rel => exact ⟨f, pos + wd, D ++ [(r, pos)], HG2, HE3, by omega, by rw [HDl.out]; omega, by rw [HDl.out]; exact hDs2⟩
        case measure =>
          have h1 := HP0.out
          have h2 := iterPos_of HG2.out.it
          rw [h1, h2]; omega
      · obtain ⟨vt', w1, hrun, hfin⟩ := HG1.out.other (r, pos) (by simpa [isPl] using hr) (by omega)
        have HRun := Lib.hid hrun
        have HG2 := Lib.hid hfin
        clear hrun hfin
        go_wp2_with (at_builtin; refine Lib.wpList_append_run _ rfl _ _ _ _ rfl _ _ rfl rfl _ _ HRun.out ?_)
        go_roundw
        case rel => exact ⟨f, pos + wd, D ++ [(r, pos)], HG2, HE3, by omega, by rw [HDl.out]; omega, by rw [HDl.out]; exact hDs2⟩
        case measure =>
          have h1 := HP0.out
          have h2 := iterPos_of HG2.out.it
          rw [h1, h2]; omega
    · have hnx := fun ty => Lib.run_next_end_at (P := Tryz.prog) wr (w.heap.size + 1) s pos ty HG.out.it hp
      have HD : Hid (D = SG) := Lib.hid (by have := HE.out; rw [sgn_end s f pos hp, List.append_nil] at this; exact this)
      rw [HD.out] at HG
      have HRs : Hid (Ris (otL SG)) := Lib.hid (by rw [HSG.out]; exact ot_ris (sgn_ris s _ _))
      have HOl : Hid ((otL SG).length ≤ 1000000) := Lib.hid (by
        have h1 : (otL SG).length ≤ SG.length := by simp [otL]; exact List.length_filter_le _ _
        have h2 := HD.out
        rw [← h2] at h1 ⊢
        omega)
      rcases HG.out.oth.2 with ⟨rfl, hn0⟩ | ⟨g, cap, cur, rfl, hgb, hgg, hnc, hcm, hcs, hct⟩
      · have HN0 : Hid (otL SG = []) := Lib.hid (List.eq_nil_of_length_eq_zero hn0)
        clear hn0
        go_wp2_with fail
        refine (SortStable_nil _).mono ?_
        rintro e w1 ⟨⟨v, rfl⟩, rfl⟩
        go_wp2
        go_ret3
        refine ⟨u5, .slice none 0 0, w.heap.size, [], rfl, ?_⟩
        have o := HG.out.ord
        rw [← HSG.out]
        exact { fen := HG.out.fen, out := own_down HG.out.out (by omega), oth := .inl ⟨rfl, rfl⟩, gtl := ⟨Nat.le_refl _, fun e => by have := (HG.out.out.lt _ e).1; omega⟩, perm := by rw [HN0.out], srt := .nil, bel := HG.out.bel }
      · have HRw : Hid (Row2 wr g cap (otL SG)) := Lib.hid ⟨cur, hgg, by omega, hnc, by rw [Nat.mul_comm]; exact hct⟩
        have HC := Lib.hid (SortStable_any g cap (otL SG) wr HRw.out HRs.out (by have := HOl.out; omega))
        have HGb := Lib.hid hgb
        clear hgb hgg hnc hcm hcs hct
        go_wp2_with fail
        refine HC.out.mono ?_
        rintro e w1 ⟨⟨v, rfl⟩, R, p1, s1, r1, g1⟩
        have HK : Hid (R.Perm (otL SG) ∧ Srt R ∧ Row2 w1 g cap R ∧ Gro g wr w1) := Lib.hid ⟨p1, s1, r1, g1⟩
        clear p1 s1 r1 g1
        go_wp2
        go_ret3
        obtain ⟨p1, s1, r1, g1⟩ := HK.out
        have o := HG.out.ord
        have hgbl := HGb.out
        refine ⟨u5, _, w.heap.size, R, rfl, ?_⟩
        rw [← HSG.out]
        have hne : u5.ownBlock ≠ some g := fun e => HG.out.ne g e rfl
        exact { fen := HG.out.fen.old (g1.block _ (by omega) (by omega)), out := own_down (HG.out.out.kept g1.grown (.inr hne)) (by omega),
                oth := .inr ⟨g, cap, by rw [p1.length_eq]; rfl, r1, by omega, by omega, hne⟩, gtl := ⟨Nat.le_refl _, fun e => by have := (HG.out.out.lt _ e).1; omega⟩, perm := p1, srt := s1,
                bel := HG.out.bel.grown g1.grown (by omega) (fun q hq => by cases hq; omega) }

end Go.Proofs.YtcphokaamkalfaaGreatDoor
