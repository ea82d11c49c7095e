/-
  Contract: slices.symMergeCmpFunc over pairs.
-/
import Derived.Test.YtgmjfnddeogfdaaDoorSoD
import Derived.Test.YtgmjfnddeogfdaaDoorSoE
namespace Go.Proofs.YtgmjfnddeogfdaaDoor
open Go.RowKit Go.Sort

theorem at_A (P A B S : List Pr) (t : Nat) (ht : t < A.length) : (P ++ A ++ B ++ S)[P.length + t]? = some A[t] := by
  rw [List.append_assoc, List.append_assoc, List.getElem?_append_right (by omega), show P.length + t - P.length = t by omega, List.getElem?_append_left ht, List.getElem?_eq_getElem ht]
theorem at_B (P A B S : List Pr) (t : Nat) (ht : t < B.length) : (P ++ A ++ B ++ S)[P.length + A.length + t]? = some B[t] := by
  rw [List.append_assoc, List.getElem?_append_right (by simp)]
  simp only [List.length_append]
  rw [show P.length + A.length + t - (P.length + A.length) = t by omega, List.getElem?_append_left ht, List.getElem?_eq_getElem ht]

/-- What is asked of a merge of rows of at most n. -/
def Merges (g cap n : Nat) : Prop := ∀ (P A B S : List Pr) (w : World) (N a m b : Nat), A.length + B.length ≤ n → Row2 w g cap (P ++ A ++ B ++ S) → 0 < A.length → 0 < B.length → Srt A → Srt B → (∀ x ∈ A, ∀ y ∈ B, x.2 < y.2) →
    (P ++ A ++ B ++ S).length = N → P.length = a → a + A.length = m → m + B.length = b → N ≤ 100000000 →
    Calls Tryd.prog 68 #[.slice (some ⟨g, 0, none⟩) N cap, .int .i64 a, .int .i64 m, .int .i64 b, .func (.func 51) #[] #[]] w fun e w' =>
      (∃ v, e = .returned v) ∧ ∃ R, R.Perm (A ++ B) ∧ Srt R ∧ Row2 w' g cap (P ++ R ++ S) ∧ Gro g w w'

set_option maxHeartbeats 1000000 in
/-- The steps behind the search: rows are exchanged, and each half is merged. -/
theorem merge_steps (g cap : Nat) (P A B S : List Pr) (w wr : World) (N a m b mid s e n : Nat) (hn : A.length + B.length ≤ n + 1) (hP : P.length = a) (hAl : a + A.length = m) (hBl : m + B.length = b) (hA : Srt A) (hB : Srt B) (hx : ∀ x ∈ A, ∀ y ∈ B, x.2 < y.2) (hcap : N ≤ 100000000)
    (hN : (P ++ A ++ B ++ S).length = N) (hrow : Row2 wr g cap (P ++ A ++ B ++ S)) (hG : Gro g w wr) (has : a ≤ s) (hsm : s ≤ m) (hsmid : s ≤ mid) (heb : e ≤ b) (hmid : a < mid ∧ mid < b) (hes : e + s = mid + m) (ih : Merges g cap n)
    (c1 : s - a = 0 ∨ B.length ≤ e - m ∨ ∃ (hi : s - a - 1 < A.length) (hj : e - m < B.length), A[s - a - 1].1 ≤ B[e - m].1)
    (c2 : A.length ≤ s - a ∨ e - m = 0 ∨ ∃ (hi : s - a < A.length) (hj : e - m - 1 < B.length), B[e - m - 1].1 < A[s - a].1) :
    (s < m → m < e → Hid (Calls Tryd.prog 70 #[.slice (some ⟨g, 0, none⟩) N cap, .int .i64 s, .int .i64 m, .int .i64 e, .func (.func 51) #[] #[]] wr fun e' w' => (∃ v, e' = .returned v) ∧ (Row2 w' g cap (P ++ (A.take (s - a) ++ B.take (e - m)) ++ (A.drop (s - a) ++ B.drop (e - m)) ++ S) ∧ Gro g w w'))) ∧
    Hid (¬ (s < m ∧ m < e) → (Row2 wr g cap (P ++ (A.take (s - a) ++ B.take (e - m)) ++ (A.drop (s - a) ++ B.drop (e - m)) ++ S) ∧ Gro g w wr)) ∧
    Hid (∀ W, a < s → s < mid → Hid ((Row2 W g cap (P ++ (A.take (s - a) ++ B.take (e - m)) ++ (A.drop (s - a) ++ B.drop (e - m)) ++ S) ∧ Gro g w W)) → Calls Tryd.prog 68 #[.slice (some ⟨g, 0, none⟩) N cap, .int .i64 a, .int .i64 s, .int .i64 mid, .func (.func 51) #[] #[]] W fun e' w' => (∃ v, e' = .returned v) ∧ ∃ R1, (R1.Perm (A.take (s - a) ++ B.take (e - m)) ∧ Srt R1 ∧ Row2 w' g cap (P ++ R1 ++ (A.drop (s - a) ++ B.drop (e - m)) ++ S) ∧ Gro g w w')) ∧
    Hid (∀ W, ¬ (a < s ∧ s < mid) → Hid ((Row2 W g cap (P ++ (A.take (s - a) ++ B.take (e - m)) ++ (A.drop (s - a) ++ B.drop (e - m)) ++ S) ∧ Gro g w W)) → ∃ R1, Hid ((R1.Perm (A.take (s - a) ++ B.take (e - m)) ∧ Srt R1 ∧ Row2 W g cap (P ++ R1 ++ (A.drop (s - a) ++ B.drop (e - m)) ++ S) ∧ Gro g w W))) ∧
    Hid (∀ W R1, mid < e → e < b → Hid ((R1.Perm (A.take (s - a) ++ B.take (e - m)) ∧ Srt R1 ∧ Row2 W g cap (P ++ R1 ++ (A.drop (s - a) ++ B.drop (e - m)) ++ S) ∧ Gro g w W)) → Calls Tryd.prog 68 #[.slice (some ⟨g, 0, none⟩) N cap, .int .i64 mid, .int .i64 e, .int .i64 b, .func (.func 51) #[] #[]] W fun e' w' => (∃ v, e' = .returned v) ∧ (∃ R, R.Perm (A ++ B) ∧ Srt R ∧ Row2 w' g cap (P ++ R ++ S) ∧ Gro g w w')) ∧
    Hid (∀ W R1, ¬ (mid < e ∧ e < b) → Hid ((R1.Perm (A.take (s - a) ++ B.take (e - m)) ∧ Srt R1 ∧ Row2 W g cap (P ++ R1 ++ (A.drop (s - a) ++ B.drop (e - m)) ++ S) ∧ Gro g w W)) → (∃ R, R.Perm (A ++ B) ∧ Srt R ∧ Row2 W g cap (P ++ R ++ S) ∧ Gro g w W)) := by
  have x1 := cross1 hA hB c1
  have x2 := cross2 hA hB c2
  clear c1 c2
  obtain ⟨i, hi⟩ : ∃ i, i = s - a := ⟨_, rfl⟩
  obtain ⟨j, hj⟩ : ∃ j, j = e - m := ⟨_, rfl⟩
  rw [← hi, ← hj]
  rw [← hi, ← hj] at x1 x2
  have hme : m ≤ e := by omega
  have lA1 : (A.take i).length = i := by simp; omega
  have lA2 : (A.drop i).length = m - s := by simp; omega
  have lB1 : (B.take j).length = j := by simp; omega
  have lB2 : (B.drop j).length = b - e := by simp; omega
  have eA : A.take i ++ A.drop i = A := List.take_append_drop i A
  have eB : B.take j ++ B.drop j = B := List.take_append_drop j B
  have hNl : N = a + (m - a) + (b - m) + S.length := by rw [← hN]; simp; omega
  refine ⟨fun q1 q2 => Lib.hid ?_, Lib.hid (fun q => ⟨?_, hG⟩), Lib.hid (fun W q1 q2 hk => ?_), Lib.hid (fun W q hk => ?_), Lib.hid (fun W R1 q1 q2 hk => ?_), Lib.hid (fun W R1 q hk => ?_)⟩
  · have h := rotate_any g cap (P ++ A.take i) (A.drop i) (B.take j) (B.drop j ++ S) (.func (.func 51) #[] #[]) wr (by
      have e1 : P ++ A.take i ++ A.drop i ++ B.take j ++ (B.drop j ++ S) = P ++ A ++ B ++ S := by
        rw [List.append_assoc P, eA, List.append_assoc (P ++ A), ← List.append_assoc (B.take j), eB, List.append_assoc (P ++ A)]
      rw [e1]; exact hrow) (by omega) (by omega) (by
      simp only [List.length_append, lA1, lA2, lB1, lB2]; omega) N s m e (by
      rw [hNl]; simp only [List.length_append, lA1, lA2, lB1, lB2]; omega) (by rw [List.length_append, lA1]; omega) (by rw [List.length_append, lA1, lA2]; omega) (by rw [List.length_append, lA1, lA2, lB1]; omega)
    refine h.mono ?_
    rintro e' w' ⟨h1, h2, h3⟩
    refine ⟨h1, ?_, hG.trans h3⟩
    simpa [List.append_assoc] using h2
  · have h3 : A.drop i = [] ∨ B.take j = [] := by
      by_cases q1 : s < m
      · exact .inr (List.eq_nil_of_length_eq_zero (by omega))
      · exact .inl (List.eq_nil_of_length_eq_zero (by omega))
    have e1 : P ++ (A.take i ++ B.take j) ++ (A.drop i ++ B.drop j) ++ S = P ++ A ++ B ++ S := by
      rcases h3 with h3 | h3
      · have eA' := eA
        rw [h3, List.append_nil] at eA'
        rw [h3, eA', List.nil_append, List.append_assoc P, List.append_assoc A, eB, ← List.append_assoc P]
      · have eB' := eB
        rw [h3, List.nil_append] at eB'
        rw [h3, eB', List.append_nil, List.append_assoc P, ← List.append_assoc (A.take i), eA, ← List.append_assoc P]
    rw [e1]; exact hrow
  · have h := ih P (A.take i) (B.take j) (A.drop i ++ B.drop j ++ S) W N a s mid (by omega) (by
      have := hk.out.1; simpa [List.append_assoc] using this) (by omega) (by omega) (srt_take hA i) (srt_take hB j) (fun x h1 y h2 => hx x (List.mem_of_mem_take h1) y (List.mem_of_mem_take h2)) (by
      rw [hNl]; simp only [List.length_append, lA1, lA2, lB1, lB2]; omega) hP (by omega) (by omega) hcap
    refine h.mono ?_
    rintro e' w' ⟨h1, R, h2, h3, h4, h5⟩
    refine ⟨h1, R, h2, h3, ?_, hk.out.2.trans h5⟩
    simpa [List.append_assoc] using h4
  · refine ⟨A.take i ++ B.take j, Lib.hid ⟨.refl _, srt_half (srt_take hA i) (srt_take hB j) ?_, hk.out.1, hk.out.2⟩⟩
    by_cases q1 : a < s
    · exact .inr (by omega)
    · exact .inl (by omega)
  · obtain ⟨p1, s1, r1, g1⟩ := hk.out
    have lR : R1.length = mid - a := by rw [p1.length_eq, List.length_append, lA1, lB1]; omega
    have h := ih (P ++ R1) (A.drop i) (B.drop j) S W N mid e b (by omega) (by
      simpa [List.append_assoc] using r1) (by omega) (by omega) (srt_drop hA i) (srt_drop hB j) (fun x h1 y h2 => hx x (List.mem_of_mem_drop h1) y (List.mem_of_mem_drop h2)) (by
      rw [hNl]; simp only [List.length_append, lA2, lB2, lR]; omega) (by rw [List.length_append, lR]; omega) (by omega) (by omega) hcap
    refine h.mono ?_
    rintro e' w' ⟨h1, R2, h2, h3, h4, h5⟩
    have hf := merge_fin hA hB hx x1 x2 p1 s1 h2 h3
    refine ⟨h1, R1 ++ R2, hf.1, hf.2, ?_, g1.trans h5⟩
    simpa [List.append_assoc] using h4
  · obtain ⟨p1, s1, r1, g1⟩ := hk.out
    have hf := merge_fin hA hB hx x1 x2 p1 s1 (.refl _) (srt_half (srt_drop hA i) (srt_drop hB j) (by
      by_cases q1 : mid < e
      · exact .inr (by omega)
      · exact .inl (by omega)))
    refine ⟨R1 ++ (A.drop i ++ B.drop j), hf.1, hf.2, ?_, g1⟩
    simpa [List.append_assoc] using r1

end Go.Proofs.YtgmjfnddeogfdaaDoor
