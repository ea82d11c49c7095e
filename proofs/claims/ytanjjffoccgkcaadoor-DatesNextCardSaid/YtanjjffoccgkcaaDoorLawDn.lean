/-
  The walk of DatesNext.
-/
import Derived.Test.YtanjjffoccgkcaaDoorDtA
namespace Go.Proofs.YtanjjffoccgkcaaDoor
open Go.RowKit

/-- The next day. -/
theorem next_day {D Y M d Y' M' d' : Nat} (h : IsDay D Y M d) (h' : IsDay (D + 1) Y' M' d') :
    (Y' = Y ∧ M' = M ∧ d' = d + 1) ∨ (d' = 1 ∧ 28 ≤ d ∧ ((Y' = Y ∧ M' = M + 1) ∨ (Y' = Y + 1 ∧ M = 12 ∧ M' = 1 ∧ d = 31))) := by
  have hb := h.back
  have hd := h.d1
  have y1 := h.y1
  have y2 := h.y2
  have m1 := h.m1
  have m2 := h.m2
  by_cases h1 : d < daysN Y M
  · have := h'.one (IsDay.of y1 y2 m1 m2 (d := d + 1) (by omega) (by omega) (by omega))
    exact .inl this
  · have hde : d = daysN Y M := by omega
    have h28 := (days_pos Y M).1
    right
    by_cases h2 : M < 12
    · have h31 := (days_pos Y (M + 1)).1
      have := h'.one (IsDay.of y1 y2 (M := M + 1) (d := 1) (by omega) (by omega) (by omega) (by omega) (by rw [cum_succ Y M m1]; omega))
      exact ⟨this.2.2, by omega, .inl ⟨this.1, this.2.1⟩⟩
    · have hM : M = 12 := by omega
      subst hM
      have h31 : daysN Y 12 = 31 := rfl
      have hc := cum13 Y
      rw [cum_succ Y 12 (by omega)] at hc
      have hs := bef_succ Y y1
      have hlt := h'.lt
      have h9 : Y + 1 ≤ 9999 := by
        rcases Nat.lt_or_ge Y 9999 with h9 | h9
        · exact h9
        · have : Y = 9999 := by omega
          subst this
          have e1 : bef 9999 = 3651694 := by decide
          have e2 : leapN 9999 = false := by decide
          rw [e2] at hc
          simp only [Bool.false_eq_true, if_false] at hc
          omega
      have h31' := (days_pos (Y + 1) 1).1
      have hday : IsDay (D + 1) (Y + 1) 1 1 := IsDay.of (by omega) h9 (by omega) (by omega) (by omega) (by omega) (by rw [cum_one, hs]; omega)
      have := h'.one hday
      exact ⟨this.2.2, by omega, .inr ⟨this.1, rfl, this.2.1, by omega⟩⟩

set_option maxHeartbeats 8000000 in
set_option maxRecDepth 100000 in
theorem next_walk (n : Nat) (hn : n < 18446744073709551616) (m : Int) (w : World) (hw : DtG m w) :
    Calls Tryd.prog 7 #[.int .u64 (n : Int)] w fun e w' => e = .returned (.bool true) ∧ Below w.heap.size w w' := by
  have HG := Lib.hid hw
  have HAl := Lib.hid (fun w hw => alive7_any m w hw)
  obtain ⟨k, hk⟩ : ∃ k, n % 315537811200 = k := ⟨_, rfl⟩
  have hkI : (n : Int) % 315537811200 = (k : Int) := by omega
  have hk9 : k < 315537811200 := by omega
  obtain ⟨D, HDd⟩ : ∃ D, Hid (k / 86400 = D) := ⟨_, Lib.hid rfl⟩
  have hDd := HDd.out
  obtain ⟨Y, M, d, hI⟩ := isDay_some D (by omega)
  obtain ⟨Y', M', d', hI'⟩ := isDay_some (D + 1) (by omega)
  obtain ⟨T, HT⟩ : ∃ T : Int, Hid ((k : Int) - 62135596800 = T) := ⟨_, Lib.hid rfl⟩
  have hTlo : -62135596800 ≤ T := by rw [← HT.out]; omega
  have hThi : T ≤ 253402300799 := by rw [← HT.out]; omega
  have H1 := Lib.hid (fun w => Day_any T D Y M d hI hTlo (by rw [← HT.out]; omega) w)
  have H2 := Lib.hid (fun w => Day_any (T + 86400) (D + 1) Y' M' d' hI' (by omega) (by rw [← HT.out]; omega) w)
  unfold dayV at H1 H2
  obtain ⟨q, Hq⟩ : ∃ q : Nat, Hid ((D + 1) % 7 = q) := ⟨_, Lib.hid rfl⟩
  obtain ⟨q', Hq'⟩ : ∃ q : Nat, Hid ((D + 1 + 1) % 7 = q) := ⟨_, Lib.hid rfl⟩
  rw [Hq.out] at H1
  rw [Hq'.out] at H2
  have hqq : (q : Int) < 7 := by rw [← Hq.out]; omega
  have e1 : ((q' : Int) == ((q : Int) + 1) % 7) = true := beq_iff_eq.2 (by rw [← Hq.out, ← Hq'.out]; omega)
  have hN := next_day hI hI'
  have b1 : (M : Int) ≤ 12 := by have := hI.m2; omega
  have b2 : (d : Int) ≤ 31 := by have := hI.d1; have := (days_pos Y M).2; omega
  have b3 : (Y : Int) ≤ 9999 := by have := hI.y2; omega
  have b4 : (1 : Int) ≤ (d : Int) := by have := hI.d1; omega
  have hT2 : (k : Int) - 62135596800 = T := HT.out
  clear hI hI' hw hk hDd
  rcases hN with ⟨rfl, rfl, rfl⟩ | ⟨rfl, h28, ⟨rfl, rfl⟩ | ⟨rfl, rfl, rfl, rfl⟩⟩
  · have c1 : ((Y' : Int) == (Y' : Int)) = true := beq_iff_eq.2 rfl
    have c2 : ((M' : Int) == (M' : Int)) = true := beq_iff_eq.2 rfl
    have c3 : ((((d + 1 : Nat)) : Int) == (d : Int) + 1) = true := beq_iff_eq.2 (by omega)
    obtain ⟨d2, Hd2⟩ : ∃ x : Nat, Hid (d + 1 = x) := ⟨_, Lib.hid rfl⟩
    rw [Hd2.out] at H2 c3
    have c4 : ((d2 : Int) == 1) = false := beq_eq_false_iff_ne.2 (by rw [← Hd2.out]; omega)
    go_enter Tryd.func7, Tryd.ntmps7
    go_wp2_with fail
    refine (H1.out _).mono ?_
    rintro e w1 ⟨rfl, b1⟩
    have B1 := Lib.hid b1
    clear b1
    go_wp2_with fail
    refine (H2.out _).mono ?_
    rintro e w2 ⟨rfl, b2⟩
    have B2 := Lib.hid (B1.out.trans (b2.mono B1.out.size))
    clear b2
    go_wp2_with fail
    refine (HAl.out _ (HG.out.below B2.out)).mono ?_
    rintro e w3 ⟨rfl, b3⟩
    go_wp2
    go_ret
    exact ⟨rfl, B2.out.trans (b3.mono B2.out.size)⟩
  · have c1 : ((Y' : Int) == (Y' : Int)) = true := beq_iff_eq.2 rfl
    have c2 : (((M + 1 : Nat) : Int) == (M : Int)) = false := beq_eq_false_iff_ne.2 (by omega)
    have c3 : (((M + 1 : Nat) : Int) == (M : Int) + 1) = true := beq_iff_eq.2 (by omega)
    obtain ⟨M2, HM2⟩ : ∃ x : Nat, Hid (M + 1 = x) := ⟨_, Lib.hid rfl⟩
    rw [HM2.out] at H2 c2 c3
    have c4 : (28 : Int) ≤ (d : Int) := by omega
    go_enter Tryd.func7, Tryd.ntmps7
    go_wp2_with fail
    refine (H1.out _).mono ?_
    rintro e w1 ⟨rfl, b1⟩
    have B1 := Lib.hid b1
    clear b1
    go_wp2_with fail
    refine (H2.out _).mono ?_
    rintro e w2 ⟨rfl, b2⟩
    have B2 := Lib.hid (B1.out.trans (b2.mono B1.out.size))
    clear b2
    go_wp2_with fail
    refine (HAl.out _ (HG.out.below B2.out)).mono ?_
    rintro e w3 ⟨rfl, b3⟩
    go_wp2
    go_ret
    exact ⟨rfl, B2.out.trans (b3.mono B2.out.size)⟩
  · have c1 : (((Y + 1 : Nat) : Int) == (Y : Int)) = false := beq_eq_false_iff_ne.2 (by omega)
    have c3 : (((Y + 1 : Nat) : Int) == (Y : Int) + 1) = true := beq_iff_eq.2 (by omega)
    obtain ⟨Y2, HY2⟩ : ∃ x : Nat, Hid (Y + 1 = x) := ⟨_, Lib.hid rfl⟩
    rw [HY2.out] at H2 c1 c3
    go_enter Tryd.func7, Tryd.ntmps7
    go_wp2_with fail
    refine (H1.out _).mono ?_
    rintro e w1 ⟨rfl, b1⟩
    have B1 := Lib.hid b1
    clear b1
    go_wp2_with fail
    refine (H2.out _).mono ?_
    rintro e w2 ⟨rfl, b2⟩
    have B2 := Lib.hid (B1.out.trans (b2.mono B1.out.size))
    clear b2
    go_wp2_with fail
    refine (HAl.out _ (HG.out.below B2.out)).mono ?_
    rintro e w3 ⟨rfl, b3⟩
    go_wp2
    go_ret
    exact ⟨rfl, B2.out.trans (b3.mono B2.out.size)⟩

end Go.Proofs.YtanjjffoccgkcaaDoor
