/-
  The walk of PercentWithin.
-/
import Derived.Test.YtamcdpgjgpohpaaPcW
namespace Go.Proofs.Ytamcdpgjgpohpaa
open Go.RowKit

theorem hasB_45 (c : Nat) (hc : c < 256) (h : hasB 4 c = true) : hasB 5 c = true := hasB_path ⟨c, hc⟩ h
theorem hasB_1 (c : Nat) (hc : c < 256) : hasB 1 c = (decide (c < 32) || decide (126 < c)) := hasB_ctl ⟨c, hc⟩
theorem hasB_s (set c : Nat) (hc : c < 256) (h1 : 1 ≤ set) (h5 : set ≤ 5) (h : hasB 1 c = true) : hasB set c = true := hasB_all ⟨set, by omega⟩ ⟨c, hc⟩ (by simp; omega) h

/-- A letter, a digit or the percent sign: no set has it. -/
def lett (c : Nat) : Prop := (97 ≤ c ∧ c ≤ 122) ∨ (65 ≤ c ∧ c ≤ 90) ∨ (48 ≤ c ∧ c ≤ 57) ∨ c = 37

set_option maxRecDepth 100000 in
set_option maxHeartbeats 4000000 in
theorem within_lett (c set : Nat) (w : World) (hset : set < 256) (hc : c < 256) (hl : lett c) :
    Calls Try.prog 8 #[.int .u8 c, .int .u8 set] w fun e w' => e = .returned (.bool true) ∧ Below w.heap.size w w' := by
  have hno : ∀ n, hasB n c = false := fun n => by
    cases h : hasB n c
    · rfl
    · have := hasB_out n c hc h
      unfold lett at hl
      omega
  have H0 := Lib.hid (hno set)
  have H4 := Lib.hid (hno 4)
  have H1 := Lib.hid (hno 1)
  have h32 : 32 ≤ c := by unfold lett at hl; omega
  have h126 : c ≤ 126 := by unfold lett at hl; omega
  have d32 : decide ((c : Int) < 32) = false := decide_eq_false (by omega)
  have d126 : decide (126 < (c : Int)) = false := decide_eq_false (by omega)
  clear hno
  unfold lett at hl
  rcases hl with ⟨a1, a2⟩ | ⟨a1, a2⟩ | ⟨a1, a2⟩ | h37
  case inr.inr.inr =>
    subst h37
    clear d32 d126
    go_enter Try.func8, Try.ntmps8
    go_wp2_with fail
    refine (Has_any set _ _ hset hc).mono ?_
    rw [H0.out]
    rintro e w1 ⟨rfl, b1⟩
    have B1 := Lib.hid b1; clear b1
    go_wp2_with fail
    refine (Has_any 4 _ _ (by decide) hc).mono ?_
    rw [H4.out]
    rintro e w2 ⟨rfl, b2⟩
    have B2 := Lib.hid b2; clear b2
    go_wp2_with fail
    refine (alive_any _).mono ?_
    rintro e w3 ⟨rfl, b3⟩
    have B3 := Lib.hid b3; clear b3
    go_wp2_with fail
    refine (Has_any 1 _ _ (by decide) hc).mono ?_
    rw [H1.out]
    rintro e w4 ⟨rfl, b4⟩
    have B4 := Lib.hid b4; clear b4
    go_wp2_with fail
    refine (Has_any 1 _ _ (by decide) hc).mono ?_
    rw [H1.out]
    rintro e w5 ⟨rfl, b5⟩
    have B5 := Lib.hid b5; clear b5
    go_wp2
    go_ret
    have s1 := B1.out.size
    have s2 := B2.out.size
    have s3 := B3.out.size
    have s4 := B4.out.size
    exact ⟨rfl, (((B1.out.trans (B2.out.mono (by omega))).trans (B3.out.mono (by omega))).trans (B4.out.mono (by omega))).trans (B5.out.mono (by omega))⟩
  all_goals
    go_enter Try.func8, Try.ntmps8
    go_wp2_with fail
    refine (Has_any set c _ hset hc).mono ?_
    rw [H0.out]
    rintro e w1 ⟨rfl, b1⟩
    have B1 := Lib.hid b1; clear b1
    go_wp2_with fail
    refine (Has_any 4 c _ (by decide) hc).mono ?_
    rw [H4.out]
    rintro e w2 ⟨rfl, b2⟩
    have B2 := Lib.hid b2; clear b2
    go_wp2_with fail
    refine (alive_any _).mono ?_
    rintro e w3 ⟨rfl, b3⟩
    have B3 := Lib.hid b3; clear b3
    go_wp2_with fail
    refine (Has_any 1 c _ (by decide) hc).mono ?_
    rw [H1.out]
    rintro e w4 ⟨rfl, b4⟩
    have B4 := Lib.hid b4; clear b4
    go_wp2_with fail
    refine (Has_any 1 c _ (by decide) hc).mono ?_
    rw [H1.out]
    rintro e w5 ⟨rfl, b5⟩
    have B5 := Lib.hid b5; clear b5
    go_wp2
    go_ret
    have s1 := B1.out.size
    have s2 := B2.out.size
    have s3 := B3.out.size
    have s4 := B4.out.size
    exact ⟨rfl, (((B1.out.trans (B2.out.mono (by omega))).trans (B3.out.mono (by omega))).trans (B4.out.mono (by omega))).trans (B5.out.mono (by omega))⟩

/-- A printed byte that is neither. -/
def othr (c : Nat) : Prop := (32 ≤ c ∧ c ≤ 36) ∨ (38 ≤ c ∧ c ≤ 47) ∨ (58 ≤ c ∧ c ≤ 64) ∨ (91 ≤ c ∧ c ≤ 96) ∨ (123 ≤ c ∧ c ≤ 126)

set_option maxRecDepth 100000 in
set_option maxHeartbeats 4000000 in
theorem within_othr (c set : Nat) (w : World) (hset : set < 256) (hc : c < 256) (hl : othr c) (h p : Bool) (H0 : Hid (hasB set c = h)) (H4 : Hid (hasB 4 c = p)) :
    Calls Try.prog 8 #[.int .u8 c, .int .u8 set] w fun e w' => e = .returned (.bool true) ∧ Below w.heap.size w w' := by
  have h32 : 32 ≤ c := by unfold othr at hl; omega
  have h126 : c ≤ 126 := by unfold othr at hl; omega
  have d32 : decide ((c : Int) < 32) = false := decide_eq_false (by omega)
  have d126 : decide (126 < (c : Int)) = false := decide_eq_false (by omega)
  have n37 : ((c : Int) == 37) = false := beq_eq_false_iff_ne.2 (by unfold othr at hl; omega)
  have H1 : Hid (hasB 1 c = false) := Lib.hid (by rw [hasB_1 c hc, decide_eq_false (by omega), decide_eq_false (by omega)]; rfl)
  have H5 : Hid (p = true → hasB 5 c = true) := Lib.hid (fun hp => hasB_45 c hc (by rw [H4.out, hp]))
  unfold othr at hl
  rcases hl with ⟨a1, a2⟩ | ⟨a1, a2⟩ | ⟨a1, a2⟩ | ⟨a1, a2⟩ | ⟨a1, a2⟩
  all_goals
    cases h
    all_goals
      cases p
      · go_enter Try.func8, Try.ntmps8
        go_wp2_with fail
        refine (Has_any set c _ hset hc).mono ?_
        rw [H0.out]
        rintro e w1 ⟨rfl, b1⟩
        have B1 := Lib.hid b1; clear b1
        go_wp2_with fail
        refine (Has_any 4 c _ (by decide) hc).mono ?_
        rw [H4.out]
        rintro e w2 ⟨rfl, b2⟩
        have B2 := Lib.hid b2; clear b2
        go_wp2_with fail
        refine (alive_any _).mono ?_
        rintro e w3 ⟨rfl, b3⟩
        have B3 := Lib.hid b3; clear b3
        go_wp2_with fail
        refine (Has_any 1 c _ (by decide) hc).mono ?_
        rw [H1.out]
        rintro e w4 ⟨rfl, b4⟩
        have B4 := Lib.hid b4; clear b4
        go_wp2_with fail
        refine (Has_any 1 c _ (by decide) hc).mono ?_
        rw [H1.out]
        rintro e w5 ⟨rfl, b5⟩
        have B5 := Lib.hid b5; clear b5
        go_wp2
        go_ret
        have s1 := B1.out.size
        have s2 := B2.out.size
        have s3 := B3.out.size
        have s4 := B4.out.size
        exact ⟨rfl, (((B1.out.trans (B2.out.mono (by omega))).trans (B3.out.mono (by omega))).trans (B4.out.mono (by omega))).trans (B5.out.mono (by omega))⟩
      · have HU := Lib.hid (H5.out rfl)
        go_enter Try.func8, Try.ntmps8
        go_wp2_with fail
        refine (Has_any set c _ hset hc).mono ?_
        rw [H0.out]
        rintro e w1 ⟨rfl, b1⟩
        have B1 := Lib.hid b1; clear b1
        go_wp2_with fail
        refine (Has_any 4 c _ (by decide) hc).mono ?_
        rw [H4.out]
        rintro e w2 ⟨rfl, b2⟩
        have B2 := Lib.hid b2; clear b2
        go_wp2_with fail
        refine (Has_any 5 c _ (by decide) hc).mono ?_
        rw [HU.out]
        rintro e w6 ⟨rfl, b6⟩
        have B6 := Lib.hid b6; clear b6
        go_wp2_with fail
        refine (alive_any _).mono ?_
        rintro e w3 ⟨rfl, b3⟩
        have B3 := Lib.hid b3; clear b3
        go_wp2_with fail
        refine (Has_any 1 c _ (by decide) hc).mono ?_
        rw [H1.out]
        rintro e w4 ⟨rfl, b4⟩
        have B4 := Lib.hid b4; clear b4
        go_wp2_with fail
        refine (Has_any 1 c _ (by decide) hc).mono ?_
        rw [H1.out]
        rintro e w5 ⟨rfl, b5⟩
        have B5 := Lib.hid b5; clear b5
        go_wp2
        go_ret
        have s1 := B1.out.size
        have s2 := B2.out.size
        have s3 := B3.out.size
        have s4 := B4.out.size
        have s6 := B6.out.size
        exact ⟨rfl, ((((B1.out.trans (B2.out.mono (by omega))).trans (B6.out.mono (by omega))).trans (B3.out.mono (by omega))).trans (B4.out.mono (by omega))).trans (B5.out.mono (by omega))⟩

/-- What is not printed. -/
def ctrl (c : Nat) : Prop := c < 32 ∨ 126 < c

theorem ctl_dec (c : Nat) (h : c < 32 ∨ 126 < c) : (c < 32 ∧ decide ((c : Int) < 32) = true) ∨ (126 < c ∧ decide ((c : Int) < 32) = false ∧ decide (126 < (c : Int)) = true) := by
  rcases h with h | h
  · exact .inl ⟨h, decide_eq_true (by omega)⟩
  · exact .inr ⟨h, decide_eq_false (by omega), decide_eq_true (by omega)⟩

set_option maxRecDepth 100000 in
set_option maxHeartbeats 4000000 in
theorem within_ctrl (c set : Nat) (w : World) (hset : set < 256) (hc : c < 256) (hl : ctrl c) :
    Calls Try.prog 8 #[.int .u8 c, .int .u8 set] w fun e w' => e = .returned (.bool true) ∧ Below w.heap.size w w' := by
  have n37 : ((c : Int) == 37) = false := beq_eq_false_iff_ne.2 (by unfold ctrl at hl; omega)
  have h1 : hasB 1 c = true := by
    rw [hasB_1 c hc]
    unfold ctrl at hl
    rcases hl with h | h <;> simp [h]
  have HS : Hid (1 ≤ set → set ≤ 5 → hasB set c = true) := Lib.hid (fun a b => hasB_s set c hc a b h1)
  have H4 : Hid (hasB 4 c = true) := Lib.hid (hasB_s 4 c hc (by decide) (by decide) h1)
  have HU : Hid (hasB 5 c = true) := Lib.hid (hasB_s 5 c hc (by decide) (by decide) h1)
  have H1 := Lib.hid h1
  clear h1
  by_cases hin : 1 ≤ set ∧ set ≤ 5
  · have H0 := Lib.hid (HS.out hin.1 hin.2)
    clear hin HS
    unfold ctrl at hl
    rcases ctl_dec c hl with ⟨a1, d32⟩ | ⟨a1, d32, d126⟩
    all_goals
      go_enter Try.func8, Try.ntmps8
      go_wp2_with fail
      refine (Has_any set c _ hset hc).mono ?_
      rw [H0.out]
      rintro e w1 ⟨rfl, b1⟩
      have B1 := Lib.hid b1; clear b1
      go_wp2_with fail
      refine (Has_any 4 c _ (by decide) hc).mono ?_
      rw [H4.out]
      rintro e w2 ⟨rfl, b2⟩
      have B2 := Lib.hid b2; clear b2
      go_wp2_with fail
      refine (Has_any 5 c _ (by decide) hc).mono ?_
      rw [HU.out]
      rintro e w6 ⟨rfl, b6⟩
      have B6 := Lib.hid b6; clear b6
      go_wp2_with fail
      refine (alive_any _).mono ?_
      rintro e w3 ⟨rfl, b3⟩
      have B3 := Lib.hid b3; clear b3
      go_wp2_with fail
      refine (Has_any 1 c _ (by decide) hc).mono ?_
      rw [H1.out]
      rintro e w4 ⟨rfl, b4⟩
      have B4 := Lib.hid b4; clear b4
      go_wp2_with fail
      refine (Has_any 1 c _ (by decide) hc).mono ?_
      rw [H1.out]
      rintro e w5 ⟨rfl, b5⟩
      have B5 := Lib.hid b5; clear b5
      go_wp2
      go_ret
      have s1 := B1.out.size
      have s2 := B2.out.size
      have s3 := B3.out.size
      have s4 := B4.out.size
      have s6 := B6.out.size
      exact ⟨rfl, ((((B1.out.trans (B2.out.mono (by omega))).trans (B6.out.mono (by omega))).trans (B3.out.mono (by omega))).trans (B4.out.mono (by omega))).trans (B5.out.mono (by omega))⟩
  · have H0 : Hid (hasB set c = false) := Lib.hid (hasB_none set c (by omega))
    clear HS
    unfold ctrl at hl
    by_cases h0 : set = 0
    · subst h0
      clear hin
      rcases ctl_dec c hl with ⟨a1, d32⟩ | ⟨a1, d32, d126⟩
      all_goals
        go_enter Try.func8, Try.ntmps8
        go_wp2_with fail
        refine (Has_any 0 c _ hset hc).mono ?_
        rw [H0.out]
        rintro e w1 ⟨rfl, b1⟩
        have B1 := Lib.hid b1; clear b1
        go_wp2_with fail
        refine (Has_any 4 c _ (by decide) hc).mono ?_
        rw [H4.out]
        rintro e w2 ⟨rfl, b2⟩
        have B2 := Lib.hid b2; clear b2
        go_wp2_with fail
        refine (Has_any 5 c _ (by decide) hc).mono ?_
        rw [HU.out]
        rintro e w6 ⟨rfl, b6⟩
        have B6 := Lib.hid b6; clear b6
        go_wp2_with fail
        refine (alive_any _).mono ?_
        rintro e w3 ⟨rfl, b3⟩
        have B3 := Lib.hid b3; clear b3
        go_wp2_with fail
        refine (Has_any 1 c _ (by decide) hc).mono ?_
        rw [H1.out]
        rintro e w4 ⟨rfl, b4⟩
        have B4 := Lib.hid b4; clear b4
        go_wp2_with fail
        refine (Has_any 1 c _ (by decide) hc).mono ?_
        rw [H1.out]
        rintro e w5 ⟨rfl, b5⟩
        have B5 := Lib.hid b5; clear b5
        go_wp2
        go_ret
        have s1 := B1.out.size
        have s2 := B2.out.size
        have s3 := B3.out.size
        have s4 := B4.out.size
        have s6 := B6.out.size
        exact ⟨rfl, ((((B1.out.trans (B2.out.mono (by omega))).trans (B6.out.mono (by omega))).trans (B3.out.mono (by omega))).trans (B4.out.mono (by omega))).trans (B5.out.mono (by omega))⟩
    · have h5 : 5 < set := by omega
      have n0 : ((set : Int) == 0) = false := beq_eq_false_iff_ne.2 (by omega)
      clear hin h0
      rcases ctl_dec c hl with ⟨a1, d32⟩ | ⟨a1, d32, d126⟩
      all_goals
        go_enter Try.func8, Try.ntmps8
        go_wp2_with fail
        refine (Has_any set c _ hset hc).mono ?_
        rw [H0.out]
        rintro e w1 ⟨rfl, b1⟩
        have B1 := Lib.hid b1; clear b1
        go_wp2_with fail
        refine (Has_any 4 c _ (by decide) hc).mono ?_
        rw [H4.out]
        rintro e w2 ⟨rfl, b2⟩
        have B2 := Lib.hid b2; clear b2
        go_wp2_with fail
        refine (Has_any 5 c _ (by decide) hc).mono ?_
        rw [HU.out]
        rintro e w6 ⟨rfl, b6⟩
        have B6 := Lib.hid b6; clear b6
        go_wp2_with fail
        refine (alive_any _).mono ?_
        rintro e w3 ⟨rfl, b3⟩
        have B3 := Lib.hid b3; clear b3
        go_wp2_with fail
        refine (Has_any 1 c _ (by decide) hc).mono ?_
        rw [H1.out]
        rintro e w4 ⟨rfl, b4⟩
        have B4 := Lib.hid b4; clear b4
        go_wp2_with fail
        refine (Has_any 1 c _ (by decide) hc).mono ?_
        rw [H1.out]
        rintro e w5 ⟨rfl, b5⟩
        have B5 := Lib.hid b5; clear b5
        go_wp2
        go_ret
        have s1 := B1.out.size
        have s2 := B2.out.size
        have s3 := B3.out.size
        have s4 := B4.out.size
        have s6 := B6.out.size
        exact ⟨rfl, ((((B1.out.trans (B2.out.mono (by omega))).trans (B6.out.mono (by omega))).trans (B3.out.mono (by omega))).trans (B4.out.mono (by omega))).trans (B5.out.mono (by omega))⟩

theorem within_walk (c set : Int) (w : World) (hc : (Lit.int .u8 c).wf = true) (hset : (Lit.int .u8 set).wf = true) :
    Calls Try.prog 8 #[.int .u8 c, .int .u8 set] w fun e w' => e = .returned (.bool true) ∧ Below w.heap.size w w' := by
  obtain ⟨set, rfl, hset'⟩ := nat_u8 set hset
  obtain ⟨c, rfl, hc'⟩ := nat_u8 c hc
  by_cases h1 : lett c
  · exact within_lett c set w hset' hc' h1
  · by_cases h2 : ctrl c
    · exact within_ctrl c set w hset' hc' h2
    · exact within_othr c set w hset' hc' (by unfold lett at h1; unfold ctrl at h2; unfold othr; omega) _ _ (Lib.hid rfl) (Lib.hid rfl)

end Go.Proofs.Ytamcdpgjgpohpaa
