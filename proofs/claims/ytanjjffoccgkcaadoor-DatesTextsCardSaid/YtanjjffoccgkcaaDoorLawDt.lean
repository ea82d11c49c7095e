/-
  The walk of DatesTexts.
-/
import Derived.Test.YtanjjffoccgkcaaDoorDrH
import Derived.Test.YtanjjffoccgkcaaDoorBeyond
namespace Go.Proofs.YtanjjffoccgkcaaDoor
open Go.RowKit

theorem text_both (n m : Int) : ∃ T is, (∀ w, DtG m w → Calls Tryd.prog 13 #[.int .i64 n] w fun e w' => e = .returned (.tuple #[.string T, .bool is]) ∧ Below w.heap.size w w') ∧ (∀ w, Calls Tryd.prog 14 #[.int .i64 n] w fun e w' => e = .returned (.tuple #[.string T, .bool is]) ∧ Below w.heap.size w w') := by
  by_cases hr : 0 ≤ n ∧ n ≤ 253402300799
  · obtain ⟨l, hl⟩ := txt_some n hr.1 hr.2
    refine ⟨asB l, true, fun w hw => Text_yes hl m w hw, fun w => ?_⟩
    obtain ⟨k, D, Y, M, d, rfl, h2, hI, rfl⟩ := hl
    exact RefText_any k D Y M d hI h2 w
  · exact ⟨⟨#[]⟩, false, fun w _ => Text_no n (by omega) w, fun w => (RefText_no n (by omega) w).mono fun e w' ⟨h1, h2⟩ => ⟨h1, by rw [← h2]; exact Below.refl _ _⟩⟩
theorem parse_both (s : ByteArray) (hs : s.size ≤ 1048600) (m : Int) : ∃ N ok, (∀ w, DtG m w → Calls Tryd.prog 15 #[.string s] w fun e w' => e = .returned (.tuple #[.int .i64 N, .bool ok]) ∧ Below w.heap.size w w') ∧ (∀ w, Calls Tryd.prog 16 #[.string s] w fun e w' => e = .returned (.tuple #[.int .i64 N, .bool ok]) ∧ Below w.heap.size w w') := by
  by_cases h : ∃ n, IsTxt n s.data.toList
  · obtain ⟨n, hn⟩ := h
    exact ⟨n, true, fun w hw => Parse_yes hn hs m w hw, fun w => RefParse_yes hn w⟩
  · have hn : ∀ n, ¬ IsTxt n s.data.toList := fun n hn => h ⟨n, hn⟩
    exact ⟨0, false, fun w hw => Parse_none hn hs m w hw, fun w => RefParse_none hn w⟩

set_option maxHeartbeats 1000000 in
theorem texts_walk (n : Int) (s : ByteArray) (m : Int) (w : World) (hs : s.size ≤ 140737488351232) (hw : DtG m w) :
    Calls Tryd.prog 4 #[.int .i64 n, .string s] w fun e w' => e = .returned (.bool true) ∧ Below w.heap.size w w' := by
  by_cases hb : 1048576 < s.size
  · go_enter Tryd.func4, Tryd.ntmps4
    go_wp2_with fail
    refine (Beyond1_yes w.heap.size s.size _ (by unfold maxLen; omega) (by simp) hb).mono ?_
    rintro e w1 ⟨rfl, rfl⟩
    go_wp2
    go_ret
    exact ⟨rfl, (Below.refl _ _).alloc (Nat.le_refl _) _⟩
  · have HW := Lib.hid hw
    clear hw
    obtain ⟨T, is, h1, h2⟩ := text_both n m
    obtain ⟨N, ok, h3, h4⟩ := parse_both s (by omega) m
    have H1 := Lib.hid h1
    have H2 := Lib.hid h2
    have H3 := Lib.hid h3
    have H4 := Lib.hid h4
    have B0 : Hid (∀ o, Below w.heap.size w (w.alloc o)) := Lib.hid (fun o => (Below.refl _ _).alloc (Nat.le_refl _) o)
    have E1 := beq_self_eq_true T.toList
    have E2 := beq_self_eq_true N
    clear h1 h2 h3 h4
    go_enter Tryd.func4, Tryd.ntmps4
    go_wp2_with fail
    refine (Beyond1_no w.heap.size s.size _ (by simp) (by omega)).mono ?_
    rintro e w1 ⟨rfl, rfl⟩
    go_wp2_with fail
    refine (H1.out _ (HW.out.below (B0.out _))).mono ?_
    rintro e w1 ⟨rfl, b1⟩
    have B1 := Lib.hid ((B0.out _).trans (b1.mono (by simp)))
    clear b1
    go_wp2_with fail
    refine (H2.out _).mono ?_
    rintro e w2 ⟨rfl, b2⟩
    have B2 := Lib.hid (B1.out.trans (b2.mono B1.out.size))
    clear b2
    go_wp2_with fail
    refine (H3.out _ (HW.out.below B2.out)).mono ?_
    rintro e w3 ⟨rfl, b3⟩
    have B3 := Lib.hid (B2.out.trans (b3.mono B2.out.size))
    clear b3
    go_wp2_with fail
    refine (H4.out _).mono ?_
    rintro e w4 ⟨rfl, b4⟩
    have B4 := Lib.hid (B3.out.trans (b4.mono B3.out.size))
    clear b4
    cases is
    all_goals
      cases ok
      all_goals
        go_wp2
        go_ret
        exact ⟨rfl, B4.out⟩

end Go.Proofs.YtanjjffoccgkcaaDoor
