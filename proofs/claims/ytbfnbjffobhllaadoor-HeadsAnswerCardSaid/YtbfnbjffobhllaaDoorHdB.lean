/-
  Package heads: isField.
-/
import Derived.Test.YtbfnbjffobhllaaDoorHdA
import Derived.Test.YtbfnbjffobhllaaDoorTrimA
import Derived.Test.YtbfnbjffobhllaaDoorTokA
import Derived.Deep.Cut
namespace Go.Proofs.YtbfnbjffobhllaaDoor
open Go.RowKit

def fldC (f : BF) : Array Value := #[.string f.1, .string f.2]
theorem infoFd : (Tryd.prog.info? 57).map (·.size) = some 2 := by kernel_rfl
theorem fldB_eq (f : BF) : fldB (flB f) = (tokS f.1.data.toList && (f.2.data.toList.all txB && decide (trimL f.2.data.toList = f.2.data.toList))) := rfl
set_option maxRecDepth 100000 in
set_option maxHeartbeats 2000000 in
theorem isField_any (f : BF) (w : World) (h1 : f.1.size ≤ maxLen) (h2 : f.2.size ≤ maxLen) :
    Calls Tryd.prog 83 #[.agg (fldC f)] w fun e w' => e = .returned (.bool (fldB (flB f))) ∧ Below w.heap.size w w' := by
  obtain ⟨n, v⟩ := f
  have h1 : n.size ≤ maxLen := h1
  have h2 : v.size ≤ maxLen := h2
  show Calls Tryd.prog 83 #[.agg #[.string n, .string v]] w _
  have HT := Lib.hid fun w => Token_any n w h1
  have HE := Lib.hid fun w => (everyX_any v w h2).mono fun e w' (h : _ ∧ w = w') => (⟨h.1, h.2 ▸ Below.refl _ _⟩ : e = _ ∧ Below w.heap.size w w')
  have HM := Lib.hid fun w => Trim_any v w h2
  have HF : Hid (fldB (flB (n, v)) = (tokS n.data.toList && (v.data.toList.all txB && decide (trimL v.data.toList = v.data.toList)))) := Lib.hid (fldB_eq (n, v))
  obtain ⟨R, HR⟩ : ∃ R, Hid (fldB (flB (n, v)) = R) := ⟨_, Lib.hid rfl⟩
  rw [HR.out] at HF ⊢
  obtain ⟨t, Ht⟩ : ∃ t, Hid (tokS n.data.toList = t) := ⟨_, Lib.hid rfl⟩
  obtain ⟨a, Ha⟩ : ∃ t, Hid (v.data.toList.all txB = t) := ⟨_, Lib.hid rfl⟩
  obtain ⟨d, Hd⟩ : ∃ t, Hid (decide (trimL v.data.toList = v.data.toList) = t) := ⟨_, Lib.hid rfl⟩
  obtain ⟨T, HTr⟩ : ∃ T, Hid (trimA v = T) := ⟨_, Lib.hid rfl⟩
  have HD : Hid ((T.toList == v.toList) = d) := Lib.hid (by
    rw [← HTr.out, ← Hd.out, Lib.toList_data, Lib.toList_data]
    show (trimL v.data.toList == v.data.toList) = _
    by_cases hx : trimL v.data.toList = v.data.toList
    · rw [hx]; simp
    · rw [beq_eq_false_iff_ne.2 hx, decide_eq_false hx])
  rw [Ht.out, Ha.out, Hd.out] at HF
  rw [Ht.out] at HT
  rw [Ha.out] at HE
  rw [HTr.out] at HM
  obtain ⟨W, HW⟩ : ∃ W, Hid (w.alloc (.cells #[.string n, .string v] 57) = W) := ⟨_, Lib.hid rfl⟩
  have HB : Hid (Below w.heap.size w W) := Lib.hid (by rw [← HW.out]; exact (Below.refl _ _).alloc (Nat.le_refl _) _)
  have HG : Hid (W.heap[w.heap.size]? = some (.cells #[.string n, .string v] 57 (0, 0))) := Lib.hid (by rw [← HW.out]; exact heap_alloc_new w _)
  clear h1 h2 HR
  cases t with
  | false =>
    have HRR : Hid (R = false) := Lib.hid HF.out
    clear HF
    go_enter Tryd.func83, Tryd.ntmps83
    go_upto_region 1 with (fail)
    rw [HW.out]
    refine bw_region (by kernel_rfl) (by kernel_rfl) ?_
    have cA := fun p : BW W => BW.cell HG.out p 0
    have cB := fun p : BW W => BW.cell HG.out p 1
    repeat (quiet_step ((first
      | (with_reducible exact Calls.bw_of (HT.out _)))))
    refine wpQuiet_nil ?_
    intro _ hw'
    obtain ⟨⟨wq, hwq⟩, rfl⟩ := hw'
    go_wp2_with fail
    go_ret
    exact ⟨ret_bool HRR.out.symm, HB.out.trans (Below.mono hwq HB.out.size)⟩
  | true =>
    cases a with
    | false =>
      have HRR : Hid (R = false) := Lib.hid HF.out
      clear HF
      go_enter Tryd.func83, Tryd.ntmps83
      go_upto_region 1 with (fail)
      rw [HW.out]
      refine bw_region (by kernel_rfl) (by kernel_rfl) ?_
      have cA := fun p : BW W => BW.cell HG.out p 0
      have cB := fun p : BW W => BW.cell HG.out p 1
      repeat (quiet_step ((first
        | (with_reducible exact Calls.bw_of (HT.out _))
        | (with_reducible exact Calls.bw_of (HE.out _)))))
      refine wpQuiet_nil ?_
      intro _ hw'
      obtain ⟨⟨wq, hwq⟩, rfl⟩ := hw'
      go_wp2_with fail
      go_ret
      exact ⟨ret_bool HRR.out.symm, HB.out.trans (Below.mono hwq HB.out.size)⟩
    | true =>
      have HRR : Hid (R = d) := Lib.hid HF.out
      have hD := HD.out
      clear HF
      go_enter Tryd.func83, Tryd.ntmps83
      go_upto_region 1 with (fail)
      rw [HW.out]
      refine bw_region (by kernel_rfl) (by kernel_rfl) ?_
      have cA := fun p : BW W => BW.cell HG.out p 0
      have cB := fun p : BW W => BW.cell HG.out p 1
      repeat (quiet_step ((first
        | (with_reducible exact Calls.bw_of (HT.out _))
        | (with_reducible exact Calls.bw_of (HE.out _))
        | (with_reducible exact Calls.bw_of (HM.out _)))))
      refine wpQuiet_nil ?_
      intro _ hw'
      obtain ⟨⟨wq, hwq⟩, rfl⟩ := hw'
      go_wp2_with fail
      go_ret
      exact ⟨ret_bool HRR.out.symm, HB.out.trans (Below.mono hwq HB.out.size)⟩

end Go.Proofs.YtbfnbjffobhllaaDoor
