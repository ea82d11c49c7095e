/-
  The walk of footmanlaw01.AsciiSigns, at every input.
-/
import Derived.Test.YtjeejpgkhjblnaaDoorSignsW
import Derived.Lib.Strings
namespace Go.Proofs.YtjeejpgkhjblnaaDoor
open Go.RowKit

theorem allT_append (a b : List UInt8) : allT (a ++ b) = (allT a && allT b) := by simp [allT]
theorem cat_data (a b : ByteArray) : (a ++ b).data.toList = a.data.toList ++ b.data.toList := by rw [ByteArray.data_append, Array.toList_append]
theorem len_data (t : ByteArray) : t.data.toList.length = t.size := by simp
/-- May a text be a part of a token? -/
def fitT (l : List UInt8) : Bool := l.isEmpty || tokS l
theorem fitT_eq (l : List UInt8) : fitT l = allT l := by
  unfold fitT tokS
  cases l with
  | nil => rfl
  | cons c l => simp
theorem tok_cat (c : UInt8) (s t : ByteArray) : tokS (s ++ ⟨#[c]⟩ ++ t).data.toList = (tokS [c] && fitT s.data.toList && fitT t.data.toList) := by
  rw [cat_data, cat_data, fitT_eq, fitT_eq]
  unfold tokS
  have e : (⟨#[c]⟩ : ByteArray).data.toList = [c] := rfl
  rw [e, allT_append, allT_append]
  have h : (s.data.toList ++ [c] ++ t.data.toList).isEmpty = false := by simp
  rw [h]
  cases allT s.data.toList <;> cases allT [c] <;> cases allT t.data.toList <;> rfl
theorem tok_range : ∀ c : Fin 256, tokB c.val = true → 32 < c.val ∧ c.val < 127 := by decide +kernel
theorem tok_one (c : UInt8) (h : tokS [c] = true) : 32 < (c.toNat : Int) ∧ (c.toNat : Int) < 127 := by
  have hb : tokB c.toNat = true := by simpa [tokS, allT] using h
  have := tok_range ⟨c.toNat, c.toNat_lt⟩ hb
  simp at this
  omega

set_option maxHeartbeats 1000000 in
set_option maxRecDepth 100000 in
theorem signs_walk (c : UInt8) (s t : ByteArray) (m : Int) (w : World) (hs : s.size ≤ 140737488351232) (ht : t.size ≤ 140737488351232) (hm : w.cell? ⟨2, 0, none⟩ = some (.int .i64 m)) :
    Calls Tryd.prog 9 #[.int .u8 c.toNat, .string s, .string t] w fun e w' => e = .returned (.bool true) ∧ Below w.heap.size w w' := by
  have HM := Lib.hid hm; clear hm
  by_cases hb : 1048576 < s.size + t.size
  · go_enter Tryd.func9, Tryd.ntmps9
    go_wp2_with fail
    refine (alive_any m _ HM.out).mono ?_
    rintro e w1 ⟨rfl, b1⟩
    have B1 := Lib.hid b1; clear b1
    go_wp2_with fail
    refine (Beyond2_yes w1.heap.size s.size t.size _ (by simp) (by simp) hb (by unfold maxLen; omega)).mono ?_
    rintro e w2 ⟨rfl, rfl⟩
    go_wp2_with fail
    refine (alive_any m _ (cell_old _ (kept_cell B1.out HM.out (Nat.le_refl _)))).mono ?_
    rintro e w2 ⟨rfl, b2⟩
    have B2 := Lib.hid b2; clear b2
    go_wp2
    go_ret
    have h1 := B1.out.size
    exact ⟨rfl, (B1.out.trans ((Below.refl _ _).alloc h1 _)).trans (B2.out.mono (by simp; omega))⟩
  · have hb' : s.size + t.size ≤ 1048576 := by omega
    have To : TokIs ⟨#[c]⟩ (tokS [c]) := tokIs_of _ _ (show 1 ≤ maxLen by decide) rfl
    have Ta : TokIs (s ++ ⟨#[c]⟩ ++ t) (tokS [c] && fitT s.data.toList && fitT t.data.toList) := tokIs_of _ _ (by
      have e : (s ++ ⟨#[c]⟩ ++ t).size = (s ++ ⟨#[c]⟩ ++ t).data.toList.length := (len_data _).symm
      rw [e, cat_data, cat_data]
      have e1 : s.data.toList.length = s.size := by simp
      have e2 : t.data.toList.length = t.size := by simp
      have e3 : (⟨#[c]⟩ : ByteArray).data.toList.length = 1 := rfl
      rw [List.length_append, List.length_append, e1, e2, e3]
      unfold maxLen; omega) (tok_cat c s t)
    have hc := tok_one c
    have hs' : s.size ≤ maxLen := by unfold maxLen; omega
    have ht' : t.size ≤ maxLen := by unfold maxLen; omega
    have es : s.toList.isEmpty = s.data.toList.isEmpty := by rw [ByteArray.toList_eq]
    have et : t.toList.isEmpty = t.data.toList.isEmpty := by rw [ByteArray.toList_eq]
    cases hse : s.data.toList.isEmpty
    · have fs : fitT s.data.toList = tokS s.data.toList := by rw [fitT, hse]; rfl
      have Ts : TokIs s (tokS s.data.toList) := tokIs_of _ _ hs' rfl
      rw [fs] at Ta
      cases hte : t.data.toList.isEmpty
      · have ft : fitT t.data.toList = tokS t.data.toList := by rw [fitT, hte]; rfl
        have Tt : TokIs t (tokS t.data.toList) := tokIs_of _ _ ht' rfl
        rw [ft] at Ta
        exact signs_ff c s t m w _ hb' HM To (es.trans hse) _ Ts (et.trans hte) _ Tt Ta hc
      · have ft : fitT t.data.toList = true := by rw [fitT, hte]; rfl
        rw [ft] at Ta
        exact signs_fe c s t m w _ hb' HM To (es.trans hse) _ Ts (et.trans hte) Ta hc
    · have fs : fitT s.data.toList = true := by rw [fitT, hse]; rfl
      rw [fs] at Ta
      cases hte : t.data.toList.isEmpty
      · have ft : fitT t.data.toList = tokS t.data.toList := by rw [fitT, hte]; rfl
        have Tt : TokIs t (tokS t.data.toList) := tokIs_of _ _ ht' rfl
        rw [ft] at Ta
        exact signs_ef c s t m w _ hb' HM To (es.trans hse) (et.trans hte) _ Tt Ta hc
      · have ft : fitT t.data.toList = true := by rw [fitT, hte]; rfl
        rw [ft] at Ta
        exact signs_ee c s t m w _ hb' HM To (es.trans hse) (et.trans hte) Ta hc

theorem byte_of (n : Int) (h : (Lit.int .u8 n).wf = true) : ∃ u : UInt8, n = (u.toNat : Int) := by
  have a1 : IntKind.u8.min = 0 := rfl
  have a2 : IntKind.u8.max = 255 := rfl
  simp only [Lit.wf, Bool.and_eq_true, decide_eq_true_eq] at h
  refine ⟨UInt8.ofNat n.toNat, ?_⟩
  rw [UInt8.toNat_ofNat']
  omega
theorem signs_all (c : Int) (s t : ByteArray) (m : Int) (w : World) (hc : (Lit.int .u8 c).wf = true) (hs : s.size ≤ 140737488351232) (ht : t.size ≤ 140737488351232) (hm : w.cell? ⟨2, 0, none⟩ = some (.int .i64 m)) :
    Calls Tryd.prog 9 #[.int .u8 c, .string s, .string t] w fun e w' => e = .returned (.bool true) ∧ Below w.heap.size w w' := by
  obtain ⟨u, rfl⟩ := byte_of c hc
  exact signs_walk u s t m w hs ht hm

end Go.Proofs.YtjeejpgkhjblnaaDoor
