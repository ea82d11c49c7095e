/-
  Contracts: the document's Blank and Trim.
-/
import Derived.Test.YthffgnlebljkcaaDoorTrimA
namespace Go.Proofs.YthffgnlebljkcaaDoor
open Go.RowKit

set_option maxHeartbeats 400000 in
theorem Blank_any (c : UInt8) (w : World) :
    Calls Tryd.prog 38 #[.int .u8 c.toNat] w fun e w' => e = .returned (.bool (bl c)) ∧ w = w' := by
  by_cases h1 : c = 32
  · subst h1
    go_enter Tryd.func38, Tryd.ntmps38
    go_wp2
    go_ret
    exact ⟨rfl, rfl⟩
  · by_cases h2 : c = 9
    · subst h2
      go_enter Tryd.func38, Tryd.ntmps38
      go_wp2
      go_ret
      exact ⟨rfl, rfl⟩
    · have HB : Hid (bl c = false) := Lib.hid (by rw [Bool.eq_false_iff]; intro h; rcases (bl_iff c).1 h with h | h <;> contradiction)
      have e1 : ((c.toNat : Int) == 32) = false := beq_eq_false_iff_ne.2 (fun h => h1 (UInt8.toNat_inj.1 (by simp; omega)))
      have e2 : ((c.toNat : Int) == 9) = false := beq_eq_false_iff_ne.2 (fun h => h2 (UInt8.toNat_inj.1 (by simp; omega)))
      clear h1 h2
      go_enter Tryd.func38, Tryd.ntmps38
      go_wp2
      go_ret
      exact ⟨ret_bool HB.out.symm, rfl⟩

theorem ext_data (t : ByteArray) (a b : Nat) : (t.extract a b).data.toList = (t.data.toList.take b).drop a := by
  rw [ByteArray.data_extract, Array.toList_extract, List.extract_eq_take_drop, List.drop_take]
theorem data_len (t : ByteArray) : t.data.toList.length = t.size := by simp
theorem head_of (t : ByteArray) (h : 0 < t.size) : t.data.toList = t[0] :: t.data.toList.drop 1 := by
  have hl := data_len t
  cases e : t.data.toList with
  | nil => rw [e] at hl; simp at hl; omega
  | cons c r =>
    have : t[0] = c := by
      have h1 : t.data.toList[0]? = some t[0] := by rw [List.getElem?_eq_getElem (by omega)]; rfl
      rw [e] at h1; simpa using h1.symm
    rw [this]; rfl
theorem last_of (t : ByteArray) (h : 0 < t.size) : t.data.toList = t.data.toList.take (t.size - 1) ++ [t[t.size - 1]'(by omega)] := by
  have hl := data_len t
  have h1 := List.take_succ_eq_append_getElem (l := t.data.toList) (i := t.size - 1) (by omega)
  have h2 : t.data.toList.take (t.size - 1 + 1) = t.data.toList := List.take_of_length_le (by omega)
  rw [h2] at h1
  exact h1
theorem ba_ext {a b : ByteArray} (h : a.data.toList = b.data.toList) : a = b := by
  cases a; cases b; simp only at h; congr 1; exact Array.toList_inj.1 h
theorem ext_size (t : ByteArray) (a b : Nat) (hb : b ≤ t.size) : (t.extract a b).size = b - a := by
  rw [← data_len, ext_data, List.length_drop, List.length_take, data_len]; omega
def strSize : Value → Nat
  | .string t => t.size
  | _ => 0

set_option maxHeartbeats 1000000 in
theorem RefTrim_any (s : ByteArray) (w : World) (hs : s.size ≤ maxLen) :
    Calls Tryd.prog 23 #[.string s] w fun e w' => e = .returned (.string (trimA s)) ∧ w = w' := by
  unfold maxLen at hs
  go_enter Tryd.func23, Tryd.ntmps23
  go_wp2
  go_loop [0] (fun v => ∃ t : ByteArray, v = .string t ∧ t.size ≤ s.size ∧ trimL t.data.toList = trimL s.data.toList) (fun v => strSize v)
  case atStart => exact ⟨s, rfl, Nat.le_refl _, rfl⟩
  case round =>
    obtain ⟨t, rfl, ht, he⟩ := hrel
    have HE := Lib.hid he; clear he
    rcases (show (∃ h : 0 < t.size, bl t[0] = true) ∨ (∃ h : 0 < t.size, bl t[0] = false) ∨ ¬ 0 < t.size from by
      by_cases h : 0 < t.size
      · cases hb : bl t[0]
        · exact .inr (.inl ⟨h, hb⟩)
        · exact .inl ⟨h, hb⟩
      · exact .inr (.inr h)) with ⟨h0, hb⟩ | ⟨h0, hb⟩ | h0
    · have HB := Lib.hid hb; clear hb
      go_wp2_with (go_at_call 38; refine (Blank_any _ _).mono ?_; rw [HB.out]; rintro e w' ⟨rfl, rfl⟩)
      refine ⟨⟨_, rfl, ?_, ?_⟩, ?_⟩
      · rw [ext_size _ _ _ (Nat.le_refl _)]; omega
      · rw [← HE.out, ext_data, List.take_of_length_le (by rw [data_len]; omega)]
        conv => rhs; rw [head_of t h0]
        rw [trimL_cons _ _ HB.out]
      · show (t.extract 1 t.size).size < t.size
        rw [ext_size _ _ _ (Nat.le_refl _)]; omega
    · have HD : Hid (∀ c, t.data.toList.head? = some c → bl c = false) := Lib.hid (fun c hc => by
        rw [head_of t h0] at hc; simp only [List.head?_cons, Option.some.injEq] at hc; rw [← hc]; exact hb)
      have HB := Lib.hid hb; clear hb
      go_wp2_with (go_at_call 38; refine (Blank_any _ _).mono ?_; rw [HB.out]; rintro e w' ⟨rfl, rfl⟩)
      go_loop [0] (fun v => ∃ t : ByteArray, v = .string t ∧ t.size ≤ s.size ∧ trimL t.data.toList = trimL s.data.toList ∧ (∀ c, t.data.toList.head? = some c → bl c = false)) (fun v => strSize v)
      case atStart => exact ⟨t, rfl, ht, HE.out, HD.out⟩
      case round =>
        obtain ⟨r, rfl, hr, he, hd⟩ := hrel
        have HE2 := Lib.hid he; clear he
        have HD2 := Lib.hid hd; clear hd
        clear HE HD
        rcases (show (∃ h : 0 < r.size, bl (r[r.size - 1]'(by omega)) = true) ∨ (∃ h : 0 < r.size, bl (r[r.size - 1]'(by omega)) = false) ∨ ¬ 0 < r.size from by
          by_cases h : 0 < r.size
          · cases hb : bl (r[r.size - 1]'(by omega))
            · exact .inr (.inl ⟨h, hb⟩)
            · exact .inl ⟨h, hb⟩
          · exact .inr (.inr h)) with ⟨g0, hb⟩ | ⟨g0, hb⟩ | g0
        · have HB2 := Lib.hid hb; clear hb
          go_wp2_with (go_at_call 38; refine (Blank_any _ _).mono ?_; rw [HB2.out]; rintro e w' ⟨rfl, rfl⟩)
          refine ⟨⟨_, rfl, ?_, ?_, ?_⟩, ?_⟩
          · rw [ext_size _ _ _ (by omega)]; omega
          · rw [← HE2.out, ext_data, List.drop_zero]
            conv => rhs; rw [last_of r g0]
            rw [trimL_snoc _ _ HB2.out]
          · intro c hc
            refine HD2.out c ?_
            rw [ext_data, List.drop_zero] at hc
            rw [last_of r g0, List.head?_append, hc]; rfl
          · show (r.extract 0 (r.size - 1)).size < r.size
            rw [ext_size _ _ _ (by omega)]; omega
        · have HF : Hid (r = trimA s) := Lib.hid (ba_ext (by
            show _ = trimL s.data.toList
            rw [← HE2.out]
            exact (trimL_of HD2.out (fun c hc => by rw [last_of r g0] at hc; simp at hc; rw [← hc]; exact hb)).symm))
          have HB2 := Lib.hid hb; clear hb
          go_wp2_with (go_at_call 38; refine (Blank_any _ _).mono ?_; rw [HB2.out]; rintro e w' ⟨rfl, rfl⟩)
          go_ret
          exact ⟨by rw [← HF.out]; rfl, rfl⟩
        · have HF : Hid (r = trimA s) := Lib.hid (ba_ext (by
            show _ = trimL s.data.toList
            rw [← HE2.out]
            have := data_len r
            cases e : r.data.toList with
            | nil => rfl
            | cons a q => rw [e] at this; simp at this; omega))
          go_wp2
          go_ret
          exact ⟨by rw [← HF.out]; rfl, rfl⟩
    · have HD : Hid (∀ c, t.data.toList.head? = some c → bl c = false) := Lib.hid (fun c hc => by
        have := data_len t
        cases e : t.data.toList with
        | nil => rw [e] at hc; cases hc
        | cons a r => rw [e] at this; simp at this; omega)
      go_wp2
      go_loop [0] (fun v => ∃ t : ByteArray, v = .string t ∧ t.size ≤ s.size ∧ trimL t.data.toList = trimL s.data.toList ∧ (∀ c, t.data.toList.head? = some c → bl c = false)) (fun v => strSize v)
      case atStart => exact ⟨t, rfl, ht, HE.out, HD.out⟩
      case round =>
        obtain ⟨r, rfl, hr, he, hd⟩ := hrel
        have HE2 := Lib.hid he; clear he
        have HD2 := Lib.hid hd; clear hd
        clear HE HD
        rcases (show (∃ h : 0 < r.size, bl (r[r.size - 1]'(by omega)) = true) ∨ (∃ h : 0 < r.size, bl (r[r.size - 1]'(by omega)) = false) ∨ ¬ 0 < r.size from by
          by_cases h : 0 < r.size
          · cases hb : bl (r[r.size - 1]'(by omega))
            · exact .inr (.inl ⟨h, hb⟩)
            · exact .inl ⟨h, hb⟩
          · exact .inr (.inr h)) with ⟨g0, hb⟩ | ⟨g0, hb⟩ | g0
        · have HB2 := Lib.hid hb; clear hb
          go_wp2_with (go_at_call 38; refine (Blank_any _ _).mono ?_; rw [HB2.out]; rintro e w' ⟨rfl, rfl⟩)
          refine ⟨⟨_, rfl, ?_, ?_, ?_⟩, ?_⟩
          · rw [ext_size _ _ _ (by omega)]; omega
          · rw [← HE2.out, ext_data, List.drop_zero]
            conv => rhs; rw [last_of r g0]
            rw [trimL_snoc _ _ HB2.out]
          · intro c hc
            refine HD2.out c ?_
            rw [ext_data, List.drop_zero] at hc
            rw [last_of r g0, List.head?_append, hc]; rfl
          · show (r.extract 0 (r.size - 1)).size < r.size
            rw [ext_size _ _ _ (by omega)]; omega
        · have HF : Hid (r = trimA s) := Lib.hid (ba_ext (by
            show _ = trimL s.data.toList
            rw [← HE2.out]
            exact (trimL_of HD2.out (fun c hc => by rw [last_of r g0] at hc; simp at hc; rw [← hc]; exact hb)).symm))
          have HB2 := Lib.hid hb; clear hb
          go_wp2_with (go_at_call 38; refine (Blank_any _ _).mono ?_; rw [HB2.out]; rintro e w' ⟨rfl, rfl⟩)
          go_ret
          exact ⟨by rw [← HF.out]; rfl, rfl⟩
        · have HF : Hid (r = trimA s) := Lib.hid (ba_ext (by
            show _ = trimL s.data.toList
            rw [← HE2.out]
            have := data_len r
            cases e : r.data.toList with
            | nil => rfl
            | cons a q => rw [e] at this; simp at this; omega))
          go_wp2
          go_ret
          exact ⟨by rw [← HF.out]; rfl, rfl⟩

end Go.Proofs.YthffgnlebljkcaaDoor
