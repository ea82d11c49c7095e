/-
  Package heads, small contracts: isText, isSign, every, isTarget, isField.
-/
import Derived.Test.YtbfnbjffobhllaaDoorHdF
import Derived.Test.YtbfnbjffobhllaaDoorBw
namespace Go.Proofs.YtbfnbjffobhllaaDoor
open Go.RowKit

theorem tx_yes {c : UInt8} (h : txB c = true) : c.toNat = 9 ∨ (c.toNat ≠ 9 ∧ 32 ≤ c.toNat ∧ c.toNat ≠ 127) := by
  simp [txB] at h
  omega
theorem tx_no {c : UInt8} (h : txB c = false) : c.toNat ≠ 9 ∧ (c.toNat < 32 ∨ c.toNat = 127) := by
  simp [txB] at h
  omega
set_option maxHeartbeats 1000000 in
theorem isText_yes12 (c : UInt8) (h : txB c = true) (w : World) : Calls Tryd.prog 89 #[.int .u8 (c.toNat : Int)] w fun e w' => e = .returned (.bool true) ∧ w = w' := by
  rcases tx_yes h with h9 | ⟨h9, h1, h2⟩
  · have e9 : ((c.toNat : Int) == 9) = true := by rw [h9]; rfl
    clear h h9
    go_enter Tryd.func89, Tryd.ntmps89
    go_wp2
    go_ret
    exact ⟨rfl, rfl⟩
  · have e9 : ((c.toNat : Int) == 9) = false := beq_eq_false_iff_ne.2 (by omega)
    have e1 : decide ((32 : Int) ≤ (c.toNat : Int)) = true := decide_eq_true (by omega)
    have e2 : (32 : Int) ≤ (c.toNat : Int) := by omega
    have e3 : ((c.toNat : Int) != 127) = true := bne_iff_ne.2 (by omega)
    clear h h9 h1 h2
    go_enter Tryd.func89, Tryd.ntmps89
    go_wp2
    go_ret
    exact ⟨rfl, rfl⟩
set_option maxHeartbeats 1000000 in
theorem isText_no12 (c : UInt8) (h : txB c = false) (w : World) : Calls Tryd.prog 89 #[.int .u8 (c.toNat : Int)] w fun e w' => e = .returned (.bool false) ∧ w = w' := by
  obtain ⟨h9, hc⟩ := tx_no h
  have e9 : ((c.toNat : Int) == 9) = false := beq_eq_false_iff_ne.2 (by omega)
  rcases hc with hc | hc
  · have e1 : decide ((32 : Int) ≤ (c.toNat : Int)) = false := decide_eq_false (by omega)
    have e2 : ¬ (32 : Int) ≤ (c.toNat : Int) := by omega
    clear h hc h9
    go_enter Tryd.func89, Tryd.ntmps89
    go_wp2
    go_ret
    exact ⟨rfl, rfl⟩
  · have e1 : decide ((32 : Int) ≤ (c.toNat : Int)) = true := decide_eq_true (by omega)
    have e2 : (32 : Int) ≤ (c.toNat : Int) := by omega
    have e3 : ((c.toNat : Int) != 127) = false := by rw [hc]; rfl
    clear h hc h9
    go_enter Tryd.func89, Tryd.ntmps89
    go_wp2
    go_ret
    exact ⟨rfl, rfl⟩
theorem isText_any12 (c : UInt8) (w : World) : Calls Tryd.prog 89 #[.int .u8 (c.toNat : Int)] w fun e w' => e = .returned (.bool (txB c)) ∧ w = w' := by
  cases h : txB c with
  | true => exact isText_yes12 c h w
  | false => exact isText_no12 c h w
set_option maxHeartbeats 1000000 in
theorem isSign_any12 (c : UInt8) (w : World) : Calls Tryd.prog 97 #[.int .u8 (c.toNat : Int)] w fun e w' => e = .returned (.bool (sgB c)) ∧ w = w' := by
  by_cases h1 : 32 < c.toNat
  · by_cases h2 : c.toNat < 127
    · have hr : sgB c = true := by simp [sgB, h1, h2]
      have e1 : (32 : Int) < (c.toNat : Int) := by omega
      have e2 : (c.toNat : Int) < 127 := by omega
      have d1 : decide ((32 : Int) < (c.toNat : Int)) = true := decide_eq_true e1
      rw [hr]
      clear h1 h2 hr
      go_enter Tryd.func97, Tryd.ntmps97
      go_wp2
      go_ret
      exact ⟨rfl, rfl⟩
    · have hr : sgB c = false := by simp [sgB, h2]
      have e1 : (32 : Int) < (c.toNat : Int) := by omega
      have e2 : ¬ (c.toNat : Int) < 127 := by omega
      have d1 : decide ((32 : Int) < (c.toNat : Int)) = true := decide_eq_true e1
      rw [hr]
      clear h1 h2 hr
      go_enter Tryd.func97, Tryd.ntmps97
      go_wp2
      go_ret
      exact ⟨rfl, rfl⟩
  · have hr : sgB c = false := by simp [sgB, h1]
    have e1 : ¬ (32 : Int) < (c.toNat : Int) := by omega
    have d1 : decide ((32 : Int) < (c.toNat : Int)) = false := decide_eq_false e1
    rw [hr]
    clear h1 hr
    go_enter Tryd.func97, Tryd.ntmps97
    go_wp2
    go_ret
    exact ⟨rfl, rfl⟩
theorem all_take_no {p : UInt8 → Bool} {s : ByteArray} {k : Nat} (h : k < s.size) (hc : p s[k] = false) : s.data.toList.all p = false := by
  cases hx : s.data.toList.all p with
  | false => rfl
  | true =>
    have hm : s[k] ∈ s.data.toList := by
      have : s[k] = s.data[k]'h := rfl
      rw [this]; simp
    rw [List.all_eq_true.1 hx _ hm] at hc; cases hc
theorem all_snoc (p : UInt8 → Bool) (l : List UInt8) (c : UInt8) : (l ++ [c]).all p = (l.all p && p c) := by simp
set_option maxHeartbeats 1000000 in
/-- every, over any function that tells a byte. -/
theorem every12_of (g : Nat) (p : UInt8 → Bool) (hg : g = 89 ∨ g = 97) (HF : Hid (∀ c : UInt8, ∀ w, Calls Tryd.prog g #[.int .u8 (c.toNat : Int)] w fun e w' => e = .returned (.bool (p c)) ∧ w = w')) (s : ByteArray) (w : World) (hs : s.size ≤ maxLen) :
    Calls Tryd.prog 88 #[.string s, .func (.func g) #[] #[]] w fun e w' => e = .returned (.bool (s.data.toList.all p)) ∧ w = w' := by
  unfold maxLen at hs
  obtain ⟨V, HV⟩ : ∃ V, Hid (s.data.toList.all p = V) := ⟨_, Lib.hid rfl⟩
  rw [HV.out]
  rcases hg with rfl | rfl
  all_goals
    go_enter Tryd.func88, Tryd.ntmps88
    go_wp2
    go_loop [5, 8] (fun _ i => ∃ k : Nat, k ≤ s.size ∧ i = .int .i64 k ∧ Hid ((s.data.toList.take k).all p = true)) (fun _ i => s.size - (intOf i).toNat)
    case atStart => exact ⟨0, Nat.zero_le _, rfl, Lib.hid rfl⟩
    case round =>
      obtain ⟨k, hk, rfl, HA⟩ := hrel
      by_cases hlt : k < s.size
      · obtain ⟨c, Hc⟩ : ∃ c, Hid (s[k] = c) := ⟨_, Lib.hid rfl⟩
        have HC := Lib.hid (HF.out s[k] w)
        have HN : Hid (p s[k] = false → V = false) := Lib.hid fun h => by rw [← HV.out]; exact all_take_no hlt h
        have HY : Hid (p s[k] = true → (s.data.toList.take (k + 1)).all p = true) := Lib.hid fun h => by rw [take_snoc s k hlt, all_snoc, HA.out, h]; rfl
        obtain ⟨b, Hb⟩ : ∃ b, Hid (p s[k] = b) := ⟨_, Lib.hid rfl⟩
        rw [Hb.out] at HC HN HY
        cases b with
        | false =>
          have HR := Lib.hid (HN.out rfl)
          clear HN HY
          go_wp2_with fail
          refine HC.out.mono ?_
          rintro e w' ⟨rfl, rfl⟩
          go_wp2
          go_ret
          exact ⟨ret_bool HR.out.symm, rfl⟩
        | true =>
          have HR := Lib.hid (HY.out rfl)
          clear HN HY
          go_wp2_with fail
          refine HC.out.mono ?_
          rintro e w' ⟨rfl, rfl⟩
          go_wp2
          go_round
          case rel => exact ⟨k + 1, by omega, by go_num, HR⟩
          case measure => simp [intOf]; omega
      · have HR : Hid (V = true) := Lib.hid (by rw [← HV.out, ← HA.out, List.take_of_length_le (by simp; omega)])
        go_wp2
        go_ret
        exact ⟨ret_bool HR.out.symm, rfl⟩
theorem everyX_any (s : ByteArray) (w : World) (hs : s.size ≤ maxLen) :
    Calls Tryd.prog 88 #[.string s, .func (.func 89) #[] #[]] w fun e w' => e = .returned (.bool (s.data.toList.all txB)) ∧ w = w' :=
  every12_of _ txB (.inl rfl) (Lib.hid isText_any12) s w hs
theorem everyS_any (s : ByteArray) (w : World) (hs : s.size ≤ maxLen) :
    Calls Tryd.prog 88 #[.string s, .func (.func 97) #[] #[]] w fun e w' => e = .returned (.bool (s.data.toList.all sgB)) ∧ w = w' :=
  every12_of _ sgB (.inr rfl) (Lib.hid isSign_any12) s w hs
set_option maxHeartbeats 1000000 in
theorem isTarget_any (s : ByteArray) (w : World) (hs : s.size ≤ maxLen) :
    Calls Tryd.prog 82 #[.string s] w fun e w' => e = .returned (.bool (tgtB s.data.toList)) ∧ w = w' := by
  have HE := Lib.hid (everyS_any s w hs)
  obtain ⟨V, HV⟩ : ∃ V, Hid (s.data.toList.all sgB = V) := ⟨_, Lib.hid rfl⟩
  rw [HV.out] at HE
  by_cases h : s.data.toList = []
  · have HR : Hid (tgtB s.data.toList = false) := Lib.hid (by rw [h]; rfl)
    have hne : (s.toList != []) = false := by rw [Lib.toList_data, h]; rfl
    have hne2 : (s.toList == []) = true := by rw [Lib.toList_data, h]; rfl
    have hn3 : s.toList = [] := by rw [Lib.toList_data, h]
    clear h hs
    go_enter Tryd.func82, Tryd.ntmps82
    go_wp2
    go_ret
    exact ⟨ret_bool HR.out.symm, rfl⟩
  · have HR : Hid (tgtB s.data.toList = V) := Lib.hid (by
      rw [← HV.out]
      unfold tgtB
      cases hx : s.data.toList with
      | nil => exact absurd hx h
      | cons _ _ => rfl)
    have hn3 : ¬ s.toList = [] := by rw [Lib.toList_data]; exact h
    have hne : (s.toList != []) = true := bne_iff_ne.2 hn3
    have hne2 : (s.toList == []) = false := beq_eq_false_iff_ne.2 hn3
    clear h hs
    go_enter Tryd.func82, Tryd.ntmps82
    go_wp2_with fail
    refine HE.out.mono ?_
    rintro e w' ⟨rfl, rfl⟩
    go_wp2
    go_ret
    exact ⟨ret_bool HR.out.symm, rfl⟩

end Go.Proofs.YtbfnbjffobhllaaDoor
