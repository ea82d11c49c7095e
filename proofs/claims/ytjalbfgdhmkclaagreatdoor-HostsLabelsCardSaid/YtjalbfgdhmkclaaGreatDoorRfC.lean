/-
  Contracts: the document's count, number, digits.
-/
import Derived.Test.YtjalbfgdhmkclaaGreatDoorMrA
namespace Go.Proofs.YtjalbfgdhmkclaaGreatDoor
open Go.RowKit

/-- A number, or none. -/
def optV (o : Option Nat) : Value := match o with
  | some n => .tuple #[.int .i64 (n : Int), .bool true]
  | none => .tuple #[.int .i64 0, .bool false]
theorem optV_two (o : Option Nat) : optV o = .tuple #[.int .i64 ((o.getD 0 : Nat) : Int), .bool o.isSome] := by cases o <;> rfl
theorem ret_opt {o : Option Nat} {n : Nat} (h : o = some n) : Ending.returned (.tuple #[.int .i64 (n : Int), .bool true]) = .returned (optV o) := by rw [h]; rfl
theorem ret_optn {o : Option Nat} (h : o = none) : Ending.returned (.tuple #[.int .i64 0, .bool false]) = .returned (optV o) := by rw [h]; rfl
theorem all_take_false {b : Nat} {s : ByteArray} {k : Nat} (h : k < s.size) (hc : dig b s[k] = false) : s.data.toList.all (dig b) = false := by
  have hm : s[k] ∈ s.data.toList := by
    have : s[k] = s.data[k]'h := rfl
    rw [this]; simp
  rw [List.all_eq_false]; exact ⟨_, hm, by simp [hc]⟩

set_option maxRecDepth 100000 in
set_option maxHeartbeats 1000000 in
theorem RefCount_any (s : ByteArray) (b : Nat) (w : World) (hs : s.size ≤ 1048600) (hb : b ≤ 16) :
    Calls Tryz.prog 143 #[.string s, .int .i64 (b : Int)] w fun e w' => e = .returned (optV (cnt b s.data.toList)) ∧ w = w' := by
  obtain ⟨V, HV⟩ : ∃ V, Hid (optV (cnt b s.data.toList) = V) := ⟨_, Lib.hid rfl⟩
  rw [HV.out]
  have HL := Lib.hid (lenB s)
  go_enter Tryz.func143, Tryz.ntmps143
  go_wp2
  go_loop [6, 7, 8] (fun x i _ => ∃ k : Nat, k ≤ s.size ∧ i = .int .i64 k ∧ x = .int .i64 (fol b (s.data.toList.take k)) ∧ Hid ((s.data.toList.take k).all (dig b) = true)) (fun _ i _ => s.size - (intOf i).toNat)
  case atStart => exact ⟨0, Nat.zero_le _, rfl, rfl, Lib.hid rfl⟩
  case round =>
    obtain ⟨k, hk, rfl, rfl, HA⟩ := hrel
    by_cases hlt : k < s.size
    · have hx := hexV_le s[k]
      obtain ⟨x, HX⟩ : ∃ x, Hid (hexV s[k] = x) := ⟨_, Lib.hid rfl⟩
      rw [HX.out] at hx
      by_cases h16 : x < 16
      · have HI : Hid (hexI s[k] = (x : Int)) := Lib.hid (by rw [hexI_yes (by rw [HX.out]; exact h16), HX.out])
        by_cases hxb : x < b
        · have hfl := fol_le b (s.data.toList.take k)
          obtain ⟨F, HF⟩ : ∃ F, Hid (fol b (s.data.toList.take k) = F) := ⟨_, Lib.hid rfl⟩
          rw [HF.out] at hfl
          rw [HF.out]
          have HTk := Lib.hid (take_snoc s k hlt)
          have HA1 : Hid ((s.data.toList.take (k + 1)).all (dig b) = true) := Lib.hid (by rw [HTk.out, List.all_append, HA.out]; simp [dig, HX.out, hxb])
          have hxI : ¬ ((b : Int) ≤ (x : Int)) := by omega
          clear h16
          go_wp2_with fail
          refine (Hex_any _ _).mono ?_
          rw [HI.out]
          rintro e w1 ⟨rfl, rfl⟩
          go_wp2
          have hF36 : F * b ≤ 68719476736 := Nat.le_trans (Nat.mul_le_mul hfl hb) (by omega)
          obtain ⟨m, hm⟩ : ∃ m : Nat, F * b = m := ⟨_, rfl⟩
          refine ⟨⟨k + 1, by omega, by go_num, ?_, HA1⟩, by simp [intOf]; omega⟩
          rw [HTk.out, fol_snoc, HF.out, stp, HX.out, hm]
          rw [show ((F : Int) * (b : Int)) = (m : Int) by rw [← hm]; simp]
          rw [hm] at hF36
          rw [IntWalk.wrap64_in (m : Int) (by omega), IntWalk.wrap64_in ((m : Int) + (x : Int)) (by omega)]
          refine congrArg (Value.int .i64) ?_
          omega
        · have HN : Hid (cnt b s.data.toList = none) := Lib.hid (cnt_no (all_take_false hlt (by simp [dig, HX.out]; omega)))
          have hxI : (b : Int) ≤ (x : Int) := by omega
          clear h16
          go_wp2_with fail
          refine (Hex_any _ _).mono ?_
          rw [HI.out]
          rintro e w1 ⟨rfl, rfl⟩
          go_wp2
          all_goals
            go_ret2
            exact ⟨by rw [← HV.out]; exact ret_optn HN.out, rfl⟩
      · have HI : Hid (hexI s[k] = -1) := Lib.hid (hexI_no (by rw [HX.out]; exact h16))
        have HN : Hid (cnt b s.data.toList = none) := Lib.hid (cnt_no (all_take_false hlt (by simp [dig, HX.out]; omega)))
        clear h16
        go_wp2_with fail
        refine (Hex_any _ _).mono ?_
        rw [HI.out]
        rintro e w1 ⟨rfl, rfl⟩
        go_wp2
        all_goals
          go_ret2
          exact ⟨by rw [← HV.out]; exact ret_optn HN.out, rfl⟩
    · have HE : Hid (s.data.toList.take k = s.data.toList) := Lib.hid (List.take_of_length_le (by rw [HL.out]; omega))
      rw [HE.out] at HA
      rw [HE.out]
      go_wp2
      go_ret2
      exact ⟨by rw [← HV.out]; exact ret_opt (cnt_all HA.out), rfl⟩

theorem dig10 (c : UInt8) : dig 10 c = inR 48 57 (c.toNat : Int) := by
  have : ∀ n : Fin 256, dig 10 (UInt8.ofNat n.1) = inR 48 57 (((UInt8.ofNat n.1).toNat : Nat) : Int) := by decide +kernel
  have h := this ⟨c.toNat, c.toNat_lt⟩
  simpa using h

set_option maxRecDepth 100000 in
set_option maxHeartbeats 1000000 in
theorem RefDigits_any (s : ByteArray) (w : World) (hs : s.size ≤ 1048600) :
    Calls Tryz.prog 97 #[.string s] w fun e w' => e = .returned (.bool (!s.data.toList.isEmpty && s.data.toList.all (dig 10))) ∧ w = w' := by
  obtain ⟨V, HV⟩ : ∃ V, Hid ((!s.data.toList.isEmpty && s.data.toList.all (dig 10)) = V) := ⟨_, Lib.hid rfl⟩
  rw [HV.out]
  have HL := Lib.hid (lenB s)
  go_enter Tryz.func97, Tryz.ntmps97
  go_wp2
  go_loop [3] (fun i => ∃ k : Nat, k ≤ s.size ∧ i = .int .i64 k ∧ Hid ((s.data.toList.take k).all (dig 10) = true)) (fun i => s.size - (intOf i).toNat)
  case atStart => exact ⟨0, Nat.zero_le _, rfl, Lib.hid rfl⟩
  case round =>
    obtain ⟨k, hk, rfl, HA⟩ := hrel
    by_cases hlt : k < s.size
    · obtain ⟨d, HD⟩ : ∃ d, Hid (dig 10 s[k] = d) := ⟨_, Lib.hid rfl⟩
      have HR : Hid (inR 48 57 (s[k].toNat : Int) = d) := Lib.hid (by rw [← dig10]; exact HD.out)
      have HTk := Lib.hid (take_snoc s k hlt)
      cases d
      · have HN : Hid (V = false) := Lib.hid (by rw [← HV.out, all_take_false hlt HD.out]; simp)
        go_wp2_with fail
        refine (Digit_any _ _).mono ?_
        rw [HR.out]
        rintro e w1 ⟨rfl, rfl⟩
        go_wp2
        go_ret
        exact ⟨by rw [HN.out]; rfl, rfl⟩
      · have HA1 : Hid ((s.data.toList.take (k + 1)).all (dig 10) = true) := Lib.hid (by rw [HTk.out, List.all_append, HA.out]; simp [HD.out])
        go_wp2_with fail
        refine (Digit_any _ _).mono ?_
        rw [HR.out]
        rintro e w1 ⟨rfl, rfl⟩
        go_wp2
        exact ⟨⟨k + 1, by omega, by go_num, HA1⟩, by simp [intOf]; omega⟩
    · have HE : Hid (s.data.toList.take k = s.data.toList) := Lib.hid (List.take_of_length_le (by rw [HL.out]; omega))
      rw [HE.out] at HA
      have HN : Hid (V = decide (0 < s.size)) := Lib.hid (by
        rw [← HV.out, HA.out, Bool.and_true]
        have := HL.out
        cases h : s.data.toList with
        | nil => rw [h] at this; simp at this; simp [← this]
        | cons c l => rw [h] at this; simp at this; simp; omega)
      by_cases h0 : 0 < s.size
      · have hd : decide (0 < s.size) = true := by simpa using h0
        go_wp2
        go_ret
        exact ⟨by rw [HN.out, hd]; rfl, rfl⟩
      · have hd : decide (0 < s.size) = false := by simpa using h0
        have hd2 : decide ((0 : Int) < (s.size : Int)) = false := decide_eq_false (by omega)
        go_wp2
        go_ret
        exact ⟨by rw [HN.out, hd]; rfl, rfl⟩

set_option maxRecDepth 100000 in
set_option maxHeartbeats 1000000 in
theorem RfRefNumber_any (s : ByteArray) (w : World) (hs : s.size ≤ 1048600) :
    Calls Tryz.prog 96 #[.string s] w fun e w' => e = .returned (optV (numD s.data.toList)) ∧ w = w' := by
  have hl := lenB s
  by_cases h2 : 2 ≤ s.size
  · obtain ⟨c, d, r, hcd⟩ : ∃ c d r, s.data.toList = c :: d :: r := by
      match h : s.data.toList with
      | [] => rw [h] at hl; simp at hl; omega
      | [_] => rw [h] at hl; simp at hl; omega
      | c :: d :: r => exact ⟨c, d, r, rfl⟩
    have g0 : 0 < s.size := Nat.lt_of_lt_of_le (by decide) h2
    have g1 : 1 < s.size := h2
    have hc : s[0]'g0 = c := by
      have : s.data.toList[0]? = some (s[0]'g0) := by rw [List.getElem?_eq_getElem (by omega)]; rfl
      rw [hcd] at this; simpa using this.symm
    have hd : s[1]'g1 = d := by
      have : s.data.toList[1]? = some (s[1]'g1) := by rw [List.getElem?_eq_getElem (by omega)]; rfl
      rw [hcd] at this; simpa using this.symm
    have HCD := Lib.hid hcd
    have HC := Lib.hid hc
    have HD := Lib.hid hd
    have HZ2 : Hid ((s.extract 2 s.size).size ≤ 1048600) := Lib.hid (by simp; omega)
    have HZ1 : Hid ((s.extract 1 s.size).size ≤ 1048600) := Lib.hid (by simp; omega)
    have HX2 : Hid ((s.extract 2 s.size).data.toList = s.data.toList.drop 2) := Lib.hid (by rw [ext_asB]; rfl)
    have HX1 : Hid ((s.extract 1 s.size).data.toList = s.data.toList.drop 1) := Lib.hid (by rw [ext_asB]; rfl)
    clear hl hcd hc hd
    by_cases h48 : (s[0]'g0).toNat = 48
    · have h48I : (((s[0]'g0).toNat : Int) == 48) = true := by rw [h48]; rfl
      have hc48 : c = 48 := by rw [← HC.out]; exact UInt8.toNat_inj.1 h48
      by_cases hx : (s[1]'g1).toNat = 120 ∨ (s[1]'g1).toNat = 88
      · have HN : Hid (numD s.data.toList = cnt 16 (s.data.toList.drop 2)) := Lib.hid (by
          have hdx : d = 120 ∨ d = 88 := by
            rw [← HD.out]
            rcases hx with hx | hx
            · exact .inl (UInt8.toNat_inj.1 hx)
            · exact .inr (UInt8.toNat_inj.1 hx)
          have : isX s.data.toList = true := by rw [HCD.out, isX, hc48]; simp [hdx]
          rw [numD, this]; rfl)
        rw [HN.out, ← HX2.out]
        clear h48 hc48
        rcases hx with hx | hx
        · have hxI : (((s[1]'g1).toNat : Int) == 120) = true := by rw [hx]; rfl
          clear hx
          have HCt := Lib.hid (fun w => RefCount_any (s.extract 2 s.size) 16 w HZ2.out (by omega))
          obtain ⟨o, HO⟩ : ∃ o, Hid (cnt 16 (s.extract 2 s.size).data.toList = o) := ⟨_, Lib.hid rfl⟩
          rw [HO.out] at HCt
          rw [HO.out]
          cases o <;>
          · simp only [optV] at HCt
            simp only [optV]
            go_enter Tryz.func96, Tryz.ntmps96
            go_wp2_with fail
            refine (HCt.out _).mono ?_
            rintro e w1 ⟨rfl, rfl⟩
            go_wp2
            go_ret2
            exact ⟨rfl, rfl⟩
        · have hxI : (((s[1]'g1).toNat : Int) == 120) = false := by rw [hx]; rfl
          have hxJ : (((s[1]'g1).toNat : Int) == 88) = true := by rw [hx]; rfl
          clear hx
          have HCt := Lib.hid (fun w => RefCount_any (s.extract 2 s.size) 16 w HZ2.out (by omega))
          obtain ⟨o, HO⟩ : ∃ o, Hid (cnt 16 (s.extract 2 s.size).data.toList = o) := ⟨_, Lib.hid rfl⟩
          rw [HO.out] at HCt
          rw [HO.out]
          cases o <;>
          · simp only [optV] at HCt
            simp only [optV]
            go_enter Tryz.func96, Tryz.ntmps96
            go_wp2_with fail
            refine (HCt.out _).mono ?_
            rintro e w1 ⟨rfl, rfl⟩
            go_wp2
            go_ret2
            exact ⟨rfl, rfl⟩
      · have HN : Hid (numD s.data.toList = cnt 8 (s.data.toList.drop 1)) := Lib.hid (by
          have hdx : ¬ d = 120 ∧ ¬ d = 88 := by
            rw [← HD.out]
            exact ⟨fun e => hx (.inl (by rw [e]; rfl)), fun e => hx (.inr (by rw [e]; rfl))⟩
          have h1 : isX s.data.toList = false := by rw [HCD.out, isX, hc48]; simp [hdx]
          rw [numD, h1, if_neg (by simp), if_pos ⟨by rw [HCD.out]; simp, by rw [HCD.out, hc48]; rfl⟩])
        rw [HN.out, ← HX1.out]
        have hxI : (((s[1]'g1).toNat : Int) == 120) = false := beq_eq_false_iff_ne.2 (fun e => hx (.inl (by omega)))
        have hxJ : (((s[1]'g1).toNat : Int) == 88) = false := beq_eq_false_iff_ne.2 (fun e => hx (.inr (by omega)))
        clear h48 hc48 hx
        have HCt := Lib.hid (fun w => RefCount_any (s.extract 1 s.size) 8 w HZ1.out (by omega))
        obtain ⟨o, HO⟩ : ∃ o, Hid (cnt 8 (s.extract 1 s.size).data.toList = o) := ⟨_, Lib.hid rfl⟩
        rw [HO.out] at HCt
        rw [HO.out]
        cases o <;>
        · simp only [optV] at HCt
          simp only [optV]
          go_enter Tryz.func96, Tryz.ntmps96
          go_wp2_with fail
          refine (HCt.out _).mono ?_
          rintro e w1 ⟨rfl, rfl⟩
          go_wp2
          go_ret2
          exact ⟨rfl, rfl⟩
    · have h48I : (((s[0]'g0).toNat : Int) == 48) = false := beq_eq_false_iff_ne.2 (by omega)
      have HN : Hid (numD s.data.toList = cnt 10 s.data.toList) := Lib.hid (by
        have hc48 : c ≠ 48 := fun e => h48 (by rw [HC.out, e]; rfl)
        have h1 : isX s.data.toList = false := by rw [HCD.out, isX]; simp [hc48]
        rw [numD, h1, if_neg (by simp), if_neg (by rw [HCD.out]; simp [hc48]), if_neg (by rw [HCD.out]; simp)])
      rw [HN.out]
      clear h48
      have HCt := Lib.hid (fun w => RefCount_any (s) 10 w hs (by omega))
      obtain ⟨o, HO⟩ : ∃ o, Hid (cnt 10 s.data.toList = o) := ⟨_, Lib.hid rfl⟩
      rw [HO.out] at HCt
      rw [HO.out]
      cases o <;>
      · simp only [optV] at HCt
        simp only [optV]
        go_enter Tryz.func96, Tryz.ntmps96
        go_wp2_with fail
        refine (HCt.out _).mono ?_
        rintro e w1 ⟨rfl, rfl⟩
        go_wp2
        go_ret2
        exact ⟨rfl, rfl⟩
  · by_cases h1 : s.size = 0
    · have HN : Hid (numD s.data.toList = none) := Lib.hid (by
        have : s.data.toList = [] := List.eq_nil_of_length_eq_zero (by omega)
        rw [this]; rfl)
      rw [HN.out]
      have h1I : ((s.size : Int) == 0) = true := by rw [h1]; rfl
      have h2I : ¬ (2 : Int) ≤ (s.size : Int) := by omega
      clear h1 hl
      go_enter Tryz.func96, Tryz.ntmps96
      go_wp2
      go_ret2
      exact ⟨rfl, rfl⟩
    · have HN : Hid (numD s.data.toList = cnt 10 s.data.toList) := Lib.hid (by
        match h : s.data.toList with
        | [] => rw [h] at hl; simp at hl; omega
        | [c] => simp [numD, isX]
        | _ :: _ :: _ => rw [h] at hl; simp at hl; omega)
      rw [HN.out]
      have h1I : ((s.size : Int) == 0) = false := beq_eq_false_iff_ne.2 (by omega)
      have h2I : ¬ (2 : Int) ≤ (s.size : Int) := by omega
      clear h1 hl
      have HCt := Lib.hid (fun w => RefCount_any (s) 10 w hs (by omega))
      obtain ⟨o, HO⟩ : ∃ o, Hid (cnt 10 s.data.toList = o) := ⟨_, Lib.hid rfl⟩
      rw [HO.out] at HCt
      rw [HO.out]
      cases o <;>
      · simp only [optV] at HCt
        simp only [optV]
        go_enter Tryz.func96, Tryz.ntmps96
        go_wp2_with fail
        refine (HCt.out _).mono ?_
        rintro e w1 ⟨rfl, rfl⟩
        go_wp2
        go_ret2
        exact ⟨rfl, rfl⟩

end Go.Proofs.YtjalbfgdhmkclaaGreatDoor
