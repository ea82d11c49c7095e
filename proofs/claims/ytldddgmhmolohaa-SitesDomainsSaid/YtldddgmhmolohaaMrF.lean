/-
  Contracts: the document's count, number, digits.
  Plain words on the document's reading of four bytes: the parts that count, their numbers, the bytes.
  Contract: the document's Four.
-/
import Derived.Test.YtldddgmhmolohaaMrA
import Derived.Test.YtldddgmhmolohaaMaC
import Derived.Deep.DeepCutAuto
namespace Go.Proofs.Ytldddgmhmolohaa
open Go.RowKit

/-- A number, or none. -/
def optV (o : Option Nat) : Value := match o with
  | some n => .tuple #[.int .i64 (n : Int), .bool true]
  | none => .tuple #[.int .i64 0, .bool false]
theorem optV_two (o : Option Nat) : optV o = .tuple #[.int .i64 ((o.getD 0 : Nat) : Int), .bool o.isSome] := by cases o <;> rfl
theorem ret_opt {o : Option Nat} {n : Nat} (h : o = some n) : Ending.returned (.tuple #[.int .i64 (n : Int), .bool true]) = .returned (optV o) := by rw [h]; rfl
theorem ret_optn {o : Option Nat} (h : o = none) : Ending.returned (.tuple #[.int .i64 0, .bool false]) = .returned (optV o) := by rw [h]; rfl
theorem all_take_false {b : Nat} {s : ByteArray} {k : Nat} (h : k < s.size) (hc : dig b s[k] = false) : s.data.toList.all (dig b) = false := by
  have hm : s[k] ∈ s.data.toList := by
    have : s[k] = s.data[k]'h := rfl
    rw [this]; simp
  rw [List.all_eq_false]; exact ⟨_, hm, by simp [hc]⟩

set_option maxRecDepth 100000 in
set_option maxHeartbeats 1000000 in
theorem RefCount_any (s : ByteArray) (b : Nat) (w : World) (hs : s.size ≤ 1048600) (hb : b ≤ 16) :
    Calls Try.prog 44 #[.string s, .int .i64 (b : Int)] w fun e w' => e = .returned (optV (cnt b s.data.toList)) ∧ w = w' := by
  obtain ⟨V, HV⟩ : ∃ V, Hid (optV (cnt b s.data.toList) = V) := ⟨_, Lib.hid rfl⟩
  rw [HV.out]
  have HL := Lib.hid (lenB s)
  go_enter Try.func44, Try.ntmps44
  go_wp2
  go_loop [6, 7, 8] (fun x i _ => ∃ k : Nat, k ≤ s.size ∧ i = .int .i64 k ∧ x = .int .i64 (fol b (s.data.toList.take k)) ∧ Hid ((s.data.toList.take k).all (dig b) = true)) (fun _ i _ => s.size - (intOf i).toNat)
  case atStart => exact ⟨0, Nat.zero_le _, rfl, rfl, Lib.hid rfl⟩
  case round =>
    obtain ⟨k, hk, rfl, rfl, HA⟩ := hrel
    by_cases hlt : k < s.size
    · have hx := hexV_le s[k]
      obtain ⟨x, HX⟩ : ∃ x, Hid (hexV s[k] = x) := ⟨_, Lib.hid rfl⟩
      rw [HX.out] at hx
      by_cases h16 : x < 16
      · have HI : Hid (hexI s[k] = (x : Int)) := Lib.hid (by rw [hexI_yes (by rw [HX.out]; exact h16), HX.out])
        by_cases hxb : x < b
        · have hfl := fol_le b (s.data.toList.take k)
          obtain ⟨F, HF⟩ : ∃ F, Hid (fol b (s.data.toList.take k) = F) := ⟨_, Lib.hid rfl⟩
          rw [HF.out] at hfl
          rw [HF.out]
          have HTk := Lib.hid (take_snoc s k hlt)
          have HA1 : Hid ((s.data.toList.take (k + 1)).all (dig b) = true) := Lib.hid (by rw [HTk.out, List.all_append, HA.out]; simp [dig, HX.out, hxb])
          have hxI : ¬ ((b : Int) ≤ (x : Int)) := by omega
          clear h16
          go_wp2_with fail
          refine (Hex_any _ _).mono ?_
          rw [HI.out]
          rintro e w1 ⟨rfl, rfl⟩
          go_wp2
          have hF36 : F * b ≤ 68719476736 := Nat.le_trans (Nat.mul_le_mul hfl hb) (by omega)
          obtain ⟨m, hm⟩ : ∃ m : Nat, F * b = m := ⟨_, rfl⟩
          refine ⟨⟨k + 1, by omega, by go_num, ?_, HA1⟩, by simp [intOf]; omega⟩
          rw [HTk.out, fol_snoc, HF.out, stp, HX.out, hm]
          rw [show ((F : Int) * (b : Int)) = (m : Int) by rw [← hm]; simp]
          rw [hm] at hF36
          rw [IntWalk.wrap64_in (m : Int) (by omega), IntWalk.wrap64_in ((m : Int) + (x : Int)) (by omega)]
          refine congrArg (Value.int .i64) ?_
          omega
        · have HN : Hid (cnt b s.data.toList = none) := Lib.hid (cnt_no (all_take_false hlt (by simp [dig, HX.out]; omega)))
          have hxI : (b : Int) ≤ (x : Int) := by omega
          clear h16
          go_wp2_with fail
          refine (Hex_any _ _).mono ?_
          rw [HI.out]
          rintro e w1 ⟨rfl, rfl⟩
          go_wp2
          all_goals
            go_ret2
            exact ⟨by rw [← HV.out]; exact ret_optn HN.out, rfl⟩
      · have HI : Hid (hexI s[k] = -1) := Lib.hid (hexI_no (by rw [HX.out]; exact h16))
        have HN : Hid (cnt b s.data.toList = none) := Lib.hid (cnt_no (all_take_false hlt (by simp [dig, HX.out]; omega)))
        clear h16
        go_wp2_with fail
        refine (Hex_any _ _).mono ?_
        rw [HI.out]
        rintro e w1 ⟨rfl, rfl⟩
        go_wp2
        all_goals
          go_ret2
          exact ⟨by rw [← HV.out]; exact ret_optn HN.out, rfl⟩
    · have HE : Hid (s.data.toList.take k = s.data.toList) := Lib.hid (List.take_of_length_le (by rw [HL.out]; omega))
      rw [HE.out] at HA
      rw [HE.out]
      go_wp2
      go_ret2
      exact ⟨by rw [← HV.out]; exact ret_opt (cnt_all HA.out), rfl⟩

theorem dig10 (c : UInt8) : dig 10 c = inR 48 57 (c.toNat : Int) := by
  have : ∀ n : Fin 256, dig 10 (UInt8.ofNat n.1) = inR 48 57 (((UInt8.ofNat n.1).toNat : Nat) : Int) := by decide +kernel
  have h := this ⟨c.toNat, c.toNat_lt⟩
  simpa using h

set_option maxRecDepth 100000 in
set_option maxHeartbeats 1000000 in
theorem RefDigits_any (s : ByteArray) (w : World) (hs : s.size ≤ 1048600) :
    Calls Try.prog 36 #[.string s] w fun e w' => e = .returned (.bool (!s.data.toList.isEmpty && s.data.toList.all (dig 10))) ∧ w = w' := by
  obtain ⟨V, HV⟩ : ∃ V, Hid ((!s.data.toList.isEmpty && s.data.toList.all (dig 10)) = V) := ⟨_, Lib.hid rfl⟩
  rw [HV.out]
  have HL := Lib.hid (lenB s)
  go_enter Try.func36, Try.ntmps36
  go_wp2
  go_loop [3] (fun i => ∃ k : Nat, k ≤ s.size ∧ i = .int .i64 k ∧ Hid ((s.data.toList.take k).all (dig 10) = true)) (fun i => s.size - (intOf i).toNat)
  case atStart => exact ⟨0, Nat.zero_le _, rfl, Lib.hid rfl⟩
  case round =>
    obtain ⟨k, hk, rfl, HA⟩ := hrel
    by_cases hlt : k < s.size
    · obtain ⟨d, HD⟩ : ∃ d, Hid (dig 10 s[k] = d) := ⟨_, Lib.hid rfl⟩
      have HR : Hid (inR 48 57 (s[k].toNat : Int) = d) := Lib.hid (by rw [← dig10]; exact HD.out)
      have HTk := Lib.hid (take_snoc s k hlt)
      cases d
      · have HN : Hid (V = false) := Lib.hid (by rw [← HV.out, all_take_false hlt HD.out]; simp)
        go_wp2_with fail
        refine (Digit_any _ _).mono ?_
        rw [HR.out]
        rintro e w1 ⟨rfl, rfl⟩
        go_wp2
        go_ret
        exact ⟨by rw [HN.out]; rfl, rfl⟩
      · have HA1 : Hid ((s.data.toList.take (k + 1)).all (dig 10) = true) := Lib.hid (by rw [HTk.out, List.all_append, HA.out]; simp [HD.out])
        go_wp2_with fail
        refine (Digit_any _ _).mono ?_
        rw [HR.out]
        rintro e w1 ⟨rfl, rfl⟩
        go_wp2
        exact ⟨⟨k + 1, by omega, by go_num, HA1⟩, by simp [intOf]; omega⟩
    · have HE : Hid (s.data.toList.take k = s.data.toList) := Lib.hid (List.take_of_length_le (by rw [HL.out]; omega))
      rw [HE.out] at HA
      have HN : Hid (V = decide (0 < s.size)) := Lib.hid (by
        rw [← HV.out, HA.out, Bool.and_true]
        have := HL.out
        cases h : s.data.toList with
        | nil => rw [h] at this; simp at this; simp [← this]
        | cons c l => rw [h] at this; simp at this; simp; omega)
      by_cases h0 : 0 < s.size
      · have hd : decide (0 < s.size) = true := by simpa using h0
        go_wp2
        go_ret
        exact ⟨by rw [HN.out, hd]; rfl, rfl⟩
      · have hd : decide (0 < s.size) = false := by simpa using h0
        have hd2 : decide ((0 : Int) < (s.size : Int)) = false := decide_eq_false (by omega)
        go_wp2
        go_ret
        exact ⟨by rw [HN.out, hd]; rfl, rfl⟩

set_option maxRecDepth 100000 in
set_option maxHeartbeats 1000000 in
theorem RfRefNumber_any (s : ByteArray) (w : World) (hs : s.size ≤ 1048600) :
    Calls Try.prog 35 #[.string s] w fun e w' => e = .returned (optV (numD s.data.toList)) ∧ w = w' := by
  have hl := lenB s
  by_cases h2 : 2 ≤ s.size
  · obtain ⟨c, d, r, hcd⟩ : ∃ c d r, s.data.toList = c :: d :: r := by
      match h : s.data.toList with
      | [] => rw [h] at hl; simp at hl; omega
      | [_] => rw [h] at hl; simp at hl; omega
      | c :: d :: r => exact ⟨c, d, r, rfl⟩
    have g0 : 0 < s.size := Nat.lt_of_lt_of_le (by decide) h2
    have g1 : 1 < s.size := h2
    have hc : s[0]'g0 = c := by
      have : s.data.toList[0]? = some (s[0]'g0) := by rw [List.getElem?_eq_getElem (by omega)]; rfl
      rw [hcd] at this; simpa using this.symm
    have hd : s[1]'g1 = d := by
      have : s.data.toList[1]? = some (s[1]'g1) := by rw [List.getElem?_eq_getElem (by omega)]; rfl
      rw [hcd] at this; simpa using this.symm
    have HCD := Lib.hid hcd
    have HC := Lib.hid hc
    have HD := Lib.hid hd
    have HZ2 : Hid ((s.extract 2 s.size).size ≤ 1048600) := Lib.hid (by simp; omega)
    have HZ1 : Hid ((s.extract 1 s.size).size ≤ 1048600) := Lib.hid (by simp; omega)
    have HX2 : Hid ((s.extract 2 s.size).data.toList = s.data.toList.drop 2) := Lib.hid (by rw [ext_asB]; rfl)
    have HX1 : Hid ((s.extract 1 s.size).data.toList = s.data.toList.drop 1) := Lib.hid (by rw [ext_asB]; rfl)
    clear hl hcd hc hd
    by_cases h48 : (s[0]'g0).toNat = 48
    · have h48I : (((s[0]'g0).toNat : Int) == 48) = true := by rw [h48]; rfl
      have hc48 : c = 48 := by rw [← HC.out]; exact UInt8.toNat_inj.1 h48
      by_cases hx : (s[1]'g1).toNat = 120 ∨ (s[1]'g1).toNat = 88
      · have HN : Hid (numD s.data.toList = cnt 16 (s.data.toList.drop 2)) := Lib.hid (by
          have hdx : d = 120 ∨ d = 88 := by
            rw [← HD.out]
            rcases hx with hx | hx
            · exact .inl (UInt8.toNat_inj.1 hx)
            · exact .inr (UInt8.toNat_inj.1 hx)
          have : isX s.data.toList = true := by rw [HCD.out, isX, hc48]; simp [hdx]
          rw [numD, this]; rfl)
        rw [HN.out, ← HX2.out]
        clear h48 hc48
        rcases hx with hx | hx
        · have hxI : (((s[1]'g1).toNat : Int) == 120) = true := by rw [hx]; rfl
          clear hx
          have HCt := Lib.hid (fun w => RefCount_any (s.extract 2 s.size) 16 w HZ2.out (by omega))
          obtain ⟨o, HO⟩ : ∃ o, Hid (cnt 16 (s.extract 2 s.size).data.toList = o) := ⟨_, Lib.hid rfl⟩
          rw [HO.out] at HCt
          rw [HO.out]
          cases o <;>
          · simp only [optV] at HCt
            simp only [optV]
            go_enter Try.func35, Try.ntmps35
            go_wp2_with fail
            refine (HCt.out _).mono ?_
            rintro e w1 ⟨rfl, rfl⟩
            go_wp2
            go_ret2
            exact ⟨rfl, rfl⟩
        · have hxI : (((s[1]'g1).toNat : Int) == 120) = false := by rw [hx]; rfl
          have hxJ : (((s[1]'g1).toNat : Int) == 88) = true := by rw [hx]; rfl
          clear hx
          have HCt := Lib.hid (fun w => RefCount_any (s.extract 2 s.size) 16 w HZ2.out (by omega))
          obtain ⟨o, HO⟩ : ∃ o, Hid (cnt 16 (s.extract 2 s.size).data.toList = o) := ⟨_, Lib.hid rfl⟩
          rw [HO.out] at HCt
          rw [HO.out]
          cases o <;>
          · simp only [optV] at HCt
            simp only [optV]
            go_enter Try.func35, Try.ntmps35
            go_wp2_with fail
            refine (HCt.out _).mono ?_
            rintro e w1 ⟨rfl, rfl⟩
            go_wp2
            go_ret2
            exact ⟨rfl, rfl⟩
      · have HN : Hid (numD s.data.toList = cnt 8 (s.data.toList.drop 1)) := Lib.hid (by
          have hdx : ¬ d = 120 ∧ ¬ d = 88 := by
            rw [← HD.out]
            exact ⟨fun e => hx (.inl (by rw [e]; rfl)), fun e => hx (.inr (by rw [e]; rfl))⟩
          have h1 : isX s.data.toList = false := by rw [HCD.out, isX, hc48]; simp [hdx]
          rw [numD, h1, if_neg (by simp), if_pos ⟨by rw [HCD.out]; simp, by rw [HCD.out, hc48]; rfl⟩])
        rw [HN.out, ← HX1.out]
        have hxI : (((s[1]'g1).toNat : Int) == 120) = false := beq_eq_false_iff_ne.2 (fun e => hx (.inl (by omega)))
        have hxJ : (((s[1]'g1).toNat : Int) == 88) = false := beq_eq_false_iff_ne.2 (fun e => hx (.inr (by omega)))
        clear h48 hc48 hx
        have HCt := Lib.hid (fun w => RefCount_any (s.extract 1 s.size) 8 w HZ1.out (by omega))
        obtain ⟨o, HO⟩ : ∃ o, Hid (cnt 8 (s.extract 1 s.size).data.toList = o) := ⟨_, Lib.hid rfl⟩
        rw [HO.out] at HCt
        rw [HO.out]
        cases o <;>
        · simp only [optV] at HCt
          simp only [optV]
          go_enter Try.func35, Try.ntmps35
          go_wp2_with fail
          refine (HCt.out _).mono ?_
          rintro e w1 ⟨rfl, rfl⟩
          go_wp2
          go_ret2
          exact ⟨rfl, rfl⟩
    · have h48I : (((s[0]'g0).toNat : Int) == 48) = false := beq_eq_false_iff_ne.2 (by omega)
      have HN : Hid (numD s.data.toList = cnt 10 s.data.toList) := Lib.hid (by
        have hc48 : c ≠ 48 := fun e => h48 (by rw [HC.out, e]; rfl)
        have h1 : isX s.data.toList = false := by rw [HCD.out, isX]; simp [hc48]
        rw [numD, h1, if_neg (by simp), if_neg (by rw [HCD.out]; simp [hc48]), if_neg (by rw [HCD.out]; simp)])
      rw [HN.out]
      clear h48
      have HCt := Lib.hid (fun w => RefCount_any (s) 10 w hs (by omega))
      obtain ⟨o, HO⟩ : ∃ o, Hid (cnt 10 s.data.toList = o) := ⟨_, Lib.hid rfl⟩
      rw [HO.out] at HCt
      rw [HO.out]
      cases o <;>
      · simp only [optV] at HCt
        simp only [optV]
        go_enter Try.func35, Try.ntmps35
        go_wp2_with fail
        refine (HCt.out _).mono ?_
        rintro e w1 ⟨rfl, rfl⟩
        go_wp2
        go_ret2
        exact ⟨rfl, rfl⟩
  · by_cases h1 : s.size = 0
    · have HN : Hid (numD s.data.toList = none) := Lib.hid (by
        have : s.data.toList = [] := List.eq_nil_of_length_eq_zero (by omega)
        rw [this]; rfl)
      rw [HN.out]
      have h1I : ((s.size : Int) == 0) = true := by rw [h1]; rfl
      have h2I : ¬ (2 : Int) ≤ (s.size : Int) := by omega
      clear h1 hl
      go_enter Try.func35, Try.ntmps35
      go_wp2
      go_ret2
      exact ⟨rfl, rfl⟩
    · have HN : Hid (numD s.data.toList = cnt 10 s.data.toList) := Lib.hid (by
        match h : s.data.toList with
        | [] => rw [h] at hl; simp at hl; omega
        | [c] => simp [numD, isX]
        | _ :: _ :: _ => rw [h] at hl; simp at hl; omega)
      rw [HN.out]
      have h1I : ((s.size : Int) == 0) = false := beq_eq_false_iff_ne.2 (by omega)
      have h2I : ¬ (2 : Int) ≤ (s.size : Int) := by omega
      clear h1 hl
      have HCt := Lib.hid (fun w => RefCount_any (s) 10 w hs (by omega))
      obtain ⟨o, HO⟩ : ∃ o, Hid (cnt 10 s.data.toList = o) := ⟨_, Lib.hid rfl⟩
      rw [HO.out] at HCt
      rw [HO.out]
      cases o <;>
      · simp only [optV] at HCt
        simp only [optV]
        go_enter Try.func35, Try.ntmps35
        go_wp2_with fail
        refine (HCt.out _).mono ?_
        rintro e w1 ⟨rfl, rfl⟩
        go_wp2
        go_ret2
        exact ⟨rfl, rfl⟩

end Go.Proofs.Ytldddgmhmolohaa
namespace Go.Proofs.Ytldddgmhmolohaa
open Go.RowKit

theorem lastQ_nil (a : UInt8) : ∀ (n : Nat) (l : List UInt8), l.length ≤ n → lastQ (pts a l) = [] → l = [] ∨ l.getLast? = some a
  | 0, l, hn, _ => .inl (List.eq_nil_of_length_eq_zero (by omega))
  | n + 1, l, hn, h => by
    rcases pts_cut a l with h' | ⟨q, r, rfl, hq⟩
    · rw [pts_none a l h'] at h; exact .inl h
    · rw [pts_front a q r hq] at h
      have h2 : lastQ (pts a r) = [] := by
        unfold lastQ at h ⊢
        have := pts_ne a r
        cases hp : pts a r with
        | nil => contradiction
        | cons x y => rw [hp] at h; simpa using h
      right
      rcases lastQ_nil a n r (by simp at hn; omega) h2 with rfl | h3
      · simp
      · rw [List.getLast?_append]
        cases r with
        | nil => simp at h3
        | cons x r => rw [List.getLast?_cons_cons, h3]; rfl
theorem pts_len (a : UInt8) : ∀ l : List UInt8, (pts a l).length ≤ l.length + 1
  | [] => by simp [pts]
  | c :: l => by
    have ih := pts_len a l
    rw [pts]
    split
    · simp; omega
    · cases h : pts a l with
      | nil => exact absurd h (pts_ne a l)
      | cons p ps => rw [h] at ih; simp [ahd] at ih ⊢; omega
theorem pts_trim (l : List UInt8) : (if 1 < (pts 46 l).length ∧ lastQ (pts 46 l) = [] then (pts 46 l).dropLast else pts 46 l) = pts 46 (trimP l) := by
  unfold trimP
  by_cases h : l.getLast? = some 46
  · rw [if_pos h]
    obtain ⟨r, rfl⟩ : ∃ r, l = r ++ [46] := by
      rcases List.eq_nil_or_concat l with rfl | ⟨r, x, rfl⟩
      · simp at h
      · rw [List.concat_eq_append] at h ⊢
        simp at h; exact ⟨r, by rw [h]⟩
    have hp : pts 46 (r ++ [46]) = pts 46 r ++ [[]] := pts_append 46 [] r
    have hne := pts_ne 46 r
    rw [hp, if_pos ⟨by
      have : 0 < (pts 46 r).length := List.length_pos_iff.2 hne
      simp; omega, by simp [lastQ]⟩]
    simp
  · rw [if_neg h]
    by_cases h2 : 1 < (pts 46 l).length ∧ lastQ (pts 46 l) = []
    · rcases lastQ_nil 46 l.length l (Nat.le_refl _) h2.2 with rfl | h3
      · simp [pts] at h2
      · exact absurd h3 h
    · rw [if_neg h2]

/-- The bytes that parts tell. -/
def fourQ (Q : List (List UInt8)) : Option (List Nat) := match evs num1 num1 Q with
  | none => none
  | some ns => lay4 4 ns
theorem evs_all : ∀ (Q : List (List UInt8)) (ns : List Nat), Q ≠ [] → Q.map numD = ns.map some → evs num1 num1 Q = some ns
  | [], _, h, _ => absurd rfl h
  | [q], ns, _, h => by
    match ns, h with
    | [n], h =>
      have : numD q = some n := by simpa using h
      show num1 q = _
      rw [num1, this]
    | [], h => simp at h
    | _ :: _ :: _, h => simp at h
  | q :: p :: Q, ns, _, h => by
    match ns, h with
    | n :: ns, h =>
      obtain ⟨e1, e2⟩ := List.cons.inj (show numD q :: (p :: Q).map numD = some n :: ns.map some from h)
      rw [evs_cons _ _ _ (by simp), evs_all (p :: Q) ns (by simp) e2, num1, e1]; rfl
    | [], h => simp at h
theorem evs_no : ∀ (Q : List (List UInt8)), (∃ q ∈ Q, numD q = none) → evs num1 num1 Q = none
  | [], ⟨q, h, _⟩ => by cases h
  | [q], ⟨x, hx, h⟩ => by
    rw [List.mem_singleton.1 hx] at h
    show num1 q = none
    rw [num1, h]
  | q :: p :: Q, ⟨x, hx, h⟩ => by
    rw [evs_cons _ _ _ (by simp)]
    rcases List.mem_cons.1 hx with rfl | hx
    · rw [num1, h]
    · rw [evs_no (p :: Q) ⟨x, hx, h⟩]
      cases num1 q <;> rfl
theorem fourQ_no {Q : List (List UInt8)} (h : ∃ q ∈ Q, numD q = none) : fourQ Q = none := by rw [fourQ, evs_no Q h]
theorem map_all {Q : List (List UInt8)} (h : ¬ ∃ q ∈ Q, numD q = none) : Q.map numD = (Q.map fun q => (numD q).getD 0).map some := by
  rw [List.map_map]
  refine List.map_congr_left (fun q hq => ?_)
  cases hn : numD q with
  | none => exact absurd ⟨q, hq, hn⟩ h
  | some n => simp [hn]
theorem fourQ_bad {Q : List (List UInt8)} {k n : Nat} {ns : List Nat} (hk : k + 1 < Q.length) (h : (Q.take k).map numD = ns.map some) (hs : ∀ x ∈ ns, x < 256) (hq : numD (Q[k]'(by omega)) = some n) (hn : 256 ≤ n) : fourQ Q = none := by
  by_cases ex : ∃ q ∈ Q, numD q = none
  · exact fourQ_no ex
  · have hm := map_all ex
    have hne : Q ≠ [] := by intro e; rw [e] at hk; simp at hk
    rw [fourQ, evs_all Q _ hne hm]
    have hs1 : Q = Q.take k ++ Q[k]'(by omega) :: Q.drop (k + 1) := by rw [← List.drop_eq_getElem_cons, List.take_append_drop]
    have e1 : (Q.map fun q => (numD q).getD 0) = ns ++ n :: (Q.drop (k + 1)).map fun q => (numD q).getD 0 := by
      conv => lhs; rw [hs1]
      rw [List.map_append, List.map_cons, hq]
      have e2 : (Q.take k).map (fun q => (numD q).getD 0) = ns := by
        have := congrArg (List.map (fun o : Option Nat => o.getD 0)) h
        rw [List.map_map, List.map_map] at this
        simpa [Function.comp_def] using this
      rw [e2]; rfl
    obtain ⟨y, r, hy⟩ : ∃ y r, Q.drop (k + 1) = y :: r := by
      cases hd : Q.drop (k + 1) with
      | nil => have := congrArg List.length hd; rw [List.length_drop] at this; simp at this; omega
      | cons y r => exact ⟨y, r, rfl⟩
    simp only [e1, hy, List.map_cons]
    exact lay4_bad ns 4 n _ _ hs hn
theorem fourQ_last {Q : List (List UInt8)} {M n : Nat} {ns : List Nat} (hM : Q.length = M + 1) (h : (Q.take M).map numD = ns.map some) (hs : ∀ x ∈ ns, x < 256) (hq : numD (Q[M]'(by omega)) = some n) : fourQ Q = if n < 256 ^ (4 - M) then some (ns ++ be (4 - M) n) else none := by
  have hs1 : Q = Q.take M ++ [Q[M]'(by omega)] := by
    have : Q = Q.take M ++ Q[M]'(by omega) :: Q.drop (M + 1) := by rw [← List.drop_eq_getElem_cons, List.take_append_drop]
    rw [List.drop_of_length_le (by omega)] at this; exact this
  have hall : Q.map numD = (ns ++ [n]).map some := by
    conv => lhs; rw [hs1]
    rw [List.map_append, h, List.map_append]; simp [hq]
  have hne : Q ≠ [] := by intro e; rw [e] at hM; simp at hM
  have hlen : ns.length = M := by
    have := congrArg List.length h
    rw [List.length_map, List.length_map, List.length_take] at this; omega
  rw [fourQ, evs_all Q _ hne hall]
  have := lay4_pre ns 4 n hs
  rw [hlen] at this; exact this
/-- Behind k of the parts. -/
def InvR (Q : List (List UInt8)) (M k : Nat) (C : Array Value) : Prop :=
  (k ≤ M → ∃ ns, (Q.take k).map numD = ns.map some ∧ (∀ x ∈ ns, x < 256) ∧ C = cellsA false (ns ++ List.replicate (16 - k) 0)) ∧ (k = M + 1 → ∃ bs, fourQ Q = some bs ∧ C = cellsA false (bs ++ List.replicate 12 0))
theorem invR_len {Q : List (List UInt8)} {k M : Nat} {ns : List Nat} (hQ : Q.length = M + 1) (hk : k ≤ M) (h : (Q.take k).map numD = ns.map some) : ns.length = k := by
  have := congrArg List.length h
  rw [List.length_map, List.length_map, List.length_take] at this; omega
theorem invR_step {Q : List (List UInt8)} {M k n : Nat} {C : Array Value} (hQ : Q.length = M + 1) (hM : M ≤ 3) (hk : k < M) (h : InvR Q M k C) (hq : numD (Q[k]'(by omega)) = some n) (hn : n < 256) : InvR Q M (k + 1) (C.setIfInBounds (1 + k) (u8v n)) := by
  obtain ⟨ns, h1, h2, rfl⟩ := h.1 (by omega)
  have hl := invR_len hQ (by omega) h1
  refine ⟨fun _ => ⟨ns ++ [n], ?_, ?_, ?_⟩, fun e => by omega⟩
  · rw [List.take_succ_eq_append_getElem (by omega), List.map_append, h1, List.map_append]; simp [hq]
  · intro x hx
    rcases List.mem_append.1 hx with hx | hx
    · exact h2 x hx
    · rw [List.mem_singleton.1 hx]; exact hn
  · refine cells_ext (by rw [Array.size_setIfInBounds, cellsA_size]; simp [hl]; omega) (by rw [Array.getElem?_setIfInBounds, if_neg (by omega)]; rfl) (fun j hj => ?_)
    rw [Array.getElem?_setIfInBounds]
    by_cases e : j = k
    · subst e
      rw [if_pos (by omega), if_pos (by rw [cellsA_size]; simp [hl]; omega), List.append_assoc, List.getElem?_append_right (by omega), hl]
      simp
    · rw [if_neg (by omega), cellsA_at]
      congr 1
      by_cases hlo : j < k
      · rw [List.getElem?_append_left (by omega), List.append_assoc, List.getElem?_append_left (by omega)]
      · rw [List.getElem?_append_right (by omega), List.getElem?_append_right (by simp; omega)]
        have h5 : j < 16 := by simp [hl] at hj; omega
        rw [List.getElem?_replicate, List.getElem?_replicate, if_pos (by omega), if_pos (by simp; omega)]
theorem invR_last {Q : List (List UInt8)} {M n : Nat} {C D : Array Value} (hQ : Q.length = M + 1) (hM : M ≤ 3) (h : InvR Q M M C) (hq : numD (Q[M]'(by omega)) = some n) (hn : n < 256 ^ (4 - M)) (hs : D.size = C.size)
    (h1 : ∀ j, ¬ (1 + M ≤ j ∧ j < 5) → D[j]? = C[j]?) (h2 : ∀ j, j < 4 - M → D[4 - j]? = some (byteN n j)) : InvR Q M (M + 1) D := by
  obtain ⟨ns, g1, g2, rfl⟩ := h.1 (Nat.le_refl _)
  have hl := invR_len hQ (Nat.le_refl _) g1
  refine ⟨fun e => by omega, fun _ => ⟨_, by rw [fourQ_last hQ g1 g2 hq, if_pos hn], ?_⟩⟩
  have hlen : (ns ++ List.replicate (16 - M) 0).length = 16 := by simp [hl]; omega
  have := put_cells (six := false) (A := ns ++ List.replicate (16 - M) 0) (k := M) (len := 4 - M) (n := n) (by rw [hlen]; omega) hs
    (fun j hj => h1 j (by omega)) (fun j hj => by rw [show 1 + M + (4 - M) - 1 - j = 4 - j by omega]; exact h2 j hj)
  rw [this]
  congr 1
  rw [List.take_append_of_le_length (by omega), List.take_of_length_le (by omega)]
  congr 1
  rw [show M + (4 - M) = 4 by omega, List.drop_append, List.drop_of_length_le (by omega), List.nil_append, hl, List.drop_replicate]
  congr 1; omega

theorem numD_le (q : List UInt8) : (numD q).getD 0 ≤ 4294967296 := by
  have hc : ∀ b l, (cnt b l).getD 0 ≤ 4294967296 := by
    intro b l
    unfold cnt
    split
    · exact fol_le b l
    · exact Nat.zero_le _
  unfold numD
  split
  · exact hc _ _
  · split
    · exact hc _ _
    · split
      · exact Nat.zero_le _
      · exact hc _ _

end Go.Proofs.Ytldddgmhmolohaa
namespace Go.Proofs.Ytldddgmhmolohaa
open Go.RowKit

set_option maxRecDepth 100000 in
set_option maxHeartbeats 2000000 in
theorem RefFour_any (s : ByteArray) (w : World) (hs : s.size ≤ 1048600) :
    Calls Try.prog 27 #[.string s] w fun e w' => e = .returned (fourV (fourD s.data.toList)) ∧ Below w.heap.size w w' := by
  obtain ⟨hz, hi⟩ := zero_of_info infoA
  have HI := Lib.hid hi; clear hi
  have HIz : Hid ((Try.prog.info? 36).map (·.size) = some zeroA.size) := Lib.hid (by rw [HI.out, zeroA_size])
  have hzs := zeroA_size
  have HTr := Lib.hid (pts_trim s.data.toList)
  obtain ⟨V, HV⟩ : ∃ V, Hid (fourV (fourD s.data.toList) = V) := ⟨_, Lib.hid rfl⟩
  rw [HV.out]
  have HPs : Hid (∀ w, Calls Try.prog 34 #[.string s, .int .u8 46] w fun e w' => ∃ (v : Value) (D : List ByteArray), e = .returned v ∧ D.map (·.data.toList) = pts 46 s.data.toList ∧ w'.ownsRow w.heap.size 9 1 v D.length (D.map Value.string) ∧ Below w.heap.size w w') := Lib.hid (fun w => RefParts_any s 46 w hs)
  go_enter Try.func27, Try.ntmps27
  go_wp2_with fail
  refine (HPs.out _).mono ?_
  rintro e w1 ⟨v, D, rfl, hD, own1, b1⟩
  obtain ⟨n, hn⟩ : ∃ n, D.length = n + 1 := by
    have h1 := congrArg List.length hD
    rw [List.length_map] at h1
    have : 0 < (pts 46 s.data.toList).length := List.length_pos_iff.2 (pts_ne _ _)
    exact ⟨D.length - 1, by omega⟩
  rcases own1.2 with ⟨_, h0⟩ | ⟨g, cap, cur, rfl, hg, hgb, hcap, _⟩
  · omega
  have hDl := hD
  have hcs : ∀ j, (hj : j < D.length) → w1.cell? ⟨g, j, none⟩ = some (.string D[j]) := fun j hj => by
    rw [own1.cellAt j (by omega), List.getElem?_map, List.getElem?_eq_getElem hj]; rfl
  have HCs := Lib.hid hcs
  have HD := Lib.hid hD
  have B1 : Hid (Below w.heap.size w w1) := Lib.hid (((Below.refl _ _).alloc (Nat.le_refl _) _).trans (b1.mono (by simp)))
  have HR1 : Hid (w1.heap[w.heap.size]? = some (.cells zeroA 36 (0, 0))) := Lib.hid ((b1.block _ (by simp)).trans (heap_alloc_new w _))
  have HGw : Hid (w.heap.size < g) := Lib.hid (by simp at hg; omega)
  have HGb := Lib.hid (lt_of_block hgb)
  -- the parts that count
  have hnl : n < D.length := by omega
  have hnB : n ≤ 1048600 := by
    have h1 := pts_len 46 s.data.toList
    rw [← hD, List.length_map, lenB] at h1; omega
  obtain ⟨M, hM1, hM2, hM3, hMn⟩ : ∃ M, (1 ≤ n ∧ D[n].data.toList = [] → M + 1 = n) ∧ (¬ (1 ≤ n ∧ D[n].data.toList = []) → M = n) ∧ (D.take (M + 1)).map (·.data.toList) = pts 46 (trimP s.data.toList) ∧ M ≤ n := by
    have hlast : lastQ (pts 46 s.data.toList) = D[n].data.toList := by
      rw [← hDl, lastQ, List.getLast?_map, List.getLast?_eq_getElem?, show D.length - 1 = n by omega, List.getElem?_eq_getElem hnl]; rfl
    have hlen : (pts 46 s.data.toList).length = n + 1 := by rw [← hDl, List.length_map, hn]
    have ht := HTr.out
    rw [hlast, hlen] at ht
    by_cases h : 1 ≤ n ∧ D[n].data.toList = []
    · refine ⟨n - 1, fun _ => by omega, fun h' => absurd h h', ?_, by omega⟩
      rw [if_pos ⟨by omega, h.2⟩] at ht
      rw [← ht, ← hDl, List.dropLast_eq_take, List.map_take, List.length_map]
      congr 1; omega
    · refine ⟨n, fun h' => absurd h' h, fun _ => rfl, ?_, Nat.le_refl _⟩
      rw [if_neg (fun h' => h ⟨by omega, h'.2⟩)] at ht
      rw [← ht, ← hDl, List.take_of_length_le (by omega)]
  have HM1 := Lib.hid hM1; have HM2 := Lib.hid hM2; have HM3 := Lib.hid hM3
  have hcn := HCs.out n hnl
  have hQm : (pts 46 (trimP s.data.toList)).length = M + 1 := by rw [← hM3, List.length_map, List.length_take]; omega
  have HQm := Lib.hid hQm
  have hcapn : n + 1 ≤ cap := by omega
  rw [hn]
  have HN := Lib.hid hn
  clear own1 b1 hgb hcs hD hn hDl hM1 hM2 hM3 hQm
  obtain ⟨tr, htr⟩ : ∃ tr : Bool, decide (1 ≤ n ∧ D[n].data.toList = []) = tr := ⟨_, rfl⟩
  have HTt := Lib.hid htr
  clear htr
  have hnI0 : (0 : Int) ≤ (n : Int) := by omega
  dsimp only
  go_upto_region 2 with (fail)
  go_cut [30] (fun s30 wx => s30 = .bool tr ∧ w1 = wx)
  case first =>
    by_cases h1 : 1 ≤ n
    · by_cases h2 : D[n].data.toList = []
      · have hem : D[n].toList.isEmpty = true := by rw [ByteArray.toList_eq, h2]; rfl
        have ht : tr = true := by rw [← HTt.out]; exact decide_eq_true ⟨h1, h2⟩
        have Ht := Lib.hid ht
        clear h2 ht
        go_wp2
        go_meet
        exact ⟨by rw [Ht.out], rfl⟩
      · have hem : D[n].toList.isEmpty = false := by
          rw [ByteArray.toList_eq, List.isEmpty_eq_false_iff]; exact h2
        have ht : tr = false := by rw [← HTt.out]; exact decide_eq_false (fun h => h2 h.2)
        have Ht := Lib.hid ht
        clear h2 ht
        go_wp2
        go_meet
        exact ⟨by rw [Ht.out], rfl⟩
    · have ht : tr = false := by rw [← HTt.out]; exact decide_eq_false (fun h => h1 h.1)
      have Ht := Lib.hid ht
      clear ht
      go_wp2
      go_meet
      exact ⟨by rw [Ht.out], rfl⟩
  case rest =>
  obtain ⟨rfl, rfl⟩ := hcut
  go_upto_if 30 with (fail)
  go_cut [5] (fun s5 wx => s5 = .slice (some ⟨g, 0, none⟩) (M + 1) cap ∧ w1 = wx)
  case first =>
    cases tr
    · have Hh := Lib.hid (HM2.out (of_decide_eq_false HTt.out))
      go_wp2
      go_meet
      exact ⟨by rw [Hh.out], rfl⟩
    · have Hh := Lib.hid (HM1.out (of_decide_eq_true HTt.out))
      go_wp2
      go_meet
      exact ⟨by rw [Hh.out], rfl⟩
  case rest =>
  obtain ⟨rfl, rfl⟩ := hcut
  have hMl : M < D.length := by omega
  have hcM := HCs.out M hMl
  obtain ⟨q, HQ⟩ : ∃ q, Hid (D[M] = q) := ⟨_, Lib.hid rfl⟩
  rw [HQ.out] at hcM
  have HQd : Hid (lastQ (pts 46 (trimP s.data.toList)) = q.data.toList) := Lib.hid (by
    rw [← HM3.out, lastQ, List.getLast?_map, List.getLast?_eq_getElem?, List.length_take, show min (M + 1) D.length - 1 = M by omega, List.getElem?_take_of_lt (by omega), List.getElem?_eq_getElem hMl, ← HQ.out]; rfl)
  have hMI : (0 : Int) ≤ (M : Int) := by omega
  have HSz : Hid (∀ q ∈ D, q.size ≤ 1048600) := Lib.hid (fun q hqD => by
    have h1 : ∀ (l p : List UInt8), p ∈ pts 46 l → p.length ≤ l.length := by
      intro l
      induction l with
      | nil => intro p hp; simp [pts] at hp; subst hp; simp
      | cons c l ih =>
        intro p hp
        rw [pts] at hp
        split at hp
        · rcases List.mem_cons.1 hp with rfl | hp
          · simp
          · have := ih p hp; simp; omega
        · cases h : pts 46 l with
          | nil => exact absurd h (pts_ne 46 l)
          | cons x y =>
            rw [h] at hp ih
            rcases List.mem_cons.1 hp with rfl | hp
            · have := ih x List.mem_cons_self; simp; omega
            · have := ih p (List.mem_cons_of_mem _ hp); simp; omega
    have h2 : q.data.toList ∈ pts 46 s.data.toList := by
      rw [← HD.out]
      exact List.mem_map_of_mem hqD
    have h3 := h1 _ _ h2
    rw [lenB, lenB] at h3; omega)
  have hqs : q.size ≤ 1048600 := HSz.out q (by rw [← HQ.out]; exact List.getElem_mem hMl)
  clear hcn hcapn
  obtain ⟨N, HNv⟩ : ∃ N, Hid ((numD q.data.toList).getD 0 = N) := ⟨_, Lib.hid rfl⟩
  obtain ⟨K, HKv⟩ : ∃ K, Hid ((numD q.data.toList).isSome = K) := ⟨_, Lib.hid rfl⟩
  have HNum : Hid (∀ w, Calls Try.prog 35 #[.string q] w fun e w' => e = .returned (.tuple #[.int .i64 (N : Int), .bool K]) ∧ w = w') := Lib.hid (fun w => by
    have := RfRefNumber_any q w hqs
    rw [optV_two, HNv.out, HKv.out] at this; exact this)
  go_upto_region 6 with (first | (go_at_call 35; refine (HNum.out _).mono ?_; rintro e w' ⟨rfl, rfl⟩))
  obtain ⟨hx, hhx⟩ : ∃ hx, isX q.data.toList = hx := ⟨_, rfl⟩
  have HX := Lib.hid hhx
  clear hhx
  go_cut [9] (fun s9 wx => s9 = .bool (hx && K) ∧ w1 = wx)
  case first =>
    by_cases h2 : 2 ≤ q.size
    · have g0 : 0 < q.size := Nat.lt_of_lt_of_le (by decide) h2
      have g1 : 1 < q.size := h2
      obtain ⟨c, d, r, hcd⟩ : ∃ c d r, q.data.toList = c :: d :: r := by
        have hl := lenB q
        match h : q.data.toList with
        | [] => rw [h] at hl; simp at hl; omega
        | [_] => rw [h] at hl; simp at hl; omega
        | c :: d :: r => exact ⟨c, d, r, rfl⟩
      have hc : q[0]'g0 = c := by
        have : q.data.toList[0]? = some (q[0]'g0) := by rw [List.getElem?_eq_getElem (by rw [lenB]; exact g0)]; rfl
        rw [hcd] at this; simpa using this.symm
      have hd : q[1]'g1 = d := by
        have : q.data.toList[1]? = some (q[1]'g1) := by rw [List.getElem?_eq_getElem (by rw [lenB]; exact g1)]; rfl
        rw [hcd] at this; simpa using this.symm
      have HXe : Hid (hx = (decide (c = 48) && (decide (d = 120) || decide (d = 88)))) := Lib.hid (by rw [← HX.out, hcd]; rfl)
      have HC := Lib.hid hc
      have HDd := Lib.hid hd
      clear hcd hc hd
      by_cases h48 : (q[0]'g0).toNat = 48
      · have h48I : (((q[0]'g0).toNat : Int) == 48) = true := by rw [h48]; rfl
        have hc48 : c = 48 := by rw [← HC.out]; exact UInt8.toNat_inj.1 h48
        by_cases h120 : (q[1]'g1).toNat = 120
        · have hxI : (((q[1]'g1).toNat : Int) == 120) = true := by rw [h120]; rfl
          have ht : Hid (hx = true) := Lib.hid (by
            have : d = 120 := by rw [← HDd.out]; exact UInt8.toNat_inj.1 h120
            rw [HXe.out, hc48, this]; rfl)
          clear h48 hc48 h120
          cases K <;>
          · go_wp2
            go_meet
            exact ⟨by rw [ht.out]; rfl, rfl⟩
        · have hxI : (((q[1]'g1).toNat : Int) == 120) = false := beq_eq_false_iff_ne.2 (by omega)
          by_cases h88 : (q[1]'g1).toNat = 88
          · have hxJ : (((q[1]'g1).toNat : Int) == 88) = true := by rw [h88]; rfl
            have ht : Hid (hx = true) := Lib.hid (by
              have : d = 88 := by rw [← HDd.out]; exact UInt8.toNat_inj.1 h88
              rw [HXe.out, hc48, this]; rfl)
            clear h48 hc48 h120 h88
            cases K <;>
            · go_wp2
              go_meet
              exact ⟨by rw [ht.out]; rfl, rfl⟩
          · have hxJ : (((q[1]'g1).toNat : Int) == 88) = false := beq_eq_false_iff_ne.2 (by omega)
            have ht : Hid (hx = false) := Lib.hid (by
              have e1 : ¬ d = 120 := fun e => h120 (by rw [HDd.out, e]; rfl)
              have e2 : ¬ d = 88 := fun e => h88 (by rw [HDd.out, e]; rfl)
              rw [HXe.out, hc48]; simp [e1, e2])
            clear h48 hc48 h120 h88
            go_wp2
            go_meet
            exact ⟨by rw [ht.out]; rfl, rfl⟩
      · have h48I : (((q[0]'g0).toNat : Int) == 48) = false := beq_eq_false_iff_ne.2 (by omega)
        have ht : Hid (hx = false) := Lib.hid (by
          have e1 : ¬ c = 48 := fun e => h48 (by rw [HC.out, e]; rfl)
          rw [HXe.out]; simp [e1])
        clear h48
        go_wp2
        go_meet
        exact ⟨by rw [ht.out]; rfl, rfl⟩
    · have h2I : ¬ (2 : Int) ≤ (q.size : Int) := by omega
      have ht : Hid (hx = false) := Lib.hid (by
        rw [← HX.out]
        have hl := lenB q
        match h : q.data.toList with
        | [] => rfl
        | [_] => rfl
        | _ :: _ :: _ => rw [h] at hl; simp at hl; omega)
      go_wp2
      go_meet
      exact ⟨by rw [ht.out]; rfl, rfl⟩
  case rest =>
  obtain ⟨rfl, rfl⟩ := hcut
  obtain ⟨dg, HDg⟩ : ∃ dg, Hid ((!q.data.toList.isEmpty && q.data.toList.all (dig 10)) = dg) := ⟨_, Lib.hid rfl⟩
  have HDgc : Hid (∀ w, Calls Try.prog 36 #[.string q] w fun e w' => e = .returned (.bool dg) ∧ w = w') := Lib.hid (fun w => by
    have := RefDigits_any q w hqs
    rwa [HDg.out] at this)
  obtain ⟨hk, HHk⟩ : ∃ hk, Hid ((hx && K) = hk) := ⟨_, Lib.hid rfl⟩
  rw [HHk.out]
  have HLk : Hid (looksQ (lastQ (pts 46 (trimP s.data.toList))) = (dg || hk)) := Lib.hid (by
    rw [HQd.out, looksQ, HDg.out, HX.out, HKv.out, HHk.out])
  go_upto_region 7 with (fail)
  go_cut [74] (fun s74 wx => s74 = .bool (!(dg || hk)) ∧ w1 = wx)
  case first =>
    cases dg
    · go_wp2_with fail
      refine (HDgc.out _).mono ?_
      rintro e w2 ⟨rfl, rfl⟩
      cases hk <;>
      · go_wp2
        go_meet
        exact ⟨rfl, rfl⟩
    · go_wp2_with fail
      refine (HDgc.out _).mono ?_
      rintro e w2 ⟨rfl, rfl⟩
      go_wp2
      go_meet
      exact ⟨rfl, rfl⟩
  case rest =>
  obtain ⟨rfl, rfl⟩ := hcut
  obtain ⟨lk, HLk2⟩ : ∃ lk, Hid ((dg || hk) = lk) := ⟨_, Lib.hid rfl⟩
  rw [HLk2.out] at HLk
  rw [HLk2.out]
  cases lk
  · have HVn : Hid (V = .tuple #[.agg zeroA, .bool false, .int .i64 0]) := Lib.hid (by
      rw [← HV.out, fourD, HLk.out]; rfl)
    go_wp2_with (refine wpL_store_row rfl _ _ _ rfl w.heap.size zeroA rfl rfl _ zeroA HR1.out HIz.out rfl zeroA_one ?_)
    refine bodyPost_ret (v := .tuple #[.agg zeroA, .bool false, .int .i64 0]) (results_row3 Try.results27 _ _ w.heap.size _ zeroA (0, 0) _ rfl (setRow_heap _ _ zeroA zeroA _ _ HR1.out) Try.underlying36 rfl HIz.out) rfl ⟨by rw [HVn.out], ?_⟩
    exact below_setRow B1.out (Nat.le_refl _) _
  · by_cases h4 : 4 < M + 1
    · have HVn : Hid (V = .tuple #[.agg zeroA, .bool true, .int .i64 5]) := Lib.hid (by
        rw [← HV.out, fourD, HLk.out, HQm.out, if_pos rfl, if_pos h4]; rfl)
      have h4I : (4 : Int) < (M : Int) + 1 := by omega
      go_wp2_with (refine wpL_store_row rfl _ _ _ rfl w.heap.size zeroA rfl rfl _ zeroA HR1.out HIz.out rfl zeroA_one ?_)
      refine bodyPost_ret (v := .tuple #[.agg zeroA, .bool true, .int .i64 5]) (results_row3 Try.results27 _ _ w.heap.size _ zeroA (0, 0) _ rfl (setRow_heap _ _ zeroA zeroA _ _ HR1.out) Try.underlying36 rfl HIz.out) rfl ⟨by rw [HVn.out], ?_⟩
      exact below_setRow B1.out (Nat.le_refl _) _
    · have h4I : ¬ (4 : Int) < (M : Int) + 1 := by omega
      have h4' : M ≤ 3 := by omega
      obtain ⟨Q, HQQ⟩ : ∃ Q, Hid (pts 46 (trimP s.data.toList) = Q) := ⟨_, Lib.hid rfl⟩
      rw [HQQ.out] at HQm HM3
      have HVy : Hid (V = fourV (true, fourQ Q)) := Lib.hid (by
        rw [← HV.out, fourD, HLk.out, if_pos rfl, HQQ.out, HQm.out, if_neg h4]; rfl)
      have HQk : Hid (∀ k, (hk : k < Q.length) → ∃ hk' : k < D.length, Q[k] = D[k].data.toList) := Lib.hid (fun k hk => by
        have hk2 : k < D.length := by have := HQm.out; omega
        refine ⟨hk2, ?_⟩
        have : Q[k]? = some D[k].data.toList := by
          rw [← HM3.out, List.getElem?_map, List.getElem?_take_of_lt (by have := HQm.out; omega), List.getElem?_eq_getElem hk2]; rfl
        rw [List.getElem?_eq_getElem hk] at this
        exact Option.some.inj this)
      go_wp2
      have HW1 : Hid (Below w1.heap.size w1 (w1.alloc (.cells zeroA 36))) := Lib.hid ((Below.refl _ _).alloc (Nat.le_refl _) _)
      have HW2 : Hid (Below w.heap.size w (w1.alloc (.cells zeroA 36))) := Lib.hid (B1.out.alloc B1.out.size _)
      have HW3 : Hid ((w1.alloc (.cells zeroA 36)).heap[w.heap.size]? = some (.cells zeroA 36 (0, 0))) := Lib.hid ((HW1.out.block _ (lt_of_block HR1.out)).trans HR1.out)
      go_loopw [11, 12, 13, 14, 15, 16] (fun i _ _ _ _ _ wr => ∃ (k : Nat) (C : Array Value), k ≤ M + 1 ∧ i = .int .i64 k ∧ Hid (InvR Q M k C) ∧ Hid (wr.heap[w1.heap.size]? = some (.cells C 36 (0, 0))) ∧ Hid (wr.heap[w.heap.size]? = some (.cells zeroA 36 (0, 0))) ∧ Hid (Below w1.heap.size w1 wr) ∧ Hid (Below w.heap.size w wr)) (fun i _ _ _ _ _ _ => M + 1 - (intOf i).toNat)
      case atStart => exact ⟨0, zeroA, Nat.zero_le _, rfl, Lib.hid ⟨fun _ => ⟨[], rfl, by simp, rfl⟩, fun e => by omega⟩, Lib.hid (heap_alloc_new w1 _), HW3, HW1, HW2⟩
      case round =>
        obtain ⟨k, C, hk, rfl, HInv, HG, HR, HBb, HB⟩ := hrel
        by_cases hlt : k ≤ M
        · have hkD : k < D.length := by omega
          have hck : wr.cell? ⟨g, k, none⟩ = some (.string D[k]) := (HBb.out.cell (p := ⟨g, k, none⟩) HGb.out).trans (HCs.out k hkD)
          obtain ⟨p, HP⟩ : ∃ p, Hid (D[k] = p) := ⟨_, Lib.hid rfl⟩
          rw [HP.out] at hck
          have hps : p.size ≤ 1048600 := HSz.out p (by rw [← HP.out]; exact List.getElem_mem hkD)
          have hkQ : k < Q.length := by have := HQm.out; omega
          have HPq : Hid (Q[k] = p.data.toList) := Lib.hid (by
            obtain ⟨_, h⟩ := HQk.out k hkQ
            rw [h, HP.out])
          obtain ⟨Nk, HNkv⟩ : ∃ N, Hid ((numD p.data.toList).getD 0 = N) := ⟨_, Lib.hid rfl⟩
          obtain ⟨Kk, HKkv⟩ : ∃ K, Hid ((numD p.data.toList).isSome = K) := ⟨_, Lib.hid rfl⟩
          have HNk : Hid (∀ w, Calls Try.prog 35 #[.string p] w fun e w' => e = .returned (.tuple #[.int .i64 (Nk : Int), .bool Kk]) ∧ w = w') := Lib.hid (fun w => by
            have := RfRefNumber_any p w hps
            rw [optV_two, HNkv.out, HKkv.out] at this; exact this)
          have HErr : Hid (Kk = false → fourQ Q = none) := Lib.hid (fun e => fourQ_no ⟨Q[k], List.getElem_mem hkQ, by
            rw [HPq.out]
            have := HKkv.out
            rw [e] at this
            cases h : numD p.data.toList with
            | none => rfl
            | some n => rw [h] at this; cases this⟩)
          have HYes : Hid (Kk = true → numD (Q[k]) = some Nk) := Lib.hid (fun e => by
            rw [HPq.out]
            have h1 := HKkv.out
            have h2 := HNkv.out
            rw [e] at h1
            cases h : numD p.data.toList with
            | none => rw [h] at h1; cases h1
            | some n => rw [h] at h2; simpa using h2)
          have hNb : Nk ≤ 4294967296 := by rw [← HNkv.out]; exact numD_le _
          have hkI0 : (0 : Int) ≤ (k : Int) := by omega
          by_cases hkm : k = M
          · have hkI : ((k : Int) == (M : Int)) = true := by rw [hkm]; simp
            have HKm := Lib.hid hkm
            have hkI2 : ¬ (k : Int) < (M : Int) := by omega
            clear hkm
            go_wp2_with (go_at_call 35; refine (HNk.out _).mono ?_; rintro e w' ⟨rfl, rfl⟩)
            go_loop [14, 15] (fun r j => ∃ jj : Nat, M + 1 ≤ jj ∧ jj ≤ 4 ∧ j = .int .i64 (jj : Int) ∧ r = .int .i64 ((256 ^ (jj - M) : Nat) : Int)) (fun _ j => 4 - (intOf j).toNat)
            case atStart => exact ⟨M + 1, Nat.le_refl _, by omega, by go_num, by rw [show M + 1 - M = 1 by omega]; rfl⟩
            case round =>
              obtain ⟨jj, hj1, hj4, rfl, rfl⟩ := hrel
              by_cases hj : jj < 4
              · obtain ⟨R, HRr⟩ : ∃ R, Hid (256 ^ (jj - M) = R) := ⟨_, Lib.hid rfl⟩
                have hRb : R ≤ 16777216 := by
                  rw [← HRr.out]
                  exact Nat.le_trans (Nat.pow_le_pow_right (by omega) (show jj - M ≤ 3 by omega)) (by decide)
                rw [HRr.out]
                go_wp2
                go_round
                case rel => exact ⟨jj + 1, by omega, by omega, by go_num, by rw [show jj + 1 - M = (jj - M) + 1 by omega, Nat.pow_succ, HRr.out]; go_num⟩
                case measure => simp [intOf]; omega
              · obtain rfl : jj = 4 := by omega
                obtain ⟨R, HRr⟩ : ∃ R, Hid (256 ^ (4 - M) = R) := ⟨_, Lib.hid rfl⟩
                have hRb : R ≤ 4294967296 := by
                  rw [← HRr.out]
                  exact Nat.le_trans (Nat.pow_le_pow_right (by omega) (show 4 - M ≤ 4 by omega)) (by decide)
                rw [HRr.out]
                cases Kk
                · have HVn : Hid (V = .tuple #[.agg zeroA, .bool true, .int .i64 5]) := Lib.hid (by rw [HVy.out, HErr.out rfl]; rfl)
                  go_wp2_with (refine wpL_store_row rfl _ _ _ rfl w.heap.size zeroA rfl rfl _ zeroA HR.out HIz.out rfl zeroA_one ?_)
                  refine bodyPost_ret (v := .tuple #[.agg zeroA, .bool true, .int .i64 5]) (results_row3 Try.results27 _ _ w.heap.size _ zeroA (0, 0) _ rfl (setRow_heap _ _ zeroA zeroA _ _ HR.out) Try.underlying36 rfl HIz.out) rfl ⟨by rw [HVn.out], ?_⟩
                  exact below_setRow HB.out (Nat.le_refl _) _
                · have HYM : Hid (∃ h : M < Q.length, numD (Q[M]) = some Nk) := Lib.hid (by
                    have h1 := HYes.out rfl
                    have h2 := HKm.out
                    subst h2
                    exact ⟨hkQ, h1⟩)
                  by_cases hN : Nk < R
                  · have hNI : ¬ (R : Int) ≤ (Nk : Int) := by omega
                    have hCs : C.size = 17 := by
                      obtain ⟨ns, g1, _, rfl⟩ := HInv.out.1 hlt
                      rw [cellsA_size]; have := invR_len HQm.out hlt g1; simp [this]; omega
                    have hk3 : k ≤ 3 := by omega
                    obtain ⟨wo, rfl⟩ : ∃ wo, wo = wr := ⟨_, rfl⟩
                    go_wp2
                    go_loopw [12, 16] (fun x y wx => ∃ (kk : Nat) (E : Array Value), k ≤ kk ∧ kk ≤ 4 ∧ y = .int .i64 ((kk : Int) - 1) ∧ x = .int .i64 ((Nk / 256 ^ (4 - kk) : Nat) : Int) ∧ Hid (wx.heap[w1.heap.size]? = some (.cells E 36 (0, 0))) ∧ E.size = 17 ∧ Hid (∀ j, ¬ (1 + k ≤ j ∧ j < 5) → E[j]? = C[j]?) ∧ Hid (∀ j, j < 4 - kk → E[4 - j]? = some (byteN Nk j)) ∧ Hid (Kp (Only w1.heap.size) wo wx)) (fun _ y _ => (intOf y + 1).toNat)
                    case atStart => exact ⟨4, C, by omega, Nat.le_refl _, by go_num, by simp, HG, hCs, Lib.hid (fun _ _ => rfl), Lib.hid (fun j h => absurd h (by omega)), Lib.hid (Kp.refl _ _)⟩
                    case round =>
                      obtain ⟨kk, E, hkk, hkk4, rfl, rfl, HE, hE, HE1, HE2, HKE⟩ := hrel
                      obtain ⟨m, HMm⟩ : ∃ m, Hid (Nk / 256 ^ (4 - kk) = m) := ⟨_, Lib.hid rfl⟩
                      have hm : m ≤ 4294967296 := by rw [← HMm.out]; exact Nat.le_trans (Nat.div_le_self _ _) hNb
                      rw [HMm.out]
                      by_cases hlk : k < kk
                      · obtain ⟨k', rfl⟩ : ∃ k', kk = k' + 1 := ⟨kk - 1, by omega⟩
                        have hk'I : (k : Int) ≤ (k' : Int) := by omega
                        have hk'3 : k' ≤ 3 := by omega
                        obtain ⟨v0, hv0⟩ : ∃ v, E[1 + k']? = some v := ⟨_, Array.getElem?_eq_getElem (by omega)⟩
                        have hcl : wr.cell? ⟨w1.heap.size, 1 + k', none⟩ = some v0 := (cell_of_row wr _ _ E _ _ HE.out).trans hv0
                        have hfr := frozen_of_row wr w1.heap.size (1 + k') E _ HE.out
                        have HG1 := Lib.hid (heap_setCell_same wr w1.heap.size (1 + k') E _ (.int .u8 ((m : Int) % 256)) HE.out)
                        have HK1 := Lib.hid (HKE.out.setCell (X := Only w1.heap.size) (p := ⟨w1.heap.size, 1 + k', none⟩) rfl (.int .u8 ((m : Int) % 256)))
                        clear hv0
                        simp only [Int.natCast_add, Int.natCast_one, Int.add_sub_cancel]
                        go_wp2
                        refine ⟨⟨k', _, by omega, by omega, by go_num, ?_, HG1, by simpa using hE, Lib.hid ?_, Lib.hid ?_, HK1⟩, by simp [intOf]⟩
                        · rw [show 4 - k' = (4 - (k' + 1)) + 1 by omega, Nat.pow_succ, ← Nat.div_div_eq_div_mul, HMm.out]
                          congr 1
                        · intro j hj
                          rw [Array.getElem?_setIfInBounds, if_neg (by omega)]
                          exact HE1.out j hj
                        · intro j hj
                          rw [Array.getElem?_setIfInBounds]
                          by_cases e : j = 4 - (k' + 1)
                          · rw [if_pos (by omega), if_pos (by omega), byteN, e, HMm.out]
                            rfl
                          · rw [if_neg (by omega)]
                            exact HE2.out j (by omega)
                      · obtain rfl : kk = k := by omega
                        have hex : ¬ (kk : Int) ≤ (kk : Int) - 1 := by omega
                        have HInv1 : Hid (InvR Q M (kk + 1) E) := Lib.hid (by
                          obtain ⟨hMQ, h1⟩ := HYM.out
                          have hInvM := HInv.out
                          have e := HKm.out
                          subst e
                          exact invR_last HQm.out h4' hInvM h1 (by rw [HRr.out]; exact hN) (by rw [hE, hCs]) HE1.out HE2.out)
                        have HR1' := Lib.hid (HKE.out.at HR.out (by unfold Only; have := B1.out.size; have := HGw.out; have := lt_of_block HR1.out; omega))
                        have HBb' := Lib.hid (HBb.out.trans (HKE.out.below (B := w1.heap.size) HBb.out.size (fun q hq => by rw [show q = _ from hq]; omega)))
                        have HB' := Lib.hid (HB.out.trans (HKE.out.below (B := w.heap.size) HB.out.size (fun q hq => by rw [show q = _ from hq]; exact B1.out.size)))
                        go_wp2
                        exact ⟨⟨kk + 1, E, by omega, by go_num, HInv1, HE, HR1', HBb', HB'⟩, by simp [intOf]; omega⟩
                  · have hNI : (R : Int) ≤ (Nk : Int) := by omega
                    have HVn : Hid (V = .tuple #[.agg zeroA, .bool true, .int .i64 5]) := Lib.hid (by
                      obtain ⟨hMQ, h1⟩ := HYM.out
                      have hInvM := HInv.out
                      rw [HKm.out] at hInvM
                      obtain ⟨ns, g1, g2, _⟩ := hInvM.1 (Nat.le_refl _)
                      rw [HVy.out, fourQ_last HQm.out g1 g2 h1, if_neg (by rw [HRr.out]; exact hN)]; rfl)
                    go_wp2_with (refine wpL_store_row rfl _ _ _ rfl w.heap.size zeroA rfl rfl _ zeroA HR.out HIz.out rfl zeroA_one ?_)
                    refine bodyPost_ret (v := .tuple #[.agg zeroA, .bool true, .int .i64 5]) (results_row3 Try.results27 _ _ w.heap.size _ zeroA (0, 0) _ rfl (setRow_heap _ _ zeroA zeroA _ _ HR.out) Try.underlying36 rfl HIz.out) rfl ⟨by rw [HVn.out], ?_⟩
                    exact below_setRow HB.out (Nat.le_refl _) _
          · have hkI : ((k : Int) == (M : Int)) = false := beq_eq_false_iff_ne.2 (by omega)
            have hkM : k < M := by omega
            go_wp2_with (go_at_call 35; refine (HNk.out _).mono ?_; rintro e w' ⟨rfl, rfl⟩)
            go_loop [14, 15] (fun r j => r = .int .i64 256 ∧ j = .int .i64 ((M : Int) + 1)) (fun _ _ => 0)
            case atStart => exact ⟨rfl, rfl⟩
            case round =>
              obtain ⟨rfl, rfl⟩ := hrel
              cases Kk
              · have HVn : Hid (V = .tuple #[.agg zeroA, .bool true, .int .i64 5]) := Lib.hid (by rw [HVy.out, HErr.out rfl]; rfl)
                go_wp2_with (refine wpL_store_row rfl _ _ _ rfl w.heap.size zeroA rfl rfl _ zeroA HR.out HIz.out rfl zeroA_one ?_)
                refine bodyPost_ret (v := .tuple #[.agg zeroA, .bool true, .int .i64 5]) (results_row3 Try.results27 _ _ w.heap.size _ zeroA (0, 0) _ rfl (setRow_heap _ _ zeroA zeroA _ _ HR.out) Try.underlying36 rfl HIz.out) rfl ⟨by rw [HVn.out], ?_⟩
                exact below_setRow HB.out (Nat.le_refl _) _
              · by_cases h256 : Nk < 256
                · have h256I : ¬ (256 : Int) ≤ (Nk : Int) := by omega
                  have HInv1 := Lib.hid (invR_step HQm.out h4' hkM HInv.out (HYes.out rfl) h256)
                  have hCs : C.size = 17 := by
                    obtain ⟨ns, g1, _, rfl⟩ := HInv.out.1 hlt
                    rw [cellsA_size]; have := invR_len HQm.out hlt g1; simp [this]; omega
                  obtain ⟨v0, hv0⟩ : ∃ v, C[1 + k]? = some v := ⟨_, Array.getElem?_eq_getElem (by omega)⟩
                  have hcl : wr.cell? ⟨w1.heap.size, 1 + k, none⟩ = some v0 := (cell_of_row wr _ _ C _ _ HG.out).trans hv0
                  have hfr := frozen_of_row wr w1.heap.size (1 + k) C _ HG.out
                  have HG1 := Lib.hid (heap_setCell_same wr w1.heap.size (1 + k) C _ (.int .u8 (Nk : Int)) HG.out)
                  have KS : Hid (Kp (Only w1.heap.size) wr (wr.setCell ⟨w1.heap.size, 1 + k, none⟩ (.int .u8 (Nk : Int)))) := Lib.hid ((Kp.refl _ _).setCell (X := Only w1.heap.size) (p := ⟨w1.heap.size, 1 + k, none⟩) rfl _)
                  have HR1' := Lib.hid (KS.out.at HR.out (by unfold Only; have := B1.out.size; have := HGw.out; have := lt_of_block HR1.out; omega))
                  have HBb' := Lib.hid (HBb.out.trans (KS.out.below (B := w1.heap.size) HBb.out.size (fun q hq => by rw [show q = _ from hq]; omega)))
                  have HB' := Lib.hid (HB.out.trans (KS.out.below (B := w.heap.size) HB.out.size (fun q hq => by rw [show q = _ from hq]; exact B1.out.size)))
                  clear hCs hv0
                  go_wp2
                  exact ⟨⟨k + 1, _, by omega, by go_num, HInv1, HG1, HR1', HBb', HB'⟩, by simp [intOf]; omega⟩
                · have h256I : (256 : Int) ≤ (Nk : Int) := by omega
                  have HVn : Hid (V = .tuple #[.agg zeroA, .bool true, .int .i64 5]) := Lib.hid (by
                    obtain ⟨ns, g1, g2, _⟩ := HInv.out.1 hlt
                    rw [HVy.out, fourQ_bad (by have := HQm.out; omega) g1 g2 (HYes.out rfl) (by omega)]; rfl)
                  go_wp2_with (refine wpL_store_row rfl _ _ _ rfl w.heap.size zeroA rfl rfl _ zeroA HR.out HIz.out rfl zeroA_one ?_)
                  refine bodyPost_ret (v := .tuple #[.agg zeroA, .bool true, .int .i64 5]) (results_row3 Try.results27 _ _ w.heap.size _ zeroA (0, 0) _ rfl (setRow_heap _ _ zeroA zeroA _ _ HR.out) Try.underlying36 rfl HIz.out) rfl ⟨by rw [HVn.out], ?_⟩
                  exact below_setRow HB.out (Nat.le_refl _) _
        · obtain rfl : k = M + 1 := by omega
          obtain ⟨bs, hbs, hC⟩ := HInv.out.2 rfl
          have hln : bs.length = 4 := by
            unfold fourQ at hbs
            split at hbs
            · cases hbs
            · rename_i ns hns
              have := evs_num_len _ _ hns
              exact (lay4_len ns 4 bs (by have := HQm.out; omega) hbs).1
          have HVn : Hid (V = .tuple #[.agg C, .bool true, .int .i64 0]) := Lib.hid (by rw [HVy.out, hbs, hC]; rfl)
          have HDz : Hid (C.size = 17) := Lib.hid (by rw [hC, cellsA_size]; simp; omega)
          have HOne : Hid (C.all (·.oneCell') = true) := Lib.hid (by rw [hC]; exact cellsA_one _ _)
          have HID : Hid ((Try.prog.info? 36).map (·.size) = some C.size) := Lib.hid (by rw [HI.out, HDz.out])
          have HZD : Hid (zeroA.size = C.size) := Lib.hid (by rw [HDz.out, zeroA_size])
          clear hbs hC hln
          go_wp2_with (first | refine wpList_load_row rfl 36 _ rfl w1.heap.size rfl 36 C (0, 0) _ HG.out Try.underlying36 rfl HID.out ?_ | refine wpL_store_row rfl _ _ _ rfl w.heap.size C rfl rfl _ zeroA HR.out HID.out HZD.out HOne.out ?_)
          refine bodyPost_ret (v := .tuple #[.agg C, .bool true, .int .i64 0]) (results_row3 Try.results27 _ _ w.heap.size _ C (0, 0) _ rfl (setRow_heap _ _ zeroA C _ _ HR.out) Try.underlying36 rfl HID.out) rfl ⟨by rw [HVn.out], ?_⟩
          exact below_setRow HB.out (Nat.le_refl _) _

end Go.Proofs.Ytldddgmhmolohaa
