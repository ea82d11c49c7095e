/-
  Package setcookie: pairs, signs, the first pair, an age, a site's text.
-/
import Derived.Test.YtllpdnmhabpbcaaGreatDoorScA
import Derived.Test.YtllpdnmhabpbcaaGreatDoorLowB
import Derived.Test.YtllpdnmhabpbcaaGreatDoorShelfK
import Derived.Test.YtllpdnmhabpbcaaGreatDoorBw
import Derived.Test.YtllpdnmhabpbcaaGreatDoorDtU
namespace Go.Proofs.YtllpdnmhabpbcaaGreatDoor
open Go.RowKit

set_option maxHeartbeats 1000000 in
theorem pairOf_any (s : ByteArray) (hs : s.size ≤ 1048600) (m : Int) (w : World) (hm : w.cell? ⟨2, 0, none⟩ = some (.int .i64 m)) :
    Calls Tryz.prog 17 #[.string s] w fun e w' => e = .returned (.tuple #[.string (pnm s), .string (pvl s), .bool (eqF s)]) ∧ Below w.heap.size w w' := by
  have HC : Hid (Calls Tryz.prog 27 #[.string s, .string ⟨#[61]⟩] w fun e w' => e = .returned (.tuple #[.string (asB (cutP 61 s.data.toList).1), .string (asB (cutP 61 s.data.toList).2.1), .bool (cutP 61 s.data.toList).2.2]) ∧ ∃ n, w' = w.drewN n) := by
    have := Tryz.strings_Cut s ⟨#[61]⟩ m w (by omega) hm
    rw [show ({ data := #[61] } : ByteArray).data.toList = [61] from rfl, cut_one] at this
    exact Lib.hid this
  have hlen : ∀ l : List UInt8, (cutP 61 l).1.length ≤ l.length ∧ (cutP 61 l).2.1.length ≤ l.length := fun l => by
    induction l with
    | nil => exact ⟨Nat.le_refl _, Nat.le_refl _⟩
    | cons c l ih =>
      rw [cutP]
      split
      · exact ⟨Nat.zero_le _, by simp⟩
      · exact ⟨by simpa using ih.1, by simp; omega⟩
  have h1 := (hlen s.data.toList).1
  have h2 := (hlen s.data.toList).2
  rw [lenB] at h1 h2
  have HT1 := Lib.hid fun w => Trim_any (asB (cutP 61 s.data.toList).1) w (by rw [asB_size]; unfold maxLen; omega)
  have HT2 := Lib.hid fun w => Trim_any (asB (cutP 61 s.data.toList).2.1) w (by rw [asB_size]; unfold maxLen; omega)
  change Hid (∀ w, Calls Tryz.prog 16 _ w fun e w' => e = .returned (.string (pnm s)) ∧ Below w.heap.size w w') at HT1
  change Hid (∀ w, Calls Tryz.prog 16 _ w fun e w' => e = .returned (.string (pvl s)) ∧ Below w.heap.size w w') at HT2
  change Hid (Calls Tryz.prog 27 _ w fun e w' => e = .returned (.tuple #[.string (asB (cutP 61 s.data.toList).1), .string (asB (cutP 61 s.data.toList).2.1), .bool (eqF s)]) ∧ ∃ n, w' = w.drewN n) at HC
  generalize asB (cutP 61 s.data.toList).1 = a1 at *
  generalize asB (cutP 61 s.data.toList).2.1 = a2 at *
  clear h1 h2 hlen hm
  go_enter Tryz.func17, Tryz.ntmps17
  go_wp2_with fail
  refine HC.out.mono ?_
  rintro e w1 ⟨rfl, n, rfl⟩
  go_wp2_with fail
  refine (HT1.out _).mono ?_
  rintro e w2 ⟨rfl, b2⟩
  go_wp2_with fail
  refine (HT2.out _).mono ?_
  rintro e w3 ⟨rfl, b3⟩
  go_wp2
  go_ret3
  refine ⟨rfl, ?_⟩
  have b1 : Below w.heap.size w (w.drewN n) := Kp.below (X := fun _ => False) ((Kp.refl _ _).drewN n) (Nat.le_refl _) (fun _ h => h.elim)
  exact b1.trans ((b2.trans (b3.mono b2.size)).mono b1.size)

theorem anyC_take_true (s : ByteArray) (k : Nat) (h : k < s.size) (hc : ctlB s[k] = true) : s.data.toList.any ctlB = true := by
  rw [List.any_eq_true]
  refine ⟨s[k], ?_, hc⟩
  have : s[k] = s.data[k]'h := rfl
  rw [this]; simp
theorem anyC_snoc (l : List UInt8) (c : UInt8) : (l ++ [c]).any ctlB = (l.any ctlB || ctlB c) := by simp

set_option maxHeartbeats 1000000 in
set_option maxRecDepth 100000 in
theorem signs_any (s : ByteArray) (w : World) (hs : s.size ≤ maxLen) :
    Calls Tryz.prog 10 #[.string s] w fun e w' => e = .returned (.bool (!s.data.toList.any ctlB)) ∧ w = w' := by
  unfold maxLen at hs
  obtain ⟨R, HR⟩ : ∃ R, Hid (s.data.toList.any ctlB = R) := ⟨_, Lib.hid rfl⟩
  rw [HR.out]
  go_enter Tryz.func10, Tryz.ntmps10
  go_wp2
  go_loop [7] (fun i => ∃ k : Nat, k ≤ s.size ∧ i = .int .i64 k ∧ Hid ((s.data.toList.take k).any ctlB = false)) (fun i => s.size - (intOf i).toNat)
  case atStart => exact ⟨0, Nat.zero_le _, rfl, Lib.hid rfl⟩
  case round =>
    obtain ⟨k, hk, rfl, HT⟩ := hrel
    by_cases hlt : k < s.size
    · have hb := byte_lt s[k]
      cases hc : ctlB s[k] with
      | true =>
        have HA : Hid (R = true) := Lib.hid (HR.out.symm.trans (anyC_take_true s k hlt hc))
        have hc' : s[k].toNat = 127 ∨ (s[k].toNat < 32 ∧ s[k].toNat ≠ 9) := by
          unfold ctlB at hc
          simpa using hc
        clear hc
        rcases hc' with h1 | ⟨h1, h2⟩
        · have e1 : ((s[k].toNat : Int) == 127) = true := beq_iff_eq.2 (by omega)
          clear h1
          go_wp2
          go_ret
          exact ⟨by rw [HA.out]; rfl, rfl⟩
        · have e1 : ((s[k].toNat : Int) == 127) = false := beq_eq_false_iff_ne.2 (by omega)
          have e2 : (s[k].toNat : Int) < 32 := by omega
          have e3 : ((s[k].toNat : Int) != 9) = true := bne_iff_ne.2 (by omega)
          clear h1 h2
          go_wp2
          go_ret
          exact ⟨by rw [HA.out]; rfl, rfl⟩
      | false =>
        have HN := Lib.hid (show (s.data.toList.take (k + 1)).any ctlB = false by rw [take_snoc s k hlt, anyC_snoc, HT.out, hc]; rfl)
        have hc' : s[k].toNat ≠ 127 ∧ (32 ≤ s[k].toNat ∨ s[k].toNat = 9) := by
          unfold ctlB at hc
          simp at hc
          omega
        clear hc
        obtain ⟨h1, h2⟩ := hc'
        have e1 : ((s[k].toNat : Int) == 127) = false := beq_eq_false_iff_ne.2 (by omega)
        rcases h2 with h2 | h2
        · have e2 : (32 : Int) ≤ (s[k].toNat : Int) := by omega
          clear h1 h2
          go_wp2
          exact ⟨⟨k + 1, by omega, by go_num, HN⟩, by simp [intOf]; omega⟩
        · have e2 : (s[k].toNat : Int) < 32 := by omega
          have e3 : ((s[k].toNat : Int) != 9) = false := by rw [bne_eq_false_iff_eq]; omega
          clear h1 h2
          go_wp2
          exact ⟨⟨k + 1, by omega, by go_num, HN⟩, by simp [intOf]; omega⟩
    · obtain rfl : k = s.size := by omega
      have HA : Hid (R = false) := Lib.hid (by
        have := HT.out
        rw [← HR.out]
        rwa [List.take_of_length_le (by rw [lenB]; exact Nat.le_refl _)] at this)
      go_wp2
      go_ret
      exact ⟨by rw [HA.out]; rfl, rfl⟩

/-- The first pair. -/
def firstV (p : ByteArray) : Value :=
  if 4096 < (fnm p).size + (fvl p).size then .tuple #[.string noB, .string noB, .int .i64 3]
  else if (fnm p).size = 0 ∧ (fvl p).size = 0 then .tuple #[.string noB, .string noB, .int .i64 4]
  else .tuple #[.string (fnm p), .string (fvl p), .int .i64 0]
theorem cutP_len (l : List UInt8) : (cutP 61 l).1.length ≤ l.length ∧ (cutP 61 l).2.1.length ≤ l.length := by
  induction l with
  | nil => exact ⟨Nat.le_refl _, Nat.le_refl _⟩
  | cons c l ih =>
    rw [cutP]
    split
    · exact ⟨Nat.zero_le _, by simp⟩
    · exact ⟨by simpa using ih.1, by simp; omega⟩
theorem pnm_le (p : ByteArray) : (pnm p).size ≤ p.size := by
  have := trimA_le (asB (cutP 61 p.data.toList).1)
  rw [asB_size] at this
  have h := (cutP_len p.data.toList).1
  rw [lenB] at h
  exact Nat.le_trans this h
theorem pvl_le (p : ByteArray) : (pvl p).size ≤ p.size := by
  have := trimA_le (asB (cutP 61 p.data.toList).2.1)
  rw [asB_size] at this
  have h := (cutP_len p.data.toList).2
  rw [lenB] at h
  exact Nat.le_trans this h
theorem str_empty {s : ByteArray} (h : s.size = 0) : s.toList = [] ∧ s.toList.isEmpty = true ∧ s = noB := by
  have e : s = noB := ByteArray.ext (Array.eq_empty_of_size_eq_zero h)
  subst e
  have h1 : noB.toList = [] := by rw [ByteArray.toList_eq]; rfl
  exact ⟨h1, by rw [h1]; rfl, rfl⟩

theorem str_full {s : ByteArray} (h : s.size ≠ 0) : ¬ s.toList = [] ∧ (s.toList == []) = false ∧ s.toList.isEmpty = false := by
  have hn : s.toList ≠ [] := fun e => h (by
    rw [Lib.size_eq s, ← ByteArray.toList_eq, e]; rfl)
  exact ⟨hn, beq_eq_false_iff_ne.2 hn, by cases hs : s.toList with
    | nil => exact absurd hs hn
    | cons => rfl⟩

set_option maxHeartbeats 1000000 in
set_option maxRecDepth 100000 in
theorem first_any (p : ByteArray) (hs : p.size ≤ 1048600) (m : Int) (w : World) (hm : w.cell? ⟨2, 0, none⟩ = some (.int .i64 m)) :
    Calls Tryz.prog 12 #[.string p] w fun e w' => e = .returned (firstV p) ∧ Below w.heap.size w w' := by
  have HP := Lib.hid (pairOf_any p hs m w hm)
  have hn := pnm_le p
  have hv := pvl_le p
  clear hm
  cases hE : eqF p with
  | true =>
    have HV : Hid (firstV p = if 4096 < (pnm p).size + (pvl p).size then .tuple #[.string noB, .string noB, .int .i64 3] else if (pnm p).size = 0 ∧ (pvl p).size = 0 then .tuple #[.string noB, .string noB, .int .i64 4] else .tuple #[.string (pnm p), .string (pvl p), .int .i64 0]) :=
      Lib.hid (by unfold firstV fnm fvl; simp only [hE, if_true])
    rw [hE] at HP
    rw [HV.out]
    generalize pnm p = N at *
    generalize pvl p = V at *
    clear HV hE
    by_cases h1 : 4096 < N.size + V.size
    · rw [if_pos h1]
      go_enter Tryz.func12, Tryz.ntmps12
      go_wp2_with fail
      refine HP.out.mono ?_
      rintro e w1 ⟨rfl, b1⟩
      go_wp2
      go_ret3
      exact ⟨rfl, b1⟩
    · rw [if_neg h1]
      by_cases h2 : N.size = 0
      · obtain ⟨a1, a2, rfl⟩ := str_empty h2
        by_cases h3 : V.size = 0
        · obtain ⟨b1, b2, rfl⟩ := str_empty h3
          rw [if_pos ⟨h2, h3⟩]
          go_enter Tryz.func12, Tryz.ntmps12
          go_wp2_with fail
          refine HP.out.mono ?_
          rintro e w1 ⟨rfl, b1⟩
          go_wp2
          go_ret3
          exact ⟨rfl, b1⟩
        · obtain ⟨b1, b2, b3⟩ := str_full h3
          rw [if_neg fun h => h3 h.2]
          go_enter Tryz.func12, Tryz.ntmps12
          go_wp2_with fail
          refine HP.out.mono ?_
          rintro e w1 ⟨rfl, b1⟩
          go_wp2
          go_ret3
          exact ⟨rfl, b1⟩
      · obtain ⟨b1, b2, b3⟩ := str_full h2
        rw [if_neg fun h => h2 h.1]
        go_enter Tryz.func12, Tryz.ntmps12
        go_wp2_with fail
        refine HP.out.mono ?_
        rintro e w1 ⟨rfl, b1⟩
        go_wp2
        go_ret3
        exact ⟨rfl, b1⟩
  | false =>
    have HV : Hid (firstV p = if 4096 < (pnm p).size then .tuple #[.string noB, .string noB, .int .i64 3] else if (pnm p).size = 0 then .tuple #[.string noB, .string noB, .int .i64 4] else .tuple #[.string noB, .string (pnm p), .int .i64 0]) :=
      Lib.hid (by
        unfold firstV fnm fvl
        simp only [hE, Bool.false_eq_true, if_false]
        rw [show noB.size = 0 from rfl, Nat.zero_add]
        simp only [true_and])
    rw [hE] at HP
    rw [HV.out]
    generalize pnm p = N at *
    generalize pvl p = V at *
    clear HV hE
    by_cases h1 : 4096 < N.size
    · rw [if_pos h1]
      go_enter Tryz.func12, Tryz.ntmps12
      go_wp2_with fail
      refine HP.out.mono ?_
      rintro e w1 ⟨rfl, b1⟩
      go_wp2
      go_ret3
      exact ⟨rfl, b1⟩
    · rw [if_neg h1]
      by_cases h2 : N.size = 0
      · obtain ⟨a1, a2, rfl⟩ := str_empty h2
        rw [if_pos h2]
        go_enter Tryz.func12, Tryz.ntmps12
        go_wp2_with fail
        refine HP.out.mono ?_
        rintro e w1 ⟨rfl, b1⟩
        go_wp2
        go_ret3
        exact ⟨rfl, b1⟩
      · obtain ⟨b1, b2, b3⟩ := str_full h2
        rw [if_neg h2]
        go_enter Tryz.func12, Tryz.ntmps12
        go_wp2_with fail
        refine HP.out.mono ?_
        rintro e w1 ⟨rfl, b1⟩
        go_wp2
        go_ret3
        exact ⟨rfl, b1⟩

theorem pre_one (a : UInt8) (l : List UInt8) : Lib.hasPrefix l [a] = decide (l.head? = some a) := by
  cases l with
  | nil => rfl
  | cons c l =>
    show ((a == c) && ([] : List UInt8).isPrefixOf l) = _
    rw [List.isPrefixOf_nil_left, Bool.and_true]
    by_cases h : a = c
    · subst h; simp
    · simp [h, Ne.symm h]
theorem cut_pre (a : UInt8) (l : List UInt8) : Lib.trimPrefix l [a] = if l.head? = some a then l.drop 1 else l := by
  unfold Lib.trimPrefix
  rw [pre_one]
  by_cases h : l.head? = some a <;> simp [h]
theorem drop_nil {p : UInt8 → Bool} : ∀ {l : List UInt8}, l.dropWhile p = [] → l.all p = true
  | [], _ => rfl
  | c :: l, h => by
    rw [List.dropWhile_cons] at h
    cases hc : p c with
    | true => rw [hc, if_pos rfl] at h; rw [List.all_cons, hc, drop_nil h]; rfl
    | false => rw [hc] at h; cases h
theorem drop_all {p : UInt8 → Bool} : ∀ {l : List UInt8}, l.all p = true → l.dropWhile p = []
  | [], _ => rfl
  | c :: l, h => by
    rw [List.all_cons, Bool.and_eq_true] at h
    rw [List.dropWhile_cons, h.1, if_pos rfl]; exact drop_all h.2
theorem trim_digits (l : List UInt8) : Lib.trimS l DG.data.toList = [] ↔ allR 48 57 l = true := by
  have e : (DG.data.toList.contains ·) = isD := by funext c; exact dg_has c
  unfold Lib.trimS Lib.trimLeftS Lib.trimRightS
  rw [e]
  constructor
  · intro h
    have h1 := drop_nil h
    rw [List.all_reverse] at h1
    have h2 : l.reverse.dropWhile isD = [] := by
      cases hd : l.reverse.dropWhile isD with
      | nil => rfl
      | cons c r =>
        have h3 := List.head?_dropWhile_not isD l.reverse
        rw [hd] at h3 h1
        rw [List.all_cons, Bool.and_eq_true] at h1
        simp [h1.1] at h3
    have h3 := drop_nil h2
    rw [List.all_reverse] at h3
    exact h3
  · intro h
    have h1 : l.reverse.all isD = true := by rw [List.all_reverse]; exact h
    rw [drop_all h1]; rfl
theorem trim_nought (l : List UInt8) : Lib.trimLeftS l [48] = l.dropWhile (· == 48) := by
  unfold Lib.trimLeftS
  congr 1
  funext c
  rw [List.contains_cons, List.contains_nil, Bool.or_false]
def ageR (l : List UInt8) : Value := if ageB l then .tuple #[.int .i64 (ageV l), .bool true] else .tuple #[.int .i64 0, .bool false]

set_option maxHeartbeats 1000000 in
set_option maxRecDepth 100000 in
theorem ageOf_any (v : ByteArray) (hs : v.size ≤ 1048600) (w : World) :
    Calls Tryz.prog 56 #[.string v] w fun e w' => e = .returned (ageR v.data.toList) ∧ Below w.heap.size w w' := by
  obtain ⟨l, Hl⟩ : ∃ l, Hid (v.data.toList = l) := ⟨_, Lib.hid rfl⟩
  have hll : l.length ≤ 1048600 := by rw [← Hl.out, lenB]; exact hs
  obtain ⟨T, HT⟩ : ∃ T, Hid (asB (ageL l) = T) := ⟨_, Lib.hid rfl⟩
  obtain ⟨B, HB⟩ : ∃ B, Hid (decide (l.head? = some 45) = B) := ⟨_, Lib.hid rfl⟩
  have hTl : T.data.toList = ageL l := by rw [← HT.out]; rfl
  have hTs : T.size ≤ 1048600 := by
    rw [← lenB, hTl]
    unfold ageL
    split
    · rw [List.length_drop]; omega
    · exact hll
  have HC : Hid (Calls Tryz.prog 78 #[.string v, .string ⟨#[45]⟩] w fun e w' => e = .returned (.tuple #[.string T, .bool B]) ∧ w = w') := by
    have := Tryz.strings_CutPrefix v ⟨#[45]⟩ w
    rw [Hl.out, show ({ data := #[45] } : ByteArray).data.toList = [45] from rfl, cut_pre, pre_one, HB.out] at this
    rw [← HT.out]
    exact Lib.hid (this.mono fun e w' h => ⟨h.1, h.2.symm⟩)
  have HTr := Lib.hid fun w => Tryz.strings_Trim_laid T DG w (by omega) (by decide) ascB_dg.get
  rw [Hl.out]
  obtain ⟨R, HR⟩ : ∃ R, Hid (ageR l = R) := ⟨_, Lib.hid rfl⟩
  rw [HR.out]
  by_cases h0 : T.size = 0
  · have hR : Hid (R = .tuple #[.int .i64 0, .bool false]) := Lib.hid (by
      have e : ageL l = [] := by rw [← hTl, ← List.length_eq_zero_iff, lenB]; exact h0
      rw [← HR.out, ageR, if_neg (by unfold ageB; rw [e]; simp)])
    obtain ⟨a1, a2, rfl⟩ := str_empty h0
    clear h0 hTl hTs
    go_enter Tryz.func56, Tryz.ntmps56
    go_wp2_with fail
    refine HC.out.mono ?_
    rintro e w1 ⟨rfl, rfl⟩
    go_wp2
    go_ret2
    exact ⟨by rw [hR.out]; rfl, Below.refl _ _⟩
  · obtain ⟨a1, a2, a3⟩ := str_full h0
    obtain ⟨X, HX⟩ : ∃ X : ByteArray, Hid (X = ⟨(Lib.trimS T.data.toList DG.data.toList).toArray⟩) := ⟨_, Lib.hid rfl⟩
    rw [← HX.out] at HTr
    cases hA : allR 48 57 (ageL l) with
    | false =>
      have hR : Hid (R = .tuple #[.int .i64 0, .bool false]) := Lib.hid (by
        rw [← HR.out, ageR, if_neg (by unfold ageB; rw [hA]; simp)])
      have hX : X.size ≠ 0 := by
        intro h
        have h1 : X = noB := ByteArray.ext (Array.eq_empty_of_size_eq_zero h)
        have h2 : Lib.trimS T.data.toList DG.data.toList = [] := by
          have := congrArg (fun b : ByteArray => b.data.toList) (HX.out.symm.trans h1)
          exact this
        rw [hTl, trim_digits, hA] at h2
        cases h2
      obtain ⟨x1, x2, x3⟩ := str_full hX
      clear h0 hTl hTs hX hA
      go_enter Tryz.func56, Tryz.ntmps56
      go_wp2_with fail
      refine HC.out.mono ?_
      rintro e w1 ⟨rfl, rfl⟩
      go_wp2_with fail
      refine (HTr.out _).mono ?_
      rintro e w1 ⟨rfl, b1⟩
      go_wp2
      go_ret2
      exact ⟨by rw [hR.out]; rfl, b1⟩
    | true =>
      have hBt : Hid (ageB l = true) := Lib.hid (by
        unfold ageB
        rw [hA, Bool.and_true]
        cases he : ageL l with
        | nil => rw [he] at hTl; exact absurd (by rw [← lenB, hTl]; rfl) h0
        | cons => rfl)
      have hX : X.size = 0 := by
        rw [HX.out]
        show (Lib.trimS T.data.toList DG.data.toList).toArray.size = 0
        rw [hTl, (trim_digits _).2 hA]; rfl
      obtain ⟨x1, x2, hX0⟩ := str_empty hX
      have HTr2 : Hid (∀ w, Calls Tryz.prog 26 #[.string T, .string DG] w fun e w' => e = .returned (.string X) ∧ Below w.heap.size w w') := HTr
      have HTL : Hid (∀ w, Calls Tryz.prog 80 #[.string T, .string ⟨#[48]⟩] w fun e w' => e = .returned (.string (asB ((ageL l).dropWhile (· == 48)))) ∧ Below w.heap.size w w') := Lib.hid fun w => by
        have := Tryz.strings_TrimLeft_laid T ⟨#[48]⟩ w (by decide) (fun j b hb => by
          have : b = 48 := by
            cases j with
            | zero => simpa using hb.symm
            | succ j => simp at hb
          subst this; decide)
        rw [hTl, show ({ data := #[48] } : ByteArray).data.toList = [48] from rfl, trim_nought] at this
        exact this
      obtain ⟨Y, HY⟩ : ∃ Y, Hid (asB ((ageL l).dropWhile (· == 48)) = Y) := ⟨_, Lib.hid rfl⟩
      have hYs : Y.size ≤ 1048600 := by
        rw [← HY.out, asB_size]
        have := (List.dropWhile_sublist (· == 48) (l := ageL l)).length_le
        have h2 : (ageL l).length = T.size := by rw [← hTl, lenB]
        omega
      rw [HY.out] at HTL
      obtain ⟨Z, HZ⟩ : ∃ Z : ByteArray, Hid ((⟨#[48]⟩ : ByteArray) ++ Y = Z) := ⟨_, Lib.hid rfl⟩
      have hZ : Z.data.toList = 48 :: (ageL l).dropWhile (· == 48) := by
        rw [← HZ.out, ByteArray.data_append, Array.toList_append, ← HY.out]; rfl
      have hZs : Z.size ≤ 1048601 := by
        rw [← HZ.out, ByteArray.size_append]
        show 1 + Y.size ≤ _
        omega
      have HN := Lib.hid fun w => Number_any Z 2147483647 w (by unfold maxLen; omega)
      rw [hZ] at HN
      have hnum := age_num hA
      obtain ⟨N, HNV⟩ : ∃ N, Hid (numV (48 :: (ageL l).dropWhile (· == 48)) 2147483647 = N) := ⟨_, Lib.hid rfl⟩
      obtain ⟨O, HOV⟩ : ∃ O, Hid (numB (48 :: (ageL l).dropWhile (· == 48)) 2147483647 = O) := ⟨_, Lib.hid rfl⟩
      rw [HNV.out, HOV.out] at HN hnum
      have hmin : 0 ≤ min 2147483647 (num (ageL l)) ∧ min 2147483647 (num (ageL l)) ≤ 2147483647 := by have := num_bd _ hA; omega
      obtain ⟨M, HM⟩ : ∃ M, Hid (min 2147483647 (num (ageL l)) = M) := ⟨_, Lib.hid rfl⟩
      rw [HM.out] at hnum hmin
      obtain ⟨m0, m1⟩ := hmin
      have hR1 : Hid (B = true → R = .tuple #[.int .i64 (-M), .bool true]) := Lib.hid fun hb => by
        have hh : l.head? = some 45 := of_decide_eq_true (HB.out.trans hb)
        rw [← HR.out, ageR, if_pos hBt.out, ageV, if_pos hh, HM.out]
      have hR2 : Hid (B = false → R = .tuple #[.int .i64 M, .bool true]) := Lib.hid fun hb => by
        have hh : ¬ l.head? = some 45 := of_decide_eq_false (HB.out.trans hb)
        rw [← HR.out, ageR, if_pos hBt.out, ageV, if_neg hh, HM.out]
      clear h0 hTl hX hA hZ hX0 HTr
      have hcat : 1 + Y.size ≤ 1048601 := by omega
      cases O with
      | true =>
        obtain rfl : N = M := by simpa using hnum
        clear hnum
        cases B with
        | true =>
          have HRR := Lib.hid (hR1.out rfl)
          clear hR1 hR2
          go_enter Tryz.func56, Tryz.ntmps56
          go_wp2_with fail
          refine HC.out.mono ?_
          rintro e w1 ⟨rfl, rfl⟩
          go_wp2_with fail
          refine (HTr2.out _).mono ?_
          rintro e w1 ⟨rfl, b1⟩
          go_wp2_with fail
          refine (HTL.out _).mono ?_
          rintro e w2 ⟨rfl, b2⟩
          go_wp2_with fail
          rw [HZ.out]
          refine (HN.out _).mono ?_
          rintro e w3 ⟨rfl, b3⟩
          go_wp2
          go_ret2
          exact ⟨by rw [HRR.out]; rfl, b1.trans ((b2.trans (b3.mono b2.size)).mono b1.size)⟩
        | false =>
          have HRR := Lib.hid (hR2.out rfl)
          clear hR1 hR2
          go_enter Tryz.func56, Tryz.ntmps56
          go_wp2_with fail
          refine HC.out.mono ?_
          rintro e w1 ⟨rfl, rfl⟩
          go_wp2_with fail
          refine (HTr2.out _).mono ?_
          rintro e w1 ⟨rfl, b1⟩
          go_wp2_with fail
          refine (HTL.out _).mono ?_
          rintro e w2 ⟨rfl, b2⟩
          go_wp2_with fail
          rw [HZ.out]
          refine (HN.out _).mono ?_
          rintro e w3 ⟨rfl, b3⟩
          go_wp2
          go_ret2
          exact ⟨by rw [HRR.out]; rfl, b1.trans ((b2.trans (b3.mono b2.size)).mono b1.size)⟩
      | false =>
        obtain rfl : 2147483647 = M := by simpa using hnum
        clear hnum
        cases B with
        | true =>
          have HRR := Lib.hid (hR1.out rfl)
          clear hR1 hR2
          go_enter Tryz.func56, Tryz.ntmps56
          go_wp2_with fail
          refine HC.out.mono ?_
          rintro e w1 ⟨rfl, rfl⟩
          go_wp2_with fail
          refine (HTr2.out _).mono ?_
          rintro e w1 ⟨rfl, b1⟩
          go_wp2_with fail
          refine (HTL.out _).mono ?_
          rintro e w2 ⟨rfl, b2⟩
          go_wp2_with fail
          rw [HZ.out]
          refine (HN.out _).mono ?_
          rintro e w3 ⟨rfl, b3⟩
          go_wp2
          go_ret2
          exact ⟨by rw [HRR.out]; rfl, b1.trans ((b2.trans (b3.mono b2.size)).mono b1.size)⟩
        | false =>
          have HRR := Lib.hid (hR2.out rfl)
          clear hR1 hR2
          go_enter Tryz.func56, Tryz.ntmps56
          go_wp2_with fail
          refine HC.out.mono ?_
          rintro e w1 ⟨rfl, rfl⟩
          go_wp2_with fail
          refine (HTr2.out _).mono ?_
          rintro e w1 ⟨rfl, b1⟩
          go_wp2_with fail
          refine (HTL.out _).mono ?_
          rintro e w2 ⟨rfl, b2⟩
          go_wp2_with fail
          rw [HZ.out]
          refine (HN.out _).mono ?_
          rintro e w3 ⟨rfl, b3⟩
          go_wp2
          go_ret2
          exact ⟨by rw [HRR.out]; rfl, b1.trans ((b2.trans (b3.mono b2.size)).mono b1.size)⟩

end Go.Proofs.YtllpdnmhabpbcaaGreatDoor
