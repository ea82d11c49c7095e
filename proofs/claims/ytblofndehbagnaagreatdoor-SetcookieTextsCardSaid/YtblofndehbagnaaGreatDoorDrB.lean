/-
  The document's cookie's date: an hour.
-/
import Derived.Test.YtblofndehbagnaaGreatDoorDrA
import Derived.Test.YtblofndehbagnaaGreatDoorDtY
namespace Go.Proofs.YtblofndehbagnaaGreatDoor
open Go.RowKit

/-- What stands behind a number's digits. -/
theorem hd_cases (s : ByteArray) : (toldN 1 2 s.data.toList = none ∧ hdN s.data.toList = none) ∨
    (∃ h, toldN 1 2 s.data.toList = some (h, []) ∧ (s.data.toList.takeWhile isD).length = s.size ∧ 1 ≤ s.size ∧ hdN s.data.toList = none) ∨
    (∃ (h : Int) (r : List UInt8) (k : Nat) (hk : k < s.size), toldN 1 2 s.data.toList = some (h, r) ∧ (s.data.toList.takeWhile isD).length = k ∧ 1 ≤ k ∧ (s[k]'hk).toNat ≠ 58 ∧ hdN s.data.toList = none) ∨
    (∃ (h : Int) (r : List UInt8) (k : Nat) (hk : k < s.size), toldN 1 2 s.data.toList = some (h, r) ∧ (s.data.toList.takeWhile isD).length = k ∧ 1 ≤ k ∧ k ≤ 2 ∧ (s[k]'hk).toNat = 58 ∧ hdN s.data.toList = some (h, (s.extract (k + 1) s.size).data.toList)) := by
  have hsum : (s.data.toList.takeWhile isD).length + (s.data.toList.dropWhile isD).length = s.size := by
    rw [← List.length_append, List.takeWhile_append_dropWhile, lenB]
  have hdr : s.data.toList.drop (s.data.toList.takeWhile isD).length = s.data.toList.dropWhile isD := by
    have e := List.takeWhile_append_dropWhile (p := isD) (l := s.data.toList)
    have := congrArg (List.drop (s.data.toList.takeWhile isD).length) e
    rw [List.drop_left] at this
    exact this.symm
  cases hc : toldN 1 2 s.data.toList with
  | none => exact .inl ⟨rfl, by unfold hdN; rw [hc]⟩
  | some x =>
    obtain ⟨h, r⟩ := x
    right
    have hl : 1 ≤ (s.data.toList.takeWhile isD).length ∧ (s.data.toList.takeWhile isD).length ≤ 2 ∧ r = s.data.toList.dropWhile isD := by
      unfold toldN at hc
      split at hc
      · rename_i h1
        injection hc with hc
        injection hc with _ h3
        exact ⟨h1.1, h1.2, h3.symm⟩
      · cases hc
    obtain ⟨l1, l2, rfl⟩ := hl
    cases hd : s.data.toList.dropWhile isD with
    | nil =>
      rw [hd] at hc hsum
      refine .inl ⟨h, rfl, by simpa using hsum, by simp at hsum; omega, ?_⟩
      unfold hdN; rw [hc]; rfl
    | cons c q =>
      right
      have hk : (s.data.toList.takeWhile isD).length < s.size := by rw [hd] at hsum; simp at hsum; omega
      have hget : s[(s.data.toList.takeWhile isD).length]'hk = c := by
        have e1 := Lib.data_getElem? s _ hk
        have e2 : s.data.toList[(s.data.toList.takeWhile isD).length]? = some c := by
          rw [← List.head?_drop, hdr, hd]; rfl
        rw [e1] at e2
        exact Option.some.inj e2
      rw [hd] at hc
      by_cases h58 : c = 58
      · right
        subst h58
        refine ⟨h, 58 :: q, _, hk, rfl, rfl, l1, l2, by rw [hget]; rfl, ?_⟩
        have e3 : (s.extract ((s.data.toList.takeWhile isD).length + 1) s.size).data.toList = q := by
          rw [ByteArray.data_extract, Array.toList_extract, List.extract_eq_take_drop]
          have : s.data.toList.drop ((s.data.toList.takeWhile isD).length + 1) = q := by
            rw [← List.drop_drop, hdr, hd]; rfl
          rw [this, List.take_of_length_le]
          rw [hd] at hsum; simp at hsum; omega
        rw [e3]
        unfold hdN; rw [hc]; simp [afterC]
      · left
        refine ⟨h, c :: q, _, hk, rfl, rfl, l1, ?_, ?_⟩
        · rw [hget]
          intro e
          exact h58 (UInt8.toNat_inj.1 e)
        · unfold hdN; rw [hc]; simp [afterC, h58]
/-- What the document's hour answers. -/
def ClkV (o : Option (Int × Int × Int)) (w : World) (e : Ending) (w' : World) : Prop :=
  ∃ h m x : Int, e = .returned (.tuple #[.int .i64 h, .int .i64 m, .int .i64 x, .bool o.isSome]) ∧ (∀ t, o = some t → t = (h, m, x)) ∧ w = w'

set_option maxHeartbeats 4000000 in
set_option maxRecDepth 100000 in
theorem RefClock_any (s : ByteArray) (hs : s.size ≤ 1048600) (w : World) :
    Calls Tryz.prog 102 #[.string s] w (ClkV (clockP s.data.toList) w) := by
  obtain ⟨o, Ho⟩ : ∃ o, Hid (clockP s.data.toList = o) := ⟨_, Lib.hid rfl⟩
  have HCl := Lib.hid ((clock_hd s.data.toList).symm.trans Ho.out)
  rw [Ho.out]
  have HA := Lib.hid (fun w => RefTold_any s 1 2 (by omega) (by omega) hs w)
  rcases hd_cases s with ⟨h1, h2⟩ | ⟨h, h1, hl, hl0, h2⟩ | ⟨h, r, k, hk, h1, hl, hl0, hc, h2⟩ | ⟨h, r, k, hk, h1, hl, hl0, hl2, hc, h2⟩
  · have hO : o = none := by rw [← HCl.out, h2]
    subst hO
    rw [h1] at HA
    clear h1 h2
    unfold toldV at HA
    go_enter Tryz.func102, Tryz.ntmps102
    go_wp2_with fail
    refine (HA.out _).mono ?_
    rintro e w' ⟨rfl, rfl⟩
    go_wp2
    refine bodyPost_ret (results_tmp4 rfl _ _ _) rfl ?_
    exact ⟨_, _, _, rfl, (fun _ h => by cases h), rfl⟩
  · have hO : o = none := by rw [← HCl.out, h2]
    subst hO
    rw [h1] at HA
    rw [hl] at HA
    have g0 : ((s.size : Int) == 0) = false := beq_eq_false_iff_ne.2 (by omega)
    have g1 : ((s.size : Int) == (s.size : Int)) = true := beq_iff_eq.2 rfl
    clear h1 h2 hl
    unfold toldV at HA
    go_enter Tryz.func102, Tryz.ntmps102
    go_wp2_with fail
    refine (HA.out _).mono ?_
    rintro e w' ⟨rfl, rfl⟩
    go_wp2
    refine bodyPost_ret (results_tmp4 rfl _ _ _) rfl ?_
    exact ⟨_, _, _, rfl, (fun _ h => by cases h), rfl⟩
  · have hO : o = none := by rw [← HCl.out, h2]
    subst hO
    rw [h1] at HA
    rw [hl] at HA
    have g0 : ((k : Int) == 0) = false := beq_eq_false_iff_ne.2 (by omega)
    have g1 : ((k : Int) == (s.size : Int)) = false := beq_eq_false_iff_ne.2 (by omega)
    have hkI : (k : Int) < (s.size : Int) := by omega
    obtain ⟨c, Hc⟩ : ∃ c : UInt8, s[k]'hk = c := ⟨_, rfl⟩
    rw [Hc] at hc
    have g2 : ((c.toNat : Int) != 58) = true := bne_iff_ne.2 (by omega)
    clear h1 h2 hl hc
    unfold toldV at HA
    go_enter Tryz.func102, Tryz.ntmps102
    go_wp2_with fail
    refine (HA.out _).mono ?_
    rintro e w' ⟨rfl, rfl⟩
    go_wp2
    refine bodyPost_ret (results_tmp4 rfl _ _ _) rfl ?_
    exact ⟨_, _, _, rfl, (fun _ h => by cases h), rfl⟩
  · rw [h1] at HA
    rw [hl] at HA
    have g0 : ((k : Int) == 0) = false := beq_eq_false_iff_ne.2 (by omega)
    have g1 : ((k : Int) == (s.size : Int)) = false := beq_eq_false_iff_ne.2 (by omega)
    have hkI : (k : Int) < (s.size : Int) := by omega
    obtain ⟨c, Hc⟩ : ∃ c : UInt8, s[k]'hk = c := ⟨_, rfl⟩
    rw [Hc] at hc
    have g2 : ((c.toNat : Int) != 58) = false := bne_eq_false_iff_eq.2 (by omega)
    obtain ⟨s1, Hs1⟩ : ∃ s1, s.extract (k + 1) s.size = s1 := ⟨_, rfl⟩
    rw [Hs1] at h2
    have hz1 : s1.size ≤ 1048600 := by rw [← Hs1, ByteArray.size_extract]; omega
    have hk1 : (k : Int) + 1 ≤ (s.size : Int) := by omega
    have hk2 : ((k : Int) + 1).toNat = k + 1 := by omega
    have HCl2 := HCl.out
    rw [h2] at HCl2
    simp only at HCl2
    have HD := Lib.hid HCl2
    have HB := Lib.hid (fun w => RefTold_any s1 1 2 (by omega) (by omega) hz1 w)
    clear h1 h2 hl hc HCl HCl2
    unfold toldV at HA
    rcases hd_cases s1 with ⟨h1, h2⟩ | ⟨h', h1, hl, hl0', h2⟩ | ⟨h', r', k', hk', h1, hl, hl0', hc, h2⟩ | ⟨h', r', k', hk', h1, hl, hl0', hl2', hc, h2⟩
    · have hO : o = none := by rw [← HD.out, h2]
      subst hO
      rw [h1] at HB
      clear h1 h2
      unfold toldV at HB
      go_enter Tryz.func102, Tryz.ntmps102
      go_wp2_with fail
      refine (HA.out _).mono ?_
      rintro e w' ⟨rfl, rfl⟩
      go_wp2_with fail
      refine (HB.out _).mono ?_
      rintro e w' ⟨rfl, rfl⟩
      go_wp2
      refine bodyPost_ret (results_tmp4 rfl _ _ _) rfl ?_
      exact ⟨_, _, _, rfl, (fun _ h => by cases h), rfl⟩
    · have hO : o = none := by rw [← HD.out, h2]
      subst hO
      rw [h1] at HB
      rw [hl] at HB
      have g0' : ((s1.size : Int) == 0) = false := beq_eq_false_iff_ne.2 (by omega)
      have g1' : ((s1.size : Int) == (s1.size : Int)) = true := beq_iff_eq.2 rfl
      clear h1 h2 hl
      unfold toldV at HB
      go_enter Tryz.func102, Tryz.ntmps102
      go_wp2_with fail
      refine (HA.out _).mono ?_
      rintro e w' ⟨rfl, rfl⟩
      go_wp2_with fail
      refine (HB.out _).mono ?_
      rintro e w' ⟨rfl, rfl⟩
      go_wp2
      refine bodyPost_ret (results_tmp4 rfl _ _ _) rfl ?_
      exact ⟨_, _, _, rfl, (fun _ h => by cases h), rfl⟩
    · have hO : o = none := by rw [← HD.out, h2]
      subst hO
      rw [h1] at HB
      rw [hl] at HB
      have g0' : ((k' : Int) == 0) = false := beq_eq_false_iff_ne.2 (by omega)
      have g1' : ((k' : Int) == (s1.size : Int)) = false := beq_eq_false_iff_ne.2 (by omega)
      have hkI' : (k' : Int) < (s1.size : Int) := by omega
      obtain ⟨c', Hc'⟩ : ∃ c : UInt8, s1[k']'hk' = c := ⟨_, rfl⟩
      rw [Hc'] at hc
      have g2' : ((c'.toNat : Int) != 58) = true := bne_iff_ne.2 (by omega)
      clear h1 h2 hl hc
      unfold toldV at HB
      go_enter Tryz.func102, Tryz.ntmps102
      go_wp2_with fail
      refine (HA.out _).mono ?_
      rintro e w' ⟨rfl, rfl⟩
      go_wp2_with fail
      refine (HB.out _).mono ?_
      rintro e w' ⟨rfl, rfl⟩
      go_wp2
      refine bodyPost_ret (results_tmp4 rfl _ _ _) rfl ?_
      exact ⟨_, _, _, rfl, (fun _ h => by cases h), rfl⟩
    · rw [h1] at HB
      rw [hl] at HB
      have g0' : ((k' : Int) == 0) = false := beq_eq_false_iff_ne.2 (by omega)
      have g1' : ((k' : Int) == (s1.size : Int)) = false := beq_eq_false_iff_ne.2 (by omega)
      have hkI' : (k' : Int) < (s1.size : Int) := by omega
      obtain ⟨c', Hc'⟩ : ∃ c : UInt8, s1[k']'hk' = c := ⟨_, rfl⟩
      rw [Hc'] at hc
      have g2' : ((c'.toNat : Int) != 58) = false := bne_eq_false_iff_eq.2 (by omega)
      obtain ⟨s2, Hs2⟩ : ∃ s2, s1.extract (k' + 1) s1.size = s2 := ⟨_, rfl⟩
      rw [Hs2] at h2
      have hz2 : s2.size ≤ 1048600 := by rw [← Hs2, ByteArray.size_extract]; omega
      have hk1' : (k' : Int) + 1 ≤ (s1.size : Int) := by omega
      have hk2' : ((k' : Int) + 1).toNat = k' + 1 := by omega
      have HD2 := HD.out
      rw [h2] at HD2
      simp only at HD2
      have HE := Lib.hid HD2
      have HC := Lib.hid (fun w => RefTold_any s2 1 2 (by omega) (by omega) hz2 w)
      clear h1 h2 hl hc HD HD2
      unfold toldV at HB
      obtain ⟨k3, Hk3⟩ : ∃ k3, Hid ((s2.data.toList.takeWhile isD).length = k3) := ⟨_, Lib.hid rfl⟩
      rw [Hk3.out] at HC
      cases h3 : toldN 1 2 s2.data.toList with
      | none =>
        have hO : o = none := by rw [← HE.out, h3]
        subst hO
        rw [h3] at HC
        clear h3
        unfold toldV at HC
        go_enter Tryz.func102, Tryz.ntmps102
        go_wp2_with fail
        refine (HA.out _).mono ?_
        rintro e w' ⟨rfl, rfl⟩
        go_wp2_with fail
        refine (HB.out _).mono ?_
        rintro e w' ⟨rfl, rfl⟩
        go_wp2_with fail
        refine (HC.out _).mono ?_
        rintro e w' ⟨rfl, rfl⟩
        go_wp2
        refine bodyPost_ret (results_tmp4 rfl _ _ _) rfl ?_
        exact ⟨_, _, _, rfl, (fun _ h => by cases h), rfl⟩
      | some x =>
        obtain ⟨x, r3⟩ := x
        have hO : o = some (h, h', x) := by rw [← HE.out, h3]
        subst hO
        have hk3 : 1 ≤ k3 := by
          rw [← Hk3.out]
          unfold toldN at h3
          split at h3
          · rename_i hx; exact hx.1
          · cases h3
        rw [h3] at HC
        have hk3I : (0 : Int) < (k3 : Int) := by omega
        clear h3
        unfold toldV at HC
        go_enter Tryz.func102, Tryz.ntmps102
        go_wp2_with fail
        refine (HA.out _).mono ?_
        rintro e w' ⟨rfl, rfl⟩
        go_wp2_with fail
        refine (HB.out _).mono ?_
        rintro e w' ⟨rfl, rfl⟩
        go_wp2_with fail
        refine (HC.out _).mono ?_
        rintro e w' ⟨rfl, rfl⟩
        go_wp2
        refine bodyPost_ret (results_tmp4 rfl _ _ _) rfl ?_
        refine ⟨h, h', x, ?_, (fun t ht => by injection ht with ht; exact ht.symm), rfl⟩
        have hd : decide (0 < k3) = true := decide_eq_true (by omega)
        rw [hd]; rfl

end Go.Proofs.YtblofndehbagnaaGreatDoor
