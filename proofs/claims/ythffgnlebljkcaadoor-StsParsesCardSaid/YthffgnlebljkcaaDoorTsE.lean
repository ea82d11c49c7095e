/-
  Package sts: an age; what all directives wish.
-/
import Derived.Test.YthffgnlebljkcaaDoorTsD
namespace Go.Proofs.YthffgnlebljkcaaDoor
open Go.RowKit

theorem digit_yes {c : UInt8} (h : inR 48 57 c.toNat = true) : numB [c] 9 = true ∧ numV [c] 9 = (c.toNat : Int) - 48 := by
  have h1 : allR 48 57 [c] = true := by simp [allR, h]
  have h2 : num [c] = (c.toNat : Int) - 48 := by simp [num]
  have h3 : 48 ≤ (c.toNat : Int) ∧ (c.toNat : Int) ≤ 57 := by
    simp [inR] at h
    omega
  obtain ⟨a, b⟩ := num_yes [c] 9 (by simp) (by simp) h1 (by rw [h2]; omega)
  exact ⟨b, by rw [a, h2]⟩
theorem digit_no {c : UInt8} (h : inR 48 57 c.toNat = false) : numB [c] 9 = false := by
  have h1 : allR 48 57 [c] = false := by simp [allR, h]
  exact (num_no [c] 9 (.inr (.inr (.inl h1)))).2
theorem capN_snoc (l : List UInt8) (c : UInt8) : capN (l ++ [c]) = capF (capN l) c := by simp [capN]
theorem capN_bd : ∀ l : List UInt8, allR 48 57 l = true → 0 ≤ capN l ∧ capN l ≤ 2147483647 := fun l h => by
  rw [capN_num l h]
  have := (num_bd l h).1
  omega
theorem ext_one (l : List UInt8) (k : Nat) (c : UInt8) (h : l[k]? = some c) : ((asB l).extract k (k + 1)).data.toList = [c] := by
  obtain ⟨hk, hc⟩ := List.getElem?_eq_some_iff.1 h
  rw [ByteArray.data_extract, Array.toList_extract, List.extract_eq_take_drop]
  show (l.drop k).take (k + 1 - k) = [c]
  rw [List.drop_eq_getElem_cons hk, hc, Nat.add_sub_cancel_left]
  rfl
/-- What an age leaves. -/
def AgeP (w : World) (o : Option Int) (e : Ending) (w' : World) : Prop :=
  (match o with
    | none => e = stsP
    | some a => e = .returned (.int .i64 a)) ∧ Below w.heap.size w w'
set_option maxRecDepth 100000 in
set_option maxHeartbeats 2000000 in
theorem ageOf_any (l : List UInt8) (w : World) (hl : l.length ≤ 65536) :
    Calls Tryd.prog 37 #[.string (asB l)] w (AgeP w (ageD l)) := by
  have hN := asB_nil l
  by_cases h0 : l = []
  · subst h0
    have HN := Lib.hid (need_no w)
    have hN : ((asB []).toList == []) = true := hN
    go_enter Tryd.func37, Tryd.ntmps37
    go_wp2_with fail
    refine HN.out.mono ?_
    rintro e w4 ⟨rfl, rfl⟩
    exact sts_panic ⟨rfl, Below.refl _ _⟩
  rw [decide_eq_false h0] at hN
  have HA : Hid (ageD l = if allR 48 57 l = false then none else some (capN l)) := Lib.hid (by unfold ageD; simp [h0])
  obtain ⟨O, HO⟩ : ∃ O, Hid (ageD l = O) := ⟨_, Lib.hid rfl⟩
  rw [HO.out] at HA ⊢
  obtain ⟨S, HS⟩ : ∃ S, Hid (asB l = S) := ⟨_, Lib.hid rfl⟩
  have hz : S.size = l.length := by rw [← HS.out, asB_size]
  have HNum : Hid (∀ (k : Nat) (c : UInt8) w, l[k]? = some c → Calls Tryd.prog 49 #[.string (S.extract k (k + 1)), .int .i64 9] w fun e w' => e = .returned (.tuple #[.int .i64 (numV [c] 9), .bool (numB [c] 9)]) ∧ Below w.heap.size w w') := Lib.hid fun k c w h => by
    have h1 := ext_one l k c h
    rw [HS.out] at h1
    have h2 := Number_any (S.extract k (k + 1)) 9 w (by
      have : (S.extract k (k + 1)).data.toList.length = 1 := by rw [h1]; rfl
      rw [lenB] at this
      rw [this]; unfold maxLen; omega)
    rw [h1] at h2
    exact h2
  rw [HS.out] at hN ⊢
  have HY := Lib.hid need_yes
  have HNo := Lib.hid need_no
  have HZ := Lib.hid hz
  have HLl := Lib.hid hl
  have hs16 : (S.size : Int) ≤ 65536 := by omega
  clear h0 hl hz
  go_enter Tryd.func37, Tryd.ntmps37
  go_wp2_with fail
  refine (HY.out w).mono ?_
  rintro e w4 ⟨rfl, rfl⟩
  go_wp2
  go_loopw [3, 4, 5, 6, 12] (fun a _ _ _ i wr => ∃ k : Nat, k ≤ S.size ∧ i = .int .i64 (k : Int) ∧ a = .int .i64 (capN (l.take k)) ∧ Hid (allR 48 57 (l.take k) = true) ∧ Hid (Below w.heap.size w wr)) (fun _ _ _ _ i _ => S.size - (intOf i).toNat)
  case atStart => exact ⟨0, Nat.zero_le _, rfl, rfl, Lib.hid rfl, Lib.hid (Below.refl _ _)⟩
  case round =>
    obtain ⟨k, hk, rfl, rfl, HT, HB⟩ := hrel
    by_cases hlt : k < S.size
    · obtain ⟨c, hc⟩ : ∃ c, l[k]? = some c := ⟨_, List.getElem?_eq_getElem (by have := HZ.out; omega)⟩
      have HTk : Hid (l.take (k + 1) = l.take k ++ [c]) := Lib.hid (by rw [List.take_add_one, hc]; rfl)
      have HC := Lib.hid (HNum.out k c wr hc)
      have p1 : (k : Int) < (S.size : Int) := by omega
      have p2 : (k : Int) + 1 ≤ (S.size : Int) := by omega
      obtain ⟨a0, a1⟩ := capN_bd _ HT.out
      obtain ⟨A, hA⟩ : ∃ A, capN (l.take k) = A := ⟨_, rfl⟩
      rw [hA] at a0 a1
      have HAc := Lib.hid hA
      rw [hA]
      cases hq : inR 48 57 c.toNat with
      | false =>
        rw [digit_no hq] at HC
        have HOn : Hid (O = none) := Lib.hid (by
          have : allR 48 57 l = false := by
            cases hx : allR 48 57 l with
            | false => rfl
            | true =>
              unfold allR at hx
              have := List.all_eq_true.1 hx c (List.mem_of_getElem? hc)
              rw [hq] at this; cases this
          rw [HA.out, if_pos this])
        clear hq hc hA
        go_wp2_with fail
        refine HC.out.mono ?_
        rintro e w5 ⟨rfl, hb⟩
        have HB5 := Lib.hid (HB.out.trans (hb.mono HB.out.size))
        clear hb
        go_wp2_with fail
        refine (HNo.out w5).mono ?_
        rintro e w6 ⟨rfl, rfl⟩
        refine sts_panic (P := Tryd.prog) (f := Tryd.f37) ?_
        rw [HOn.out]
        exact ⟨rfl, HB5.out⟩
      | true =>
        obtain ⟨d1, d2⟩ := digit_yes hq
        rw [d1, d2] at HC
        have d3 : 0 ≤ (c.toNat : Int) - 48 ∧ (c.toNat : Int) - 48 ≤ 9 := by
          have := hq
          simp [inR] at this
          omega
        obtain ⟨D, hD⟩ : ∃ D, (c.toNat : Int) - 48 = D := ⟨_, rfl⟩
        rw [hD] at HC d3
        obtain ⟨d3, d4⟩ := d3
        have HCap : Hid (capN (l.take (k + 1)) = min (A * 10 + D) 2147483647) := Lib.hid (by rw [HTk.out, capN_snoc, capF, HAc.out, hD])
        have HTn : Hid (allR 48 57 (l.take (k + 1)) = true) := Lib.hid (by rw [HTk.out, allR_snoc, HT.out, hq]; rfl)
        clear hq hc hA hD d1 d2
        go_wp2_with fail
        refine HC.out.mono ?_
        rintro e w5 ⟨rfl, hb⟩
        have HB5 := Lib.hid (HB.out.trans (hb.mono HB.out.size))
        clear hb
        go_wp2_with fail
        refine (HY.out w5).mono ?_
        rintro e w6 ⟨rfl, rfl⟩
        go_wp2
        refine ⟨⟨k + 1, by omega, by go_num, by rw [HCap.out], HTn, HB5⟩, ?_⟩
        show S.size - ((k : Int) + 1).toNat < S.size - ((k : Int)).toNat
        omega
    · have hk' : k = l.length := by have := HZ.out; omega
      have HE : Hid (l.take k = l) := Lib.hid (by rw [hk', List.take_length])
      have HOn : Hid (O = some (capN l)) := Lib.hid (by
        have := HT.out
        rw [HE.out] at this
        rw [HA.out, this]; rfl)
      rw [HE.out]
      clear hk'
      go_wp2
      go_ret
      rw [HOn.out]
      exact ⟨rfl, HB.out⟩

end Go.Proofs.YthffgnlebljkcaaDoor
