/-
  Package sts, the document's side: a text in quotes, an age.
-/
import Derived.Test.YthffgnlebljkcaaDoorTdN
import Derived.Test.YthffgnlebljkcaaDoorBase
import Derived.Test.YthffgnlebljkcaaDoorRefT
import Derived.Test.YthffgnlebljkcaaDoorRefL
import Derived.Test.YthffgnlebljkcaaDoorRefTr
namespace Go.Proofs.YthffgnlebljkcaaDoor
open Go.RowKit Go.Lib

set_option maxHeartbeats 1000000 in
theorem RefControl_any (c : UInt8) (w : World) : Calls Tryd.prog 51 #[.int .u8 (c.toNat : Int)] w fun e w' => e = .returned (.bool (!okQ c)) ∧ w = w' := by
  have hb : (c.toNat : Int) < 256 := by have := c.toNat_lt; omega
  by_cases h9 : c.toNat = 9
  · have e0 : okQ c = true := by unfold okQ; rw [h9]; rfl
    rw [e0, h9]
    go_enter Tryd.func51, Tryd.ntmps51
    go_wp2
    go_ret
    exact ⟨rfl, rfl⟩
  · have n9 : ((c.toNat : Int) != 9) = true := bne_iff_ne.2 (by omega)
    by_cases h32 : c.toNat < 32
    · have e0 : okQ c = false := by simp [okQ]; omega
      have e1 : decide ((c.toNat : Int) < 32) = true := decide_eq_true (by omega)
      have i1 : (c.toNat : Int) < 32 := by omega
      rw [e0]
      clear h9 h32
      go_enter Tryd.func51, Tryd.ntmps51
      go_wp2
      go_ret
      exact ⟨rfl, rfl⟩
    · have e1 : decide ((c.toNat : Int) < 32) = false := decide_eq_false (by omega)
      have i1 : ¬ (c.toNat : Int) < 32 := by omega
      by_cases h127 : c.toNat = 127
      · have e0 : okQ c = false := by simp [okQ]; omega
        have e2 : ((c.toNat : Int) == 127) = true := by rw [h127]; rfl
        rw [e0]
        clear h9 h32 h127
        go_enter Tryd.func51, Tryd.ntmps51
        go_wp2
        go_ret
        exact ⟨rfl, rfl⟩
      · have e0 : okQ c = true := by simp [okQ]; omega
        have e2 : ((c.toNat : Int) == 127) = false := beq_eq_false_iff_ne.2 (by omega)
        rw [e0]
        clear h9 h32 h127
        go_enter Tryd.func51, Tryd.ntmps51
        go_wp2
        go_ret
        exact ⟨rfl, rfl⟩
/-- What the document's count leaves. -/
def CntP (w : World) (o : Option Int) (e : Ending) (w' : World) : Prop :=
  ∃ n, e = .returned (.tuple #[.int .i64 n, .bool o.isSome]) ∧ (∀ a, o = some a → n = a) ∧ (-9223372036854775808 ≤ n ∧ n ≤ 9223372036854775807) ∧ w = w'
set_option maxRecDepth 100000 in
set_option maxHeartbeats 2000000 in
theorem RefCount_any (l : List UInt8) (w : World) (hl : l.length ≤ 65536) : Calls Tryd.prog 25 #[.string (asB l)] w (CntP w (ageD l)) := by
  obtain ⟨S, HS⟩ : ∃ S, Hid (asB l = S) := ⟨_, Lib.hid rfl⟩
  have hz : S.size = l.length := by rw [← HS.out, asB_size]
  have HZ := Lib.hid hz
  have hN := asB_nil l
  rw [HS.out] at hN ⊢
  have HA : Hid (ageD l = if l = [] ∨ allR 48 57 l = false then none else some (capN l)) := Lib.hid rfl
  obtain ⟨O, HO⟩ : ∃ O, Hid (ageD l = O) := ⟨_, Lib.hid rfl⟩
  rw [HO.out] at HA ⊢
  have HD := Lib.hid fun (c : Int) (w : World) => Digit_any c w
  have hs16 : (S.size : Int) ≤ 65536 := by omega
  have HSl := HS
  clear hl hz
  go_enter Tryd.func25, Tryd.ntmps25
  go_wp2
  go_loopw [4, 5] (fun a i wr => ∃ k : Nat, k ≤ S.size ∧ i = .int .i64 (k : Int) ∧ a = .int .i64 (capN (l.take k)) ∧ Hid (allR 48 57 (l.take k) = true) ∧ w = wr) (fun _ i _ => S.size - (intOf i).toNat)
  case atStart => exact ⟨0, Nat.zero_le _, rfl, rfl, Lib.hid rfl, rfl⟩
  case round =>
    obtain ⟨k, hk, rfl, rfl, HT, rfl⟩ := hrel
    by_cases hlt : k < S.size
    · obtain ⟨c, hx⟩ : ∃ c : UInt8, S[k]'hlt = c := ⟨_, rfl⟩
      have hc : l[k]? = some c := by
        have := Lib.data_getElem? S k hlt
        rw [hx, ← HSl.out] at this
        exact this
      have HTk : Hid (l.take (k + 1) = l.take k ++ [c]) := Lib.hid (by rw [List.take_add_one, hc]; rfl)
      have p1 : (k : Int) < (S.size : Int) := by omega
      obtain ⟨a0, a1⟩ := capN_bd _ HT.out
      obtain ⟨A, hA⟩ : ∃ A, capN (l.take k) = A := ⟨_, rfl⟩
      rw [hA] at a0 a1
      have HAc := Lib.hid hA
      rw [hA]
      have HDc := Lib.hid (HD.out (c.toNat : Int) w)
      cases hq : inR 48 57 c.toNat with
      | false =>
        have HOn : Hid (O = none) := Lib.hid (by
          have : allR 48 57 l = false := by
            cases hx : allR 48 57 l with
            | false => rfl
            | true =>
              unfold allR at hx
              have := List.all_eq_true.1 hx c (List.mem_of_getElem? hc)
              rw [hq] at this; cases this
          rw [HA.out, if_pos (.inr this)])
        rw [hq] at HDc
        clear hq hc hA
        go_wp2_with fail
        refine HDc.out.mono ?_
        rintro e w5 ⟨rfl, rfl⟩
        go_wp2
        go_ret2
        rw [HOn.out]
        exact ⟨0, rfl, fun _ h => (by cases h), by decide, rfl⟩
      | true =>
        have d3 : 48 ≤ (c.toNat : Int) ∧ (c.toNat : Int) ≤ 57 := by
          have := hq
          simp [inR] at this
          omega
        have w8 : IntKind.u8.wrap ((c.toNat : Int) - 48) = (c.toNat : Int) - 48 := by rw [IntKind.wrap_u8]; omega
        have HCap : Hid (capN (l.take (k + 1)) = min 2147483647 (10 * A + ((c.toNat : Int) - 48))) := Lib.hid (by rw [HTk.out, capN_snoc, capF, HAc.out]; omega)
        have HTn : Hid (allR 48 57 (l.take (k + 1)) = true) := Lib.hid (by rw [HTk.out, allR_snoc, HT.out, hq]; rfl)
        rw [hq] at HDc
        obtain ⟨d3, d4⟩ := d3
        clear hq hc hA
        go_wp2_with fail
        refine HDc.out.mono ?_
        rintro e w5 ⟨rfl, rfl⟩
        go_wp2
        refine ⟨⟨k + 1, by omega, by go_num, by rw [HCap.out], HTn, trivial⟩, ?_⟩
        show S.size - ((k : Int) + 1).toNat < S.size - ((k : Int)).toNat
        omega
    · have hk' : k = l.length := by have := HZ.out; omega
      have HE : Hid (l.take k = l) := Lib.hid (by rw [hk', List.take_length])
      have ha := HT.out
      rw [HE.out] at ha ⊢
      obtain ⟨b0, b1⟩ := capN_bd l ha
      by_cases h0 : l = []
      · rw [decide_eq_true h0] at hN
        have HOn : Hid (O = none) := Lib.hid (by rw [HA.out, if_pos (.inl h0)])
        clear hk' h0 ha
        go_wp2
        go_ret2
        rw [HOn.out]
        exact ⟨_, rfl, fun _ h => (by cases h), ⟨by omega, by omega⟩, rfl⟩
      · rw [decide_eq_false h0] at hN
        have HOn : Hid (O = some (capN l)) := Lib.hid (by rw [HA.out, if_neg (by rw [ha]; simp [h0])])
        clear hk' h0 ha
        go_wp2
        go_ret2
        rw [HOn.out]
        exact ⟨_, rfl, fun a h => (by injection h), ⟨by omega, by omega⟩, rfl⟩
/-- What the document's quoted leaves. -/
def QuoP (w : World) (o : Option (List UInt8)) (e : Ending) (w' : World) : Prop :=
  ∃ v, e = .returned (.tuple #[.string v, .bool o.isSome]) ∧ v.size ≤ 65536 ∧ (∀ t, o = some t → v = asB t) ∧ Below w.heap.size w w'
theorem rqD_step {v : List UInt8} {k : Nat} {c : UInt8} (h : v[k]? = some c) : v.drop k = c :: v.drop (k + 1) := by
  obtain ⟨hk, hc⟩ := List.getElem?_eq_some_iff.1 h
  rw [List.drop_eq_getElem_cons hk, hc]
set_option maxRecDepth 100000 in
set_option maxHeartbeats 4000000 in
theorem RefQuoted_any (l : List UInt8) (w : World) (hl : l.length ≤ 65536) : Calls Tryd.prog 41 #[.string (asB l)] w (QuoP w (rqV l)) := by
  obtain ⟨S, HS⟩ : ∃ S, Hid (asB l = S) := ⟨_, Lib.hid rfl⟩
  have hz : S.size = l.length := by rw [← HS.out, asB_size]
  rw [HS.out]
  obtain ⟨O, HO⟩ : ∃ O, Hid (rqV l = O) := ⟨_, Lib.hid rfl⟩
  rw [HO.out]
  have hs16 : (S.size : Int) ≤ 65536 := by omega
  by_cases h2 : l.length < 2
  · have HOn : Hid (O = none) := Lib.hid (by
      rw [← HO.out]
      unfold rqV
      split
      · rename_i hh
        cases l with
        | nil => cases hh
        | cons c r =>
          have : r = [] := List.eq_nil_of_length_eq_zero (by simp at h2; omega)
          subst this; rfl
      · rfl)
    have i2 : (S.size : Int) < 2 := by omega
    have e2 : decide ((S.size : Int) < 2) = true := decide_eq_true i2
    clear h2 hl hz
    go_enter Tryd.func41, Tryd.ntmps41
    go_wp2
    go_ret2
    rw [HOn.out]
    exact ⟨_, rfl, (by decide), fun _ h => (by cases h), Below.refl _ _⟩
  · have i2 : ¬ (S.size : Int) < 2 := by omega
    have e2 : decide ((S.size : Int) < 2) = false := decide_eq_false i2
    have h0 : 0 < S.size := by omega
    obtain ⟨c0, hx0⟩ : ∃ c : UInt8, S[0]'h0 = c := ⟨_, rfl⟩
    have hc0 : l[0]? = some c0 := by
      have := Lib.data_getElem? S 0 h0
      rw [hx0, ← HS.out] at this
      exact this
    have hhd : l.head? = some c0 := by rw [← hc0]; cases l <;> rfl
    have p0 : (0 : Int) < (S.size : Int) := by omega
    by_cases h34 : c0.toNat = 34
    · have hc34 : c0 = 34 := by have := UInt8.ofNat_toNat (x := c0); rw [h34] at this; rw [← this]; rfl
      have e34 : ((c0.toNat : Int) != 34) = false := by rw [h34]; rfl
      have HR : Hid (rqD (l.drop 1) [] = O) := Lib.hid (by rw [← HO.out]; unfold rqV; rw [hhd, hc34, if_pos rfl])
      have HZ := Lib.hid hz
      have HLl := Lib.hid hl
      have HL2 : Hid (2 ≤ l.length) := Lib.hid (by omega)
      have HC := Lib.hid fun (c : UInt8) (w : World) => RefControl_any c w
      clear h2 hl hz hc0 hhd h34 hc34
      go_enter Tryd.func41, Tryd.ntmps41
      go_wp2
      go_loopw [4, 5] (fun v i wr => ∃ (k : Nat) (a : List UInt8), k ≤ S.size ∧ i = .int .i64 (k : Int) ∧ Hid (1 ≤ k) ∧ Hid (wr.ownsRow w.heap.size 5 1 v a.length (a.map pc_bv)) ∧ Hid (rqD (l.drop k) a = O) ∧ Hid (Below w.heap.size w wr) ∧ Hid (a.length ≤ k)) (fun _ i _ => S.size - (intOf i).toNat)
      case atStart => exact ⟨1, [], by have := HZ.out; have := HL2.out; omega, rfl, Lib.hid (Nat.le_refl _), Lib.hid (World.ownsRow_nil ..), HR, Lib.hid (Below.refl _ _), Lib.hid (by simp)⟩
      case round =>
        obtain ⟨k, a, hk, rfl, H1, HOw, HQ, HB, HAl⟩ := hrel
        by_cases hlt : k < S.size
        · obtain ⟨c, hx⟩ : ∃ c : UInt8, S[k]'hlt = c := ⟨_, rfl⟩
          have hc : l[k]? = some c := by
            have := Lib.data_getElem? S k hlt
            rw [hx, ← HS.out] at this
            exact this
          have HDr := Lib.hid (rqD_step hc)
          have p1 : (k : Int) < (S.size : Int) := by omega
          have hcv := pc_bytes_back _ _ _ _ HOw.out
          have hab : (⟨a.toArray⟩ : ByteArray).size ≤ 65536 := by
            have h1 := HAl.out
            have h2 := HZ.out
            have h3 := HLl.out
            show a.length ≤ 65536
            omega
          by_cases q34 : c.toNat = 34
          · have e1 : ((c.toNat : Int) == 34) = true := by rw [q34]; rfl
            have hcc : c = 34 := by have := UInt8.ofNat_toNat (x := c); rw [q34] at this; rw [← this]; rfl
            have HQ2 : Hid (O = if l.drop (k + 1) = [] then some a else none) := Lib.hid (by
              rw [← HQ.out, HDr.out, hcc]
              conv => { lhs; unfold rqD }
              rw [if_pos rfl])
            by_cases hend : k + 1 = l.length
            · have HO3 : Hid (O = some a) := Lib.hid (by rw [HQ2.out, if_pos (List.drop_of_length_le (by omega))])
              have e3 : ((k : Int) == (S.size : Int) - 1) = true := beq_iff_eq.2 (by have := HZ.out; omega)
              clear q34 hcc hend hc
              go_wp2
              go_ret2
              rw [HO3.out]
              exact ⟨_, rfl, hab, fun t h => by injection h with h; rw [← h]; rfl, HB.out⟩
            · have HO3 : Hid (O = none) := Lib.hid (by
                rw [HQ2.out, if_neg]
                intro h
                have := congrArg List.length h
                rw [List.length_drop] at this
                have h5 := HZ.out
                simp at this; omega)
              have e3 : ((k : Int) == (S.size : Int) - 1) = false := beq_eq_false_iff_ne.2 (by have := HZ.out; omega)
              clear q34 hcc hend hc
              go_wp2
              go_ret2
              rw [HO3.out]
              exact ⟨_, rfl, hab, fun t h => (by cases h), HB.out⟩
          · have e1 : ((c.toNat : Int) == 34) = false := beq_eq_false_iff_ne.2 (by omega)
            have hc34 : c ≠ 34 := fun e => q34 (by rw [e]; rfl)
            by_cases q92 : c.toNat = 92
            · have e5 : ((c.toNat : Int) == 92) = true := by rw [q92]; rfl
              have hcc : c = 92 := by have := UInt8.ofNat_toNat (x := c); rw [q92] at this; rw [← this]; rfl
              by_cases hend : k + 1 < S.size
              · obtain ⟨d, hxd⟩ : ∃ d : UInt8, S[k + 1]'hend = d := ⟨_, rfl⟩
                have hd : l[k + 1]? = some d := by
                  have := Lib.data_getElem? S (k + 1) hend
                  rw [hxd, ← HS.out] at this
                  exact this
                have HDr2 := Lib.hid (rqD_step hd)
                have HQ2 : Hid (O = if okQ d then rqD (l.drop (k + 2)) (a ++ [d]) else none) := Lib.hid (by
                  rw [← HQ.out, HDr.out, hcc, HDr2.out]
                  conv => { lhs; unfold rqD }
                  rw [if_neg (by decide), if_pos rfl])
                have p2 : (k : Int) + 1 < (S.size : Int) := by omega
                have p3 : ((k : Int) + 1 == (S.size : Int)) = false := beq_eq_false_iff_ne.2 (by omega)
                have HCd := Lib.hid (HC.out d wr)
                clear q34 hcc hc q92 hc34 hd
                cases hq : okQ d with
                | false =>
                  rw [hq] at HCd HQ2
                  have HO3 : Hid (O = none) := HQ2
                  clear hq
                  go_wp2_with fail
                  refine HCd.out.mono ?_
                  rintro e w5 ⟨rfl, rfl⟩
                  go_wp2
                  go_ret2
                  rw [HO3.out]
                  exact ⟨_, rfl, (by decide), fun t h => (by cases h), HB.out⟩
                | true =>
                  rw [hq] at HCd HQ2
                  have HO3 : Hid (O = rqD (l.drop (k + 2)) (a ++ [d])) := HQ2
                  clear hq
                  obtain ⟨v', w4, r1, r2, r3⟩ := pc_appB w.heap.size u4 (a.map pc_bv) #[.int .u8 (d.toNat : Int)] wr w (by rw [List.length_map]; exact HOw.out) (by rw [List.length_map]; have := HAl.out; have := HLl.out; have := HZ.out; show a.length + 1 ≤ _; omega) (by intro u hu; simp at hu; rw [hu]; rfl) HB.out.size HB.out
                  have HRun := Lib.hid r1
                  have HO4 : Hid (w4.ownsRow w.heap.size 5 1 v' (a ++ [d]).length ((a ++ [d]).map pc_bv)) := Lib.hid (by
                    rw [List.map_append, List.length_append]
                    rw [List.length_append, List.length_map] at r2
                    exact r2)
                  have HB4 := Lib.hid r3
                  clear r1 r2 r3 hcv
                  go_wp2_with fail
                  refine HCd.out.mono ?_
                  rintro e w5 ⟨rfl, rfl⟩
                  go_wp2_with (at_builtin; refine Lib.wpList_append_run _ rfl _ _ _ _ rfl _ _ rfl rfl _ _ HRun.out ?_)
                  go_roundw
                  case rel => exact ⟨k + 2, a ++ [d], by omega, by go_num, Lib.hid (by omega), HO4, Lib.hid HO3.out.symm, HB4, Lib.hid (by have := HAl.out; simp; omega)⟩
                  case measure => simp [intOf]; omega
              · have HO3 : Hid (O = none) := Lib.hid (by
                  rw [← HQ.out, HDr.out, hcc, List.drop_of_length_le (show l.length ≤ k + 1 by have := HZ.out; omega)]
                  rfl)
                have p3 : ((k : Int) + 1 == (S.size : Int)) = true := beq_iff_eq.2 (by omega)
                clear q34 hcc hend hc q92 hc34
                go_wp2
                go_ret2
                rw [HO3.out]
                exact ⟨_, rfl, (by decide), fun t h => (by cases h), HB.out⟩
            · have e5 : ((c.toNat : Int) == 92) = false := beq_eq_false_iff_ne.2 (by omega)
              have hc92 : c ≠ 92 := fun e => q92 (by rw [e]; rfl)
              have HQ2 : Hid (O = if okQ c then rqD (l.drop (k + 1)) (a ++ [c]) else none) := Lib.hid (by
                rw [← HQ.out, HDr.out]
                conv => { lhs; unfold rqD }
                rw [if_neg hc34, if_neg hc92])
              have p3 : ((k : Int) == (S.size : Int)) = false := beq_eq_false_iff_ne.2 (by omega)
              have HCd := Lib.hid (HC.out c wr)
              clear q34 hc q92 hc34 hc92
              cases hq : okQ c with
              | false =>
                rw [hq] at HCd HQ2
                have HO3 : Hid (O = none) := HQ2
                clear hq
                go_wp2_with fail
                refine HCd.out.mono ?_
                rintro e w5 ⟨rfl, rfl⟩
                go_wp2
                go_ret2
                rw [HO3.out]
                exact ⟨_, rfl, (by decide), fun t h => (by cases h), HB.out⟩
              | true =>
                rw [hq] at HCd HQ2
                have HO3 : Hid (O = rqD (l.drop (k + 1)) (a ++ [c])) := HQ2
                clear hq
                obtain ⟨v', w4, r1, r2, r3⟩ := pc_appB w.heap.size u4 (a.map pc_bv) #[.int .u8 (c.toNat : Int)] wr w (by rw [List.length_map]; exact HOw.out) (by rw [List.length_map]; have := HAl.out; have := HLl.out; have := HZ.out; show a.length + 1 ≤ _; omega) (by intro u hu; simp at hu; rw [hu]; rfl) HB.out.size HB.out
                have HRun := Lib.hid r1
                have HO4 : Hid (w4.ownsRow w.heap.size 5 1 v' (a ++ [c]).length ((a ++ [c]).map pc_bv)) := Lib.hid (by
                  rw [List.map_append, List.length_append]
                  rw [List.length_append, List.length_map] at r2
                  exact r2)
                have HB4 := Lib.hid r3
                clear r1 r2 r3 hcv
                go_wp2_with fail
                refine HCd.out.mono ?_
                rintro e w5 ⟨rfl, rfl⟩
                go_wp2_with (at_builtin; refine Lib.wpList_append_run _ rfl _ _ _ _ rfl _ _ rfl rfl _ _ HRun.out ?_)
                go_roundw
                case rel => exact ⟨k + 1, a ++ [c], by omega, by go_num, Lib.hid (by omega), HO4, Lib.hid HO3.out.symm, HB4, Lib.hid (by have := HAl.out; simp; omega)⟩
                case measure => simp [intOf]; omega
        · have HO3 : Hid (O = none) := Lib.hid (by
            rw [← HQ.out, List.drop_of_length_le (by have := HZ.out; omega)]
            rfl)
          go_wp2
          go_ret2
          rw [HO3.out]
          exact ⟨_, rfl, (by decide), fun t h => (by cases h), HB.out⟩
    · have e34 : ((c0.toNat : Int) != 34) = true := bne_iff_ne.2 (by omega)
      have HOn : Hid (O = none) := Lib.hid (by
        rw [← HO.out]
        unfold rqV
        rw [hhd, if_neg]
        intro e
        injection e with e
        exact h34 (by rw [e]; rfl))
      clear h2 hl hz hc0 hhd h34
      go_enter Tryd.func41, Tryd.ntmps41
      go_wp2
      go_ret2
      rw [HOn.out]
      exact ⟨_, rfl, (by decide), fun _ h => (by cases h), Below.refl _ _⟩

end Go.Proofs.YthffgnlebljkcaaDoor
