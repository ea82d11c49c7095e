/-
  Package sts, the document's side: a directive.
-/
import Derived.Test.YthffgnlebljkcaaDoorTdB
namespace Go.Proofs.YthffgnlebljkcaaDoor
open Go.RowKit Go.Lib

theorem isE_at {x : List UInt8} {k : Nat} {c : UInt8} (h : x[k]? = some c) (hk : k < (x.takeWhile isE).length) : isE c = true := by
  have h1 : (x.takeWhile isE)[k]? = some c := by
    have hp : x.takeWhile isE <+: x := List.takeWhile_prefix _
    rw [List.getElem?_eq_getElem hk]
    obtain ⟨t, ht⟩ := hp
    have := congrArg (·[k]?) ht
    simp only [List.getElem?_append_left hk] at this
    rw [List.getElem?_eq_getElem hk, h] at this
    exact this
  exact List.all_eq_true.1 (List.all_takeWhile ..) c (List.mem_of_getElem? h1)
theorem isE_end {x : List UInt8} {c : UInt8} (h : x[(x.takeWhile isE).length]? = some c) : isE c = false ∧ x.dropWhile isE = c :: x.drop ((x.takeWhile isE).length + 1) := by
  have hs := List.takeWhile_append_dropWhile (p := isE) (l := x)
  have hd : x.drop (x.takeWhile isE).length = x.dropWhile isE := by
    have : (x.takeWhile isE ++ x.dropWhile isE).drop (x.takeWhile isE).length = x.dropWhile isE := List.drop_left' rfl
    rwa [hs] at this
  rw [rqD_step h] at hd
  refine ⟨?_, hd.symm⟩
  cases hc : isE c with
  | false => rfl
  | true =>
    have hne : x.dropWhile isE ≠ [] := by rw [← hd]; simp
    have := List.head_dropWhile_not isE hne
    simp [← hd, hc] at this
theorem isE_yes {c : UInt8} (h : isE c = true) : c.toNat ≠ 61 ∧ c.toNat ≠ 34 := by
  unfold isE at h
  simp only [Bool.and_eq_true, Bool.not_eq_true', beq_eq_false_iff_ne] at h
  exact ⟨fun e => h.1 (by have := UInt8.ofNat_toNat (x := c); rw [e] at this; rw [← this]; rfl), fun e => h.2 (by have := UInt8.ofNat_toNat (x := c); rw [e] at this; rw [← this]; rfl)⟩
theorem isE_not {c : UInt8} (h : isE c = false) : c = 61 ∨ c = 34 := by
  unfold isE at h
  rw [Bool.and_eq_false_iff] at h
  simpa using h
set_option maxRecDepth 100000 in
set_option maxHeartbeats 4000000 in
theorem RefDirective_any (x : List UInt8) (w : World) (hl : x.length ≤ 65536) : Calls Tryd.prog 24 #[.string (asB x)] w (DirR w (refD x)) := by
  obtain ⟨S, HS⟩ : ∃ S, Hid (asB x = S) := ⟨_, Lib.hid rfl⟩
  have hz : S.size = x.length := by rw [← HS.out, asB_size]
  rw [HS.out]
  obtain ⟨O, HO⟩ : ∃ O, Hid (refD x = O) := ⟨_, Lib.hid rfl⟩
  rw [HO.out]
  have HZ := Lib.hid hz
  have HLl := Lib.hid hl
  have hs16 : (S.size : Int) ≤ 65536 := by omega
  obtain ⟨N, HNN⟩ : ∃ N, Hid ((x.takeWhile isE).length = N) := ⟨_, Lib.hid rfl⟩
  have hNl : N ≤ S.size := by
    have := (List.takeWhile_prefix (l := x) isE).length_le
    rw [HNN.out] at this; omega
  have HLx := Lib.hid fun w => RefLower_any S w (by unfold maxLen; omega)
  have HTx := Lib.hid fun w => RefToken_any S w (by unfold maxLen; omega)
  clear hl hz
  go_enter Tryd.func24, Tryd.ntmps24
  go_wp2
  go_loopw [6] (fun i wr => ∃ k : Nat, k ≤ N ∧ i = .int .i64 (k : Int) ∧ w = wr) (fun i _ => S.size - (intOf i).toNat)
  case atStart => exact ⟨0, Nat.zero_le _, rfl, rfl⟩
  case round =>
    obtain ⟨k, hk, rfl, rfl⟩ := hrel
    by_cases hkN : k < N
    · have hlt : k < S.size := by omega
      obtain ⟨c, hx⟩ : ∃ c : UInt8, S[k]'hlt = c := ⟨_, rfl⟩
      have hc : x[k]? = some c := by
        have := Lib.data_getElem? S k hlt
        rw [hx, ← HS.out] at this
        exact this
      obtain ⟨n1, n2⟩ := isE_yes (isE_at hc (by rw [HNN.out]; exact hkN))
      have p1 : (k : Int) < (S.size : Int) := by omega
      have p2 : decide ((k : Int) < (S.size : Int)) = true := decide_eq_true p1
      have e1 : ((c.toNat : Int) != 61) = true := bne_iff_ne.2 (by omega)
      have e2 : ((c.toNat : Int) != 34) = true := bne_iff_ne.2 (by omega)
      clear n1 n2 hc
      go_wp2
      go_roundw
      case rel => exact ⟨k + 1, by omega, by go_num, trivial⟩
      case measure => simp [intOf]; omega
    · obtain rfl : k = N := by omega
      by_cases hlt : k < S.size
      · obtain ⟨c, hx⟩ : ∃ c : UInt8, S[k]'hlt = c := ⟨_, rfl⟩
        have hc : x[k]? = some c := by
          have := Lib.data_getElem? S k hlt
          rw [hx, ← HS.out] at this
          exact this
        obtain ⟨q1, q2⟩ := isE_end (by rw [HNN.out]; exact hc)
        rw [HNN.out] at q2
        have p1 : (k : Int) < (S.size : Int) := by omega
        have p2 : decide ((k : Int) < (S.size : Int)) = true := decide_eq_true p1
        have p3 : ((k : Int) == (S.size : Int)) = false := beq_eq_false_iff_ne.2 (by omega)
        have p4 : (k : Int) + 1 ≤ (S.size : Int) := by omega
        have HX1 : Hid (S.extract 0 k = asB (x.takeWhile isE)) := Lib.hid (by
          have hs := List.takeWhile_append_dropWhile (p := isE) (l := x)
          have : (x.takeWhile isE ++ x.dropWhile isE).take (x.takeWhile isE).length = x.takeWhile isE := List.take_left' rfl
          rw [hs, HNN.out] at this
          rw [← HS.out, asB_ext, this])
        have HX2 : Hid (S.extract (k + 1) S.size = asB (x.drop (k + 1))) := Lib.hid (by rw [← HS.out, asB_drop])
        obtain ⟨n, Hn⟩ : ∃ n, Hid (trimL (x.takeWhile isE) = n) := ⟨_, Lib.hid rfl⟩
        obtain ⟨v, Hv⟩ : ∃ v, Hid (trimL (x.drop (k + 1)) = v) := ⟨_, Lib.hid rfl⟩
        have hnl : n.length ≤ 65536 := by
          have h1 := trimL_le (x.takeWhile isE)
          rw [Hn.out, HNN.out] at h1
          have := HLl.out; have := HZ.out; omega
        have hvl : v.length ≤ 65536 := by
          have h1 := trimL_le (x.drop (k + 1))
          rw [Hv.out, List.length_drop] at h1
          have := HLl.out; omega
        have hez : (S.extract 0 k).size ≤ 65536 := by rw [ByteArray.size_extract]; omega
        have hez2 : (S.extract (k + 1) S.size).size ≤ 65536 := by rw [ByteArray.size_extract]; omega
        have HT1 : Hid (Calls Tryd.prog 23 #[.string (S.extract 0 k)] w fun e w' => e = .returned (.string (asB n)) ∧ w = w') := Lib.hid (by
          have h := RefTrim_any (S.extract 0 k) w (by unfold maxLen; omega)
          have e : trimA (S.extract 0 k) = asB n := by rw [HX1.out, ← Hn.out]; rfl
          rw [e] at h
          exact h)
        have HT2 : Hid (Calls Tryd.prog 23 #[.string (S.extract (k + 1) S.size)] w fun e w' => e = .returned (.string (asB v)) ∧ w = w') := Lib.hid (by
          have h := RefTrim_any (S.extract (k + 1) S.size) w (by unfold maxLen; omega)
          have e : trimA (S.extract (k + 1) S.size) = asB v := by rw [HX2.out, ← Hv.out]; rfl
          rw [e] at h
          exact h)
        have HTn := Lib.hid (RefToken_any (asB n) w (by rw [asB_size]; unfold maxLen; omega))
        have HTv := Lib.hid (RefToken_any (asB v) w (by rw [asB_size]; unfold maxLen; omega))
        have HLn := Lib.hid fun w => RefLower_any (asB n) w (by rw [asB_size]; unfold maxLen; omega)
        have HQv := Lib.hid (RefQuoted_any v w hvl)
        rw [asB_data] at HTn HTv
        have HR : Hid (O = if c = 61 ∧ tokS n = true then (valR v).map (fun t => (n.map low, true, t)) else none) := Lib.hid (by
          rw [← HO.out]
          unfold refD
          rw [q2, Hn.out]
          simp only [Hv.out])
        rcases isE_not q1 with hc61 | hc34
        · have e1 : ((c.toNat : Int) != 61) = false := by rw [hc61]; rfl
          cases htk : tokS n with
          | false =>
            rw [htk] at HTn
            have HO3 : Hid (O = none) := Lib.hid (by rw [HR.out, htk]; simp)
            clear q1 q2 hc hc61 htk
            go_wp2_with fail
            refine HT1.out.mono ?_
            rintro e w5 ⟨rfl, rfl⟩
            go_wp2_with fail
            refine HT2.out.mono ?_
            rintro e w5 ⟨rfl, rfl⟩
            go_wp2_with fail
            refine HTn.out.mono ?_
            rintro e w5 ⟨rfl, rfl⟩
            go_wp2
            refine bodyPost_ret (results_four (fn := Tryd.f24) rfl _ _ _) rfl ?_
            rw [HO3.out]
            exact ⟨_, _, _, rfl, (by decide), (by decide), fun _ h => (by cases h), Below.refl _ _⟩
          | true =>
            rw [htk] at HTn
            have HR2 : Hid (O = (valR v).map (fun t => (n.map low, true, t))) := Lib.hid (by rw [HR.out, htk, if_pos ⟨hc61, rfl⟩])
            have hnz : (asB (n.map low)).size ≤ 65536 := by rw [asB_size, List.length_map]; exact hnl
            have HLn2 : Hid (∀ w, Calls Tryd.prog 39 #[.string (asB n)] w fun e w' => e = .returned (.string (asB (n.map low))) ∧ Below w.heap.size w w') := HLn
            cases htv : tokS v with
            | true =>
              rw [htv] at HTv
              have HO3 : Hid (O = some (n.map low, true, v)) := Lib.hid (by rw [HR2.out]; unfold valR; rw [htv]; rfl)
              have HLn3 := Lib.hid (HLn2.out w)
              clear q1 q2 hc hc61 htk htv
              go_wp2_with fail
              refine HT1.out.mono ?_
              rintro e w5 ⟨rfl, rfl⟩
              go_wp2_with fail
              refine HT2.out.mono ?_
              rintro e w5 ⟨rfl, rfl⟩
              go_wp2_with fail
              refine HTn.out.mono ?_
              rintro e w5 ⟨rfl, rfl⟩
              go_wp2_with fail
              refine HTv.out.mono ?_
              rintro e w5 ⟨rfl, rfl⟩
              go_wp2_with fail
              refine HLn3.out.mono ?_
              rintro e w5 ⟨rfl, hb⟩
              have HB5 := Lib.hid hb
              clear hb
              go_wp2
              refine bodyPost_ret (results_four (fn := Tryd.f24) rfl _ _ _) rfl ?_
              rw [HO3.out]
              exact ⟨_, _, _, rfl, hnz, hvl, fun x h => by injection h with h; rw [← h]; exact ⟨rfl, rfl, rfl⟩, HB5.out⟩
            | false =>
              rw [htv] at HTv
              have HO3 : Hid (O = (rqV v).map (fun t => (n.map low, true, t))) := Lib.hid (by rw [HR2.out]; unfold valR; rw [htv]; rfl)
              clear q1 q2 hc hc61 htk htv
              go_wp2_with fail
              refine HT1.out.mono ?_
              rintro e w5 ⟨rfl, rfl⟩
              go_wp2_with fail
              refine HT2.out.mono ?_
              rintro e w5 ⟨rfl, rfl⟩
              go_wp2_with fail
              refine HTn.out.mono ?_
              rintro e w5 ⟨rfl, rfl⟩
              go_wp2_with fail
              refine HTv.out.mono ?_
              rintro e w5 ⟨rfl, rfl⟩
              go_wp2_with fail
              refine HQv.out.mono ?_
              rintro e w5 ⟨v5, rfl, hv5, hv6, hb⟩
              have HB5 := Lib.hid hb
              have HV5 := Lib.hid hv5
              have HV6 := Lib.hid hv6
              have HLn3 := Lib.hid (HLn2.out w5)
              have HSome : Hid (O.isSome = (rqV v).isSome) := Lib.hid (by rw [HO3.out]; cases rqV v <;> rfl)
              obtain ⟨B, HBo⟩ : ∃ B, Hid ((rqV v).isSome = B) := ⟨_, Lib.hid rfl⟩
              rw [HBo.out] at HSome ⊢
              clear hb hv5 hv6
              go_wp2_with fail
              refine HLn3.out.mono ?_
              rintro e w6 ⟨rfl, hb⟩
              have HB6 := Lib.hid (HB5.out.trans (hb.mono HB5.out.size))
              clear hb
              go_wp2
              refine bodyPost_ret (results_four (fn := Tryd.f24) rfl _ _ _) rfl ?_
              refine ⟨_, v5, true, ?_, hnz, HV5.out, fun y h => ?_, HB6.out⟩
              · rw [HSome.out]; rfl
              · rw [HO3.out] at h
                cases hq : rqV v with
                | none => rw [hq] at h; cases h
                | some t =>
                  rw [hq] at h
                  injection h with h
                  rw [← h]
                  exact ⟨rfl, HV6.out t hq, rfl⟩
        · have e1 : ((c.toNat : Int) != 61) = true := by rw [hc34]; rfl
          have HO3 : Hid (O = none) := Lib.hid (by rw [HR.out, if_neg]; rintro ⟨e, _⟩; rw [hc34] at e; revert e; decide)
          clear q1 q2 hc
          subst hc34
          go_wp2_with fail
          refine HT1.out.mono ?_
          rintro e w5 ⟨rfl, rfl⟩
          go_wp2_with fail
          refine HT2.out.mono ?_
          rintro e w5 ⟨rfl, rfl⟩
          go_wp2
          refine bodyPost_ret (results_four (fn := Tryd.f24) rfl _ _ _) rfl ?_
          rw [HO3.out]
          exact ⟨_, _, _, rfl, (by decide), (by decide), fun _ h => (by cases h), Below.refl _ _⟩
      · have hks : k = S.size := by omega
        have p1 : ¬ (k : Int) < (S.size : Int) := by omega
        have p2 : decide ((k : Int) < (S.size : Int)) = false := decide_eq_false p1
        have p3 : ((k : Int) == (S.size : Int)) = true := beq_iff_eq.2 (by omega)
        have hdw : x.dropWhile isE = [] := by
          have hs := congrArg List.length (List.takeWhile_append_dropWhile (p := isE) (l := x))
          rw [List.length_append, HNN.out] at hs
          have := HZ.out
          exact List.eq_nil_of_length_eq_zero (by omega)
        have HR : Hid (O = if tokS x then some (x.map low, false, []) else none) := Lib.hid (by
          rw [← HO.out]
          unfold refD
          rw [hdw])
        have hxd : S.data.toList = x := by rw [← HS.out]; rfl
        rw [hxd] at HTx
        have hlo : lowS S = asB (x.map low) := by rw [low_asB, hxd]
        rw [hlo] at HLx
        have HL0 := Lib.hid (HLx.out w)
        have hnz : (asB (x.map low)).size ≤ 65536 := by rw [asB_size, List.length_map]; exact HLl.out
        have HSome : Hid (O.isSome = tokS x) := Lib.hid (by rw [HR.out]; cases tokS x <;> rfl)
        clear hdw hxd hlo hks hkN hlt
        go_wp2_with fail
        refine HL0.out.mono ?_
        rintro e w5 ⟨rfl, hb⟩
        have HB5 := Lib.hid hb
        clear hb
        go_wp2_with fail
        refine (HTx.out w5).mono ?_
        rintro e w6 ⟨rfl, rfl⟩
        go_wp2
        refine bodyPost_ret (results_four (fn := Tryd.f24) rfl _ _ _) rfl ?_
        refine ⟨_, ⟨#[]⟩, false, ?_, hnz, (by decide), fun y h => ?_, HB5.out⟩
        · rw [HSome.out]; rfl
        · rw [HR.out] at h
          split at h
          · injection h with h
            rw [← h]
            exact ⟨rfl, rfl, rfl⟩
          · cases h

end Go.Proofs.YthffgnlebljkcaaDoor
