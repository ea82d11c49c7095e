/-
  Package sts, the document's side: Parse, part by part.
-/
import Derived.Test.YthffgnlebljkcaaDoorTdE
namespace Go.Proofs.YthffgnlebljkcaaDoor
open Go.RowKit Go.Lib

set_option maxRecDepth 100000 in
set_option maxHeartbeats 8000000 in
theorem refParse_some (s : ByteArray) (w : World) (hs : ¬ 65536 < s.size) :
    Calls Tryd.prog 11 #[.string s] w (PrsQ w #[.int .i64 (prsT s.data.toList).1.1, .bool (prsT s.data.toList).1.2] (prsT s.data.toList).2) := by
  have hsI : ¬ (65536 : Int) < (s.size : Int) := by omega
  have HIw := Lib.hid infoWish
  have hl : s.data.toList.length ≤ 65536 := by rw [lenB]; omega
  obtain ⟨W2, HW2⟩ : ∃ W, Hid ((w.alloc (.cells #[.int .i64 0, .bool false] 24)).alloc (.cells #[.int .i64 0, .bool false] 24) = W) := ⟨_, Lib.hid rfl⟩
  have hz1 : (w.alloc (.cells #[.int .i64 0, .bool false] 24)).heap.size = w.heap.size + 1 := by simp
  have hb1 : Below w.heap.size w (w.alloc (.cells #[.int .i64 0, .bool false] 24)) := (Below.refl _ _).alloc (Nat.le_refl _) _
  have HB2 : Hid (Below w.heap.size w W2) := Lib.hid (by rw [← HW2.out]; exact hb1.alloc (by omega) _)
  have HQ2 : Hid (W2.heap[w.heap.size]? = some (.cells wz 24 (0, 0))) := Lib.hid (by rw [← HW2.out]; exact ((Kp.refl (fun _ => False) _).alloc _).at (heap_alloc_new w _) id)
  have HG2 : Hid (W2.heap[w.heap.size + 1]? = some (.cells wz 24 (0, 0))) := Lib.hid (by
    have := heap_alloc_new (w.alloc (.cells #[.int .i64 0, .bool false] 24)) (.cells #[.int .i64 0, .bool false] 24)
    rw [hz1] at this
    rw [← HW2.out]; exact this)
  have HPr : Hid (Calls Tryd.prog 22 #[.string s] W2 (PrtP W2 (prt s.data.toList))) := Lib.hid (RefParts_any s.data.toList W2 hl)
  have HPl : Hid ((prt s.data.toList).length ≤ 65537) := Lib.hid (by have := prt_len s.data.toList; omega)
  have HPm : Hid (∀ p ∈ prt s.data.toList, p.length ≤ 65536) := Lib.hid fun p hp => by have := prt_mem hp; omega
  obtain ⟨L, HL⟩ : ∃ L, Hid (prt s.data.toList = L) := ⟨_, Lib.hid rfl⟩
  have HP : Hid (prsT s.data.toList = fD ((tellC (prt s.data.toList) []).bind finT)) := Lib.hid (prsT_doc _)
  rw [HL.out] at HPr HPl HPm HP
  obtain ⟨O, HO⟩ : ∃ O, Hid ((tellC L []).bind finT = O) := ⟨_, Lib.hid rfl⟩
  rw [HO.out] at HP
  rw [HP.out]
  have hLn : (L.length : Int) ≤ 65537 := by have := HPl.out; omega
  clear hs hl hz1 hb1 HP HL
  go_enter Tryd.func11, Tryd.ntmps11
  go_wp2_with fail
  rw [HW2.out]
  refine HPr.out.mono ?_
  rintro e w5 ⟨gp, cap, rfl, hgp, hcs, hgl, hb⟩
  have HS : Hid (Stay w w5) := Lib.hid ⟨(hb.block _ (lt_of_block HQ2.out)).trans HQ2.out, Nat.lt_of_lt_of_le (lt_of_block HG2.out) hb.size, HB2.out.trans (hb.mono HB2.out.size)⟩
  have HG5 : Hid (w5.heap[w.heap.size + 1]? = some (.cells wz 24 (0, 0))) := Lib.hid ((hb.block _ (lt_of_block HG2.out)).trans HG2.out)
  have HGp : Hid (gp ≠ w.heap.size + 1) := Lib.hid (by have := lt_of_block HG2.out; omega)
  have HCs := Lib.hid hcs
  clear hgp hcs hgl hb HB2 HQ2 HG2 HPr HW2
  go_wp2
  go_loopw [5, 6, 8] (fun v ag i wr => ∃ (k : Nat) (T : List TsE) (B : Bool), k ≤ L.length ∧ i = .int .i64 (k : Int) ∧ ag = .bool B ∧ Hid (T.length ≤ k) ∧ Hid (Told w5 wr (w.heap.size + 1) T v B) ∧ Hid ((tellC (L.drop k) T).bind finT = O)) (fun _ _ i _ => L.length - (intOf i).toNat)
  case atStart => exact ⟨0, [], false, Nat.zero_le _, rfl, rfl, Lib.hid (Nat.le_refl _), Lib.hid ⟨World.ownsRow_nil .., Kp.refl _ _, ⟨0, HG5.out, fun _ h => (by cases h)⟩, rfl⟩, HO⟩
  case round =>
    clear HG5 HO
    obtain ⟨k, T, B, hk, rfl, rfl, HTl, HTd, HE⟩ := hrel
    by_cases hlt : k < L.length
    · obtain ⟨p, HPk⟩ : ∃ p, Hid (L[k] = p) := ⟨_, Lib.hid rfl⟩
      have HDr : Hid (L.drop k = p :: L.drop (k + 1)) := Lib.hid (by rw [List.drop_eq_getElem_cons hlt, HPk.out])
      have hpl : p.length ≤ 65536 := by rw [← HPk.out]; exact HPm.out _ (List.getElem_mem _)
      have hcell : wr.cell? ⟨gp, k, none⟩ = some (.string (asB p)) := by
        have := HCs.out k hlt
        rw [Nat.zero_add, HPk.out] at this
        exact HTd.out.kp.cell this HGp.out
      have HT1 : Hid (Calls Tryd.prog 23 #[.string (asB p)] wr fun e w' => e = .returned (.string (asB (trimL p))) ∧ wr = w') := Lib.hid (RefTrim_any (asB p) wr (by rw [asB_size]; unfold maxLen; omega))
      have hxl : (trimL p).length ≤ 65536 := by have := trimL_le p; omega
      have HD1 := Lib.hid (RefDirective_any (trimL p) wr hxl)
      have HE1 := Lib.hid HE.out
      rw [HDr.out] at HE1
      have hN := asB_nil (trimL p)
      have p1 : (k : Int) < (L.length : Int) := by omega
      by_cases h0 : trimL p = []
      · have HE2 : Hid ((tellC (L.drop (k + 1)) T).bind finT = O) := Lib.hid (by rw [← HE1.out, tell_skip h0])
        rw [decide_eq_true h0] at hN
        clear h0 HD1 hxl hpl
        go_wp2_with fail
        refine HT1.out.mono ?_
        rintro e w6 ⟨rfl, rfl⟩
        go_wp2
        go_roundw
        case rel => exact ⟨k + 1, T, B, by omega, by go_num, rfl, Lib.hid (by have := HTl.out; omega), HTd, HE2⟩
        case measure => simp [intOf]; omega
      · have HE2 : Hid ((nextC (refD (trimL p)) (L.drop (k + 1)) T).bind finT = O) := Lib.hid (by rw [← HE1.out, tell_more h0])
        rw [decide_eq_false h0] at hN
        obtain ⟨D, HD⟩ : ∃ D, Hid (refD (trimL p) = D) := ⟨_, Lib.hid rfl⟩
        rw [HD.out] at HE2 HD1
        obtain ⟨X0, HX0⟩ : ∃ X0, Hid (asB (trimL p) = X0) := ⟨_, Lib.hid rfl⟩
        rw [HX0.out] at HT1 HD1 hN
        clear h0 hxl hpl HE1 HE
        go_wp2_with fail
        refine HT1.out.mono ?_
        rintro e w6 ⟨rfl, rfl⟩
        go_wp2_with fail
        refine HD1.out.mono ?_
        rintro e w6 ⟨nm, vv, hh, rfl, hnz, hvz, hsm, hb⟩
        have HTd6 := Lib.hid (HTd.out.run hb)
        have HSm := Lib.hid hsm
        obtain ⟨q5, cap5, hu5, hc5⟩ := own_slice HTd6.out.own
        subst hu5
        have HC5 : Hid (∀ k, k < T.length → ∃ g, q5 = some ⟨g, 0, none⟩ ∧ w6.cell? ⟨g, k, none⟩ = (T.map tnV)[k]?) := Lib.hid hc5
        have hTn : (T.length : Int) ≤ 65537 := by have := HTl.out; omega
        clear hb hsm hc5 hcell HTd hN
        obtain ⟨E, HDE⟩ : ∃ E, Hid (D.isSome = E) := ⟨_, Lib.hid rfl⟩
        rw [HDE.out]
        go_wp2
        go_loopw [13, 14] (fun okv kv wr2 => ∃ j : Nat, j ≤ T.length ∧ kv = .int .i64 (j : Int) ∧ okv = .bool (E && !tellN nm (T.take j)) ∧ w6 = wr2) (fun _ kv _ => T.length - (intOf kv).toNat)
        case atStart => exact ⟨0, Nat.zero_le _, rfl, by simp [tellN], rfl⟩
        case round =>
          obtain ⟨j, hj, rfl, rfl, rfl⟩ := hrel
          by_cases hjl : j < T.length
          · obtain ⟨gn, hq, hcn⟩ := HC5.out j hjl
            subst hq
            have hcn2 : w6.cell? ⟨gn, j, none⟩ = some (.string (asB T[j].1)) := by rw [hcn, List.getElem?_map, List.getElem?_eq_getElem hjl]; rfl
            have htk := tellN_take (s := nm) hjl
            obtain ⟨M, HM⟩ : ∃ M, Hid (asB T[j].1 = M) := ⟨_, Lib.hid rfl⟩
            rw [HM.out] at hcn2 htk
            have hne := asB_eq M nm
            obtain ⟨X, HX⟩ : ∃ X, Hid ((E && !tellN nm (T.take j)) = X) := ⟨_, Lib.hid rfl⟩
            rw [HX.out]
            have HTk : Hid ((E && !tellN nm (T.take (j + 1))) = (X && !decide (M = nm))) := Lib.hid (by rw [htk, Bool.not_or, ← Bool.and_assoc, HX.out])
            have hjI : (j : Int) < (T.length : Int) := by omega
            clear hcn htk
            cases X with
            | false =>
              go_wp2
              go_roundw
              case rel => exact ⟨j + 1, by omega, by go_num, by rw [HTk.out]; rfl, trivial⟩
              case measure => simp [intOf]; omega
            | true =>
              go_wp2
              refine ⟨⟨j + 1, by omega, by go_num, by rw [HTk.out]; rfl, trivial⟩, ?_⟩
              simp [intOf]; omega
          · obtain rfl : j = T.length := by omega
            rw [List.take_length]
            obtain ⟨X, HX⟩ : ∃ X, Hid ((E && !tellN nm T) = X) := ⟨_, Lib.hid rfl⟩
            rw [HX.out]
            have hT20 : T.length ≤ 1048577 := by omega
            have hAd := told_add HTd6.out (HS.out.z) (.string nm) rfl hT20
            obtain ⟨v', w3, r1, r2, r3, a, r4, r5⟩ := hAd
            have HRun := Lib.hid r1
            have HOw3 := Lib.hid r2
            have HK3 := Lib.hid r3
            have HZ3 := Lib.hid r4
            have HA3 := Lib.hid r5
            have c0 := cell_of_row w3 _ 0 _ _ _ r4
            have c1 := cell_of_row w3 _ 1 _ _ _ r4
            have f0 := frozen_of_row w3 _ 0 _ _ r4
            have f1 := frozen_of_row w3 _ 1 _ _ r4
            have hcA : (nm.toList == [109, 97, 120, 45, 97, 103, 101]) = decide (nm = asB nAge) := by
              have := asB_eq nm (asB nAge)
              rw [show (asB nAge).toList = [109, 97, 120, 45, 97, 103, 101] from by rw [Lib.toList_data]; rfl] at this
              exact this
            have hcS : (nm.toList == [105, 110, 99, 108, 117, 100, 101, 115, 117, 98, 100, 111, 109, 97, 105, 110, 115]) = decide (nm = asB nSub) := by
              have := asB_eq nm (asB nSub)
              rw [show (asB nSub).toList = [105, 110, 99, 108, 117, 100, 101, 115, 117, 98, 100, 111, 109, 97, 105, 110, 115] from by rw [Lib.toList_data]; rfl] at this
              exact this
            have HCt : Hid (∀ w, Calls Tryd.prog 25 #[.string vv] w (CntP w (ageD vv.data.toList))) := Lib.hid fun w => RefCount_any vv.data.toList w (by rw [lenB]; exact hvz)
            have HCt3 := Lib.hid (HCt.out w3)
            have hgn : ¬ (T.length : Int) < (T.length : Int) := by omega
            have HQS : Hid (∀ W, Kp (Only (w.heap.size + 1)) w5 W → W.heap[w.heap.size]? = some (.cells wz 24 (0, 0))) := Lib.hid fun W k => HS.out.at k
            clear r1 r2 r3 r4 r5 hT20
            cases X with
            | false =>
              have HON : Hid (O = none) := Lib.hid (by
                rw [← HE2.out]
                cases D with
                | none => rfl
                | some x =>
                  have hE : E = true := HDE.out.symm
                  have ht : tellN nm T = true := by have := HX.out; rw [hE] at this; simpa using this
                  rw [(HSm.out x rfl).1, tellN_asB] at ht
                  show (if twiceB x.1 T = true ∨ chk x = false then none else tellC (L.drop (k + 1)) (T ++ [x])).bind finT = none
                  rw [if_pos (.inl ht)]; rfl)
              obtain rfl : O = none := HON.out
              by_cases hA : nm = asB nAge
              · rw [decide_eq_true hA] at hcA
                clear hA hcS
                go_wp2_with (at_builtin; refine Lib.wpList_append_run _ rfl _ _ _ _ rfl _ _ rfl rfl _ _ HRun.out ?_)
                refine HCt3.out.mono ?_
                rintro e w7 ⟨n, rfl, hn, ⟨hn0, hn1⟩, rfl⟩
                go_wp2_with (refine wpL_store_row rfl 24 _ _ rfl w.heap.size wz ?_ ?_ 24 wz ?_ ?_ ?_ ?_ ?_; exact rfl; exact rfl; exact HQS.out _ (HK3.out.one 0 _); exact HIw.out; exact rfl; (simp [wz, Value.oneCell']))
                exact rp_out w _ wz 4 rfl _ (HS.out.set (HK3.out.one 0 _) _) (HS.out.bel (HK3.out.one 0 _) _) rfl rfl
              · rw [decide_eq_false hA] at hcA
                clear hA
                by_cases hB : nm = asB nSub
                · rw [decide_eq_true hB] at hcS
                  clear hB
                  go_wp2_with (first | (at_builtin; refine Lib.wpList_append_run _ rfl _ _ _ _ rfl _ _ rfl rfl _ _ HRun.out ?_) | (refine wpL_store_row rfl 24 _ _ rfl w.heap.size wz ?_ ?_ 24 wz ?_ ?_ ?_ ?_ ?_; exact rfl; exact rfl; exact HQS.out _ (HK3.out.one 1 _); exact HIw.out; exact rfl; (simp [wz, Value.oneCell'])))
                  exact rp_out w _ wz 4 rfl _ (HS.out.set (HK3.out.one 1 _) _) (HS.out.bel (HK3.out.one 1 _) _) rfl rfl
                · rw [decide_eq_false hB] at hcS
                  clear hB
                  go_wp2_with (first | (at_builtin; refine Lib.wpList_append_run _ rfl _ _ _ _ rfl _ _ rfl rfl _ _ HRun.out ?_) | (refine wpL_store_row rfl 24 _ _ rfl w.heap.size wz ?_ ?_ 24 wz ?_ ?_ ?_ ?_ ?_; exact rfl; exact rfl; exact HQS.out _ HK3.out; exact HIw.out; exact rfl; (simp [wz, Value.oneCell'])))
                  exact rp_out w _ wz 4 rfl _ (HS.out.set HK3.out _) (HS.out.bel HK3.out _) rfl rfl
            | true =>
              obtain ⟨x, hx⟩ : ∃ x, D = some x := by
                cases D with
                | none =>
                  have hE : E = false := HDE.out.symm
                  have := HX.out
                  rw [hE] at this; cases this
                | some x => exact ⟨x, rfl⟩
              subst hx
              have hE : E = true := HDE.out.symm
              subst hE
              obtain ⟨e1, e2, e3⟩ := HSm.out x rfl
              subst e1 e2 e3
              have HTw : Hid (twiceB x.1 T = false) := Lib.hid (by
                have := HX.out
                rw [tellN_asB] at this
                simpa using this)
              have HE3 : Hid ((if chk x = false then none else tellC (L.drop (k + 1)) (T ++ [x])).bind finT = O) := Lib.hid (by
                have h : (if twiceB x.1 T = true ∨ chk x = false then none else tellC (L.drop (k + 1)) (T ++ [x])).bind finT = O := HE2.out
                rw [← h, HTw.out]
                simp)
              have HAg := Lib.hid HTd6.out.age
              have HGb := Lib.hid HS.out.z
              by_cases hA : x.1 = nAge
              · rw [decide_eq_true (by rw [hA])] at hcA
                have HCh := Lib.hid (chk_age hA)
                obtain ⟨A, HA⟩ : ∃ A, Hid (ageD x.2.2 = A) := ⟨_, Lib.hid rfl⟩
                have HCt4 : Hid (Calls Tryd.prog 25 #[.string (asB x.2.2)] w3 (CntP w3 A)) := Lib.hid (by rw [← HA.out]; exact HCt3.out)
                rw [HA.out] at HCh
                clear hcS
                cases A with
                | none =>
                  have HON : Hid (O = none) := Lib.hid (by rw [← HE3.out, HCh.out]; rfl)
                  obtain rfl : O = none := HON.out
                  clear hA
                  go_wp2_with (at_builtin; refine Lib.wpList_append_run _ rfl _ _ _ _ rfl _ _ rfl rfl _ _ HRun.out ?_)
                  refine HCt4.out.mono ?_
                  rintro e w7 ⟨n, rfl, hn, ⟨hn0, hn1⟩, rfl⟩
                  go_wp2_with (refine wpL_store_row rfl 24 _ _ rfl w.heap.size wz ?_ ?_ 24 wz ?_ ?_ ?_ ?_ ?_; exact rfl; exact rfl; exact HQS.out _ (HK3.out.one 0 _); exact HIw.out; exact rfl; (simp [wz, Value.oneCell']))
                  exact rp_out w _ wz 4 rfl _ (HS.out.set (HK3.out.one 0 _) _) (HS.out.bel (HK3.out.one 0 _) _) rfl rfl
                | some m =>
                  have HE4 : Hid ((tellC (L.drop (k + 1)) (T ++ [x])).bind finT = O) := Lib.hid (by rw [← HE3.out, HCh.out]; rfl)
                  have HTn : Hid (Told w5 (w3.setCell ⟨w.heap.size + 1, 0, none⟩ (.int .i64 m)) (w.heap.size + 1) (T ++ [x]) v' true) := Lib.hid (told_age HOw3.out HK3.out HZ3.out HGb.out m HA.out HTw.out hA)
                  clear hA
                  go_wp2_with (at_builtin; refine Lib.wpList_append_run _ rfl _ _ _ _ rfl _ _ rfl rfl _ _ HRun.out ?_)
                  refine HCt4.out.mono ?_
                  rintro e w7 ⟨n, rfl, hn, ⟨hn0, hn1⟩, rfl⟩
                  obtain rfl : n = m := hn m rfl
                  clear hn
                  go_wp2
                  go_roundw
                  case rel => exact ⟨k + 1, T ++ [x], true, by omega, by go_num, rfl, Lib.hid (by have := HTl.out; simp; omega), HTn, HE4⟩
                  case measure => simp [intOf]; omega
              · rw [decide_eq_false (fun e => hA (asB_inj e))] at hcA
                by_cases hB : x.1 = nSub
                · rw [decide_eq_true (by rw [hB])] at hcS
                  have HCh := Lib.hid (chk_sub hB)
                  have HTn : Hid (Told w5 (w3.setCell ⟨w.heap.size + 1, 1, none⟩ (.bool true)) (w.heap.size + 1) (T ++ [x]) v' B) := Lib.hid (told_sub HOw3.out HK3.out HZ3.out HA3.out HAg.out HGb.out HTw.out hB)
                  obtain ⟨hh, Hhh⟩ : ∃ hh, Hid (x.2.1 = hh) := ⟨_, Lib.hid rfl⟩
                  rw [Hhh.out] at HCh ⊢
                  clear hA hB
                  cases hh with
                  | true =>
                    have HON : Hid (O = none) := Lib.hid (by rw [← HE3.out, HCh.out]; rfl)
                    obtain rfl : O = none := HON.out
                    go_wp2_with (first | (at_builtin; refine Lib.wpList_append_run _ rfl _ _ _ _ rfl _ _ rfl rfl _ _ HRun.out ?_) | (refine wpL_store_row rfl 24 _ _ rfl w.heap.size wz ?_ ?_ 24 wz ?_ ?_ ?_ ?_ ?_; exact rfl; exact rfl; exact HQS.out _ (HK3.out.one 1 _); exact HIw.out; exact rfl; (simp [wz, Value.oneCell'])))
                    exact rp_out w _ wz 4 rfl _ (HS.out.set (HK3.out.one 1 _) _) (HS.out.bel (HK3.out.one 1 _) _) rfl rfl
                  | false =>
                    have HE4 : Hid ((tellC (L.drop (k + 1)) (T ++ [x])).bind finT = O) := Lib.hid (by rw [← HE3.out, HCh.out]; rfl)
                    go_wp2_with (at_builtin; refine Lib.wpList_append_run _ rfl _ _ _ _ rfl _ _ rfl rfl _ _ HRun.out ?_)
                    go_roundw
                    case rel => exact ⟨k + 1, T ++ [x], B, by omega, by go_num, rfl, Lib.hid (by have := HTl.out; simp; omega), HTn, HE4⟩
                    case measure => simp [intOf]; omega
                · rw [decide_eq_false (fun e => hB (asB_inj e))] at hcS
                  have HTn : Hid (Told w5 w3 (w.heap.size + 1) (T ++ [x]) v' B) := Lib.hid (told_other HOw3.out HK3.out HZ3.out HA3.out HAg.out HTw.out hA hB)
                  have HE4 : Hid ((tellC (L.drop (k + 1)) (T ++ [x])).bind finT = O) := Lib.hid (by rw [← HE3.out, chk_other hA hB]; rfl)
                  clear hA hB
                  go_wp2_with (at_builtin; refine Lib.wpList_append_run _ rfl _ _ _ _ rfl _ _ rfl rfl _ _ HRun.out ?_)
                  go_roundw
                  case rel => exact ⟨k + 1, T ++ [x], B, by omega, by go_num, rfl, Lib.hid (by have := HTl.out; simp; omega), HTn, HE4⟩
                  case measure => simp [intOf]; omega
    · have HE5 : Hid (finT T = O) := Lib.hid (by
        have := HE.out
        rw [List.drop_of_length_le (by omega)] at this
        exact this)
      obtain ⟨a, hz, ha⟩ := HTd.out.row
      have HZ := Lib.hid hz
      have HAv := Lib.hid ha
      have HAg := Lib.hid HTd.out.age
      have HK := Lib.hid HTd.out.kp
      have HQ : Hid (wr.heap[w.heap.size]? = some (.cells wz 24 (0, 0))) := Lib.hid (HS.out.at HK.out)
      have hge : ¬ (k : Int) < (L.length : Int) := by omega
      obtain ⟨sb, Hsb⟩ : ∃ sb, Hid ((sayT nSub T).isSome = sb) := ⟨_, Lib.hid rfl⟩
      rw [Hsb.out] at HZ
      clear hz ha
      cases B with
      | false =>
        have HON : Hid (O = none) := Lib.hid (by
          rw [← HE5.out]
          unfold finT
          cases hs : sayT nAge T with
          | none => rfl
          | some v => have := HAg.out; rw [hs] at this; cases this)
        obtain rfl : O = none := HON.out
        go_wp2_with (refine wpL_store_row rfl 24 _ _ rfl w.heap.size wz ?_ ?_ 24 wz ?_ ?_ ?_ ?_ ?_; exact rfl; exact rfl; exact HQ.out; exact HIw.out; exact rfl; (simp [wz, Value.oneCell']))
        exact rp_out w _ wz 4 rfl _ (HS.out.set HK.out _) (HS.out.bel HK.out _) rfl rfl
      | true =>
        have HON : Hid (O = some (a, sb)) := Lib.hid (by
          rw [← HE5.out]
          unfold finT
          cases hs : sayT nAge T with
          | none => have := HAg.out; rw [hs] at this; cases this
          | some v =>
            have := HAv.out v hs
            simp only [this]
            rw [Hsb.out]; rfl)
        obtain rfl : O = some (a, sb) := HON.out
        go_wp2_with (first
          | (refine wpList_load_row rfl 24 _ rfl (w.heap.size + 1) ?_ 24 #[.int .i64 a, .bool sb] (0, 0) _ ?_ Tryd.underlying24 rfl ?_ ?_; (exact rfl); (exact HZ.out); (exact HIw.out))
          | (refine wpL_store_row rfl 24 _ _ rfl w.heap.size #[.int .i64 a, .bool sb] ?_ ?_ 24 wz ?_ ?_ ?_ ?_ ?_; exact rfl; exact rfl; exact HQ.out; exact HIw.out; exact rfl; (simp [Value.oneCell'])))
        exact rp_out w _ #[.int .i64 a, .bool sb] 0 rfl _ (HS.out.set HK.out _) (HS.out.bel HK.out _) rfl rfl
theorem RefParse_any (s : ByteArray) (w : World) :
    Calls Tryd.prog 11 #[.string s] w fun e w' => e = .returned (.tuple #[.agg #[.int .i64 (prsW s).1.1, .bool (prsW s).1.2], .int .i64 (prsW s).2]) ∧ Below w.heap.size w w' := by
  unfold prsW
  by_cases h : 65536 < s.size
  · rw [if_pos h]; exact refParse_long s w h
  · rw [if_neg h]; exact refParse_some s w h

end Go.Proofs.YthffgnlebljkcaaDoor
