/-
  Contracts: the document's Label and Show. The walk of PunyLabels.
-/
import Derived.Test.YtgmjfnddeogfdaaDoorLbR
import Derived.Test.YtgmjfnddeogfdaaDoorEnS
namespace Go.Proofs.YtgmjfnddeogfdaaDoor
open Go.RowKit

set_option maxRecDepth 100000 in
set_option maxHeartbeats 4000000 in
theorem RefLabel_any (s : ByteArray) (w : World) (hs : s.size ≤ 1000) :
    Calls Tryd.prog 10 #[.string s] w fun e w' => e = .returned (.tuple #[.string (labT s).1, .int .i64 (labT s).2]) ∧ Below w.heap.size w w' := by
  obtain ⟨T, HT⟩ : ∃ T, Hid (labT s = T) := ⟨_, Lib.hid rfl⟩
  rw [HT.out]
  have HD : Hid (T = labD s) := Lib.hid (by rw [← HT.out]; exact labD_eq s hs)
  have HS1 := Lib.hid (Signs_any s w (by omega))
  by_cases h0 : s.size = 0
  · have HR : Hid (T = (⟨#[]⟩, 5)) := Lib.hid (by rw [HD.out, labD, if_pos h0])
    have hem : s.toList.isEmpty = true := by
      rw [ByteArray.toList_eq, List.isEmpty_iff]
      exact List.eq_nil_of_length_eq_zero (by simpa using h0)
    clear h0
    go_enter Tryd.func10, Tryd.ntmps10
    go_wp2_with fail
    refine HS1.out.mono ?_
    rintro e w1 (⟨l, v, hl, rfl, hr, b1⟩ | ⟨hl, rfl, b1⟩)
    · have B1 := Lib.hid b1; clear b1 hl hr
      go_wp2
      go_ret2
      exact ⟨ret_lab HR.out rfl rfl, B1.out⟩
    · have B1 := Lib.hid b1; clear b1 hl
      go_wp2
      go_ret2
      exact ⟨ret_lab HR.out rfl rfl, B1.out⟩
  have hem : s.toList.isEmpty = false := by
    rw [ByteArray.toList_eq, ← Bool.not_eq_true, List.isEmpty_iff]
    intro h; exact h0 (by have := congrArg List.length h; simpa using this)
  rcases valid_sg s with ⟨hv, LL, hLL, -, -⟩ | ⟨hv, hLL⟩
  rotate_left
  · have HR : Hid (T = (⟨#[]⟩, 5)) := Lib.hid (by rw [HD.out, labD, if_neg h0, if_pos hv])
    rw [hLL] at HS1
    clear h0 hv hLL
    go_enter Tryd.func10, Tryd.ntmps10
    go_wp2_with fail
    refine HS1.out.mono ?_
    rintro e w1 (⟨l, v, hl, rfl, hr, b1⟩ | ⟨hl, rfl, b1⟩)
    · cases hl
    · have B1 := Lib.hid b1; clear b1 hl
      go_wp2
      go_ret2
      exact ⟨ret_lab HR.out rfl rfl, B1.out⟩
  rw [hLL] at HS1
  obtain ⟨L, HL⟩ : ∃ L, Hid (lowS s = L) := ⟨_, Lib.hid rfl⟩
  have hLs : L.size ≤ 1000 := by rw [← HL.out, lowS_size]; exact hs
  have HLo : Hid (∀ w, Calls Tryd.prog 24 #[.string s] w fun e w' => e = .returned (.string L) ∧ Below w.heap.size w w') := Lib.hid (fun w => by
    have := RefLower_any s w (by unfold maxLen; omega)
    rwa [HL.out] at this)
  have hlf := low_few hs hv
  rw [HL.out] at hlf
  have HTT : Hid (T = if plainL L.data.toList then (if Lib.hasPrefix L.data.toList [120, 110, 45, 45] then (if tellsB (cutX L) then labE L else (⟨#[]⟩, 5)) else labE L) else labE ((⟨#[120, 110, 45, 45]⟩ : ByteArray) ++ fewT L)) := Lib.hid (by
    rw [HD.out, labD, if_neg h0, if_neg (by rw [hv]; simp), HL.out])
  have HPl : Hid (∀ w, Calls Tryd.prog 25 #[.string L] w fun e w' => e = .returned (.bool (plainL L.data.toList)) ∧ w' = w) := Lib.hid (fun w => Refplain_any L w (by unfold maxLen; omega))
  have HFw : Hid (∀ w, Calls Tryd.prog 27 #[.string L] w fun e w' => e = .returned (.bool (Lib.hasPrefix L.data.toList [120, 110, 45, 45])) ∧ w' = w) := Lib.hid (fun w => RefFew_any L w (by unfold maxLen; omega))
  clear h0 hv hLL
  cases hp : plainL L.data.toList with
  | false =>
    obtain ⟨Q, HQ⟩ : ∃ Q, Hid (fewT L = Q) := ⟨_, Lib.hid rfl⟩
    have hQs : Q.size ≤ 20000 := by rw [← HQ.out]; exact hlf.2.1
    have HR : Hid (T = labE ((⟨#[120, 110, 45, 45]⟩ : ByteArray) ++ Q)) := Lib.hid (by rw [HTT.out, hp, HQ.out]; rfl)
    have HE : Hid (∀ w, Calls Tryd.prog 26 #[.string L] w fun e w' => e = .returned (.tuple #[.string Q, .int .i64 0]) ∧ Below w.heap.size w w') := Lib.hid (fun w => by
      have := RefEncode_of4 L w (by unfold maxLen; omega) (by omega) (fun _ w => Signs_any L w (by omega))
      rwa [hlf.1, HQ.out] at this)
    rw [hp] at HPl
    clear hp hlf
    go_enter Tryd.func10, Tryd.ntmps10
    go_wp2_with fail
    refine HS1.out.mono ?_
    rintro e w1 (⟨l, v, hl, rfl, hr, b1⟩ | ⟨hl, rfl, b1⟩)
    rotate_left
    · cases hl
    have B1 := Lib.hid b1; clear b1 hl hr
    go_wp2_with fail
    refine (HLo.out _).mono ?_
    rintro e w2 ⟨rfl, b2⟩
    have B2 : Hid (Below w.heap.size w w2) := Lib.hid (B1.out.trans (b2.mono B1.out.size))
    clear b2
    go_wp2_with fail
    refine (HPl.out _).mono ?_
    rintro e w3 ⟨rfl, rfl⟩
    go_wp2_with fail
    refine (HE.out _).mono ?_
    rintro e w4 ⟨rfl, b4⟩
    have B4 : Hid (Below w.heap.size w w4) := Lib.hid (B2.out.trans (b4.mono B2.out.size))
    clear b4
    have hz1 : ¬ 9223372036854775807 < 4 + Q.size := by omega
    by_cases h6 : 63 < 4 + Q.size
    · have HR2 : Hid (T = (⟨#[]⟩, 5)) := Lib.hid (by rw [HR.out, labE, if_pos (by rw [catX_size]; exact h6)])
      have h6I : (63 : Int) < 4 + (Q.size : Int) := by omega
      go_wp2
      go_ret2
      exact ⟨ret_lab HR2.out rfl rfl, B4.out⟩
    · have HR2 : Hid (T = ((⟨#[120, 110, 45, 45]⟩ : ByteArray) ++ Q, 0)) := Lib.hid (by rw [HR.out, labE, if_neg (by rw [catX_size]; exact h6)])
      have h6I : 4 + (Q.size : Int) ≤ 63 := by omega
      go_wp2
      go_ret2
      exact ⟨ret_lab HR2.out rfl rfl, B4.out⟩
  | true =>
    clear hlf
    rw [hp] at HPl
    cases hx : Lib.hasPrefix L.data.toList [120, 110, 45, 45] with
    | false =>
      have HR : Hid (T = labE L) := Lib.hid (by rw [HTT.out, hp, hx]; rfl)
      rw [hx] at HFw
      clear hp hx
      go_enter Tryd.func10, Tryd.ntmps10
      go_wp2_with fail
      refine HS1.out.mono ?_
      rintro e w1 (⟨l, v, hl, rfl, hr, b1⟩ | ⟨hl, rfl, b1⟩)
      rotate_left
      · cases hl
      have B1 := Lib.hid b1; clear b1 hl hr
      go_wp2_with fail
      refine (HLo.out _).mono ?_
      rintro e w2 ⟨rfl, b2⟩
      have B2 : Hid (Below w.heap.size w w2) := Lib.hid (B1.out.trans (b2.mono B1.out.size))
      clear b2
      go_wp2_with fail
      refine (HPl.out _).mono ?_
      rintro e w3 ⟨rfl, rfl⟩
      go_wp2_with fail
      refine (HFw.out _).mono ?_
      rintro e w4 ⟨rfl, rfl⟩
      by_cases h6 : 63 < L.size
      · have HR2 : Hid (T = (⟨#[]⟩, 5)) := Lib.hid (by rw [HR.out, labE, if_pos h6])
        have h6I : (63 : Int) < (L.size : Int) := by omega
        go_wp2
        go_ret2
        exact ⟨ret_lab HR2.out rfl rfl, B2.out⟩
      · have HR2 : Hid (T = (L, 0)) := Lib.hid (by rw [HR.out, labE, if_neg h6])
        have h6I : (L.size : Int) ≤ 63 := by omega
        go_wp2
        go_ret2
        exact ⟨ret_lab HR2.out rfl rfl, B2.out⟩
    | true =>
      have h4 := px_le hx
      have h4I : (4 : Int) ≤ (L.size : Int) := by omega
      obtain ⟨X, HX⟩ : ∃ X, Hid (L.extract 4 L.size = X) := ⟨_, Lib.hid rfl⟩
      have hXs : X.size ≤ 1000 := by rw [← HX.out, ByteArray.size_extract]; omega
      have HTl : Hid (T = if (if (decT X).2 = 0 then if plainL (decT X).1.data.toList then false else decide ((refEncT (decT X).1).1 = X) else false) = true then labE L else (⟨#[]⟩, 5)) := Lib.hid (by
        rw [HTT.out, hp, if_pos rfl, hx, if_pos rfl, cutX_ext hx, HX.out, tells_doc X hXs])
      rw [hx] at HFw
      obtain ⟨D, HDd⟩ : ∃ D, Hid ((decT X).1 = D) := ⟨_, Lib.hid rfl⟩
      obtain ⟨c, Hc⟩ : ∃ c, Hid ((decT X).2 = c) := ⟨_, Lib.hid rfl⟩
      have hDs : D.size ≤ 4000 := by have := decT_size X; rw [HDd.out] at this; omega
      have HDc : Hid (∀ w, Calls Tryd.prog 28 #[.string (L.extract 4 L.size)] w fun e w' => e = .returned (.tuple #[.string D, .int .i64 c]) ∧ Below w.heap.size w w') := Lib.hid (fun w => by
        rw [HX.out]
        have := RefDecode_any X w (by unfold maxLen; omega) (.inl hXs)
        rwa [HDd.out, Hc.out] at this)
      have HP2 : Hid (∀ w, Calls Tryd.prog 25 #[.string D] w fun e w' => e = .returned (.bool (plainL D.data.toList)) ∧ w' = w) := Lib.hid (fun w => Refplain_any D w (by unfold maxLen; omega))
      obtain ⟨E, HEq⟩ : ∃ E, Hid ((refEncT D).1 = E) := ⟨_, Lib.hid rfl⟩
      obtain ⟨d, Hd⟩ : ∃ d, Hid ((refEncT D).2 = d) := ⟨_, Lib.hid rfl⟩
      have HE : Hid (∀ w, Calls Tryd.prog 26 #[.string D] w fun e w' => e = .returned (.tuple #[.string E, .int .i64 d]) ∧ Below w.heap.size w w') := Lib.hid (fun w => by
        have := RefEncode_of4 D w (by unfold maxLen; omega) (by omega) (fun _ w => Signs_any D w (by omega))
        rwa [HEq.out, Hd.out] at this)
      rw [HDd.out, Hc.out, HEq.out] at HTl
      clear hp hx
      by_cases hc : c = 0
      · subst hc
        cases hpD : plainL D.data.toList with
        | true =>
          have HR : Hid (T = (⟨#[]⟩, 5)) := Lib.hid (by rw [HTl.out, hpD]; rfl)
          rw [hpD] at HP2
          clear hpD
          go_enter Tryd.func10, Tryd.ntmps10
          go_wp2_with fail
          refine HS1.out.mono ?_
          rintro e w1 (⟨l, v, hl, rfl, hr, b1⟩ | ⟨hl, rfl, b1⟩)
          rotate_left
          · cases hl
          have B1 := Lib.hid b1; clear b1 hl hr
          go_wp2_with fail
          refine (HLo.out _).mono ?_
          rintro e w2 ⟨rfl, b2⟩
          have B2 : Hid (Below w.heap.size w w2) := Lib.hid (B1.out.trans (b2.mono B1.out.size))
          clear b2
          go_wp2_with fail
          refine (HPl.out _).mono ?_
          rintro e w3 ⟨rfl, rfl⟩
          go_wp2_with fail
          refine (HFw.out _).mono ?_
          rintro e w4 ⟨rfl, rfl⟩
          go_wp2_with fail
          refine (HDc.out _).mono ?_
          rintro e w5 ⟨rfl, b5⟩
          have B5 : Hid (Below w.heap.size w w5) := Lib.hid (B2.out.trans (b5.mono B2.out.size))
          clear b5
          go_wp2_with fail
          refine (HP2.out _).mono ?_
          rintro e w6 ⟨rfl, rfl⟩
          go_wp2
          go_ret2
          exact ⟨ret_lab HR.out rfl rfl, B5.out⟩
        | false =>
          have HTm : Hid (T = if E = X then labE L else (⟨#[]⟩, 5)) := Lib.hid (by rw [HTl.out, hpD]; simp)
          rw [hpD] at HP2
          clear hpD
          by_cases he : E = X
          · have HR : Hid (T = labE L) := Lib.hid (by rw [HTm.out, if_pos he])
            have hb : (E.toList == (L.extract 4 L.size).toList) = true := by rw [beqB, HX.out, he]; simp
            clear he
            go_enter Tryd.func10, Tryd.ntmps10
            go_wp2_with fail
            refine HS1.out.mono ?_
            rintro e w1 (⟨l, v, hl, rfl, hr, b1⟩ | ⟨hl, rfl, b1⟩)
            rotate_left
            · cases hl
            have B1 := Lib.hid b1; clear b1 hl hr
            go_wp2_with fail
            refine (HLo.out _).mono ?_
            rintro e w2 ⟨rfl, b2⟩
            have B2 : Hid (Below w.heap.size w w2) := Lib.hid (B1.out.trans (b2.mono B1.out.size))
            clear b2
            go_wp2_with fail
            refine (HPl.out _).mono ?_
            rintro e w3 ⟨rfl, rfl⟩
            go_wp2_with fail
            refine (HFw.out _).mono ?_
            rintro e w4 ⟨rfl, rfl⟩
            go_wp2_with fail
            refine (HDc.out _).mono ?_
            rintro e w5 ⟨rfl, b5⟩
            have B5 : Hid (Below w.heap.size w w5) := Lib.hid (B2.out.trans (b5.mono B2.out.size))
            clear b5
            go_wp2_with fail
            refine (HP2.out _).mono ?_
            rintro e w6 ⟨rfl, rfl⟩
            go_wp2_with fail
            refine (HE.out _).mono ?_
            rintro e w7 ⟨rfl, b7⟩
            have B7 : Hid (Below w.heap.size w w7) := Lib.hid (B5.out.trans (b7.mono B5.out.size))
            clear b7
            by_cases h6 : 63 < L.size
            · have HR2 : Hid (T = (⟨#[]⟩, 5)) := Lib.hid (by rw [HR.out, labE, if_pos h6])
              have h6I : (63 : Int) < (L.size : Int) := by omega
              go_wp2
              go_ret2
              exact ⟨ret_lab HR2.out rfl rfl, B7.out⟩
            · have HR2 : Hid (T = (L, 0)) := Lib.hid (by rw [HR.out, labE, if_neg h6])
              have h6I : (L.size : Int) ≤ 63 := by omega
              go_wp2
              go_ret2
              exact ⟨ret_lab HR2.out rfl rfl, B7.out⟩
          · have HR : Hid (T = (⟨#[]⟩, 5)) := Lib.hid (by rw [HTm.out, if_neg he])
            have hb : (E.toList == (L.extract 4 L.size).toList) = false := by rw [beqB, HX.out]; simpa using he
            clear he
            go_enter Tryd.func10, Tryd.ntmps10
            go_wp2_with fail
            refine HS1.out.mono ?_
            rintro e w1 (⟨l, v, hl, rfl, hr, b1⟩ | ⟨hl, rfl, b1⟩)
            rotate_left
            · cases hl
            have B1 := Lib.hid b1; clear b1 hl hr
            go_wp2_with fail
            refine (HLo.out _).mono ?_
            rintro e w2 ⟨rfl, b2⟩
            have B2 : Hid (Below w.heap.size w w2) := Lib.hid (B1.out.trans (b2.mono B1.out.size))
            clear b2
            go_wp2_with fail
            refine (HPl.out _).mono ?_
            rintro e w3 ⟨rfl, rfl⟩
            go_wp2_with fail
            refine (HFw.out _).mono ?_
            rintro e w4 ⟨rfl, rfl⟩
            go_wp2_with fail
            refine (HDc.out _).mono ?_
            rintro e w5 ⟨rfl, b5⟩
            have B5 : Hid (Below w.heap.size w w5) := Lib.hid (B2.out.trans (b5.mono B2.out.size))
            clear b5
            go_wp2_with fail
            refine (HP2.out _).mono ?_
            rintro e w6 ⟨rfl, rfl⟩
            go_wp2_with fail
            refine (HE.out _).mono ?_
            rintro e w7 ⟨rfl, b7⟩
            have B7 : Hid (Below w.heap.size w w7) := Lib.hid (B5.out.trans (b7.mono B5.out.size))
            clear b7
            go_wp2
            go_ret2
            exact ⟨ret_lab HR.out rfl rfl, B7.out⟩
      · have HR : Hid (T = (⟨#[]⟩, 5)) := Lib.hid (by rw [HTl.out, if_neg hc]; rfl)
        have hc0 : (c == 0) = false := beq_eq_false_iff_ne.2 hc
        have hc1 : (c != 0) = true := by rw [bne, hc0]; rfl
        clear hc
        go_enter Tryd.func10, Tryd.ntmps10
        go_wp2_with fail
        refine HS1.out.mono ?_
        rintro e w1 (⟨l, v, hl, rfl, hr, b1⟩ | ⟨hl, rfl, b1⟩)
        rotate_left
        · cases hl
        have B1 := Lib.hid b1; clear b1 hl hr
        go_wp2_with fail
        refine (HLo.out _).mono ?_
        rintro e w2 ⟨rfl, b2⟩
        have B2 : Hid (Below w.heap.size w w2) := Lib.hid (B1.out.trans (b2.mono B1.out.size))
        clear b2
        go_wp2_with fail
        refine (HPl.out _).mono ?_
        rintro e w3 ⟨rfl, rfl⟩
        go_wp2_with fail
        refine (HFw.out _).mono ?_
        rintro e w4 ⟨rfl, rfl⟩
        go_wp2_with fail
        refine (HDc.out _).mono ?_
        rintro e w5 ⟨rfl, b5⟩
        have B5 : Hid (Below w.heap.size w w5) := Lib.hid (B2.out.trans (b5.mono B2.out.size))
        clear b5
        go_wp2
        go_ret2
        exact ⟨ret_lab HR.out rfl rfl, B5.out⟩

set_option maxRecDepth 100000 in
set_option maxHeartbeats 2000000 in
theorem RefShow_any (s : ByteArray) (w : World) (hs : s.size ≤ 1000) :
    Calls Tryd.prog 12 #[.string s] w fun e w' => e = .returned (.string (showT s)) ∧ Below w.heap.size w w' := by
  obtain ⟨T, HT⟩ : ∃ T, Hid (showT s = T) := ⟨_, Lib.hid rfl⟩
  have HTD := Lib.hid (showD_eq s hs)
  rw [HT.out] at HTD
  rw [HT.out]
  have hl63 := labT_size s
  obtain ⟨l, HL⟩ : ∃ l, Hid ((labT s).1 = l) := ⟨_, Lib.hid rfl⟩
  obtain ⟨c, Hc⟩ : ∃ c, Hid ((labT s).2 = c) := ⟨_, Lib.hid rfl⟩
  have C1 : Hid (Calls Tryd.prog 10 #[.string s] w fun e w' => e = .returned (.tuple #[.string l, .int .i64 c]) ∧ Below w.heap.size w w') := Lib.hid (by
    have := RefLabel_any s w hs
    rwa [HL.out, Hc.out] at this)
  rw [HL.out, Hc.out] at HTD
  rw [HL.out] at hl63
  obtain ⟨S, HS⟩ : ∃ S, Hid (lowS s = S) := ⟨_, Lib.hid rfl⟩
  have hSs : S.size ≤ 1000 := by rw [← HS.out, lowS_size]; exact hs
  have HLo : Hid (∀ w, Calls Tryd.prog 24 #[.string s] w fun e w' => e = .returned (.string S) ∧ Below w.heap.size w w') := Lib.hid (fun w => by
    have := RefLower_any s w (by unfold maxLen; omega)
    rwa [HS.out] at this)
  rw [HS.out] at HTD
  obtain ⟨px, Hpx⟩ : ∃ p, Hid (Lib.hasPrefix S.data.toList [120, 110, 45, 45] = p) := ⟨_, Lib.hid rfl⟩
  obtain ⟨pl, Hpl⟩ : ∃ p, Hid (plainL s.data.toList = p) := ⟨_, Lib.hid rfl⟩
  have HFw : Hid (∀ w, Calls Tryd.prog 27 #[.string S] w fun e w' => e = .returned (.bool px) ∧ w' = w) := Lib.hid (fun w => by
    have := RefFew_any S w (by unfold maxLen; omega)
    rwa [Hpx.out] at this)
  have HPl : Hid (∀ w, Calls Tryd.prog 25 #[.string s] w fun e w' => e = .returned (.bool pl) ∧ w' = w) := Lib.hid (fun w => by
    have := Refplain_any s w (by unfold maxLen; omega)
    rwa [Hpl.out] at this)
  rw [Hpx.out, Hpl.out] at HTD
  have HLx : Hid (c = 0 → px = true → pl = true → 4 ≤ l.size) := Lib.hid (fun h1 h2 h3 => by
    subst h1 h2 h3
    exact lab_px hs Hc.out (by rw [HS.out]; exact Hpx.out) Hpl.out HL.out)
  clear Hpx Hpl
  by_cases hc : c = 0
  · subst hc
    cases px with
    | false =>
      have HR : Hid (T = s) := Lib.hid (by rw [HTD.out]; rfl)
      go_enter Tryd.func12, Tryd.ntmps12
      go_wp2_with fail
      refine C1.out.mono ?_
      rintro e w1 ⟨rfl, b1⟩
      have B1 := Lib.hid b1; clear b1
      go_wp2_with fail
      refine (HLo.out _).mono ?_
      rintro e w2 ⟨rfl, b2⟩
      have B2 : Hid (Below w.heap.size w w2) := Lib.hid (B1.out.trans (b2.mono B1.out.size))
      clear b2
      go_wp2_with fail
      refine (HFw.out _).mono ?_
      rintro e w3 ⟨rfl, rfl⟩
      go_wp2
      go_ret
      exact ⟨ret_str HR.out.symm, B2.out⟩
    | true =>
      cases pl with
      | false =>
        have HR : Hid (T = s) := Lib.hid (by rw [HTD.out]; rfl)
        go_enter Tryd.func12, Tryd.ntmps12
        go_wp2_with fail
        refine C1.out.mono ?_
        rintro e w1 ⟨rfl, b1⟩
        have B1 := Lib.hid b1; clear b1
        go_wp2_with fail
        refine (HLo.out _).mono ?_
        rintro e w2 ⟨rfl, b2⟩
        have B2 : Hid (Below w.heap.size w w2) := Lib.hid (B1.out.trans (b2.mono B1.out.size))
        clear b2
        go_wp2_with fail
        refine (HFw.out _).mono ?_
        rintro e w3 ⟨rfl, rfl⟩
        go_wp2_with fail
        refine (HPl.out _).mono ?_
        rintro e w4 ⟨rfl, rfl⟩
        go_wp2
        go_ret
        exact ⟨ret_str HR.out.symm, B2.out⟩
      | true =>
        have h4 := HLx.out rfl rfl rfl
        have h4I : (4 : Int) ≤ (l.size : Int) := by omega
        obtain ⟨d, Hd⟩ : ∃ d, Hid ((decT (l.extract 4 l.size)).2 = d) := ⟨_, Lib.hid rfl⟩
        obtain ⟨D, HDd⟩ : ∃ D, Hid ((decT (l.extract 4 l.size)).1 = D) := ⟨_, Lib.hid rfl⟩
        have HR : Hid (T = D) := Lib.hid (by rw [HTD.out, ← HDd.out]; rfl)
        have HDc : Hid (∀ w, Calls Tryd.prog 28 #[.string (l.extract 4 l.size)] w fun e w' => e = .returned (.tuple #[.string D, .int .i64 d]) ∧ Below w.heap.size w w') := Lib.hid (fun w => by
          have hz : (l.extract 4 l.size).size ≤ 1000 := by rw [ByteArray.size_extract]; omega
          have := RefDecode_any (l.extract 4 l.size) w (by unfold maxLen; omega) (.inl hz)
          rwa [HDd.out, Hd.out] at this)
        go_enter Tryd.func12, Tryd.ntmps12
        go_wp2_with fail
        refine C1.out.mono ?_
        rintro e w1 ⟨rfl, b1⟩
        have B1 := Lib.hid b1; clear b1
        go_wp2_with fail
        refine (HLo.out _).mono ?_
        rintro e w2 ⟨rfl, b2⟩
        have B2 : Hid (Below w.heap.size w w2) := Lib.hid (B1.out.trans (b2.mono B1.out.size))
        clear b2
        go_wp2_with fail
        refine (HFw.out _).mono ?_
        rintro e w3 ⟨rfl, rfl⟩
        go_wp2_with fail
        refine (HPl.out _).mono ?_
        rintro e w4 ⟨rfl, rfl⟩
        go_wp2_with fail
        refine (HDc.out _).mono ?_
        rintro e w5 ⟨rfl, b5⟩
        have B5 : Hid (Below w.heap.size w w5) := Lib.hid (B2.out.trans (b5.mono B2.out.size))
        clear b5
        go_wp2
        go_ret
        exact ⟨ret_str HR.out.symm, B5.out⟩
  · have HR : Hid (T = s) := Lib.hid (by rw [HTD.out, if_neg hc])
    have hc0 : (c == 0) = false := beq_eq_false_iff_ne.2 hc
    have hc1 : (c != 0) = true := by rw [bne, hc0]; rfl
    clear hc
    go_enter Tryd.func12, Tryd.ntmps12
    go_wp2_with fail
    refine C1.out.mono ?_
    rintro e w1 ⟨rfl, b1⟩
    have B1 := Lib.hid b1; clear b1
    go_wp2
    go_ret
    exact ⟨ret_str HR.out.symm, B1.out⟩

set_option maxRecDepth 100000 in
set_option maxHeartbeats 2000000 in
theorem labels_walk (s : ByteArray) (w : World) (hs : s.size ≤ 140737488351232) (hV : Vld w) :
    Calls Tryd.prog 3 #[.string s] w fun e w' => e = .returned (.bool true) ∧ Below w.heap.size w w' := by
  have HV := Lib.hid hV; clear hV
  by_cases h1 : 1000 < s.size
  · have hI : (1000 : Int) < (s.size : Int) := by omega
    clear h1
    go_enter Tryd.func3, Tryd.ntmps3
    go_wp2
    go_ret
    exact ⟨rfl, Below.refl _ _⟩
  have hI : (s.size : Int) ≤ 1000 := by omega
  have hs1 : s.size ≤ 1000 := by omega
  obtain ⟨l, HL⟩ : ∃ l, Hid ((labT s).1 = l) := ⟨_, Lib.hid rfl⟩
  obtain ⟨c, Hc⟩ : ∃ c, Hid ((labT s).2 = c) := ⟨_, Lib.hid rfl⟩
  obtain ⟨t, Ht⟩ : ∃ t, Hid (showT s = t) := ⟨_, Lib.hid rfl⟩
  have C1 : Hid (Calls Tryd.prog 9 #[.string s] w fun e w' => e = .returned (.tuple #[.string l, .int .i64 c]) ∧ Below w.heap.size w w') := Lib.hid (by
    have := Label_any s w hs1 HV.out
    rwa [HL.out, Hc.out] at this)
  have C2 : Hid (∀ w, Calls Tryd.prog 10 #[.string s] w fun e w' => e = .returned (.tuple #[.string l, .int .i64 c]) ∧ Below w.heap.size w w') := Lib.hid (fun w => by
    have := RefLabel_any s w hs1
    rwa [HL.out, Hc.out] at this)
  have C3 : Hid (∀ w, Vld w → Calls Tryd.prog 11 #[.string s] w fun e w' => e = .returned (.string t) ∧ Below w.heap.size w w') := Lib.hid (fun w hV => by
    have := Show_any s w hs1 hV
    rwa [Ht.out] at this)
  have C4 : Hid (∀ w, Calls Tryd.prog 12 #[.string s] w fun e w' => e = .returned (.string t) ∧ Below w.heap.size w w') := Lib.hid (fun w => by
    have := RefShow_any s w hs1
    rwa [Ht.out] at this)
  clear h1 hs hs1
  go_enter Tryd.func3, Tryd.ntmps3
  go_wp2_with fail
  refine C1.out.mono ?_
  rintro e w1 ⟨rfl, b1⟩
  have B1 : Hid (Below w.heap.size w w1) := Lib.hid b1
  clear b1
  go_wp2_with fail
  refine (C2.out _).mono ?_
  rintro e w2 ⟨rfl, b2⟩
  have B2 : Hid (Below w.heap.size w w2) := Lib.hid (B1.out.trans (b2.mono B1.out.size))
  clear b2
  go_wp2_with fail
  refine (C3.out _ (HV.out.later B2.out)).mono ?_
  rintro e w3 ⟨rfl, b3⟩
  have B3 : Hid (Below w.heap.size w w3) := Lib.hid (B2.out.trans (b3.mono B2.out.size))
  clear b3
  go_wp2_with fail
  refine (C4.out _).mono ?_
  rintro e w4 ⟨rfl, b4⟩
  have B4 : Hid (Below w.heap.size w w4) := Lib.hid (B3.out.trans (b4.mono B3.out.size))
  clear b4
  go_wp2
  go_ret
  exact ⟨rfl, B4.out⟩

end Go.Proofs.YtgmjfnddeogfdaaDoor
