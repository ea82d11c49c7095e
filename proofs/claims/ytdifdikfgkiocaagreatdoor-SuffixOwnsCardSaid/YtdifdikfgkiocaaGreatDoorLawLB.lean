/-
  Contracts: the document's Label and Show. The walk of PunyLabels.
-/
import Derived.Test.YtdifdikfgkiocaaGreatDoorMrE
import Derived.Test.YtdifdikfgkiocaaGreatDoorEnS
namespace Go.Proofs.YtdifdikfgkiocaaGreatDoor
open Go.RowKit

set_option maxRecDepth 100000 in
set_option maxHeartbeats 4000000 in
theorem RefLabel_any (s : ByteArray) (w : World) (hs : s.size ≤ 1000) :
  Calls Tryz.prog 74 #[.string s] w fun e w' => e = .returned (.tuple #[.string (labT s).1, .int .i64 (labT s).2]) ∧ Below w.heap.size w w' := by
 obtain ⟨T, HT⟩ : ∃ T, Hid (labT s = T) := ⟨_, Lib.hid rfl⟩
 rw [HT.out]
 have HD : Hid (T = labD s) := Lib.hid (by rw [← HT.out]; exact labD_eq s hs)
 have HS1 := Lib.hid (Signs_any s w (by omega))
 by_cases h0 : s.size = 0
 ·have HR : Hid (T = (⟨#[]⟩, 5)) := Lib.hid (by rw [HD.out, labD, if_pos h0])
  have hem : s.toList.isEmpty = true := by
   rw [ByteArray.toList_eq, List.isEmpty_iff]
   exact List.eq_nil_of_length_eq_zero (by simpa using h0)
  clear h0
  go_enter Tryz.func74, Tryz.ntmps74
  go_wp2_with fail
  refine HS1.out.mono ?_
  rintro e w1 (⟨l, v, hl, rfl, hr, b1⟩ | ⟨hl, rfl, b1⟩)
  ·have B1 := Lib.hid b1; clear b1 hl hr
   go_wp2
   go_ret2
   exact ⟨ret_lab HR.out rfl rfl, B1.out⟩
  ·have B1 := Lib.hid b1; clear b1 hl
   go_wp2
   go_ret2
   exact ⟨ret_lab HR.out rfl rfl, B1.out⟩
 have hem : s.toList.isEmpty = false := by
  rw [ByteArray.toList_eq, ← Bool.not_eq_true, List.isEmpty_iff]
  intro h; exact h0 (by have := congrArg List.length h; simpa using this)
 rcases valid_sg s with ⟨hv, LL, hLL, -, -⟩ | ⟨hv, hLL⟩
 rotate_left
 ·have HR : Hid (T = (⟨#[]⟩, 5)) := Lib.hid (by rw [HD.out, labD, if_neg h0, if_pos hv])
  rw [hLL] at HS1
  clear h0 hv hLL
  go_enter Tryz.func74, Tryz.ntmps74
  go_wp2_with fail
  refine HS1.out.mono ?_
  rintro e w1 (⟨l, v, hl, rfl, hr, b1⟩ | ⟨hl, rfl, b1⟩)
  ·cases hl
  ·have B1 := Lib.hid b1; clear b1 hl
   go_wp2
   go_ret2
   exact ⟨ret_lab HR.out rfl rfl, B1.out⟩
 rw [hLL] at HS1
 obtain ⟨L, HL⟩ : ∃ L, Hid (lowS s = L) := ⟨_, Lib.hid rfl⟩
 have hLs : L.size ≤ 1000 := by rw [← HL.out, lowS_size]; exact hs
 have HLo : Hid (∀ w, Calls Tryz.prog 110 #[.string s] w fun e w' => e = .returned (.string L) ∧ Below w.heap.size w w') := Lib.hid (fun w => by
  have := RefLower_any s w (by unfold maxLen; omega)
  rwa [HL.out] at this)
 have hlf := low_few hs hv
 rw [HL.out] at hlf
 have HTT : Hid (T = if plainL L.data.toList then (if Lib.hasPrefix L.data.toList [120, 110, 45, 45] then (if tellsB (cutX L) then labE L else (⟨#[]⟩, 5)) else labE L) else labE ((⟨#[120, 110, 45, 45]⟩ : ByteArray) ++ fewT L)) := Lib.hid (by
  rw [HD.out, labD, if_neg h0, if_neg (by rw [hv]; simp), HL.out])
 have HPl : Hid (∀ w, Calls Tryz.prog 111 #[.string L] w fun e w' => e = .returned (.bool (plainL L.data.toList)) ∧ w' = w) := Lib.hid (fun w => Refplain_any L w (by unfold maxLen; omega))
 have HFw : Hid (∀ w, Calls Tryz.prog 113 #[.string L] w fun e w' => e = .returned (.bool (Lib.hasPrefix L.data.toList [120, 110, 45, 45])) ∧ w' = w) := Lib.hid (fun w => RefFew_any L w (by unfold maxLen; omega))
 clear h0 hv hLL
 cases hp : plainL L.data.toList with
 | false =>
  obtain ⟨Q, HQ⟩ : ∃ Q, Hid (fewT L = Q) := ⟨_, Lib.hid rfl⟩
  have hQs : Q.size ≤ 20000 := by rw [← HQ.out]; exact hlf.2.1
  have HR : Hid (T = labE ((⟨#[120, 110, 45, 45]⟩ : ByteArray) ++ Q)) := Lib.hid (by rw [HTT.out, hp, HQ.out]; rfl)
  have HE : Hid (∀ w, Calls Tryz.prog 112 #[.string L] w fun e w' => e = .returned (.tuple #[.string Q, .int .i64 0]) ∧ Below w.heap.size w w') := Lib.hid (fun w => by
   have := RefEncode_of4 L w (by unfold maxLen; omega) (by omega) (fun _ w => Signs_any L w (by omega))
   rwa [hlf.1, HQ.out] at this)
  rw [hp] at HPl
  clear hp hlf
  go_enter Tryz.func74, Tryz.ntmps74
  go_wp2_with fail
  refine HS1.out.mono ?_
  rintro e w1 (⟨l, v, hl, rfl, hr, b1⟩ | ⟨hl, rfl, b1⟩)
  rotate_left
  ·cases hl
  have B1 := Lib.hid b1; clear b1 hl hr
  go_wp2_with fail
  refine (HLo.out _).mono ?_
  rintro e w2 ⟨rfl, b2⟩
  have B2 : Hid (Below w.heap.size w w2) := Lib.hid (B1.out.trans (b2.mono B1.out.size))
  clear b2
  go_wp2_with fail
  refine (HPl.out _).mono ?_
  rintro e w3 ⟨rfl, rfl⟩
  go_wp2_with fail
  refine (HE.out _).mono ?_
  rintro e w4 ⟨rfl, b4⟩
  have B4 : Hid (Below w.heap.size w w4) := Lib.hid (B2.out.trans (b4.mono B2.out.size))
  clear b4
  have hz1 : ¬ 9223372036854775807 < 4 + Q.size := by omega
  by_cases h6 : 63 < 4 + Q.size
  ·have HR2 : Hid (T = (⟨#[]⟩, 5)) := Lib.hid (by rw [HR.out, labE, if_pos (by rw [catX_size]; exact h6)])
   have h6I : (63 : Int) < 4 + (Q.size : Int) := by omega
   go_wp2
   go_ret2
   exact ⟨ret_lab HR2.out rfl rfl, B4.out⟩
  ·have HR2 : Hid (T = ((⟨#[120, 110, 45, 45]⟩ : ByteArray) ++ Q, 0)) := Lib.hid (by rw [HR.out, labE, if_neg (by rw [catX_size]; exact h6)])
   have h6I : 4 + (Q.size : Int) ≤ 63 := by omega
   go_wp2
   go_ret2
   exact ⟨ret_lab HR2.out rfl rfl, B4.out⟩
 | true =>
  clear hlf
  rw [hp] at HPl
  cases hx : Lib.hasPrefix L.data.toList [120, 110, 45, 45] with
  | false =>
   have HR : Hid (T = labE L) := Lib.hid (by rw [HTT.out, hp, hx]; rfl)
   rw [hx] at HFw
   clear hp hx
   go_enter Tryz.func74, Tryz.ntmps74
   go_wp2_with fail
   refine HS1.out.mono ?_
   rintro e w1 (⟨l, v, hl, rfl, hr, b1⟩ | ⟨hl, rfl, b1⟩)
   rotate_left
   ·cases hl
   have B1 := Lib.hid b1; clear b1 hl hr
   go_wp2_with fail
   refine (HLo.out _).mono ?_
   rintro e w2 ⟨rfl, b2⟩
   have B2 : Hid (Below w.heap.size w w2) := Lib.hid (B1.out.trans (b2.mono B1.out.size))
   clear b2
   go_wp2_with fail
   refine (HPl.out _).mono ?_
   rintro e w3 ⟨rfl, rfl⟩
   go_wp2_with fail
   refine (HFw.out _).mono ?_
   rintro e w4 ⟨rfl, rfl⟩
   by_cases h6 : 63 < L.size
   ·have HR2 : Hid (T = (⟨#[]⟩, 5)) := Lib.hid (by rw [HR.out, labE, if_pos h6])
    have h6I : (63 : Int) < (L.size : Int) := by omega
    go_wp2
    go_ret2
    exact ⟨ret_lab HR2.out rfl rfl, B2.out⟩
   ·have HR2 : Hid (T = (L, 0)) := Lib.hid (by rw [HR.out, labE, if_neg h6])
    have h6I : (L.size : Int) ≤ 63 := by omega
    go_wp2
    go_ret2
    exact ⟨ret_lab HR2.out rfl rfl, B2.out⟩
  | true =>
   have h4 := px_le hx
   have h4I : (4 : Int) ≤ (L.size : Int) := by omega
   obtain ⟨X, HX⟩ : ∃ X, Hid (L.extract 4 L.size = X) := ⟨_, Lib.hid rfl⟩
   have hXs : X.size ≤ 1000 := by rw [← HX.out, ByteArray.size_extract]; omega
   have HTl : Hid (T = if (if (decT X).2 = 0 then if plainL (decT X).1.data.toList then false else decide ((refEncT (decT X).1).1 = X) else false) = true then labE L else (⟨#[]⟩, 5)) := Lib.hid (by
    rw [HTT.out, hp, if_pos rfl, hx, if_pos rfl, cutX_ext hx, HX.out, tells_doc X hXs])
   rw [hx] at HFw
   obtain ⟨D, HDd⟩ : ∃ D, Hid ((decT X).1 = D) := ⟨_, Lib.hid rfl⟩
   obtain ⟨c, Hc⟩ : ∃ c, Hid ((decT X).2 = c) := ⟨_, Lib.hid rfl⟩
   have hDs : D.size ≤ 4000 := by have := decT_size X; rw [HDd.out] at this; omega
   have HDc : Hid (∀ w, Calls Tryz.prog 114 #[.string (L.extract 4 L.size)] w fun e w' => e = .returned (.tuple #[.string D, .int .i64 c]) ∧ Below w.heap.size w w') := Lib.hid (fun w => by
    rw [HX.out]
    have := RefDecode_any X w (by unfold maxLen; omega) (.inl hXs)
    rwa [HDd.out, Hc.out] at this)
   have HP2 : Hid (∀ w, Calls Tryz.prog 111 #[.string D] w fun e w' => e = .returned (.bool (plainL D.data.toList)) ∧ w' = w) := Lib.hid (fun w => Refplain_any D w (by unfold maxLen; omega))
   obtain ⟨E, HEq⟩ : ∃ E, Hid ((refEncT D).1 = E) := ⟨_, Lib.hid rfl⟩
   obtain ⟨d, Hd⟩ : ∃ d, Hid ((refEncT D).2 = d) := ⟨_, Lib.hid rfl⟩
   have HE : Hid (∀ w, Calls Tryz.prog 112 #[.string D] w fun e w' => e = .returned (.tuple #[.string E, .int .i64 d]) ∧ Below w.heap.size w w') := Lib.hid (fun w => by
    have := RefEncode_of4 D w (by unfold maxLen; omega) (by omega) (fun _ w => Signs_any D w (by omega))
    rwa [HEq.out, Hd.out] at this)
   rw [HDd.out, Hc.out, HEq.out] at HTl
   clear hp hx
   by_cases hc : c = 0
   ·subst hc
    cases hpD : plainL D.data.toList with
    | true =>
     have HR : Hid (T = (⟨#[]⟩, 5)) := Lib.hid (by rw [HTl.out, hpD]; rfl)
     rw [hpD] at HP2
     clear hpD
     go_enter Tryz.func74, Tryz.ntmps74
     go_wp2_with fail
     refine HS1.out.mono ?_
     rintro e w1 (⟨l, v, hl, rfl, hr, b1⟩ | ⟨hl, rfl, b1⟩)
     rotate_left
     ·cases hl
     have B1 := Lib.hid b1; clear b1 hl hr
     go_wp2_with fail
     refine (HLo.out _).mono ?_
     rintro e w2 ⟨rfl, b2⟩
     have B2 : Hid (Below w.heap.size w w2) := Lib.hid (B1.out.trans (b2.mono B1.out.size))
     clear b2
     go_wp2_with fail
     refine (HPl.out _).mono ?_
     rintro e w3 ⟨rfl, rfl⟩
     go_wp2_with fail
     refine (HFw.out _).mono ?_
     rintro e w4 ⟨rfl, rfl⟩
     go_wp2_with fail
     refine (HDc.out _).mono ?_
     rintro e w5 ⟨rfl, b5⟩
     have B5 : Hid (Below w.heap.size w w5) := Lib.hid (B2.out.trans (b5.mono B2.out.size))
     clear b5
     go_wp2_with fail
     refine (HP2.out _).mono ?_
     rintro e w6 ⟨rfl, rfl⟩
     go_wp2
     go_ret2
     exact ⟨ret_lab HR.out rfl rfl, B5.out⟩
    | false =>
     have HTm : Hid (T = if E = X then labE L else (⟨#[]⟩, 5)) := Lib.hid (by rw [HTl.out, hpD]; simp)
     rw [hpD] at HP2
     clear hpD
     by_cases he : E = X
     ·have HR : Hid (T = labE L) := Lib.hid (by rw [HTm.out, if_pos he])
      have hb : (E.toList == (L.extract 4 L.size).toList) = true := by rw [beqB, HX.out, he]; simp
      clear he
      go_enter Tryz.func74, Tryz.ntmps74
      go_wp2_with fail
      refine HS1.out.mono ?_
      rintro e w1 (⟨l, v, hl, rfl, hr, b1⟩ | ⟨hl, rfl, b1⟩)
      rotate_left
      ·cases hl
      have B1 := Lib.hid b1; clear b1 hl hr
      go_wp2_with fail
      refine (HLo.out _).mono ?_
      rintro e w2 ⟨rfl, b2⟩
      have B2 : Hid (Below w.heap.size w w2) := Lib.hid (B1.out.trans (b2.mono B1.out.size))
      clear b2
      go_wp2_with fail
      refine (HPl.out _).mono ?_
      rintro e w3 ⟨rfl, rfl⟩
      go_wp2_with fail
      refine (HFw.out _).mono ?_
      rintro e w4 ⟨rfl, rfl⟩
      go_wp2_with fail
      refine (HDc.out _).mono ?_
      rintro e w5 ⟨rfl, b5⟩
      have B5 : Hid (Below w.heap.size w w5) := Lib.hid (B2.out.trans (b5.mono B2.out.size))
      clear b5
      go_wp2_with fail
      refine (HP2.out _).mono ?_
      rintro e w6 ⟨rfl, rfl⟩
      go_wp2_with fail
      refine (HE.out _).mono ?_
      rintro e w7 ⟨rfl, b7⟩
      have B7 : Hid (Below w.heap.size w w7) := Lib.hid (B5.out.trans (b7.mono B5.out.size))
      clear b7
      by_cases h6 : 63 < L.size
      ·have HR2 : Hid (T = (⟨#[]⟩, 5)) := Lib.hid (by rw [HR.out, labE, if_pos h6])
       have h6I : (63 : Int) < (L.size : Int) := by omega
       go_wp2
       go_ret2
       exact ⟨ret_lab HR2.out rfl rfl, B7.out⟩
      ·have HR2 : Hid (T = (L, 0)) := Lib.hid (by rw [HR.out, labE, if_neg h6])
       have h6I : (L.size : Int) ≤ 63 := by omega
       go_wp2
       go_ret2
       exact ⟨ret_lab HR2.out rfl rfl, B7.out⟩
     ·have HR : Hid (T = (⟨#[]⟩, 5)) := Lib.hid (by rw [HTm.out, if_neg he])
      have hb : (E.toList == (L.extract 4 L.size).toList) = false := by rw [beqB, HX.out]; simpa using he
      clear he
      go_enter Tryz.func74, Tryz.ntmps74
      go_wp2_with fail
      refine HS1.out.mono ?_
      rintro e w1 (⟨l, v, hl, rfl, hr, b1⟩ | ⟨hl, rfl, b1⟩)
      rotate_left
      ·cases hl
      have B1 := Lib.hid b1; clear b1 hl hr
      go_wp2_with fail
      refine (HLo.out _).mono ?_
      rintro e w2 ⟨rfl, b2⟩
      have B2 : Hid (Below w.heap.size w w2) := Lib.hid (B1.out.trans (b2.mono B1.out.size))
      clear b2
      go_wp2_with fail
      refine (HPl.out _).mono ?_
      rintro e w3 ⟨rfl, rfl⟩
      go_wp2_with fail
      refine (HFw.out _).mono ?_
      rintro e w4 ⟨rfl, rfl⟩
      go_wp2_with fail
      refine (HDc.out _).mono ?_
      rintro e w5 ⟨rfl, b5⟩
      have B5 : Hid (Below w.heap.size w w5) := Lib.hid (B2.out.trans (b5.mono B2.out.size))
      clear b5
      go_wp2_with fail
      refine (HP2.out _).mono ?_
      rintro e w6 ⟨rfl, rfl⟩
      go_wp2_with fail
      refine (HE.out _).mono ?_
      rintro e w7 ⟨rfl, b7⟩
      have B7 : Hid (Below w.heap.size w w7) := Lib.hid (B5.out.trans (b7.mono B5.out.size))
      clear b7
      go_wp2
      go_ret2
      exact ⟨ret_lab HR.out rfl rfl, B7.out⟩
   ·have HR : Hid (T = (⟨#[]⟩, 5)) := Lib.hid (by rw [HTl.out, if_neg hc]; rfl)
    have hc0 : (c == 0) = false := beq_eq_false_iff_ne.2 hc
    have hc1 : (c != 0) = true := by rw [bne, hc0]; rfl
    clear hc
    go_enter Tryz.func74, Tryz.ntmps74
    go_wp2_with fail
    refine HS1.out.mono ?_
    rintro e w1 (⟨l, v, hl, rfl, hr, b1⟩ | ⟨hl, rfl, b1⟩)
    rotate_left
    ·cases hl
    have B1 := Lib.hid b1; clear b1 hl hr
    go_wp2_with fail
    refine (HLo.out _).mono ?_
    rintro e w2 ⟨rfl, b2⟩
    have B2 : Hid (Below w.heap.size w w2) := Lib.hid (B1.out.trans (b2.mono B1.out.size))
    clear b2
    go_wp2_with fail
    refine (HPl.out _).mono ?_
    rintro e w3 ⟨rfl, rfl⟩
    go_wp2_with fail
    refine (HFw.out _).mono ?_
    rintro e w4 ⟨rfl, rfl⟩
    go_wp2_with fail
    refine (HDc.out _).mono ?_
    rintro e w5 ⟨rfl, b5⟩
    have B5 : Hid (Below w.heap.size w w5) := Lib.hid (B2.out.trans (b5.mono B2.out.size))
    clear b5
    go_wp2
    go_ret2
    exact ⟨ret_lab HR.out rfl rfl, B5.out⟩

end Go.Proofs.YtdifdikfgkiocaaGreatDoor
