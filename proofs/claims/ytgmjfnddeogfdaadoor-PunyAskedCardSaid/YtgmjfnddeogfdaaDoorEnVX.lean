/-
  Contract: the document's Encode, of any text.
  The document's Signs are the program's; both few letters are the same.
  Contract: puny.Encode: the document's answer.
-/
import Derived.Test.YtgmjfnddeogfdaaDoorEnQ
import Derived.Test.YtgmjfnddeogfdaaDoorEnU
import Derived.Test.YtgmjfnddeogfdaaDoorEnT
import Derived.Test.YtgmjfnddeogfdaaDoorEnI
import Derived.Lib.TrimUEq
import Derived.Lib.ValidLaws
import Derived.Test.YtgmjfnddeogfdaaDoorEnJ
namespace Go.Proofs.YtgmjfnddeogfdaaDoor
open Go.RowKit

theorem sgO_bd (s : ByteArray) : ∀ (f p : Nat) (l : List Nat), sgO s f p = some l → (p ≤ s.size → l.length + p ≤ s.size + 3 * l.length) ∧ l.length ≤ f ∧ ∀ x ∈ l, x ≤ 1114111
  | 0, p, l, h => by
    simp [sgO] at h; subst h; simp
  | f + 1, p, l, h => by
    by_cases hp : p < s.size
    · rw [sgO, if_pos hp] at h
      split at h
      · cases h
      · obtain ⟨l', h1, rfl⟩ := Option.map_eq_some_iff.1 h
        obtain ⟨_, h3, h4⟩ := sgO_bd s f _ l' h1
        have hr := rune_bd s p
        refine ⟨fun _ => by simp; omega, by simp; omega, fun x hx => ?_⟩
        rcases List.mem_cons.1 hx with rfl | hx
        · exact hr
        · exact h4 x hx
    · rw [sgO_end s _ p hp] at h
      simp at h; subst h; simp
/-- What the document's Encode answers. -/
def refEncT (s : ByteArray) : ByteArray × Int :=
  if 65536 < s.size then (⟨#[]⟩, 3) else match sgO s s.size 0 with | none => (⟨#[]⟩, 4) | some l => (⟨(docE l).toArray⟩, 0)
theorem refEncT_none {s : ByteArray} (h : ¬ 65536 < s.size) (hn : sgO s s.size 0 = none) : refEncT s = (⟨#[]⟩, 4) := by rw [refEncT, if_neg h, hn]
theorem refEncT_some {s : ByteArray} {l : List Nat} (h : ¬ 65536 < s.size) (hn : sgO s s.size 0 = some l) : refEncT s = (⟨(docE l).toArray⟩, 0) := by rw [refEncT, if_neg h, hn]


theorem RefEncode_of (s : ByteArray) (w : World) (hs : s.size ≤ maxLen) (hs2 : s.size ≤ 1000 ∨ 65536 < s.size) (HS : s.size ≤ 1000 → ∀ w, Calls Tryd.prog 23 #[.string s] w (SgP w (sgO s s.size 0))) :
    Calls Tryd.prog 26 #[.string s] w fun e w' => e = .returned (.tuple #[.string (refEncT s).1, .int .i64 (refEncT s).2]) ∧ Below w.heap.size w w' := by
  by_cases h : 65536 < s.size
  · have := RefEncode_long s w hs h
    rw [refEncT, if_pos h]; exact this
  · have h1 : s.size ≤ 1000 := by omega
    have hS := HS h1 w
    match hT : sgO s s.size 0 with
    | none =>
      rw [refEncT_none h hT]
      refine RefEncode_bad s w h1 (Lib.hid (hS.mono fun e w' hp => ?_))
      rcases hp with ⟨l, v, hl, _⟩ | ⟨_, he, hb⟩
      · rw [hT] at hl; cases hl
      · exact ⟨he, hb⟩
    | some l =>
      rw [refEncT_some h hT]
      have hbd := sgO_bd s s.size 0 l hT
      by_cases hn : l = []
      · subst hn
        refine RefEncode_nil s w h1 (Lib.hid (hS.mono fun e w' hp => ?_))
        rcases hp with ⟨l, v, hl, he, hr, hb⟩ | ⟨hl, _⟩
        · rw [hT] at hl
          obtain rfl : [] = l := Option.some.inj hl
          rcases hr.2 with ⟨hv, _⟩ | ⟨g, cap, cur, hv, _, hg, _⟩
          · exact ⟨none, 0, by rw [he, hv], hb⟩
          · exact ⟨some ⟨g, 0, none⟩, cap, by rw [he, hv]; rfl, hb⟩
        · rw [hT] at hl; cases hl
      · refine RefEncode_row s w h1 l (by omega) hbd.2.2 (Lib.hid (hS.mono fun e w' hp => ?_))
        rcases hp with ⟨l', v, hl, he, hr, hb⟩ | ⟨hl, _⟩
        · rw [hT] at hl
          obtain rfl : l = l' := Option.some.inj hl
          rcases hr.2 with ⟨_, h0⟩ | ⟨g, cap, cur, hv, _, hg, _⟩
          · exact absurd (List.eq_nil_of_length_eq_zero h0) hn
          · refine ⟨g, cap, by rw [he, hv], fun k hk => ?_, (Array.getElem?_eq_some_iff.1 hg).1, hb⟩
            subst hv
            have := hr.cellAt k (by simpa using hk)
            simpa [iv, hk] using this
        · rw [hT] at hl; cases hl

end Go.Proofs.YtgmjfnddeogfdaaDoor
namespace Go.Proofs.YtgmjfnddeogfdaaDoor
open Go.RowKit

theorem sgO_valid (s : ByteArray) : ∀ (f p : Nat), s.size ≤ p + f → sgO s f p = if Lib.validD (s.data.toList.drop p) then some ((sgn s f p).map (·.1)) else none
  | 0, p, h => by
    have hd : s.data.toList.drop p = [] := List.drop_eq_nil_of_le (by rw [dLen]; omega)
    rw [hd]; rfl
  | f + 1, p, h => by
    by_cases hp : p < s.size
    · have hne : s.data.toList.drop p ≠ [] := by
        intro e
        have := congrArg List.length e
        rw [List.length_drop, dLen] at this; simp at this; omega
      have hw := width_pos s p
      rw [sgO, if_pos hp, sgn_on s f p hp, Lib.validD_step _ hne, Lib.decodeL_drop, List.drop_drop]
      by_cases hb : (Utf8.decode s p).1 = 65533 ∧ (Utf8.decode s p).2 = 1
      · rw [if_pos hb, if_pos hb]; rfl
      · rw [if_neg hb, if_neg hb, sgO_valid s f _ (by omega)]
        cases Lib.validD (s.data.toList.drop (p + (Utf8.decode s p).2)) <;> simp
    · rw [sgO_end s _ p hp, sgn_end s _ p hp]
      have hd : s.data.toList.drop p = [] := List.drop_eq_nil_of_le (by rw [dLen]; omega)
      rw [hd]; rfl

theorem sgn_mem2 (s : ByteArray) : ∀ f p, ∀ x ∈ sgn s f p, x.1 = (Utf8.decode s x.2).1
  | 0, _, x, h => by simp [sgn] at h
  | f + 1, p, x, h => by
    rw [sgn] at h
    split at h
    · rcases List.mem_cons.1 h with rfl | h
      · rfl
      · exact sgn_mem2 s f _ x h
    · simp at h
theorem plL_map (SG : List Pr) : plL (SG.map (·.1)) = plB SG := by
  induction SG with
  | nil => rfl
  | cons x SG ih =>
    by_cases h : x.1 < 128
    · have h1 : plL ((x :: SG).map (·.1)) = UInt8.ofNat x.1 :: plL (SG.map (·.1)) := by simp [plL, h]
      have h2 : plB (x :: SG) = UInt8.ofNat x.1 :: plB SG := by simp [plB, isPl, h]
      rw [h1, h2, ih]
    · have h1 : plL ((x :: SG).map (·.1)) = plL (SG.map (·.1)) := by simp [plL, h]
      have h2 : plB (x :: SG) = plB SG := by simp [plB, isPl, h]
      rw [h1, h2, ih]

theorem few_doc (s : ByteArray) (R : List Pr) (hp : R.Perm (otL (sgn s s.size 0))) (hs : Srt R) : fewL (sgn s s.size 0) R = docE ((sgn s s.size 0).map (·.1)) := by
  obtain ⟨SG, hSG⟩ : ∃ SG, sgn s s.size 0 = SG := ⟨_, rfl⟩
  have hr : Ris SG := by rw [← hSG]; exact sgn_ris s _ _
  have hb : ∀ x ∈ SG, x.1 ≤ 1114111 := by
    intro x hx
    rw [← hSG] at hx
    rw [(sgn_mem2 s _ _ x hx)]
    exact rune_bd s x.2
  rw [hSG] at hp ⊢
  have hot : otL SG = SG.filter fun x => decide (128 ≤ x.1) := by
    unfold otL
    refine List.filter_congr (fun x _ => ?_)
    rw [Bool.eq_iff_iff]; simp [isPl]
  rw [hot] at hp
  have hcnt : ∀ p, cntLt (plA SG) p = cSp SG 128 p := by
    intro p
    have : ∀ l : List Pr, cntLt (plA l) p = cSp l 128 p := by
      intro l
      unfold cntLt plA cSp
      rw [List.countP_reverse, List.countP_map, List.countP_filter]
      refine List.countP_congr (fun x _ => ?_)
      simp [isPl]
      exact And.comm
    exact this SG
  have hmany : (plB SG).length = cS SG 128 := by
    unfold plB cS
    rw [List.length_map, ← List.countP_eq_length_filter]
    exact List.countP_congr (fun x _ => by simp [isPl])
  have h := outer_eq SG hr hb (plB SG).length SG.length R 0 128 (plB SG).length 72 0 128 0 (plA SG) (by
    rw [hp.length_eq]; exact List.length_filter_le _ _) hs hp hcnt hmany (by omega) (by omega) (by omega)
  unfold fewL docE
  rw [plL_map, List.length_map, h]

end Go.Proofs.YtgmjfnddeogfdaaDoor
namespace Go.Proofs.YtgmjfnddeogfdaaDoor
open Go.RowKit

theorem ret_enc {a b : ByteArray} {c d : Int} (h : a = b) (h' : c = d) : Ending.returned (.tuple #[.string a, .int .i64 c]) = .returned (.tuple #[.string b, .int .i64 d]) := by rw [h, h']

set_option maxRecDepth 100000 in
set_option maxHeartbeats 1000000 in
theorem Encode_of (s : ByteArray) (w : World) (hs : s.size ≤ maxLen) (hV : Calls Tryd.prog 17 #[.string s] w fun e w' => e = .returned (.bool (Lib.validD s.data.toList)) ∧ Below w.heap.size w w') :
    Calls Tryd.prog 14 #[.string s] w fun e w' => e = .returned (.tuple #[.string (refEncT s).1, .int .i64 (refEncT s).2]) ∧ Below w.heap.size w w' := by
  unfold maxLen at hs
  have HV := Lib.hid hV
  clear hV
  have hval := sgO_valid s s.size 0 (by omega)
  rw [List.drop_zero] at hval
  by_cases h : 65536 < s.size
  · have HR : Hid (refEncT s = (⟨#[]⟩, 3)) := Lib.hid (by rw [refEncT, if_pos h])
    clear hval
    go_enter Tryd.func14, Tryd.ntmps14
    go_wp2
    go_ret2
    exact ⟨ret_enc (by rw [HR.out]) (by rw [HR.out]), Below.refl _ _⟩
  · obtain ⟨b, HB⟩ : ∃ b, Hid (Lib.validD s.data.toList = b) := ⟨_, Lib.hid rfl⟩
    rw [HB.out] at HV hval
    cases b
    · have HR : Hid (refEncT s = (⟨#[]⟩, 4)) := Lib.hid (refEncT_none h hval)
      clear hval
      go_enter Tryd.func14, Tryd.ntmps14
      go_wp2_with fail
      refine HV.out.mono ?_
      rintro e w1 ⟨rfl, b1⟩
      have B1 := Lib.hid b1; clear b1
      go_wp2
      go_ret2
      exact ⟨ret_enc (by rw [HR.out]) (by rw [HR.out]), B1.out⟩
    · have HR : Hid (refEncT s = (⟨(docE ((sgn s s.size 0).map (·.1))).toArray⟩, 0)) := Lib.hid (refEncT_some h hval)
      clear hval
      go_enter Tryd.func14, Tryd.ntmps14
      go_wp2_with fail
      refine HV.out.mono ?_
      rintro e w1 ⟨rfl, b1⟩
      have B1 := Lib.hid b1; clear b1
      go_wp2_with fail
      refine (fewLetters_any s _ (by omega)).mono ?_
      rintro e w2 ⟨R, hp, hsr, rfl, b2⟩
      have HE := Lib.hid (few_doc s R hp hsr)
      have B2 := Lib.hid b2; clear b2 hp hsr
      go_wp2
      go_ret2
      exact ⟨ret_enc (by rw [HR.out, HE.out]) (by rw [HR.out]), B1.out.trans (B2.out.mono B1.out.size)⟩

end Go.Proofs.YtgmjfnddeogfdaaDoor
