/-
  Contract: puny.Encode: the document's answer.
-/
import Derived.Test.YtchemckmdajdpaaDoorEnV
import Derived.Test.YtchemckmdajdpaaDoorEnW
import Derived.Test.YtchemckmdajdpaaDoorEnJ
namespace Go.Proofs.YtchemckmdajdpaaDoor
open Go.RowKit

theorem ret_enc {a b : ByteArray} {c d : Int} (h : a = b) (h' : c = d) : Ending.returned (.tuple #[.string a, .int .i64 c]) = .returned (.tuple #[.string b, .int .i64 d]) := by rw [h, h']

set_option maxRecDepth 100000 in
set_option maxHeartbeats 1000000 in
theorem Encode_of (s : ByteArray) (w : World) (hs : s.size ≤ maxLen) (hV : Calls Tryd.prog 19 #[.string s] w fun e w' => e = .returned (.bool (Lib.validD s.data.toList)) ∧ Below w.heap.size w w') :
    Calls Tryd.prog 10 #[.string s] w fun e w' => e = .returned (.tuple #[.string (refEncT s).1, .int .i64 (refEncT s).2]) ∧ Below w.heap.size w w' := by
  unfold maxLen at hs
  have HV := Lib.hid hV
  clear hV
  have hval := sgO_valid s s.size 0 (by omega)
  rw [List.drop_zero] at hval
  by_cases h : 65536 < s.size
  · have HR : Hid (refEncT s = (⟨#[]⟩, 3)) := Lib.hid (by rw [refEncT, if_pos h])
    clear hval
    go_enter Tryd.func10, Tryd.ntmps10
    go_wp2
    go_ret2
    exact ⟨ret_enc (by rw [HR.out]) (by rw [HR.out]), Below.refl _ _⟩
  · obtain ⟨b, HB⟩ : ∃ b, Hid (Lib.validD s.data.toList = b) := ⟨_, Lib.hid rfl⟩
    rw [HB.out] at HV hval
    cases b
    · have HR : Hid (refEncT s = (⟨#[]⟩, 4)) := Lib.hid (refEncT_none h hval)
      clear hval
      go_enter Tryd.func10, Tryd.ntmps10
      go_wp2_with fail
      refine HV.out.mono ?_
      rintro e w1 ⟨rfl, b1⟩
      have B1 := Lib.hid b1; clear b1
      go_wp2
      go_ret2
      exact ⟨ret_enc (by rw [HR.out]) (by rw [HR.out]), B1.out⟩
    · have HR : Hid (refEncT s = (⟨(docE ((sgn s s.size 0).map (·.1))).toArray⟩, 0)) := Lib.hid (refEncT_some h hval)
      clear hval
      go_enter Tryd.func10, Tryd.ntmps10
      go_wp2_with fail
      refine HV.out.mono ?_
      rintro e w1 ⟨rfl, b1⟩
      have B1 := Lib.hid b1; clear b1
      go_wp2_with fail
      refine (fewLetters_any s _ (by omega)).mono ?_
      rintro e w2 ⟨R, hp, hsr, rfl, b2⟩
      have HE := Lib.hid (few_doc s R hp hsr)
      have B2 := Lib.hid b2; clear b2 hp hsr
      go_wp2
      go_ret2
      exact ⟨ret_enc (by rw [HR.out, HE.out]) (by rw [HR.out]), B1.out.trans (B2.out.mono B1.out.size)⟩

set_option maxHeartbeats 1000000 in
theorem encodes_of (s : ByteArray) (w : World) (hs : s.size ≤ maxLen) (hV : Calls Tryd.prog 19 #[.string s] w fun e w' => e = .returned (.bool (Lib.validD s.data.toList)) ∧ Below w.heap.size w w') (HS : s.size ≤ 1000 → ∀ w, Calls Tryd.prog 21 #[.string s] w (SgP w (sgO s s.size 0))) :
    Calls Tryd.prog 3 #[.string s] w fun e w' => e = .returned (.bool true) ∧ Below w.heap.size w w' := by
  have HSz := Lib.hid hs
  unfold maxLen at hs
  have HV := Lib.hid hV
  have HSs := Lib.hid HS
  clear hV HS
  obtain ⟨b, hb⟩ : ∃ b, b = (refEncT s).1 := ⟨_, rfl⟩
  obtain ⟨n, hn⟩ : ∃ n, n = (refEncT s).2 := ⟨_, rfl⟩
  have HB := Lib.hid hb
  have HN := Lib.hid hn
  clear hb hn
  have H1 : Hid (Calls Tryd.prog 10 #[.string s] w fun e w' => e = .returned (.tuple #[.string b, .int .i64 n]) ∧ Below w.heap.size w w') := Lib.hid (by
    have := Encode_of s w HSz.out HV.out
    rwa [← HB.out, ← HN.out] at this)
  have H2 : Hid ((s.size ≤ 1000 ∨ 65536 < s.size) → ∀ w, Calls Tryd.prog 11 #[.string s] w fun e w' => e = .returned (.tuple #[.string b, .int .i64 n]) ∧ Below w.heap.size w w') := Lib.hid (fun h w => by
    have := RefEncode_of s w HSz.out h HSs.out
    rwa [← HB.out, ← HN.out] at this)
  by_cases h1 : 1000 < s.size
  · by_cases h2 : s.size ≤ 65536
    · go_enter Tryd.func3, Tryd.ntmps3
      go_wp2
      go_ret
      exact ⟨rfl, Below.refl _ _⟩
    · have H2' := Lib.hid (H2.out (.inr (by omega)))
      go_enter Tryd.func3, Tryd.ntmps3
      go_wp2_with fail
      refine H1.out.mono ?_
      rintro e w1 ⟨rfl, b1⟩
      have B1 := Lib.hid b1; clear b1
      go_wp2_with fail
      refine (H2'.out _).mono ?_
      rintro e w2 ⟨rfl, b2⟩
      have B2 := Lib.hid b2; clear b2
      go_wp2
      go_ret
      exact ⟨rfl, B1.out.trans (B2.out.mono B1.out.size)⟩
  · have H2' := Lib.hid (H2.out (.inl (by omega)))
    go_enter Tryd.func3, Tryd.ntmps3
    go_wp2_with fail
    refine H1.out.mono ?_
    rintro e w1 ⟨rfl, b1⟩
    have B1 := Lib.hid b1; clear b1
    go_wp2_with fail
    refine (H2'.out _).mono ?_
    rintro e w2 ⟨rfl, b2⟩
    have B2 := Lib.hid b2; clear b2
    go_wp2
    go_ret
    exact ⟨rfl, B1.out.trans (B2.out.mono B1.out.size)⟩

end Go.Proofs.YtchemckmdajdpaaDoor
