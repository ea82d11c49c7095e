/-
  Contract: the document's Encode, of any text.
-/
import Derived.Test.YtchemckmdajdpaaDoorEnQ
import Derived.Test.YtchemckmdajdpaaDoorEnU
namespace Go.Proofs.YtchemckmdajdpaaDoor
open Go.RowKit

theorem sgO_bd (s : ByteArray) : ∀ (f p : Nat) (l : List Nat), sgO s f p = some l → (p ≤ s.size → l.length + p ≤ s.size + 3 * l.length) ∧ l.length ≤ f ∧ ∀ x ∈ l, x ≤ 1114111
  | 0, p, l, h => by
    simp [sgO] at h; subst h; simp
  | f + 1, p, l, h => by
    by_cases hp : p < s.size
    · rw [sgO, if_pos hp] at h
      split at h
      · cases h
      · obtain ⟨l', h1, rfl⟩ := Option.map_eq_some_iff.1 h
        obtain ⟨_, h3, h4⟩ := sgO_bd s f _ l' h1
        have hr := rune_bd s p
        refine ⟨fun _ => by simp; omega, by simp; omega, fun x hx => ?_⟩
        rcases List.mem_cons.1 hx with rfl | hx
        · exact hr
        · exact h4 x hx
    · rw [sgO_end s _ p hp] at h
      simp at h; subst h; simp
/-- What the document's Encode answers. -/
def refEncT (s : ByteArray) : ByteArray × Int :=
  if 65536 < s.size then (⟨#[]⟩, 3) else match sgO s s.size 0 with | none => (⟨#[]⟩, 4) | some l => (⟨(docE l).toArray⟩, 0)
theorem refEncT_none {s : ByteArray} (h : ¬ 65536 < s.size) (hn : sgO s s.size 0 = none) : refEncT s = (⟨#[]⟩, 4) := by rw [refEncT, if_neg h, hn]
theorem refEncT_some {s : ByteArray} {l : List Nat} (h : ¬ 65536 < s.size) (hn : sgO s s.size 0 = some l) : refEncT s = (⟨(docE l).toArray⟩, 0) := by rw [refEncT, if_neg h, hn]


theorem RefEncode_of (s : ByteArray) (w : World) (hs : s.size ≤ maxLen) (hs2 : s.size ≤ 1000 ∨ 65536 < s.size) (HS : s.size ≤ 1000 → ∀ w, Calls Tryd.prog 21 #[.string s] w (SgP w (sgO s s.size 0))) :
    Calls Tryd.prog 11 #[.string s] w fun e w' => e = .returned (.tuple #[.string (refEncT s).1, .int .i64 (refEncT s).2]) ∧ Below w.heap.size w w' := by
  by_cases h : 65536 < s.size
  · have := RefEncode_long s w hs h
    rw [refEncT, if_pos h]; exact this
  · have h1 : s.size ≤ 1000 := by omega
    have hS := HS h1 w
    match hT : sgO s s.size 0 with
    | none =>
      rw [refEncT_none h hT]
      refine RefEncode_bad s w h1 (Lib.hid (hS.mono fun e w' hp => ?_))
      rcases hp with ⟨l, v, hl, _⟩ | ⟨_, he, hb⟩
      · rw [hT] at hl; cases hl
      · exact ⟨he, hb⟩
    | some l =>
      rw [refEncT_some h hT]
      have hbd := sgO_bd s s.size 0 l hT
      by_cases hn : l = []
      · subst hn
        refine RefEncode_nil s w h1 (Lib.hid (hS.mono fun e w' hp => ?_))
        rcases hp with ⟨l, v, hl, he, hr, hb⟩ | ⟨hl, _⟩
        · rw [hT] at hl
          obtain rfl : [] = l := Option.some.inj hl
          rcases hr.2 with ⟨hv, _⟩ | ⟨g, cap, cur, hv, _, hg, _⟩
          · exact ⟨none, 0, by rw [he, hv], hb⟩
          · exact ⟨some ⟨g, 0, none⟩, cap, by rw [he, hv]; rfl, hb⟩
        · rw [hT] at hl; cases hl
      · refine RefEncode_row s w h1 l (by omega) hbd.2.2 (Lib.hid (hS.mono fun e w' hp => ?_))
        rcases hp with ⟨l', v, hl, he, hr, hb⟩ | ⟨hl, _⟩
        · rw [hT] at hl
          obtain rfl : l = l' := Option.some.inj hl
          rcases hr.2 with ⟨_, h0⟩ | ⟨g, cap, cur, hv, _, hg, _⟩
          · exact absurd (List.eq_nil_of_length_eq_zero h0) hn
          · refine ⟨g, cap, by rw [he, hv], fun k hk => ?_, (Array.getElem?_eq_some_iff.1 hg).1, hb⟩
            subst hv
            have := hr.cellAt k (by simpa using hk)
            simpa [iv, hk] using this
        · rw [hT] at hl; cases hl

end Go.Proofs.YtchemckmdajdpaaDoor
