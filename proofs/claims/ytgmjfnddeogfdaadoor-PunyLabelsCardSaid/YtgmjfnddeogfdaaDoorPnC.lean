/-
  Contract: Decode.
-/
import Derived.Test.YtgmjfnddeogfdaaDoorPnW
namespace Go.Proofs.YtgmjfnddeogfdaaDoor
open Go.RowKit

theorem belowN {B : Nat} {a w : World} (h : Below B a w) (n : Nat) : Below B a (w.drewN n) := ⟨h.os, h.tape, h.output, h.size, h.block⟩
theorem runes_plain (s : ByteArray) (hp : ∀ (j : Nat) (h : j < s.size), (s[j]'h).toNat < 128) : ∀ (b i : Nat) (acc : Array Value), s.size ≤ i + b →
    Conv.runesFrom s b i acc = acc ++ ((s.data.toList.drop i).map fun c => rv c.toNat).toArray
  | 0, i, acc, h => by
    rw [Conv.runesFrom, List.drop_of_length_le (by simp; omega)]; simp
  | b + 1, i, acc, h => by
    rw [Conv.runesFrom]
    by_cases hi : i < s.size
    · rw [if_pos hi, decode_ascii s i hi (hp i hi)]
      simp only
      rw [runes_plain s hp b (i + 1) _ (by omega), drop_at s i hi]
      simp [rv]
    · rw [if_neg hi, List.drop_of_length_le (by simp; omega)]; simp
theorem plain_at {s : ByteArray} (h : plainL s.data.toList = true) (j : Nat) (hj : j < s.size) : (s[j]'hj).toNat < 128 := by
  rw [plainL, List.all_eq_true] at h
  have hm : s[j] ∈ s.data.toList := by
    have : s[j] = s.data[j]'hj := rfl
    rw [this]; simp
  simpa using h _ hm
theorem plain_sub {a b : List UInt8} (h : plainL b = true) (hs : ∀ c ∈ a, c ∈ b) : plainL a = true := by
  rw [plainL, List.all_eq_true] at h ⊢
  exact fun c hc => h c (hs c hc)
theorem pSigns_sub (s : ByteArray) : ∀ c ∈ (pSigns s).data.toList, c ∈ s.data.toList := by
  intro c hc
  rw [pSigns] at hc
  split at hc
  · simp at hc
  · rw [exTake] at hc; exact List.mem_of_mem_take hc
theorem p_sizes (s : ByteArray) : (pSigns s).size + (pRest s).size ≤ s.size := by
  rw [pSigns, pRest]
  split
  · show 0 + s.size ≤ s.size; omega
  · have h := lastI_bd s.data.toList
    have hl : (s.data.toList.length : Int) = s.size := by simp
    rw [exS _ _ _ (by omega), exS _ _ _ (Nat.le_refl _)]; omega

/-- What Decode answers. -/
def decO (s : ByteArray) : Option (List Nat) := decL (pRest s).size ((pSigns s).data.toList.map (·.toNat)) (pRest s).data.toList 0 128 72 true
def decW : Option (List Nat) → ByteArray × Int
  | none => (⟨#[]⟩, 4)
  | some l => (utf l, 0)
def decT (s : ByteArray) : ByteArray × Int :=
  if 65536 < s.size then (⟨#[]⟩, 3) else if plainL s.data.toList = false then (⟨#[]⟩, 4) else
  decW (decO s)
theorem row_runes (w : World) (l : List Nat) (cap : Nat) (hc : l.length ≤ cap) (hm : cap ≤ maxLen) :
    RowR (w.alloc (.cells ((l.map rv).toArray ++ Array.replicate (cap - l.length) (.int .i32 0)) 21)) w.heap.size (.slice (some ⟨w.heap.size, 0, none⟩) l.length cap) (l.map rv) := by
  refine ⟨w.heap.size, cap, _, by simp, Nat.le_refl _, heap_alloc_new _ _, by simpa using hc, hm, by simp; omega, ?_⟩
  simp

set_option maxHeartbeats 1000000 in
set_option maxRecDepth 100000 in
theorem Decode_any (s : ByteArray) (w : World) (hs : s.size ≤ maxLen) :
    Calls Tryd.prog 15 #[.string s] w fun e w' => e = .returned (.tuple #[.string (decT s).1, .int .i64 (decT s).2]) ∧ Below w.heap.size w w' := by
  by_cases h1 : 65536 < s.size
  · have HF : Hid (decT s = (⟨#[]⟩, 3)) := Lib.hid (by rw [decT, if_pos h1])
    unfold maxLen at hs
    go_enter Tryd.func15, Tryd.ntmps15
    go_wp2
    go_ret2
    exact ⟨by rw [HF.out]; rfl, Below.refl _ _⟩
  · cases hp : plainL s.data.toList with
    | false =>
      have HF : Hid (decT s = (⟨#[]⟩, 4)) := Lib.hid (by rw [decT, if_neg h1, if_pos hp])
      have HP := Lib.hid hp
      clear hp
      go_enter Tryd.func15, Tryd.ntmps15
      go_wp2_with fail
      refine (plain_any s _).mono ?_
      rw [HP.out]
      rintro e w1 ⟨rfl, pos, rfl⟩
      go_wp2
      go_ret2
      exact ⟨by rw [HF.out]; rfl, iter_below _ _ _⟩
    | true =>
      obtain ⟨T, HT⟩ : ∃ T, Hid (T = decO s) := ⟨_, Lib.hid rfl⟩
      have HF : Hid (decT s = decW T) := Lib.hid (by rw [decT, if_neg h1, if_neg (by rw [hp]; simp), HT.out])
      have HP := Lib.hid hp
      have HPS := Lib.hid (plain_sub hp (pSigns_sub s))
      clear hp
      have hz := p_sizes s
      obtain ⟨g, hg⟩ : ∃ g, g = pSigns s := ⟨_, rfl⟩
      obtain ⟨r, hr⟩ : ∃ r, r = pRest s := ⟨_, rfl⟩
      rw [← hg, ← hr] at hz
      rw [← hg] at HPS
      have HPart : Hid (∀ w, Calls Tryd.prog 30 #[.string s] w fun e w' => e = .returned (.tuple #[.string g, .string r]) ∧ ∃ m, w' = w.drewN m) := Lib.hid (fun w => by rw [hg, hr]; exact parted_any s w hs)
      have HT2 : Hid (T = decL r.size (g.data.toList.map (·.toNat)) r.data.toList 0 128 72 true) := Lib.hid (by rw [HT.out, hg, hr]; rfl)
      clear hg hr
      have hru := runes_plain g (fun j hj => plain_at HPS.out j hj) g.size 0 #[] (by omega)
      rw [List.drop_zero, Array.empty_append] at hru
      obtain ⟨l, hl⟩ : ∃ l : List Nat, l = g.data.toList.map (·.toNat) := ⟨_, rfl⟩
      have hll : l.length = g.size := by rw [hl]; simp
      have hru2 : Conv.runesFrom g g.size 0 #[] = (l.map rv).toArray := by rw [hru, hl]; simp
      rw [← hl] at HT2
      clear hru hl
      have HC : Hid (∀ w : World, (convert 9 38 (.string g)).run Tryd.prog w = .ok (.slice (some ⟨w.heap.size, 0, none⟩) l.length (grownCap w l.length 0 21)) (w.drew.alloc (.cells ((l.map rv).toArray ++ Array.replicate (grownCap w l.length 0 21 - l.length) (.int .i32 0)) 21))) := Lib.hid (fun w => by
        have h := run_runes_of_string (P := Tryd.prog) w 9 38 21 g Tryd.underlying9 Tryd.underlying38 Tryd.underlying21 (by rw [hru2]; simp; omega)
        rw [hru2] at h
        simpa using h)
      clear hru2
      have HLL := Lib.hid hll
      clear hll
      have hcv := HC.out
      go_enter Tryd.func15, Tryd.ntmps15
      go_wp2_with fail
      refine (plain_any s _).mono ?_
      rw [HP.out]
      rintro e w1 ⟨rfl, pos, hw1⟩
      have hb0 := iter_below w s pos
      rw [← hw1] at hb0
      have HB0 := Lib.hid hb0
      clear hw1 hb0
      go_wp2_with fail
      refine (HPart.out _).mono ?_
      rintro e w2 ⟨rfl, m, rfl⟩
      go_wp2_with fail
      clear hcv
      have h1 := grownCap_ge (w1.drewN m) l.length 0 21
      have h2 := grownCap_le_maxLen (w1.drewN m) l.length 0 21 (by unfold maxLen; have := HLL.out; omega)
      have hdz : (w1.drewN (m + 1)).heap.size = w1.heap.size := by simp
      have hrow := row_runes (w1.drewN (m + 1)) l _ h1 h2
      rw [hdz] at hrow
      refine (withOthers_any w1.heap.size _ l r _ hrow (by simp) (by have := HLL.out; omega)).mono ?_
      rw [← HT2.out]
      rintro e w2 ⟨rfl, hb1⟩
      have HB2 : Hid (Below w.heap.size w w2) := Lib.hid (HB0.out.trans (Below.trans ((belowN (Below.refl _ w1) (m + 1)).alloc (by simpa using HB0.out.size) _) (hb1.mono HB0.out.size)))
      clear hb1
      cases T with
      | none =>
        dsimp only [wiT]
        go_wp2
        go_ret2
        exact ⟨by rw [HF.out]; rfl, HB2.out⟩
      | some L =>
        dsimp only [wiT]
        go_wp2
        go_ret2
        exact ⟨by rw [HF.out]; rfl, HB2.out⟩

end Go.Proofs.YtgmjfnddeogfdaaDoor
