/-
  Contracts: a digit's letter, the comparison of two signs, what a tree of sums counts ahead of a place, one place more.
-/
import Derived.Test.YtgmjfnddeogfdaaDoorFen
import Derived.Test.YtgmjfnddeogfdaaDoorPnU
namespace Go.Proofs.YtgmjfnddeogfdaaDoor
open Go.RowKit

/-- The letter of a digit. -/
def letL (d : Nat) : UInt8 := UInt8.ofNat (if d < 26 then 97 + d else 48 + d - 26)
set_option maxHeartbeats 400000 in
theorem letter_any (d : Nat) (w : World) (hd : d < 36) :
    Calls Tryd.prog 55 #[.int .i64 d] w fun e w' => e = .returned (.int .u8 (letL d).toNat) ∧ w = w' := by
  by_cases h : d < 26
  · have HL : Hid (((letL d).toNat : Int) = 97 + (d : Int)) := Lib.hid (by rw [letL, if_pos h]; simp; omega)
    go_enter Tryd.func55, Tryd.ntmps55
    go_wp2
    go_ret
    exact ⟨ret_int HL.out.symm, rfl⟩
  · have HL : Hid (((letL d).toNat : Int) = 48 + (d : Int) - 26) := Lib.hid (by rw [letL, if_neg h]; simp; omega)
    go_enter Tryd.func55, Tryd.ntmps55
    go_wp2
    go_ret
    exact ⟨ret_int HL.out.symm, rfl⟩

set_option maxHeartbeats 400000 in
theorem isNaN_any (a : Int) (w : World) :
    Calls Tryd.prog 65 #[.int .i32 a] w fun e w' => e = .returned (.bool false) ∧ w = w' := by
  go_enter Tryd.func65, Tryd.ntmps65
  go_wp2
  go_ret
  exact ⟨ret_bool (by simp), rfl⟩

/-- The order of two signs. -/
def cmpN (a b : Nat) : Int := if a < b then -1 else if b < a then 1 else 0
set_option maxHeartbeats 400000 in
theorem Compare_any (a b : Nat) (w : World) :
    Calls Tryd.prog 52 #[.int .i32 a, .int .i32 b] w fun e w' => e = .returned (.int .i64 (cmpN a b)) ∧ w = w' := by
  by_cases h1 : a < b
  · have HC : Hid (cmpN a b = -1) := Lib.hid (by rw [cmpN, if_pos h1])
    go_enter Tryd.func52, Tryd.ntmps52
    go_wp2_with (go_at_call 65; refine (isNaN_any _ _).mono ?_; rintro e w' ⟨rfl, rfl⟩)
    go_ret
    exact ⟨ret_int HC.out.symm, rfl⟩
  · by_cases h2 : b < a
    · have HC : Hid (cmpN a b = 1) := Lib.hid (by rw [cmpN, if_neg h1, if_pos h2])
      go_enter Tryd.func52, Tryd.ntmps52
      go_wp2_with (go_at_call 65; refine (isNaN_any _ _).mono ?_; rintro e w' ⟨rfl, rfl⟩)
      go_ret
      exact ⟨ret_int HC.out.symm, rfl⟩
    · have HC : Hid (cmpN a b = 0) := Lib.hid (by rw [cmpN, if_neg h1, if_neg h2])
      go_enter Tryd.func52, Tryd.ntmps52
      go_wp2_with (go_at_call 65; refine (isNaN_any _ _).mono ?_; rintro e w' ⟨rfl, rfl⟩)
      go_ret
      exact ⟨ret_int HC.out.symm, rfl⟩

/-- A tree of sums in memory. -/
def Fen (w : World) (g n : Nat) (f : Nat → Nat) : Prop := ∃ cs : Array Value, w.heap[g]? = some (.cells cs 3 (0, 0)) ∧ cs.size = n ∧ ∀ j, 0 < j → j < n → cs[j]? = some (iv (f j))
theorem Fen.cell {w : World} {g n : Nat} {f : Nat → Nat} (h : Fen w g n f) (j : Nat) (h0 : 0 < j) (hj : j < n) : w.cell? ⟨g, j, none⟩ = some (.int .i64 (f j : Int)) := by
  obtain ⟨cs, h1, h2, h3⟩ := h
  rw [cellOf w g cs _ h1, h3 j h0 hj]; rfl
theorem Fen.frozen {w : World} {g n : Nat} {f : Nat → Nat} (h : Fen w g n f) (j : Nat) : w.frozen? ⟨g, j, none⟩ = false := by
  obtain ⟨cs, h1, h2, h3⟩ := h
  exact frozenOf w g cs _ h1 j
theorem Fen.congr {w : World} {g n : Nat} {f f' : Nat → Nat} (h : Fen w g n f) (he : ∀ j, 0 < j → j < n → f j = f' j) : Fen w g n f' := by
  obtain ⟨cs, h1, h2, h3⟩ := h
  exact ⟨cs, h1, h2, fun j h0 hj => by rw [h3 j h0 hj, he j h0 hj]⟩
theorem Fen.set {w : World} {g n : Nat} {f : Nat → Nat} (h : Fen w g n f) (i v : Nat) (f' : Nat → Nat) (hi : i < n) (he : f' i = v) (ho : ∀ j, j ≠ i → f' j = f j) : Fen (w.setCell ⟨g, i, none⟩ (.int .i64 (v : Int))) g n f' := by
  obtain ⟨cs, h1, h2, h3⟩ := h
  refine ⟨_, heap_setCell_same w g i cs 3 _ h1, by simpa using h2, fun j h0 hj => ?_⟩
  rw [Array.getElem?_setIfInBounds]
  by_cases e : i = j
  · subst e
    rw [if_pos rfl, if_pos (by omega), he]; rfl
  · rw [if_neg e, h3 j h0 hj, ho j (fun h => e h.symm)]

/-- All is as it was but one block. -/
structure But (g : Nat) (w w' : World) : Prop where
  os : w'.os = w.os
  tape : w'.tape = w.tape
  output : w'.output = w.output
  size : w'.heap.size = w.heap.size
  block : ∀ i, i ≠ g → w'.heap[i]? = w.heap[i]?
theorem But.refl (g : Nat) (w : World) : But g w w := ⟨rfl, rfl, rfl, rfl, fun _ _ => rfl⟩
theorem But.trans {g : Nat} {a b c : World} (h : But g a b) (h' : But g b c) : But g a c := ⟨h'.os.trans h.os, h'.tape.trans h.tape, h'.output.trans h.output, h'.size.trans h.size, fun i hi => (h'.block i hi).trans (h.block i hi)⟩
theorem But.setCell (w : World) (g i : Nat) (v : Value) : But g w (w.setCell ⟨g, i, none⟩ v) := by
  refine ⟨rfl, rfl, rfl, by simp [World.setCell], fun j hj => ?_⟩
  simp only [World.setCell, Array.getElem?_modify]
  rw [if_neg (fun e => hj e.symm)]
theorem But.below {g B : Nat} {a b c : World} (h : But g b c) (hb : Below B a b) (hB : B ≤ g) : Below B a c :=
  ⟨h.os.trans hb.os, h.tape.trans hb.tape, h.output.trans hb.output, by rw [h.size]; exact hb.size, fun i hi => (h.block i (by omega)).trans (hb.block i hi)⟩

theorem bits_low (i : Nat) (h0 : 0 < i) (h1 : i < 4611686018427387904) : bits BinOp.and IntKind.i64 (i : Int) (-(i : Int)) = (lowB i : Int) := by
  have e1 : (BitVec.ofInt 64 (i : Int)).toNat = i := by
    rw [BitVec.ofInt_natCast, BitVec.toNat_ofNat]; exact Nat.mod_eq_of_lt (by omega)
  have e2 : (BitVec.ofInt 64 (-(i : Int))).toNat = 2 ^ 64 - i := by
    rw [BitVec.toNat_ofInt]; omega
  have hl := low_le h0
  show IntKind.i64.wrap ((BitVec.ofInt 64 (i : Int) &&& BitVec.ofInt 64 (-(i : Int))).toNat : Int) = _
  rw [BitVec.toNat_and, e1, e2, low_and 64 i h0 (by omega), IntKind.wrap_i64]
  omega

set_option maxHeartbeats 1000000 in
theorem ahead_any (g n at_ : Nat) (ps : List Nat) (w : World) (hF : Fen w g n (cntAt ps)) (hn : n ≤ 100000000) (ha : at_ < n) (hp : ps.length ≤ 100000000) :
    Calls Tryd.prog 36 #[.slice (some ⟨g, 0, none⟩) n n, .int .i64 at_] w fun e w' => e = .returned (.int .i64 (cntLt ps at_)) ∧ w = w' := by
  have HFn := Lib.hid hF; clear hF
  obtain ⟨T, HT⟩ : ∃ T, Hid (cntLt ps at_ = T) := ⟨_, Lib.hid rfl⟩
  have hTl : T ≤ 100000000 := by rw [← HT.out]; exact Nat.le_trans (cntLt_le _ _) hp
  rw [HT.out]
  go_enter Tryd.func36, Tryd.ntmps36
  go_wp2
  go_loop [5, 6] (fun c i => ∃ a k : Nat, c = .int .i64 a ∧ i = .int .i64 k ∧ k < n ∧ a ≤ T ∧ Hid (a + cntLt ps k = T)) (fun _ i => (intOf i).toNat)
  case atStart => exact ⟨0, at_, rfl, rfl, ha, Nat.zero_le _, Lib.hid (by rw [Nat.zero_add]; exact HT.out)⟩
  case round =>
    obtain ⟨a, k, rfl, rfl, hk, haT, HA⟩ := hrel
    by_cases h0 : 0 < k
    · have hbl := bits_low k h0 (by omega)
      have hc := HFn.out.cell k h0 hk
      have hl1 := low_pos h0
      have hl2 := low_le h0
      have HS := Lib.hid (cnt_split ps k)
      have hA2 : a + cntAt ps k ≤ T := by have := HA.out; have := HS.out; omega
      obtain ⟨l, Hl⟩ : ∃ l, Hid (l = lowB k) := ⟨_, Lib.hid rfl⟩
      obtain ⟨c, Hc⟩ : ∃ c, Hid (c = cntAt ps k) := ⟨_, Lib.hid rfl⟩
      rw [← Hl.out] at hbl hl1 hl2 HS
      rw [← Hc.out] at hc hA2 HS
      go_wp2
      go_round
      case rel => exact ⟨a + c, k - l, by go_num, by go_num, by omega, hA2, Lib.hid (by have := HA.out; have := HS.out; omega)⟩
      case measure => simp [intOf]; omega
    · have HE : Hid (a = T) := Lib.hid (by have := HA.out; rw [show k = 0 by omega, cntLt_zero] at this; omega)
      go_wp2
      go_ret
      exact ⟨ret_int (by rw [HE.out]), rfl⟩

set_option maxHeartbeats 1000000 in
theorem add_any (g n p : Nat) (ps : List Nat) (w : World) (hF : Fen w g n (cntAt ps)) (hn : n ≤ 100000000) (hp : p < n) (hl : ps.length ≤ 100000000) :
    Calls Tryd.prog 39 #[.slice (some ⟨g, 0, none⟩) n n, .int .i64 p] w fun e w' => (∃ v, e = .returned v) ∧ Fen w' g n (cntAt (p :: ps)) ∧ But g w w' := by
  have HFn := Lib.hid hF; clear hF
  go_enter Tryd.func39, Tryd.ntmps39
  go_wp2
  go_loopw [4] (fun i wr => ∃ k : Nat, i = .int .i64 k ∧ k ≤ 1000000000 ∧ k - lowB k ≤ p ∧ p < k ∧ Hid (Fen wr g n (cntBy p ps k)) ∧ Hid (But g w wr)) (fun i _ => n - (intOf i).toNat)
  case atStart =>
    have := cover_start p
    exact ⟨p + 1, by go_num, by omega, this.1, this.2, Lib.hid (HFn.out.congr (fun j _ _ => (cntBy_start p ps j).symm)), Lib.hid (But.refl _ _)⟩
  case round =>
    obtain ⟨k, rfl, hk, h1, h2, HF, HB⟩ := hrel
    by_cases hlt : k < n
    · have hc := HF.out.cell k (by omega) hlt
      have hf := HF.out.frozen k
      have hbl := bits_low k (by omega) (by omega)
      have hl1 := low_pos (show 0 < k by omega)
      have hl2 := low_le (show 0 < k by omega)
      have hcb : cntBy p ps k k ≤ 100000001 := by
        have := cntBy_same p ps k ⟨h1, h2⟩
        have h3 : cntAt ps k ≤ ps.length := List.countP_le_length
        unfold cntBy; split <;> omega
      have HU := Lib.hid (cover_up p k ⟨h1, h2⟩)
      have HSm := Lib.hid (cntBy_same p ps k ⟨h1, h2⟩)
      have HOt := Lib.hid (fun j hj => cntBy_other p ps k j ⟨h1, h2⟩ hj)
      obtain ⟨c, Hc⟩ : ∃ c, Hid (c = cntBy p ps k k) := ⟨_, Lib.hid rfl⟩
      obtain ⟨l, Hl⟩ : ∃ l, Hid (l = lowB k) := ⟨_, Lib.hid rfl⟩
      rw [← Hc.out] at hc hcb HSm
      rw [← Hl.out] at hbl hl1 hl2
      clear h1
      go_wp2
      refine ⟨⟨k + lowB k, by rw [← Hl.out]; go_num, by rw [← Hl.out]; omega, HU.out.1, HU.out.2, Lib.hid ?_, Lib.hid (HB.out.trans (But.setCell _ _ _ _))⟩, by simp [intOf]; omega⟩
      exact HF.out.set k (c + 1) _ hlt HSm.out HOt.out
    · have HE : Hid (Fen wr g n (cntAt (p :: ps))) := Lib.hid (HF.out.congr (fun j _ hj => cntBy_end p ps k j (by omega)))
      go_wp2
      go_end0
      exact ⟨⟨_, rfl⟩, HE.out, HB.out⟩

end Go.Proofs.YtgmjfnddeogfdaaDoor
