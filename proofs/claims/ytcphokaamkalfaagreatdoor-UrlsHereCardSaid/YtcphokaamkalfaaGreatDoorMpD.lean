/-
  Contracts: a digit's letter, the comparison of two signs, what a tree of sums counts ahead of a place, one place more.
  Pairs in order: what it is to put one into a row, plainly, of no program.
  Pairs in memory, and the comparison by which they are sorted.
  Contract: slices.insertionSortCmpFunc over pairs.
-/
import Derived.Test.YtcphokaamkalfaaGreatDoorMpA
import Derived.Test.YtcphokaamkalfaaGreatDoorPnU
import Derived.Shelf.SlSortCmp.QuietGrown
import Derived.Shelf.SlSortCmp.InsertionK
namespace Go.Proofs.YtcphokaamkalfaaGreatDoor
open Go.RowKit

/-- The letter of a digit. -/
def letL (d : Nat) : UInt8 := UInt8.ofNat (if d < 26 then 97 + d else 48 + d - 26)
set_option maxHeartbeats 400000 in
theorem letter_any (d : Nat) (w : World) (hd : d < 36) :
  Calls Tryz.prog 187 #[.int .i64 d] w fun e w' => e = .returned (.int .u8 (letL d).toNat) ∧ w = w' := by
 by_cases h : d < 26
 ·have HL : Hid (((letL d).toNat : Int) = 97 + (d : Int)) := Lib.hid (by rw [letL, if_pos h]; simp; omega)
  go_enter Tryz.func187, Tryz.ntmps187
  go_wp2
  go_ret
  exact ⟨ret_int HL.out.symm, rfl⟩
 ·have HL : Hid (((letL d).toNat : Int) = 48 + (d : Int) - 26) := Lib.hid (by rw [letL, if_neg h]; simp; omega)
  go_enter Tryz.func187, Tryz.ntmps187
  go_wp2
  go_ret
  exact ⟨ret_int HL.out.symm, rfl⟩

set_option maxHeartbeats 400000 in
theorem isNaN_any (a : Int) (w : World) :
  Calls Tryz.prog 192 #[.int .i32 a] w fun e w' => e = .returned (.bool false) ∧ w = w' := by
 go_enter Tryz.func192, Tryz.ntmps192
 go_wp2
 go_ret
 exact ⟨ret_bool (by simp), rfl⟩

/-- The order of two signs. -/
def cmpN (a b : Nat) : Int := if a < b then -1 else if b < a then 1 else 0
set_option maxHeartbeats 400000 in
theorem Compare_any (a b : Nat) (w : World) :
  Calls Tryz.prog 184 #[.int .i32 a, .int .i32 b] w fun e w' => e = .returned (.int .i64 (cmpN a b)) ∧ w = w' := by
 by_cases h1 : a < b
 ·have HC : Hid (cmpN a b = -1) := Lib.hid (by rw [cmpN, if_pos h1])
  go_enter Tryz.func184, Tryz.ntmps184
  go_wp2_with (go_at_call 192; refine (isNaN_any _ _).mono ?_; rintro e w' ⟨rfl, rfl⟩)
  go_ret
  exact ⟨ret_int HC.out.symm, rfl⟩
 ·by_cases h2 : b < a
  ·have HC : Hid (cmpN a b = 1) := Lib.hid (by rw [cmpN, if_neg h1, if_pos h2])
   go_enter Tryz.func184, Tryz.ntmps184
   go_wp2_with (go_at_call 192; refine (isNaN_any _ _).mono ?_; rintro e w' ⟨rfl, rfl⟩)
   go_ret
   exact ⟨ret_int HC.out.symm, rfl⟩
  ·have HC : Hid (cmpN a b = 0) := Lib.hid (by rw [cmpN, if_neg h1, if_neg h2])
   go_enter Tryz.func184, Tryz.ntmps184
   go_wp2_with (go_at_call 192; refine (isNaN_any _ _).mono ?_; rintro e w' ⟨rfl, rfl⟩)
   go_ret
   exact ⟨ret_int HC.out.symm, rfl⟩

/-- A tree of sums in memory. -/
def Fen (w : World) (g n : Nat) (f : Nat → Nat) : Prop := ∃ cs : Array Value, w.heap[g]? = some (.cells cs 3 (0, 0)) ∧ cs.size = n ∧ ∀ j, 0 < j → j < n → cs[j]? = some (iv (f j))
theorem Fen.cell {w : World} {g n : Nat} {f : Nat → Nat} (h : Fen w g n f) (j : Nat) (h0 : 0 < j) (hj : j < n) : w.cell? ⟨g, j, none⟩ = some (.int .i64 (f j : Int)) := by
 obtain ⟨cs, h1, h2, h3⟩ := h
 rw [cellOf w g cs _ h1, h3 j h0 hj]; rfl
theorem Fen.frozen {w : World} {g n : Nat} {f : Nat → Nat} (h : Fen w g n f) (j : Nat) : w.frozen? ⟨g, j, none⟩ = false := by
 obtain ⟨cs, h1, h2, h3⟩ := h
 exact frozenOf w g cs _ h1 j
theorem Fen.congr {w : World} {g n : Nat} {f f' : Nat → Nat} (h : Fen w g n f) (he : ∀ j, 0 < j → j < n → f j = f' j) : Fen w g n f' := by
 obtain ⟨cs, h1, h2, h3⟩ := h
 exact ⟨cs, h1, h2, fun j h0 hj => by rw [h3 j h0 hj, he j h0 hj]⟩
theorem Fen.set {w : World} {g n : Nat} {f : Nat → Nat} (h : Fen w g n f) (i v : Nat) (f' : Nat → Nat) (hi : i < n) (he : f' i = v) (ho : ∀ j, j ≠ i → f' j = f j) : Fen (w.setCell ⟨g, i, none⟩ (.int .i64 (v : Int))) g n f' := by
 obtain ⟨cs, h1, h2, h3⟩ := h
 refine ⟨_, heap_setCell_same w g i cs 3 _ h1, by simpa using h2, fun j h0 hj => ?_⟩
 rw [Array.getElem?_setIfInBounds]
 by_cases e : i = j
 ·subst e
  rw [if_pos rfl, if_pos (by omega), he]; rfl
 ·rw [if_neg e, h3 j h0 hj, ho j (fun h => e h.symm)]

/-- All is as it was but one block. -/
structure But (g : Nat) (w w' : World) : Prop where
 os : w'.os = w.os
 tape : w'.tape = w.tape
 output : w'.output = w.output
 size : w'.heap.size = w.heap.size
 block : ∀ i, i ≠ g → w'.heap[i]? = w.heap[i]?
theorem But.refl (g : Nat) (w : World) : But g w w := ⟨rfl, rfl, rfl, rfl, fun _ _ => rfl⟩
theorem But.trans {g : Nat} {a b c : World} (h : But g a b) (h' : But g b c) : But g a c := ⟨h'.os.trans h.os, h'.tape.trans h.tape, h'.output.trans h.output, h'.size.trans h.size, fun i hi => (h'.block i hi).trans (h.block i hi)⟩
theorem But.setCell (w : World) (g i : Nat) (v : Value) : But g w (w.setCell ⟨g, i, none⟩ v) := by
 refine ⟨rfl, rfl, rfl, by simp [World.setCell], fun j hj => ?_⟩
 simp only [World.setCell, Array.getElem?_modify]
 rw [if_neg (fun e => hj e.symm)]
theorem But.below {g B : Nat} {a b c : World} (h : But g b c) (hb : Below B a b) (hB : B ≤ g) : Below B a c :=
 ⟨h.os.trans hb.os, h.tape.trans hb.tape, h.output.trans hb.output, by rw [h.size]; exact hb.size, fun i hi => (h.block i (by omega)).trans (hb.block i hi)⟩

theorem bits_low (i : Nat) (h0 : 0 < i) (h1 : i < 4611686018427387904) : bits BinOp.and IntKind.i64 (i : Int) (-(i : Int)) = (lowB i : Int) := by
 have e1 : (BitVec.ofInt 64 (i : Int)).toNat = i := by
  rw [BitVec.ofInt_natCast, BitVec.toNat_ofNat]; exact Nat.mod_eq_of_lt (by omega)
 have e2 : (BitVec.ofInt 64 (-(i : Int))).toNat = 2 ^ 64 - i := by
  rw [BitVec.toNat_ofInt]; omega
 have hl := low_le h0
 show IntKind.i64.wrap ((BitVec.ofInt 64 (i : Int) &&& BitVec.ofInt 64 (-(i : Int))).toNat : Int) = _
 rw [BitVec.toNat_and, e1, e2, low_and 64 i h0 (by omega), IntKind.wrap_i64]
 omega

set_option maxHeartbeats 1000000 in
theorem ahead_any (g n at_ : Nat) (ps : List Nat) (w : World) (hF : Fen w g n (cntAt ps)) (hn : n ≤ 100000000) (ha : at_ < n) (hp : ps.length ≤ 100000000) :
  Calls Tryz.prog 168 #[.slice (some ⟨g, 0, none⟩) n n, .int .i64 at_] w fun e w' => e = .returned (.int .i64 (cntLt ps at_)) ∧ w = w' := by
 have HFn := Lib.hid hF; clear hF
 obtain ⟨T, HT⟩ : ∃ T, Hid (cntLt ps at_ = T) := ⟨_, Lib.hid rfl⟩
 have hTl : T ≤ 100000000 := by rw [← HT.out]; exact Nat.le_trans (cntLt_le _ _) hp
 rw [HT.out]
 go_enter Tryz.func168, Tryz.ntmps168
 go_wp2
 go_loop [5, 6] (fun c i => ∃ a k : Nat, c = .int .i64 a ∧ i = .int .i64 k ∧ k < n ∧ a ≤ T ∧ Hid (a + cntLt ps k = T)) (fun _ i => (intOf i).toNat)
 case atStart => exact ⟨0, at_, rfl, rfl, ha, Nat.zero_le _, Lib.hid (by rw [Nat.zero_add]; exact HT.out)⟩
 case round =>
  obtain ⟨a, k, rfl, rfl, hk, haT, HA⟩ := hrel
  by_cases h0 : 0 < k
  ·have hbl := bits_low k h0 (by omega)
   have hc := HFn.out.cell k h0 hk
   have hl1 := low_pos h0
   have hl2 := low_le h0
   have HS := Lib.hid (cnt_split ps k)
   have hA2 : a + cntAt ps k ≤ T := by have := HA.out; have := HS.out; omega
   obtain ⟨l, Hl⟩ : ∃ l, Hid (l = lowB k) := ⟨_, Lib.hid rfl⟩
   obtain ⟨c, Hc⟩ : ∃ c, Hid (c = cntAt ps k) := ⟨_, Lib.hid rfl⟩
   rw [← Hl.out] at hbl hl1 hl2 HS
   rw [← Hc.out] at hc hA2 HS
   go_wp2
   go_round
   case rel => exact ⟨a + c, k - l, by go_num, by go_num, by omega, hA2, Lib.hid (by have := HA.out; have := HS.out; omega)⟩
   case measure => simp [intOf]; omega
  ·have HE : Hid (a = T) := Lib.hid (by have := HA.out; rw [show k = 0 by omega, cntLt_zero] at this; omega)
   go_wp2
   go_ret
   exact ⟨ret_int (by rw [HE.out]), rfl⟩

set_option maxHeartbeats 1000000 in
theorem add_any (g n p : Nat) (ps : List Nat) (w : World) (hF : Fen w g n (cntAt ps)) (hn : n ≤ 100000000) (hp : p < n) (hl : ps.length ≤ 100000000) :
  Calls Tryz.prog 171 #[.slice (some ⟨g, 0, none⟩) n n, .int .i64 p] w fun e w' => (∃ v, e = .returned v) ∧ Fen w' g n (cntAt (p :: ps)) ∧ But g w w' := by
 have HFn := Lib.hid hF; clear hF
 go_enter Tryz.func171, Tryz.ntmps171
 go_wp2
 go_loopw [4] (fun i wr => ∃ k : Nat, i = .int .i64 k ∧ k ≤ 1000000000 ∧ k - lowB k ≤ p ∧ p < k ∧ Hid (Fen wr g n (cntBy p ps k)) ∧ Hid (But g w wr)) (fun i _ => n - (intOf i).toNat)
 case atStart =>
  have := cover_start p
  exact ⟨p + 1, by go_num, by omega, this.1, this.2, Lib.hid (HFn.out.congr (fun j _ _ => (cntBy_start p ps j).symm)), Lib.hid (But.refl _ _)⟩
 case round =>
  obtain ⟨k, rfl, hk, h1, h2, HF, HB⟩ := hrel
  by_cases hlt : k < n
  ·have hc := HF.out.cell k (by omega) hlt
   have hf := HF.out.frozen k
   have hbl := bits_low k (by omega) (by omega)
   have hl1 := low_pos (show 0 < k by omega)
   have hl2 := low_le (show 0 < k by omega)
   have hcb : cntBy p ps k k ≤ 100000001 := by
    have := cntBy_same p ps k ⟨h1, h2⟩
    have h3 : cntAt ps k ≤ ps.length := List.countP_le_length
    unfold cntBy; split <;> omega
   have HU := Lib.hid (cover_up p k ⟨h1, h2⟩)
   have HSm := Lib.hid (cntBy_same p ps k ⟨h1, h2⟩)
   have HOt := Lib.hid (fun j hj => cntBy_other p ps k j ⟨h1, h2⟩ hj)
   obtain ⟨c, Hc⟩ : ∃ c, Hid (c = cntBy p ps k k) := ⟨_, Lib.hid rfl⟩
   obtain ⟨l, Hl⟩ : ∃ l, Hid (l = lowB k) := ⟨_, Lib.hid rfl⟩
   rw [← Hc.out] at hc hcb HSm
   rw [← Hl.out] at hbl hl1 hl2
   clear h1
   go_wp2
   refine ⟨⟨k + lowB k, by rw [← Hl.out]; go_num, by rw [← Hl.out]; omega, HU.out.1, HU.out.2, Lib.hid ?_, Lib.hid (HB.out.trans (But.setCell _ _ _ _))⟩, by simp [intOf]; omega⟩
   exact HF.out.set k (c + 1) _ hlt HSm.out HOt.out
  ·have HE : Hid (Fen wr g n (cntAt (p :: ps))) := Lib.hid (HF.out.congr (fun j _ hj => cntBy_end p ps k j (by omega)))
   go_wp2
   go_end0
   exact ⟨⟨_, rfl⟩, HE.out, HB.out⟩

end Go.Proofs.YtcphokaamkalfaaGreatDoor
namespace Go.Proofs.YtcphokaamkalfaaGreatDoor

abbrev Pr := Nat × Nat
/-- A pair ahead of another: by its sign, then by its place. -/
def ltP (x y : Pr) : Prop := x.1 < y.1 ∨ (x.1 = y.1 ∧ x.2 < y.2)
theorem ltP_trans {x y z : Pr} (h : ltP x y) (h' : ltP y z) : ltP x z := by
 unfold ltP at *; omega
theorem ltP_irrefl (x : Pr) : ¬ ltP x x := by unfold ltP; omega
theorem ltP_le {x y : Pr} (h : ltP x y) : x.1 ≤ y.1 := by unfold ltP at h; omega
def Srt (l : List Pr) : Prop := l.Pairwise ltP
/-- Places rise. -/
def Ris (l : List Pr) : Prop := l.Pairwise fun x y => x.2 < y.2
theorem srt_ins (U V : List Pr) (x : Pr) (hs : Srt (U ++ V)) (hp : ∀ r ∈ U ++ V, r.2 < x.2) (hv : ∀ v ∈ V, x.1 < v.1) (hu : ∀ u ∈ U, u.1 ≤ x.1) : Srt (U ++ x :: V) := by
 unfold Srt at *
 rw [List.pairwise_append] at hs ⊢
 refine ⟨hs.1, ?_, ?_⟩
 ·rw [List.pairwise_cons]
  exact ⟨fun v h => .inl (hv v h), hs.2.1⟩
 ·intro u h y hy
  rcases List.mem_cons.1 hy with rfl | hy
  ·have h1 := hu u h
   have h2 := hp u (List.mem_append_left _ h)
   unfold ltP; omega
  ·exact hs.2.2 u h y hy
theorem srt_le_last {U : List Pr} {y : Pr} (hs : Srt (U ++ [y])) : ∀ u ∈ U ++ [y], u.1 ≤ y.1 := by
 intro u hu
 unfold Srt at hs
 rw [List.pairwise_append] at hs
 rcases List.mem_append.1 hu with h | h
 ·exact ltP_le (hs.2.2 u h y (by simp))
 ·simp at h; subst h; exact Nat.le_refl _

theorem swap_list : ∀ (A : List Pr) (x y : Pr) (R : List Pr), ((A ++ y :: x :: R).set (A.length + 1) y).set A.length x = A ++ x :: y :: R
 | [], x, y, R => by simp
 | a :: A, x, y, R => by simp
theorem ris_ahead {T1 T3 : List Pr} {x : Pr} (h : Ris (T1 ++ x :: T3)) : ∀ r ∈ T1, r.2 < x.2 := by
 unfold Ris at h
 rw [List.pairwise_append] at h
 exact fun r hr => h.2.2 r hr x (by simp)
/-- One more is put into a row in order. -/
theorem ins_end {T1 T3 U V : List Pr} {x : Pr} (hr : Ris (T1 ++ x :: T3)) (hp : (U ++ V).Perm T1) (hs : Srt (U ++ V)) (hv : ∀ v ∈ V, x.1 < v.1) (hu : ∀ u ∈ U, u.1 ≤ x.1) : (U ++ x :: V).Perm (T1 ++ [x]) ∧ Srt (U ++ x :: V) := by
 refine ⟨?_, srt_ins U V x hs (fun r h => ris_ahead hr r (hp.mem_iff.1 h)) hv hu⟩
 have h1 : (U ++ x :: V).Perm (x :: (U ++ V)) := List.perm_middle
 have h2 : (x :: (U ++ V)).Perm (x :: T1) := hp.cons x
 have h3 : (x :: T1).Perm (T1 ++ [x]) := (List.perm_append_singleton x T1).symm
 exact h1.trans (h2.trans h3)

theorem swap_far : ∀ (X Y Z : List Pr) (x y : Pr), (((X ++ x :: Y ++ y :: Z).set X.length y).set (X.length + 1 + Y.length) x) = X ++ y :: Y ++ x :: Z
 | [], Y, Z, x, y => by
  simp only [List.nil_append, List.length_nil, List.cons_append, List.set_cons_zero]
  rw [show 0 + 1 + Y.length = Y.length + 1 by omega, List.set_cons_succ, List.set_append_right _ _ (Nat.le_refl _)]
  simp
 | a :: X, Y, Z, x, y => by
  have := swap_far X Y Z x y
  simp only [List.cons_append, List.length_cons]
  rw [List.set_cons_succ, show X.length + 1 + 1 + Y.length = X.length + 1 + Y.length + 1 by omega, List.set_cons_succ, this]
theorem at_first (X Y Z : List Pr) (x y : Pr) : (X ++ x :: Y ++ y :: Z)[X.length]? = some x := by
 rw [List.append_assoc, List.getElem?_append_right (Nat.le_refl _)]; simp
theorem at_second (X Y Z : List Pr) (x y : Pr) : (X ++ x :: Y ++ y :: Z)[X.length + 1 + Y.length]? = some y := by
 rw [List.getElem?_append_right (by simp; omega)]
 simp
 rw [show X.length + 1 + Y.length - (X.length + (Y.length + 1)) = 0 by omega]; rfl
/-- Two rows, the first i of which are exchanged. -/
def swTo (P A M B S : List Pr) (i : Nat) : List Pr := P ++ B.take i ++ A.drop i ++ M ++ A.take i ++ B.drop i ++ S
theorem swTo_zero (P A M B S : List Pr) : swTo P A M B S 0 = P ++ A ++ M ++ B ++ S := by simp [swTo]
theorem swTo_all (P A M B S : List Pr) (h : A.length = B.length) : swTo P A M B S A.length = P ++ B ++ M ++ A ++ S := by
 rw [swTo, List.take_of_length_le (show B.length ≤ A.length by omega), List.drop_of_length_le (Nat.le_refl _), List.take_of_length_le (Nat.le_refl _), List.drop_of_length_le (show B.length ≤ A.length by omega)]
 simp
theorem swTo_at (P A M B S : List Pr) (i : Nat) (hA : i < A.length) (hB : i < B.length) :
  swTo P A M B S i = (P ++ B.take i) ++ A[i] :: (A.drop (i + 1) ++ M ++ A.take i) ++ B[i] :: (B.drop (i + 1) ++ S) := by
 have e1 := List.drop_eq_getElem_cons hA
 have e2 := List.drop_eq_getElem_cons hB
 simp only [swTo, e1, e2, List.append_assoc, List.cons_append]
theorem swTo_next (P A M B S : List Pr) (i : Nat) (hA : i < A.length) (hB : i < B.length) :
  (P ++ B.take i) ++ B[i] :: (A.drop (i + 1) ++ M ++ A.take i) ++ A[i] :: (B.drop (i + 1) ++ S) = swTo P A M B S (i + 1) := by
 have e1 := List.take_succ_eq_append_getElem hA
 have e2 := List.take_succ_eq_append_getElem hB
 simp only [swTo, e1, e2, List.append_assoc, List.cons_append, List.nil_append]

theorem srt_get {l : List Pr} (h : Srt l) {i j : Nat} (hij : i < j) (hj : j < l.length) : ltP (l[i]'(by omega)) l[j] :=
 List.pairwise_iff_getElem.1 h i j (by omega) hj hij
theorem srt_get_le {l : List Pr} (h : Srt l) {i j : Nat} (hij : i ≤ j) (hj : j < l.length) : (l[i]'(by omega)).1 ≤ l[j].1 := by
 rcases Nat.lt_or_eq_of_le hij with h1 | rfl
 ·exact ltP_le (srt_get h h1 hj)
 ·exact Nat.le_refl _
/-- Where a row in order is cut by a sign. -/
theorem cut_low {B : List Pr} {s k : Nat} (h1 : ∀ t (ht : t < B.length), t < k → B[t].1 < s) : ∀ x ∈ B.take k, x.1 < s := by
 intro x hx
 obtain ⟨t, ht, rfl⟩ := List.mem_iff_getElem.1 hx
 rw [List.getElem_take]
 simp at ht
 exact h1 t (by omega) (by omega)
theorem cut_high {B : List Pr} {s k : Nat} (h1 : ∀ t (ht : t < B.length), k ≤ t → s ≤ B[t].1) : ∀ x ∈ B.drop k, s ≤ x.1 := by
 intro x hx
 obtain ⟨t, ht, rfl⟩ := List.mem_iff_getElem.1 hx
 rw [List.getElem_drop]
 simp at ht
 exact h1 (k + t) (by omega) (by omega)
/-- One ahead of a row is put into it. -/
theorem one_ahead {B : List Pr} {x : Pr} {k : Nat} (hs : Srt B) (hx : ∀ y ∈ B, x.2 < y.2) (h1 : ∀ t (ht : t < B.length), t < k → B[t].1 < x.1) (h2 : ∀ t (ht : t < B.length), k ≤ t → x.1 ≤ B[t].1) :
  (B.take k ++ x :: B.drop k).Perm (x :: B) ∧ Srt (B.take k ++ x :: B.drop k) := by
 have e : B.take k ++ B.drop k = B := List.take_append_drop k B
 refine ⟨by have := @List.perm_middle _ x (B.take k) (B.drop k); rwa [e] at this, ?_⟩
 have hs' := hs
 unfold Srt at hs' ⊢
 rw [← e, List.pairwise_append] at hs'
 rw [List.pairwise_append, List.pairwise_cons]
 have hl := cut_low h1
 have hh := cut_high h2
 refine ⟨hs'.1, ⟨fun y hy => ?_, hs'.2.1⟩, fun u hu y hy => ?_⟩
 ·have := hh y hy
  have := hx y (List.mem_of_mem_drop hy)
  unfold ltP; omega
 ·rcases List.mem_cons.1 hy with rfl | hy
  ·exact .inl (hl u hu)
  ·exact hs'.2.2 u hu y hy
/-- One behind a row is put into it. -/
theorem one_behind {A : List Pr} {y : Pr} {k : Nat} (hs : Srt A) (hy : ∀ x ∈ A, x.2 < y.2) (h1 : ∀ t (ht : t < A.length), t < k → A[t].1 ≤ y.1) (h2 : ∀ t (ht : t < A.length), k ≤ t → y.1 < A[t].1) :
  (A.take k ++ y :: A.drop k).Perm (A ++ [y]) ∧ Srt (A.take k ++ y :: A.drop k) := by
 have e : A.take k ++ A.drop k = A := List.take_append_drop k A
 have hl := cut_low (B := A) (s := y.1 + 1) (k := k) (fun t ht hk => by have := h1 t ht hk; omega)
 have hh := cut_high (B := A) (s := y.1 + 1) (k := k) (fun t ht hk => by have := h2 t ht hk; omega)
 refine ⟨?_, srt_ins _ _ y (by rw [e]; exact hs) (by rw [e]; exact hy) (fun v hv => by have := hh v hv; omega) (fun u hu => by have := hl u hu; omega)⟩
 have h3 := @List.perm_middle _ y (A.take k) (A.drop k)
 rw [e] at h3
 exact h3.trans (List.perm_append_singleton y A).symm

theorem srt_take {l : List Pr} (h : Srt l) (k : Nat) : Srt (l.take k) := List.Pairwise.sublist (List.take_sublist k l) h
theorem srt_drop {l : List Pr} (h : Srt l) (k : Nat) : Srt (l.drop k) := List.Pairwise.sublist (List.drop_sublist k l) h
theorem cross1 {A B : List Pr} {i j : Nat} (hA : Srt A) (hB : Srt B) (h : i = 0 ∨ B.length ≤ j ∨ ∃ (hi : i - 1 < A.length) (hj : j < B.length), A[i - 1].1 ≤ B[j].1) : ∀ x ∈ A.take i, ∀ y ∈ B.drop j, x.1 ≤ y.1 := by
 intro x hx y hy
 obtain ⟨s, hs, rfl⟩ := List.mem_iff_getElem.1 hx
 obtain ⟨t, ht, rfl⟩ := List.mem_iff_getElem.1 hy
 simp at hs ht
 rw [List.getElem_take, List.getElem_drop]
 rcases h with rfl | h | ⟨hi, hj, h⟩
 ·omega
 ·omega
 ·have h1 := srt_get_le hA (show s ≤ i - 1 by omega) hi
  have h2 := srt_get_le hB (show j ≤ j + t by omega) (by omega)
  omega
theorem cross2 {A B : List Pr} {i j : Nat} (hA : Srt A) (hB : Srt B) (h : A.length ≤ i ∨ j = 0 ∨ ∃ (hi : i < A.length) (hj : j - 1 < B.length), B[j - 1].1 < A[i].1) : ∀ y ∈ B.take j, ∀ x ∈ A.drop i, y.1 < x.1 := by
 intro y hy x hx
 obtain ⟨s, hs, rfl⟩ := List.mem_iff_getElem.1 hx
 obtain ⟨t, ht, rfl⟩ := List.mem_iff_getElem.1 hy
 simp at hs ht
 rw [List.getElem_take, List.getElem_drop]
 rcases h with h | rfl | ⟨hi, hj, h⟩
 ·omega
 ·omega
 ·have h1 := srt_get_le hB (show t ≤ j - 1 by omega) hj
  have h2 := srt_get_le hA (show i ≤ i + s by omega) (by omega)
  omega
/-- Two halves in order, the first ahead of the second. -/
theorem merge_fin {A B R1 R2 : List Pr} {i j : Nat} (hA : Srt A) (hB : Srt B) (hx : ∀ x ∈ A, ∀ y ∈ B, x.2 < y.2) (h1 : ∀ x ∈ A.take i, ∀ y ∈ B.drop j, x.1 ≤ y.1) (h2 : ∀ y ∈ B.take j, ∀ x ∈ A.drop i, y.1 < x.1)
  (p1 : R1.Perm (A.take i ++ B.take j)) (s1 : Srt R1) (p2 : R2.Perm (A.drop i ++ B.drop j)) (s2 : Srt R2) : (R1 ++ R2).Perm (A ++ B) ∧ Srt (R1 ++ R2) := by
 constructor
 ·have h3 : (R1 ++ R2).Perm ((A.take i ++ B.take j) ++ (A.drop i ++ B.drop j)) := p1.append p2
  have h4 : ((A.take i ++ B.take j) ++ (A.drop i ++ B.drop j)).Perm ((A.take i ++ A.drop i) ++ (B.take j ++ B.drop j)) := by
   rw [List.append_assoc, List.append_assoc]
   refine List.Perm.append_left _ ?_
   rw [← List.append_assoc, ← List.append_assoc]
   exact List.Perm.append_right _ List.perm_append_comm
  rw [List.take_append_drop, List.take_append_drop] at h4
  exact h3.trans h4
 ·unfold Srt at *
  rw [List.pairwise_append]
  refine ⟨s1, s2, fun u hu v hv => ?_⟩
  have hu' := p1.mem_iff.1 hu
  have hv' := p2.mem_iff.1 hv
  rcases List.mem_append.1 hu' with hu' | hu' <;> rcases List.mem_append.1 hv' with hv' | hv'
  ·have := hA
   rw [← List.take_append_drop i A, List.pairwise_append] at this
   exact this.2.2 u hu' v hv'
  ·have h5 := h1 u hu' v hv'
   have h6 := hx u (List.mem_of_mem_take hu') v (List.mem_of_mem_drop hv')
   unfold ltP; omega
  ·exact .inl (h2 u hu' v hv')
  ·have := hB
   rw [← List.take_append_drop j B, List.pairwise_append] at this
   exact this.2.2 u hu' v hv'
theorem srt_half {A B : List Pr} (hA : Srt A) (hB : Srt B) (h : A.length = 0 ∨ B.length = 0) : Srt (A ++ B) := by
 rcases h with h | h
 ·rw [List.eq_nil_of_length_eq_zero h]; simpa using hB
 ·rw [List.eq_nil_of_length_eq_zero h]; simpa using hA

end Go.Proofs.YtcphokaamkalfaaGreatDoor
namespace Go.Proofs.YtcphokaamkalfaaGreatDoor
open Go.RowKit Go.Sort

/-- A pair's cells: a sign, and where it stands. -/
def flat : List Pr → List Value
 | [] => []
 | p :: l => .int .i32 (p.1 : Int) :: .int .i64 (p.2 : Int) :: flat l
theorem flat_append : ∀ a b : List Pr, flat (a ++ b) = flat a ++ flat b
 | [], _ => rfl
 | p :: a, b => by simp [flat, flat_append a b]
theorem flat_at : ∀ (l : List Pr) (j : Nat) (h : j < l.length), (flat l)[2 * j]? = some (.int .i32 (l[j].1 : Int)) ∧ (flat l)[2 * j + 1]? = some (.int .i64 (l[j].2 : Int))
 | [], j, h => by simp at h
 | p :: l, 0, h => by simp [flat]
 | p :: l, j + 1, h => by
  have := flat_at l j (by simpa using h)
  rw [show 2 * (j + 1) = 2 * j + 2 by omega]
  simpa [flat] using this
theorem flat_set : ∀ (l : List Pr) (j : Nat) (p : Pr), ((flat l).set (2 * j) (.int .i32 (p.1 : Int))).set (2 * j + 1) (.int .i64 (p.2 : Int)) = flat (l.set j p)
 | [], j, p => by simp [flat]
 | q :: l, 0, p => by simp [flat]
 | q :: l, j + 1, p => by
  have := flat_set l j p
  rw [show 2 * (j + 1) = 2 * j + 2 by omega]
  simpa [flat] using this

/-- A row of pairs in memory. -/
def Row2 (w : World) (g cap : Nat) (l : List Pr) : Prop := ∃ cur : Array Value, w.heap[g]? = some (.cells cur 169 (0, 0)) ∧ cur.size = 2 * cap ∧ l.length ≤ cap ∧ cur.toList.take (2 * l.length) = flat l
theorem Row2.lt {w : World} {g cap : Nat} {l : List Pr} (h : Row2 w g cap l) : g < w.heap.size := by
 obtain ⟨cur, h1, _⟩ := h
 exact (Array.getElem?_eq_some_iff.1 h1).1
theorem Row2.cells {w : World} {g cap : Nat} {l : List Pr} (h : Row2 w g cap l) (j : Nat) (hj : j < l.length) :
  w.cell? ⟨g, 2 * j, none⟩ = some (.int .i32 (l[j].1 : Int)) ∧ w.cell? ⟨g, 2 * j + 1, none⟩ = some (.int .i64 (l[j].2 : Int)) := by
 obtain ⟨cur, h1, h2, h3, h4⟩ := h
 have := flat_at l j hj
 rw [← h4] at this
 rw [List.getElem?_take_of_lt (by omega), List.getElem?_take_of_lt (by omega), Array.getElem?_toList, Array.getElem?_toList] at this
 rw [cellOf w g cur _ h1, cellOf w g cur _ h1]
 exact this
theorem Row2.frozen {w : World} {g cap : Nat} {l : List Pr} (h : Row2 w g cap l) (j : Nat) : w.frozen? ⟨g, j, none⟩ = false := by
 obtain ⟨cur, h1, _⟩ := h
 exact frozenOf w g cur _ h1 j
theorem Row2.old {w w' : World} {g cap : Nat} {l : List Pr} (h : Row2 w g cap l) (hb : w'.heap[g]? = w.heap[g]?) : Row2 w' g cap l := by
 obtain ⟨cur, h1, h2⟩ := h
 exact ⟨cur, hb.trans h1, h2⟩
theorem Row2.set {w : World} {g cap : Nat} {l : List Pr} (h : Row2 w g cap l) (j : Nat) (p : Pr) (_hj : j < l.length) :
  Row2 ((w.setCell ⟨g, 2 * j, none⟩ (.int .i32 (p.1 : Int))).setCell ⟨g, 2 * j + 1, none⟩ (.int .i64 (p.2 : Int))) g cap (l.set j p) := by
 obtain ⟨cur, h1, h2, h3, h4⟩ := h
 refine ⟨_, heap_setCell_same _ g _ _ 169 _ (heap_setCell_same w g _ cur 169 _ h1), by simpa using h2, by simpa using h3, ?_⟩
 rw [Array.toList_setIfInBounds, Array.toList_setIfInBounds, List.length_set, List.take_set, List.take_set, h4, flat_set]

theorem Row2.cells' {w : World} {g cap : Nat} {l : List Pr} (h : Row2 w g cap l) (j : Nat) (p : Pr) (hp : l[j]? = some p) :
  w.cell? ⟨g, j * 2, none⟩ = some (.int .i32 (p.1 : Int)) ∧ w.cell? ⟨g, j * 2 + 1, none⟩ = some (.int .i64 (p.2 : Int)) := by
 obtain ⟨hj, rfl⟩ := List.getElem?_eq_some_iff.1 hp
 rw [Nat.mul_comm]
 exact h.cells j hj
theorem Row2.set' {w : World} {g cap : Nat} {l : List Pr} (h : Row2 w g cap l) (j : Nat) (p : Pr) (hj : j < l.length) :
  Row2 ((w.setCell ⟨g, j * 2, none⟩ (.int .i32 (p.1 : Int))).setCell ⟨g, j * 2 + 1, none⟩ (.int .i64 (p.2 : Int))) g cap (l.set j p) := by
 rw [Nat.mul_comm]
 exact h.set j p hj
theorem Row2.grown {w : World} {g cap : Nat} {l : List Pr} (h : Row2 w g cap l) (n : Nat) (os : Array Obj) : Row2 (Sort.grow (w.drewN n) os) g cap l :=
 h.old (heap_grow_old (w.drewN n) os h.lt)

/-- All is as it was but one block, and blocks may be laid behind. -/
structure Gro (g : Nat) (w w' : World) : Prop where
 os : w'.os = w.os
 tape : w'.tape = w.tape
 output : w'.output = w.output
 size : w.heap.size ≤ w'.heap.size
 block : ∀ i, i < w.heap.size → i ≠ g → w'.heap[i]? = w.heap[i]?
theorem Gro.refl (g : Nat) (w : World) : Gro g w w := ⟨rfl, rfl, rfl, Nat.le_refl _, fun _ _ _ => rfl⟩
theorem Gro.trans {g : Nat} {a b c : World} (h : Gro g a b) (h' : Gro g b c) : Gro g a c :=
 ⟨h'.os.trans h.os, h'.tape.trans h.tape, h'.output.trans h.output, Nat.le_trans h.size h'.size, fun i hi hg => (h'.block i (Nat.lt_of_lt_of_le hi h.size) hg).trans (h.block i hi hg)⟩
theorem Gro.setCell {g : Nat} {a b : World} (h : Gro g a b) (i : Nat) (v : Value) : Gro g a (b.setCell ⟨g, i, none⟩ v) := by
 have k := But.setCell b g i v
 exact ⟨k.os.trans h.os, k.tape.trans h.tape, k.output.trans h.output, by rw [k.size]; exact h.size, fun j hj hg => (k.block j hg).trans (h.block j hj hg)⟩
theorem Gro.grow {g : Nat} {a b : World} (h : Gro g a b) (n : Nat) (os : Array Obj) : Gro g a (Sort.grow (b.drewN n) os) := by
 refine ⟨h.os, h.tape, h.output, ?_, fun j hj hg => ?_⟩
 ·rw [size_grow]; exact Nat.le_trans h.size (Nat.le_add_right _ _)
 ·rw [← h.block j hj hg]
  exact heap_grow_old (b.drewN n) os (Nat.lt_of_lt_of_le hj h.size)
theorem Gro.drew {g : Nat} {a b : World} (h : Gro g a b) : Gro g a b.drew := ⟨h.os, h.tape, h.output, h.size, h.block⟩
theorem Gro.below {g B : Nat} {a b : World} (h : Gro g a b) (hB : B ≤ g) (hs : B ≤ a.heap.size) : Below B a b :=
 ⟨h.os, h.tape, h.output, h.size, fun i hi => h.block i (by omega) (by omega)⟩

set_option maxHeartbeats 400000 in
theorem cmp_any (p q : Pr) (w : World) :
  Calls Tryz.prog 183 #[.agg #[.int .i32 (p.1 : Int), .int .i64 (p.2 : Int)], .agg #[.int .i32 (q.1 : Int), .int .i64 (q.2 : Int)]] w fun e w' => e = .returned (.int .i64 (cmpN p.1 q.1)) ∧ ∃ n os, w' = Sort.grow (w.drewN n) os := by
 go_enter Tryz.func183, Tryz.ntmps183
 go_wp2_with (go_at_call 184; refine (Compare_any _ _ _).mono ?_; rintro e w' ⟨rfl, rfl⟩)
 go_ret
 refine ⟨rfl, 0, #[.cells #[.int .i32 (p.1 : Int), .int .i64 (p.2 : Int)] 169, .cells #[.int .i32 (q.1 : Int), .int .i64 (q.2 : Int)] 169], ?_⟩
 rw [alloc_eq_grow, alloc_eq_grow, grow_grow]
 rfl

end Go.Proofs.YtcphokaamkalfaaGreatDoor
namespace Go.Proofs.YtcphokaamkalfaaGreatDoor
open Go.RowKit Go.Sort

theorem mixedD : Tryz.prog.follows .mixedOrders = true := by kernel_rfl
theorem cells2 (w : World) (g cap : Nat) (l : List Pr) (h : Row2 w g cap l) (j : Nat) (p : Pr) (hp : l[j]? = some p) (n : Nat) (os : Array Obj) :
  (grow (w.drewN n) os).cell? ⟨g, j * 2, none⟩ = some (.int .i32 (p.1 : Int)) ∧ (grow (w.drewN n) os).cell? ⟨g, j * 2 + 1, none⟩ = some (.int .i64 (p.2 : Int)) :=
 (h.grown n os).cells' j p hp
theorem cmpN_neg {a b : Nat} (h : a < b) : cmpN a b = -1 := by rw [cmpN, if_pos h]
theorem cmpN_pos {a b : Nat} (h : ¬ a < b) : 0 ≤ cmpN a b := by rw [cmpN, if_neg h]; split <;> omega

set_option maxHeartbeats 1000000 in
set_option maxRecDepth 1000000 in
theorem insertion_any (g cap : Nat) (P T S : List Pr) (w : World) (hrow : Row2 w g cap (P ++ T ++ S)) (hr : Ris T) (hcap : (P ++ T ++ S).length ≤ 100000000) :
  Calls Tryz.prog 196 #[.slice (some ⟨g, 0, none⟩) (P ++ T ++ S).length cap, .int .i64 P.length, .int .i64 ((P.length + T.length : Nat) : Int), .func (.func 183) #[] #[]] w fun e w' =>
   (∃ v, e = .returned v) ∧ ∃ R, R.Perm T ∧ Srt R ∧ Row2 w' g cap (P ++ R ++ S) ∧ Gro g w w' := by
 have mixed := mixedD
 obtain ⟨N, HN⟩ : ∃ N, Hid (N = (P ++ T ++ S).length) := ⟨_, Lib.hid rfl⟩
 have hNl : N = P.length + T.length + S.length := by rw [HN.out]; simp; omega
 have hNc : N ≤ 100000000 := by rw [HN.out]; exact hcap
 clear hcap
 rw [← HN.out]
 have HRow := Lib.hid hrow; clear hrow
 obtain ⟨a, Ha⟩ : ∃ a, Hid (a = P.length) := ⟨_, Lib.hid rfl⟩
 obtain ⟨b, Hb⟩ : ∃ b, Hid (b = P.length + T.length) := ⟨_, Lib.hid rfl⟩
 have hab : a ≤ b ∧ b ≤ N := by rw [Ha.out, Hb.out]; omega
 rw [← Hb.out, ← Ha.out]
 clear hNl
 obtain ⟨hab, hbN⟩ := hab
 go_enter Tryz.func196, Tryz.ntmps196
 go_wp2
 go_loopw [8] (fun vi wr => ∃ (i : Nat) (R T2 : List Pr), vi = .int .i64 i ∧ a < i ∧ i ≤ b + 1 ∧ Hid ((T2 = [] ∧ b ≤ i ∧ R.Perm T) ∨ (i < b ∧ ∃ T1, T = T1 ++ T2 ∧ R.Perm T1 ∧ T1.length + a = i)) ∧ Hid (Srt R) ∧ Hid (Row2 wr g cap (P ++ R ++ T2 ++ S)) ∧ Hid (Gro g w wr)) (fun vi _ => b + 1 - (intOf vi).toNat)
 case atStart =>
  have h1 := Ha.out
  have h2 := Hb.out
  cases T with
  | nil => exact ⟨a + 1, [], [], by go_num, by omega, by simp at h2; omega, Lib.hid (.inl ⟨rfl, by simp at h2; omega, .refl _⟩), Lib.hid List.Pairwise.nil, Lib.hid (by have := HRow.out; simpa using this), Lib.hid (Gro.refl _ _)⟩
  | cons t T' =>
   simp at h2
   refine ⟨a + 1, [t], T', by go_num, by omega, by omega, Lib.hid ?_, Lib.hid (by simp [Srt]), Lib.hid (by have := HRow.out; simpa using this), Lib.hid (Gro.refl _ _)⟩
   cases T' with
   | nil => exact .inl ⟨rfl, by simp at h2; omega, .refl _⟩
   | cons u T'' => exact .inr ⟨by simp at h2; omega, [t], rfl, .refl _, by simp; omega⟩
 case round =>
  obtain ⟨i, R, T2, rfl, hai, hib, HP, HS, HR, HG⟩ := hrel
  by_cases hlt : i < b
  ·have HP2 : Hid (∃ T1, T = T1 ++ T2 ∧ R.Perm T1 ∧ T1.length + a = i) := Lib.hid (by
    rcases HP.out with ⟨_, h, _⟩ | ⟨_, h⟩
    ·omega
    ·exact h)
   clear HP
   obtain ⟨x, T3, rfl⟩ : ∃ x T3, T2 = x :: T3 := by
    obtain ⟨T1, h1, h2, h3⟩ := HP2.out
    cases T2 with
    | nil =>
     have := congrArg List.length h1
     have h4 := Ha.out
     have h5 := Hb.out
     simp at this; omega
    | cons x T3 => exact ⟨x, T3, rfl⟩
   go_wp2
   go_loopw [9] (fun vj wr2 => ∃ (j : Nat) (U V : List Pr), vj = .int .i64 j ∧ a ≤ j ∧ j ≤ i ∧ Hid (U ++ V = R ∧ U.length + a = j ∧ ∀ v ∈ V, x.1 < v.1) ∧ Hid (Row2 wr2 g cap (P ++ (U ++ x :: V) ++ T3 ++ S)) ∧ Hid (Gro g w wr2)) (fun vj _ => (intOf vj).toNat)
   case atStart =>
    refine ⟨i, R, [], rfl, by omega, Nat.le_refl _, Lib.hid ⟨by simp, ?_, by simp⟩, Lib.hid (by have := HR.out; simpa using this), HG⟩
    obtain ⟨T1, h1, h2, h3⟩ := HP2.out
    rw [h2.length_eq]; exact h3
   case round =>
    obtain ⟨j, U, V, rfl, haj, hji, HU, HR2, HG2⟩ := hrel
    have hfun : Enters Tryz.prog 183 := enters_of Tryz.func183 (by kernel_rfl) rfl
    by_cases hja : a < j
    ·obtain ⟨jp, rfl⟩ : ∃ jp, j = jp + 1 := ⟨j - 1, by omega⟩
     obtain ⟨M, HM⟩ : ∃ M, Hid (M = P ++ (U ++ x :: V) ++ T3 ++ S) := ⟨_, Lib.hid rfl⟩
     rw [← HM.out] at HR2
     have HUe : Hid (∃ U', ∃ y, U = U' ++ [y] ∧ U'.length + a = jp) := Lib.hid (by
      obtain ⟨h1, h2, h3⟩ := HU.out
      have hne : U ≠ [] := fun h => by rw [h] at h2; simp at h2; omega
      exact ⟨U.dropLast, U.getLast hne, (List.dropLast_concat_getLast hne).symm, by simp; omega⟩)
     obtain ⟨U', y, rfl, hU'⟩ := HUe.out
     have HE : Hid (M = (P ++ U') ++ y :: x :: (V ++ T3 ++ S)) := Lib.hid (by rw [HM.out]; simp)
     have HPl : Hid ((P ++ U').length = jp) := Lib.hid (by have := Ha.out; simp; omega)
     have gy : M[jp]? = some y := by rw [HE.out, List.getElem?_append_right (by rw [HPl.out]; omega), HPl.out]; simp
     have gx : M[jp + 1]? = some x := by rw [HE.out, List.getElem?_append_right (by rw [HPl.out]; omega), HPl.out]; simp
     have HMl : Hid (M.length = N) := Lib.hid (by
      obtain ⟨T1, h1, h2, h3⟩ := HP2.out
      obtain ⟨h4, _, _⟩ := HU.out
      have h5 := h2.length_eq
      have h6 := congrArg List.length h1
      have h7 := congrArg List.length h4
      have h8 := HN.out
      rw [HE.out]
      simp at h6 h7 h8 ⊢; omega)
     have l1 := fun n os => (cells2 wr g cap M HR2.out (jp + 1) x gx n os).1
     have l1' := fun n os => (cells2 wr g cap M HR2.out (jp + 1) x gx n os).2
     have l2 := fun n os => (cells2 wr g cap M HR2.out jp y gy n os).1
     have l2' := fun n os => (cells2 wr g cap M HR2.out jp y gy n os).2
     have hz1 : (jp : Int) + 1 < (N : Int) := by omega
     have hwp : IntKind.i64.wrap (jp : Int) = (jp : Int) := by rw [IntKind.wrap_i64]; omega
     have jz1 : (jp : Int) < (N : Int) := by omega
     have hjaz' : (a : Int) < (jp : Int) + 1 := by omega
     have p0 : (0 : Int) ≤ (jp : Int) + 1 := by omega
     have e0 : ((jp : Int) + 1).toNat = jp + 1 := by omega
     have HGy := Lib.hid gy
     have HGx := Lib.hid gx
     clear gy gx hU'
     by_cases hlv : x.1 < y.1
     ·have HCm := Lib.hid (cmpN_neg hlv)
      have HCall : Hid (∀ n os, Calls Tryz.prog 183 #[.agg #[.int .i32 (x.1 : Int), .int .i64 (x.2 : Int)], .agg #[.int .i32 (y.1 : Int), .int .i64 (y.2 : Int)]] (grow (wr.drewN n) os) fun e w' => e = .returned (.int .i64 (-1)) ∧ ∃ q os', w' = grow ((grow (wr.drewN n) os).drewN q) os') := Lib.hid (fun n os => by
       rw [← HCm.out]; exact cmp_any x y _)
      go_wp2_with fail
      go_quiet_grown (first | exact Calls.grown_of (HCall.out _ _) | exact ⟨rfl, Calls.grown_of (HCall.out _ _)⟩ | (go_at_call 183; exact Calls.grown_of (HCall.out _ _)))
      have HR3 : Hid (Row2 (grow (wr.drewN nq) osq) g cap M) := Lib.hid (HR2.out.grown nq osq)
      have HG3 : Hid (Gro g w (grow (wr.drewN nq) osq)) := Lib.hid (HG2.out.grow nq osq)
      clear l1 l1' l2 l2'
      generalize grow (wr.drewN nq) osq = W2 at HR3 HG3 ⊢
      obtain ⟨c1, c1'⟩ := HR3.out.cells' (jp + 1) x HGx.out
      obtain ⟨c2, c2'⟩ := HR3.out.cells' jp y HGy.out
      have f1 := HR3.out.frozen ((jp + 1) * 2)
      have f1' := HR3.out.frozen ((jp + 1) * 2 + 1)
      have f2 := HR3.out.frozen (jp * 2)
      have f2' := HR3.out.frozen (jp * 2 + 1)
      go_wp2
      go_region
      go_wp2
      go_roundw
      case rel =>
       have hm1 := HMl.out
       refine ⟨jp, U', y :: V, by go_num, by omega, by omega, Lib.hid ?_, Lib.hid ?_, Lib.hid ((((((HG3.out.setCell _ _).setCell _ _).setCell _ _).setCell _ _)).drew)⟩
       ·obtain ⟨h4, h5, h6⟩ := HU.out
        refine ⟨by rw [← h4]; simp, by simp at h5; omega, fun v hv => ?_⟩
        rcases List.mem_cons.1 hv with rfl | hv
        ·exact hlv
        ·exact h6 v hv
       ·have h9 := (HR3.out.set' (jp + 1) y (by omega)).set' jp x (by simp; omega)
        have h10 := swap_list (P ++ U') x y (V ++ T3 ++ S)
        rw [HPl.out, ← HE.out] at h10
        rw [h10] at h9
        have e : P ++ U' ++ x :: y :: (V ++ T3 ++ S) = P ++ (U' ++ x :: y :: V) ++ T3 ++ S := by simp
        rw [e] at h9
        exact h9
      case measure => simp [intOf]
     ·have hcp := cmpN_pos hlv
      obtain ⟨cc, HCc⟩ : ∃ cc, Hid (cmpN x.1 y.1 = cc) := ⟨_, Lib.hid rfl⟩
      rw [HCc.out] at hcp
      have HCall : Hid (∀ n os, Calls Tryz.prog 183 #[.agg #[.int .i32 (x.1 : Int), .int .i64 (x.2 : Int)], .agg #[.int .i32 (y.1 : Int), .int .i64 (y.2 : Int)]] (grow (wr.drewN n) os) fun e w' => e = .returned (.int .i64 cc) ∧ ∃ q os', w' = grow ((grow (wr.drewN n) os).drewN q) os') := Lib.hid (fun n os => by
       rw [← HCc.out]; exact cmp_any x y _)
      go_wp2_with fail
      go_quiet_grown (first | exact Calls.grown_of (HCall.out _ _) | exact ⟨rfl, Calls.grown_of (HCall.out _ _)⟩ | (go_at_call 183; exact Calls.grown_of (HCall.out _ _)))
      have HR3 : Hid (Row2 (grow (wr.drewN nq) osq) g cap M) := Lib.hid (HR2.out.grown nq osq)
      have HG3 : Hid (Gro g w (grow (wr.drewN nq) osq)) := Lib.hid (HG2.out.grow nq osq)
      clear l1 l1' l2 l2'
      generalize grow (wr.drewN nq) osq = W2 at HR3 HG3 ⊢
      have HEnd : Hid (∃ T1, T = T1 ++ x :: T3 ∧ T1.length + a = i ∧ (U' ++ [y] ++ x :: V).Perm (T1 ++ [x]) ∧ Srt (U' ++ [y] ++ x :: V)) := Lib.hid (by
       obtain ⟨T1, h1, h2, h3⟩ := HP2.out
       obtain ⟨h4, h5, h6⟩ := HU.out
       have hs := HS.out
       rw [← h4] at hs h2
       have hsU : Srt (U' ++ [y]) := by unfold Srt at hs ⊢; rw [List.pairwise_append] at hs; exact hs.1
       have := ins_end (by rw [← h1]; exact hr) h2 hs h6 (fun u hu => Nat.le_trans (srt_le_last hsU u hu) (by omega))
       exact ⟨T1, h1, h3, this⟩)
      go_wp2
      go_roundw
      case rel =>
       obtain ⟨T1, h1, h2, h3, h4⟩ := HEnd.out
       refine ⟨i + 1, U' ++ [y] ++ x :: V, T3, by go_num, by omega, by omega, Lib.hid ?_, Lib.hid h4, Lib.hid (by rw [← HM.out]; exact HR3.out), HG3⟩
       have h5 := congrArg List.length h1
       have h6 := Ha.out
       have h7 := Hb.out
       simp at h5
       by_cases hq : i + 1 < b
       ·exact .inr ⟨hq, T1 ++ [x], by rw [h1]; simp, h3, by simp; omega⟩
       ·have h8 : T3 = [] := List.eq_nil_of_length_eq_zero (by omega)
        exact .inl ⟨h8, by omega, by rw [h1, h8]; exact h3⟩
      case measure => simp [intOf]; omega
    ·have hjaz : decide ((j : Int) > (a : Int)) = false := decide_eq_false (by omega)
     have hjaz' : ¬ (a : Int) < (j : Int) := by omega
     obtain ⟨M, HM⟩ : ∃ M, Hid (M = P ++ (U ++ x :: V) ++ T3 ++ S) := ⟨_, Lib.hid rfl⟩
     rw [← HM.out] at HR2
     have HEnd : Hid (∃ T1, T = T1 ++ x :: T3 ∧ T1.length + a = i ∧ (U ++ x :: V).Perm (T1 ++ [x]) ∧ Srt (U ++ x :: V)) := Lib.hid (by
      obtain ⟨T1, h1, h2, h3⟩ := HP2.out
      obtain ⟨h4, h5, h6⟩ := HU.out
      have hs := HS.out
      rw [← h4] at hs h2
      have hU : U = [] := List.eq_nil_of_length_eq_zero (by omega)
      have := ins_end (by rw [← h1]; exact hr) h2 hs h6 (fun u hu => by rw [hU] at hu; simp at hu)
      exact ⟨T1, h1, h3, this⟩)
     have HR3 : Hid (Row2 wr.drew g cap M) := HR2
     have HG3 : Hid (Gro g w wr.drew) := Lib.hid HG2.out.drew
     go_wp2_with fail
     go_big_region
     all_goals go_wp2
     go_roundw
     case rel =>
      obtain ⟨T1, h1, h2, h3, h4⟩ := HEnd.out
      refine ⟨i + 1, U ++ x :: V, T3, by go_num, by omega, by omega, Lib.hid ?_, Lib.hid h4, Lib.hid (by rw [← HM.out]; exact HR3.out), HG3⟩
      have h5 := congrArg List.length h1
      have h6 := Ha.out
      have h7 := Hb.out
      simp at h5
      by_cases hq : i + 1 < b
      ·exact .inr ⟨hq, T1 ++ [x], by rw [h1]; simp, h3, by simp; omega⟩
      ·have h8 : T3 = [] := List.eq_nil_of_length_eq_zero (by omega)
       exact .inl ⟨h8, by omega, by rw [h1, h8]; exact h3⟩
     case measure => simp [intOf]; omega
  ·have HF : Hid (R.Perm T ∧ T2 = []) := Lib.hid (by
    rcases HP.out with ⟨h1, _, h2⟩ | ⟨h, _⟩
    ·exact ⟨h2, h1⟩
    ·omega)
   go_wp2
   go_end0
   refine ⟨⟨_, rfl⟩, R, HF.out.1, HS.out, ?_, HG.out⟩
   have := HR.out
   rw [HF.out.2] at this
   simpa using this

end Go.Proofs.YtcphokaamkalfaaGreatDoor
