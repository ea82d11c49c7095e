/-
  Contracts: hosts' steps of a name, one behind the other; Machine; Parse.
  Contracts: hosts' other steps of a name; Machine.
-/
import Derived.Test.YtcphokaamkalfaaGreatDoorMhD
import Derived.Test.YtcphokaamkalfaaGreatDoorMpJ
import Derived.Test.YtcphokaamkalfaaGreatDoorMhB
import Derived.Test.YtcphokaamkalfaaGreatDoorShelfH
namespace Go.Proofs.YtcphokaamkalfaaGreatDoor
open Go.RowKit

/-- What the library's tables give, now and later. -/
structure Hw (w : World) : Prop where
 v : Vld w
 f10 : Fmt 10 256 w
 f16 : Fmt 16 65536 w
 ml : ∃ m : Int, w.cell? ⟨1, 0, none⟩ = some (.int .i64 m)
theorem Hw.later {w w1 : World} (h : Hw w) (hb : Below w.heap.size w w1) : Hw w1 :=
 ⟨h.v.later hb, h.f10.later hb, h.f16.later hb, by
  obtain ⟨m, hm⟩ := h.ml
  exact ⟨m, (hb.cell (p := ⟨1, 0, none⟩) (block_lt_of_cell hm)).trans hm⟩⟩

def hsV : Option ByteArray → Value
 | none => .tuple #[.string ⟨#[]⟩, .int .i64 5]
 | some x => .tuple #[.string x, .int .i64 0]
theorem ret_h {o : Option ByteArray} {v : Value} (h : v = hsV o) : Ending.returned v = .returned (hsV o) := by rw [h]

set_option maxRecDepth 100000 in
set_option maxHeartbeats 1000000 in
theorem decoded_any (s : ByteArray) (w : World) (hs : s.size ≤ 9000000) :
  Calls Tryz.prog 64 #[.string s] w fun e w' => e = .returned (hsV (some (decS s))) ∧ Below w.heap.size w w' := by
 go_enter Tryz.func64, Tryz.ntmps64
 go_wp2_with fail
 refine (PcDecode_any s _ hs).mono ?_
 rintro e w1 ⟨rfl, b1⟩
 have B1 := Lib.hid b1; clear b1
 go_wp2
 go_ret2
 exact ⟨rfl, B1.out⟩
/-- The first k parts as they are asked for. -/
def labTo (P : List ByteArray) (k : Nat) : List ByteArray := (P.take k).map (fun p => (labT p).1) ++ P.drop k
theorem labTo_at (P : List ByteArray) (k : Nat) (h : k < P.length) : (labTo P k)[k]? = some P[k] := by
 rw [labTo, List.getElem?_append_right (by simp; omega), List.getElem?_drop, List.length_map, List.length_take]
 rw [show k + (k - min k P.length) = k by omega, List.getElem?_eq_getElem h]
theorem labTo_set (P : List ByteArray) (k : Nat) (h : k < P.length) : (((labTo P k).map Value.string).toArray).setIfInBounds k (.string (labT P[k]).1) = ((labTo P (k + 1)).map Value.string).toArray := by
 apply Array.toList_inj.1
 rw [Array.toList_setIfInBounds, List.toList_toArray, List.toList_toArray]
 have hd : P.drop k = P[k] :: P.drop (k + 1) := List.drop_eq_getElem_cons h
 have ht : P.take (k + 1) = P.take k ++ [P[k]] := List.take_succ_eq_append_getElem h
 have hl : (((P.take k).map (fun p => (labT p).1)).map Value.string).length = k := by simp; omega
 rw [labTo, labTo, hd, ht, List.map_append, List.map_append, List.map_append, List.map_append, List.map_cons, List.set_append_right _ _ (by omega), hl, Nat.sub_self, List.set_cons_zero]
 simp
theorem labs_none {P : List ByteArray} {p : ByteArray} (hp : p ∈ P) (h : (labT p).2 ≠ 0) : labsT P = none := by
 induction P with
 | nil => cases hp
 | cons q P ih =>
  rw [labsT]
  by_cases hc : (labT q).2 = 0
  ·rw [if_pos hc]
   rcases List.mem_cons.1 hp with rfl | hp
   ·exact absurd hc h
   ·rw [ih hp]
  ·rw [if_neg hc]
theorem labs_all : ∀ {P : List ByteArray}, (∀ p ∈ P, (labT p).2 = 0) → labsT P = some (P.map fun p => (labT p).1)
 | [], _ => rfl
 | p :: P, h => by
  rw [labsT, if_pos (h p List.mem_cons_self), labs_all (fun q hq => h q (List.mem_cons_of_mem _ hq))]; rfl
/-- What is asked for, with points; none: a part is refused. -/
def labO (s : ByteArray) : Option ByteArray := match labsT (rawB 46 (trimD s)) with
 | none => none
 | some L => some (dotJ L)
theorem lab_err (p : ByteArray) (h : (labT p).2 ≠ 0) : labT p = (⟨#[]⟩, 5) := by
 by_cases hp : 1000 < p.size
 ·exact lab_long hp
 rcases asked p (by omega) with h0 | ⟨l, hl, _⟩
 ·exact h0
 ·rw [hl] at h; exact absurd rfl h
theorem lab_small (p : ByteArray) : (labT p).1.size ≤ 63 := by
 by_cases hp : 1000 < p.size
 ·rw [lab_long hp]; exact Nat.zero_le _
 rcases asked p (by omega) with h0 | ⟨l, hl, _, h, _⟩
 ·rw [h0]; exact Nat.zero_le _
 ·rw [hl]; exact h
theorem join_63 : ∀ L : List (List UInt8), (∀ l ∈ L, l.length ≤ 63) → (Lib.join L [46]).length ≤ 64 * L.length
 | [], _ => by simp [Lib.join_nil]
 | [x], h => by
  have := h x (by simp)
  rw [Lib.join_one]; simp; omega
 | x :: y :: r, h => by
  have h1 := h x (by simp)
  have h2 := join_63 (y :: r) (fun l hl => h l (List.mem_cons_of_mem _ hl))
  rw [join_split, List.length_append, List.length_cons]
  simp only [List.length_cons] at h2 ⊢
  omega

set_option maxRecDepth 100000 in
set_option maxHeartbeats 1000000 in
theorem labelled_any (s : ByteArray) (w : World) (hs : s.size ≤ 10000) (hW : Hw w) :
  Calls Tryz.prog 65 #[.string s] w fun e w' => e = .returned (hsV (labO s)) ∧ Below w.heap.size w w' := by
 have HW := Lib.hid hW; clear hW
 obtain ⟨m, hm⟩ := HW.out.ml
 have Hm := Lib.hid hm; clear hm
 obtain ⟨D, HD⟩ : ∃ D, Hid (trimD s = D) := ⟨_, Lib.hid rfl⟩
 obtain ⟨P, HP⟩ : ∃ P, Hid (rawB 46 D = P) := ⟨_, Lib.hid rfl⟩
 obtain ⟨O, HO⟩ : ∃ O, Hid (labO s = O) := ⟨_, Lib.hid rfl⟩
 have HOP : Hid (O = match labsT P with
  | none => none
  | some L => some (dotJ L)) := Lib.hid (by rw [← HO.out, labO, HD.out, HP.out])
 rw [HO.out]
 have hDs : D.size ≤ 10000 := by rw [← HD.out]; have := trimD_size s; omega
 have HPs : Hid (∀ p ∈ P, p.size ≤ 10000) := Lib.hid (fun p hp => by rw [← HP.out] at hp; have := (rawB_mem 46 D p hp).1; omega)
 have hPn : P.length ≤ 10001 := by rw [← HP.out]; have := rawB_count 46 D; omega
 obtain ⟨n, HN⟩ : ∃ n, Hid (P.length = n) := ⟨_, Lib.hid rfl⟩
 rw [HN.out] at hPn
 have HT : Hid (Calls Tryz.prog 101 #[.string s, .string ⟨#[46]⟩] w fun e w' => e = .returned (.string D) ∧ w' = w) := Lib.hid (by
  have := Tryz.strings_TrimSuffix s ⟨#[46]⟩ w (by omega)
  rw [show (⟨(Lib.trimSuffix s.data.toList (⟨#[46]⟩ : ByteArray).data.toList).toArray⟩ : ByteArray) = D from HD.out] at this
  exact this)
 have HS : Hid (Calls Tryz.prog 85 #[.string D, .string ⟨#[46]⟩] w fun e w' => e = .returned (.slice (some ⟨w.heap.size, 0, none⟩) n n) ∧ w' = w.alloc (.cells ((labTo P 0).map Value.string).toArray 9)) := Lib.hid (by
  have := Tryz.strings_Split D ⟨#[46]⟩ m w (by omega) Hm.out (Nat.le_refl 1)
  rw [show Lib.splitB ⟨#[46]⟩ 0 (Lib.countB D ⟨#[46]⟩) D = P from HP.out, show Lib.countB D ⟨#[46]⟩ + 1 = n by rw [← rawB_len, HP.out, HN.out]] at this
  rw [show labTo P 0 = P by simp [labTo]]
  exact this)
 go_enter Tryz.func65, Tryz.ntmps65
 go_wp2_with fail
 refine HT.out.mono ?_
 rintro e w1 ⟨rfl, hw1⟩
 obtain rfl := hw1.symm
 go_wp2_with fail
 refine HS.out.mono ?_
 rintro e w1 ⟨rfl, hw1⟩
 obtain rfl := hw1.symm
 go_wp2
 go_loopw [5, 6, 7, 8, 14] (fun _ _ _ _ i wr => ∃ k : Nat, k ≤ n ∧ i = .int .i64 k ∧ Hid (wr.heap[w.heap.size]? = some (.cells ((labTo P k).map Value.string).toArray 9 (0, 0))) ∧ Hid (Below w.heap.size w wr) ∧ Hid (∀ j (h : j < P.length), j < k → (labT P[j]).2 = 0)) (fun _ _ _ _ i _ => n - (intOf i).toNat)
 case atStart => exact ⟨0, Nat.zero_le _, rfl, Lib.hid (heap_alloc_new w _), Lib.hid ((Below.refl _ _).alloc (Nat.le_refl _) _), Lib.hid (fun j _ h => absurd h (Nat.not_lt_zero _))⟩
 case round =>
  obtain ⟨k, hk, rfl, HRow, HB, HOk⟩ := hrel
  by_cases hlt : k < n
  ·have hkP : k < P.length := by rw [HN.out]; exact hlt
   obtain ⟨p, Hp⟩ : ∃ p, Hid (P[k] = p) := ⟨_, Lib.hid rfl⟩
   have hps : p.size ≤ 10000 := by rw [← Hp.out]; exact HPs.out _ (List.getElem_mem hkP)
   have hlarge : w.heap.size < wr.heap.size := lt_of_block HRow.out
   have hc : wr.cell? ⟨w.heap.size, k, none⟩ = some (.string p) := by
    rw [cell_of_row wr _ _ _ _ _ HRow.out, List.getElem?_toArray, List.getElem?_map, labTo_at P k hkP, Hp.out]; rfl
   obtain ⟨L, HL⟩ : ∃ L, Hid ((labT p).1 = L) := ⟨_, Lib.hid rfl⟩
   obtain ⟨c, Hc⟩ : ∃ c, Hid ((labT p).2 = c) := ⟨_, Lib.hid rfl⟩
   have HLab : Hid (Calls Tryz.prog 102 #[.string p] wr fun e w' => e = .returned (.tuple #[.string L, .int .i64 c]) ∧ Below wr.heap.size wr w') := Lib.hid (by
    have := Label_any p wr (by omega) (HW.out.later HB.out).v
    rwa [HL.out, Hc.out] at this)
   by_cases hc0 : c = 0
   ·subst hc0
    go_wp2_with fail
    refine HLab.out.mono ?_
    rintro e w2 ⟨rfl, b2⟩
    have HRow2 : Hid (w2.heap[w.heap.size]? = some (.cells ((labTo P k).map Value.string).toArray 9 (0, 0))) := Lib.hid ((b2.block _ hlarge).trans HRow.out)
    have B2 : Hid (Below w.heap.size w w2) := Lib.hid (keepW HB.out b2)
    have hc2 : w2.cell? ⟨w.heap.size, k, none⟩ = some (.string p) := (b2.cell (p := ⟨w.heap.size, k, none⟩) hlarge).trans hc
    have hf2 : w2.frozen? ⟨w.heap.size, k, none⟩ = false := frozen_of_row w2 _ _ _ _ HRow2.out
    clear b2 hc
    go_wp2
    refine ⟨⟨k + 1, by omega, by go_num, Lib.hid ?_, Lib.hid ?_, Lib.hid ?_⟩, by simp [intOf]; omega⟩
    ·have hkP : k < P.length := by rw [HN.out]; exact hlt
     rw [heap_setCell_same _ _ _ _ _ _ HRow2.out, ← labTo_set P k hkP, Hp.out, HL.out]
    ·exact B2.out.setCell (Nat.le_refl _) _
    ·intro j hj hjk
     by_cases e : j = k
     ·subst e; rw [Hp.out]; exact Hc.out
     ·exact HOk.out j hj (by omega)
   ·have hce : c = 5 := by rw [← Hc.out, lab_err p (by rw [Hc.out]; exact hc0)]
    have HOn : Hid (O = none) := Lib.hid (by
     rw [HOP.out, labs_none (List.getElem_mem (by rw [HN.out]; exact hlt)) (by rw [Hp.out, Hc.out]; exact hc0)])
    subst hce
    clear hc0
    go_wp2_with fail
    refine HLab.out.mono ?_
    rintro e w2 ⟨rfl, b2⟩
    have B2 : Hid (Below w.heap.size w w2) := Lib.hid (keepW HB.out b2)
    clear b2 hc
    go_wp2
    go_ret2
    exact ⟨ret_h (by rw [HOn.out]; rfl), B2.out⟩
  ·obtain rfl : k = n := by omega
   have HAll : Hid (∀ p ∈ P, (labT p).2 = 0) := Lib.hid (fun p hp => by
    obtain ⟨j, hj, rfl⟩ := List.getElem_of_mem hp
    exact HOk.out j hj (by rw [← HN.out]; exact hj))
   obtain ⟨Q, HQ⟩ : ∃ Q, Hid (P.map (fun p => (labT p).1) = Q) := ⟨_, Lib.hid rfl⟩
   have HOs : Hid (O = some (dotJ Q)) := Lib.hid (by rw [HOP.out, labs_all HAll.out, HQ.out])
   have HRowQ : Hid (wr.heap[w.heap.size]? = some (.cells (Q.map Value.string).toArray 9 (0, 0))) := Lib.hid (by
    rw [HRow.out, ← HN.out]
    simp only [labTo, List.take_length, List.drop_length, List.append_nil, HQ.out])
   have hQl : Q.length = k := by rw [← HQ.out, List.length_map, HN.out]
   have HJ : Hid (Calls Tryz.prog 87 #[.slice (some ⟨w.heap.size, 0, none⟩) k k, .string ⟨#[46]⟩] wr fun e w' => e = .returned (.string (dotJ Q)) ∧ Below wr.heap.size wr w') := Lib.hid (by
    have h63 : (Lib.join (Q.map (·.data.toList)) [46]).length ≤ 64 * Q.length := by
     have := join_63 (Q.map (·.data.toList)) (fun l hl => by
      obtain ⟨q, hq, rfl⟩ := List.mem_map.1 hl
      rw [← HQ.out] at hq
      obtain ⟨p, hp, rfl⟩ := List.mem_map.1 hq
      rw [lenB]; exact lab_small p)
     rwa [List.length_map] at this
    have := Tryz.strings_Join w.heap.size 0 k Q ⟨#[46]⟩ wr (fun j x hx => by
     rw [cell_of_row wr _ _ _ _ _ HRowQ.out, List.getElem?_toArray, List.getElem?_map, Nat.zero_add, hx]; rfl) (lt_of_block HRowQ.out) (by omega) (by omega) (by show (Lib.join (Q.map (·.data.toList)) [46]).length ≤ _; omega)
    rw [hQl] at this
    exact this)
   clear hQl
   go_wp2_with fail
   refine HJ.out.mono ?_
   rintro e w2 ⟨rfl, b2⟩
   have B2 : Hid (Below w.heap.size w w2) := Lib.hid (keepW HB.out b2)
   clear b2
   go_wp2
   go_ret2
   exact ⟨ret_h (by rw [HOs.out]; rfl), B2.out⟩

end Go.Proofs.YtcphokaamkalfaaGreatDoor
namespace Go.Proofs.YtcphokaamkalfaaGreatDoor
open Go.RowKit

theorem foul_yes {c : UInt8} (h : c.toNat ≤ 32) : foulB c = true := by unfold foulB; simp [h]
theorem foul_rest {c : UInt8} (h : ¬ c.toNat ≤ 32) : foulB c = decide (0 ≤ Lib.indexByte [35, 37, 47, 58, 60, 62, 63, 64, 91, 92, 93, 94, 124, 127] c) := by unfold foulB; simp [h]
set_option maxRecDepth 100000 in
set_option maxHeartbeats 1000000 in
theorem foreign_any (c : UInt8) (w : World) :
  Calls Tryz.prog 103 #[.int .u8 (c.toNat : Int)] w fun e w' => e = .returned (.bool (foulB c)) ∧ w' = w := by
 have hb := byte_lt c
 have HC : Hid (∀ w, Calls Tryz.prog 145 #[.string ⟨#[35, 37, 47, 58, 60, 62, 63, 64, 91, 92, 93, 94, 124, 127]⟩, .int .u8 (c.toNat : Int)] w fun e w' => e = .returned (.int .i64 (Lib.indexByte [35, 37, 47, 58, 60, 62, 63, 64, 91, 92, 93, 94, 124, 127] c)) ∧ w' = w) := Lib.hid (fun w => by
  have := Tryz.strings_IndexByte ⟨#[35, 37, 47, 58, 60, 62, 63, 64, 91, 92, 93, 94, 124, 127]⟩ (c.toNat : Int) w
  rw [show (c.toNat : Int).toNat.toUInt8 = c by simp] at this
  exact this)
 obtain ⟨j, HJ⟩ : ∃ j, Hid (Lib.indexByte [35, 37, 47, 58, 60, 62, 63, 64, 91, 92, 93, 94, 124, 127] c = j) := ⟨_, Lib.hid rfl⟩
 rw [HJ.out] at HC
 by_cases h : c.toNat ≤ 32
 ·have hI : (c.toNat : Int) ≤ 32 := by omega
  have HR := Lib.hid (foul_yes h)
  clear h
  go_enter Tryz.func103, Tryz.ntmps103
  go_wp2
  go_ret
  exact ⟨ret_bool (by rw [HR.out]), rfl⟩
 ·have hI : (32 : Int) < (c.toNat : Int) := by omega
  have HR : Hid (foulB c = decide (0 ≤ j)) := Lib.hid (by rw [foul_rest h, HJ.out])
  clear h
  go_enter Tryz.func103, Tryz.ntmps103
  go_wp2_with fail
  refine (HC.out _).mono ?_
  rintro e w1 ⟨rfl, rfl⟩
  go_wp2
  go_ret
  exact ⟨ret_bool (by rw [HR.out]; first | rfl | rw [decide_eq_false (show ¬ ((c.toNat : Int) ≤ 32) by omega), Bool.false_or]), rfl⟩
/-- Is there no byte that no name has? -/
def clnO (s : ByteArray) : Option ByteArray := if foulL s.data.toList then none else some s
theorem foul_at {s : ByteArray} {k : Nat} (h : k < s.size) (hf : foulB s[k] = true) : foulL s.data.toList = true := by
 rw [foulL, List.any_eq_true]
 exact ⟨s[k], by have : s[k] = s.data[k]'h := rfl; rw [this]; simp, hf⟩
theorem foul_none {s : ByteArray} (h : ∀ k (hk : k < s.size), foulB s[k] = false) : foulL s.data.toList = false := by
 rw [foulL, List.any_eq_false]
 intro c hc
 obtain ⟨k, hk, rfl⟩ := List.getElem_of_mem hc
 have hk' : k < s.size := by rw [← lenB]; exact hk
 have := h k hk'
 rw [Bool.not_eq_true]
 exact this
set_option maxRecDepth 100000 in
set_option maxHeartbeats 1000000 in
theorem withoutForeign_any (s : ByteArray) (w : World) (hs : s.size ≤ 9000000) :
  Calls Tryz.prog 66 #[.string s] w fun e w' => e = .returned (hsV (clnO s)) ∧ Below w.heap.size w w' := by
 go_enter Tryz.func66, Tryz.ntmps66
 go_wp2
 go_loop [4, 7] (fun _ i => ∃ k : Nat, k ≤ s.size ∧ i = .int .i64 k ∧ Hid (∀ j (h : j < s.size), j < k → foulB s[j] = false)) (fun _ i => s.size - (intOf i).toNat)
 case atStart => exact ⟨0, Nat.zero_le _, rfl, Lib.hid (fun _ _ h => absurd h (Nat.not_lt_zero _))⟩
 case round =>
  obtain ⟨k, hk, rfl, HOk⟩ := hrel
  by_cases hlt : k < s.size
  ·obtain ⟨c, HC⟩ : ∃ c, Hid (foulB s[k] = c) := ⟨_, Lib.hid rfl⟩
   have HF := Lib.hid (foreign_any s[k])
   rw [HC.out] at HF
   cases c
   ·go_wp2_with fail
    refine (HF.out _).mono ?_
    rintro e w1 ⟨rfl, rfl⟩
    go_wp2
    go_round
    case rel => exact ⟨k + 1, by omega, by go_num, Lib.hid (fun j hj hjk => by
     by_cases e : j = k
     ·subst e; exact HC.out
     ·exact HOk.out j hj (by omega))⟩
    case measure => simp [intOf]; omega
   ·have HR : Hid (clnO s = none) := Lib.hid (by rw [clnO, foul_at hlt HC.out]; rfl)
    go_wp2_with fail
    refine (HF.out _).mono ?_
    rintro e w1 ⟨rfl, rfl⟩
    go_wp2
    go_ret2
    exact ⟨ret_h (by rw [HR.out]; rfl), Below.refl _ _⟩
  ·have HR : Hid (clnO s = some s) := Lib.hid (by rw [clnO, foul_none (fun j hj => HOk.out j hj (by omega))]; rfl)
   go_wp2
   go_ret2
   exact ⟨ret_h (by rw [HR.out]; rfl), Below.refl _ _⟩
def lenO (s : ByteArray) : Option ByteArray := if 253 < s.size then none else some s
set_option maxRecDepth 100000 in
set_option maxHeartbeats 1000000 in
theorem withinLength_any (s : ByteArray) (w : World) :
  Calls Tryz.prog 67 #[.string s] w fun e w' => e = .returned (hsV (lenO s)) ∧ Below w.heap.size w w' := by
 by_cases h : 253 < s.size
 ·have HR : Hid (lenO s = none) := Lib.hid (by rw [lenO, if_pos h])
  have hI : (253 : Int) < (s.size : Int) := by omega
  go_enter Tryz.func67, Tryz.ntmps67
  go_wp2
  go_ret2
  exact ⟨ret_h (by rw [HR.out]; rfl), Below.refl _ _⟩
 ·have HR : Hid (lenO s = some s) := Lib.hid (by rw [lenO, if_neg h])
  have hI : (s.size : Int) ≤ 253 := by omega
  go_enter Tryz.func67, Tryz.ntmps67
  go_wp2
  go_ret2
  exact ⟨ret_h (by rw [HR.out]; rfl), Below.refl _ _⟩

/-- What Four answers, cell by cell. -/
theorem fourV_row (l : List UInt8) : ∃ (C : Array Value) (b : Bool) (c : Int), fourV (fourD l) = .tuple #[.agg C, .bool b, .int .i64 c] ∧ C.size = 17 ∧ C.all (·.oneCell') = true ∧
  ((b = false ∧ c = 0 ∧ (fourD l).1 = false) ∨ (b = true ∧ c = 5 ∧ fourD l = (true, none)) ∨ (b = true ∧ c = 0 ∧ ∃ b0 b1 b2 b3, fourD l = (true, some [b0, b1, b2, b3]) ∧ b0 < 256 ∧ b1 < 256 ∧ b2 < 256 ∧ b3 < 256 ∧ C = cellsA false (six0 [b0, b1, b2, b3]))) := by
 match h : fourD l with
 | (false, o) => exact ⟨_, _, _, rfl, zeroA_size, zeroA_one, .inl ⟨rfl, rfl, rfl⟩⟩
 | (true, none) => exact ⟨_, _, _, rfl, zeroA_size, zeroA_one, .inr (.inl ⟨rfl, rfl, rfl⟩)⟩
 | (true, some a) =>
  obtain ⟨b0, b1, b2, b3, rfl, h0, h1, h2, h3⟩ := fourD_small h
  exact ⟨_, _, _, rfl, by rw [cellsA_size]; rfl, cellsA_one _ _, .inr (.inr ⟨rfl, rfl, b0, b1, b2, b3, rfl, h0, h1, h2, h3, rfl⟩)⟩
theorem six0_lt {b0 b1 b2 b3 : Nat} (h0 : b0 < 256) (h1 : b1 < 256) (h2 : b2 < 256) (h3 : b3 < 256) : ∀ x ∈ six0 [b0, b1, b2, b3], x < 256 := by
 intro x hx
 rw [six0, List.mem_append] at hx
 rcases hx with hx | hx
 ·simp only [List.mem_cons, List.not_mem_nil, or_false] at hx; omega
 ·rw [List.mem_replicate] at hx; omega

set_option maxRecDepth 100000 in
set_option maxHeartbeats 1000000 in
theorem asFour_any (s : ByteArray) (w : World) (hs : s.size ≤ 1048600) (hW : Hw w) :
  Calls Tryz.prog 68 #[.string s] w fun e w' => e = .returned (hsV (fourT s)) ∧ Below w.heap.size w w' := by
 have HW := Lib.hid hW; clear hW
 obtain ⟨C, b, c, hv, hsz, hone, hcase⟩ := fourV_row s.data.toList
 obtain ⟨hz, hi⟩ := zero_of_info infoA
 have HI := Lib.hid hi; clear hi
 have HF : Hid (∀ w, Calls Tryz.prog 104 #[.string s] w fun e w' => e = .returned (.tuple #[.agg C, .bool b, .int .i64 c]) ∧ Below w.heap.size w w') := Lib.hid (fun w => by
  have := Four_any s w hs
  rwa [hv] at this)
 have HD : Hid ((Tryz.prog.info? 54).map (·.size) = some C.size) := Lib.hid (by rw [HI.out, hsz])
 have HY : Hid (zeroA.size = C.size) := Lib.hid (by rw [hsz]; exact zeroA_size)
 have HO := Lib.hid hone
 have HCs := Lib.hid hcase
 clear hv hsz hone hcase
 obtain ⟨O, HOO⟩ : ∃ O, Hid (fourT s = O) := ⟨_, Lib.hid rfl⟩
 rw [HOO.out]
 go_enter Tryz.func68, Tryz.ntmps68
 go_wp2_with fail
 refine (HF.out _).mono ?_
 rintro e w1 ⟨rfl, b1⟩
 obtain ⟨W2, HW2⟩ : ∃ W, Hid (w1.alloc (.cells C 54) = W) := ⟨_, Lib.hid rfl⟩
 have B2 : Hid (Below w.heap.size w W2) := Lib.hid (by rw [← HW2.out]; exact b1.alloc b1.size _)
 have G2 : Hid (W2.heap[w1.heap.size]? = some (.cells C 54 (0, 0))) := Lib.hid (by rw [← HW2.out]; exact heap_alloc_new w1 _)
 clear b1
 rcases HCs.out with ⟨rfl, rfl, h⟩ | ⟨rfl, rfl, h⟩ | ⟨rfl, rfl, b0, b1, b2, b3, h, h0, h1, h2, h3, hC⟩
 ·have HR : Hid (O = some s) := Lib.hid (by
   rw [← HOO.out, fourT]
   cases e : fourD s.data.toList with
   | mk u v => rw [e] at h; simp only at h; subst h; rfl)
  clear h HCs
  go_wp2_with (refine wpL_store_row rfl 54 _ _ rfl w1.heap.size C ?_ ?_ 54 zeroA ?_ ?_ ?_ ?_ ?_; exact rfl; exact rfl; exact heap_alloc_new w1 _; exact HD.out; exact HY.out; exact HO.out; rw [World.setRow_alloc_new, HW2.out])
  go_ret2
  exact ⟨ret_h (by rw [HR.out]; rfl), B2.out⟩
 ·have HR : Hid (O = none) := Lib.hid (by rw [← HOO.out, fourT, h])
  clear h HCs
  go_wp2_with (refine wpL_store_row rfl 54 _ _ rfl w1.heap.size C ?_ ?_ 54 zeroA ?_ ?_ ?_ ?_ ?_; exact rfl; exact rfl; exact heap_alloc_new w1 _; exact HD.out; exact HY.out; exact HO.out; rw [World.setRow_alloc_new, HW2.out])
  go_ret2
  exact ⟨ret_h (by rw [HR.out]; rfl), B2.out⟩
 ·obtain ⟨T, HT⟩ : ∃ T, Hid (four4 b0 b1 b2 b3 = T) := ⟨_, Lib.hid rfl⟩
  have HR : Hid (O = some T) := Lib.hid (by rw [← HOO.out, fourT, h, ← HT.out])
  have HTx : Hid (Calls Tryz.prog 36 #[.agg C] W2 fun e w' => e = .returned (.string T) ∧ Below W2.heap.size W2 w') := Lib.hid (by
   have := Text_any false (six0 [b0, b1, b2, b3]) W2 rfl (six0_lt h0 h1 h2 h3) (HW.out.later B2.out).f10 (HW.out.later B2.out).f16
   rw [show asB (textD false (six0 [b0, b1, b2, b3])) = T from HT.out] at this
   rwa [hC])
  clear h HCs h0 h1 h2 h3 hC
  go_wp2_with (first
   | (refine wpL_store_row rfl 54 _ _ rfl w1.heap.size C ?_ ?_ 54 zeroA ?_ ?_ ?_ ?_ ?_; exact rfl; exact rfl; exact heap_alloc_new w1 _; exact HD.out; exact HY.out; exact HO.out; rw [World.setRow_alloc_new, HW2.out])
   | (refine wpList_load_row rfl 54 _ rfl w1.heap.size ?_ 54 C (0, 0) _ ?_ Tryz.underlying54 rfl HD.out ?_; (exact rfl); (exact G2.out)))
  refine HTx.out.mono ?_
  rintro e w3 ⟨rfl, b3⟩
  have B3 : Hid (Below w.heap.size w w3) := Lib.hid (keepW B2.out b3)
  clear b3
  go_wp2
  go_ret2
  exact ⟨ret_h (by rw [HR.out]; rfl), B3.out⟩

end Go.Proofs.YtcphokaamkalfaaGreatDoor
