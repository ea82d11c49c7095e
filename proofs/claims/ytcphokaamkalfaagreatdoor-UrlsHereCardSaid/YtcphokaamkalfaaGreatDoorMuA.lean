/-
  Contracts of small functions of package ascii: every over within's closure, Number, and the document's Digit and Number.
  Of no program: a text's cut at a byte, a text with a byte for another one, in plain words.
  Of no program: Go's TrimFunc at the bytes up to the space strips those bytes at both ends.
  Of no program: plain words on addresses of things: what is dropped, a scheme, slashes of either kind, parts that are points, a path.
  urls: the reader's block; refuseIf; a cut that only turns texts.
  urls: contracts of the reader's cuts that cannot be refused: turnSlashes, cutPlace, cutMark, cutQuery, cutUser, takePlace, takePath.
  urls: contracts of the reader's cuts: hostEnd, cutUser, cutHost.
  urls: contracts: userText, Target, Text.
  urls: contracts: measure, inOrder, cutsOfRest where the text tells a place, readerOf.
  Of no program: plain words on addresses of things: a port's digits, a path's parts, a text's bytes behind one another.
  urls: contracts: withPoints, cutPath.
  urls: contract: cutPath.
  urls: contracts: takePlace, takePath, takeParts, cutsOfRest.
  urls: contract: cutsOfRest.
  urls: contract: the function that recovers what a reader refused.
  urls: contracts of the reader's cuts: cutPort, dropBlanks.
  urls: contracts of the reader's cuts: dropBlanks, isScheme, cutScheme.
  urls: contracts of the reader's cuts: isScheme, cutScheme.
  urls: contracts: the reader's first cuts, one behind the other; its last one.
  urls: contracts: the reader's later cuts, one behind the other.
  urls: contract: read.
  urls: contracts: readerOf, Parse without a base.
  urls: plain words: what a text alone says, in the document's order; the reader's cuts, one behind the other, say the same.
  urls: plain words: sizes of what is told; a reader of a text of at most 1000 bytes, without a base, may be walked.
  urls: addresses that are compared.
-/
import Derived.Test.YtcphokaamkalfaaGreatDoorMpI
import Derived.Lib.Replace
import Derived.Lib.IndexMore
import Derived.Lib.SplitLaws
import Derived.Test.YtcphokaamkalfaaGreatDoorMpA
import Derived.Shelf.GgClosure.StringsTrimFunc
import Derived.Lib.TrimUEq
import Derived.Test.YtcphokaamkalfaaGreatDoorMaA
import Derived.Lib.SlTrimSet
import Derived.Test.YtcphokaamkalfaaGreatDoorShelfA
import Derived.Test.YtcphokaamkalfaaGreatDoorShelfU
import Derived.Recover
import Derived.Laws.Pointers
import Derived.Test.YtcphokaamkalfaaGreatDoorPcB
import Derived.Test.YtcphokaamkalfaaGreatDoorHsC
import Derived.Test.YtcphokaamkalfaaGreatDoorShelfX
import Derived.BigRegion
import Derived.Test.YtcphokaamkalfaaGreatDoorMpJ
import Derived.Lib.ItoaLen
import Derived.Deep.MidRow
import Derived.BigQuiet
import Derived.Test.YtcphokaamkalfaaGreatDoorMhD
import Derived.Test.YtcphokaamkalfaaGreatDoorMrA
import Derived.StillTailTactics
import Derived.Deep.AppendLies
import Derived.Test.YtcphokaamkalfaaGreatDoorShelfW
import Derived.Deep.RegionWith
import Derived.Laws.StructEq
namespace Go.Proofs.YtcphokaamkalfaaGreatDoor
open Go.RowKit

set_option maxHeartbeats 400000 in
theorem everyW_any (s : ByteArray) (a b : Int) (p q : Nat) (w : World) (hs : s.size ≤ maxLen) (hp : w.cell? ⟨p, 0, none⟩ = some (.int .u8 a)) (hq : w.cell? ⟨q, 0, none⟩ = some (.int .u8 b)) :
  Calls Tryz.prog 127 #[.string s, .func (.func 158) #[] #[.pointer (some ⟨p, 0, none⟩), .pointer (some ⟨q, 0, none⟩)]] w fun e w' => e = .returned (.bool (allR a b s.data.toList)) ∧ w = w' := by
 unfold maxLen at hs
 go_enter Tryz.func127, Tryz.ntmps127
 go_wp2
 go_loop [5, 8] (fun _ i => ∃ k : Nat, k ≤ s.size ∧ i = .int .i64 k ∧ allR a b (s.data.toList.take k) = true) (fun _ i => s.size - (intOf i).toNat)
 case atStart => exact ⟨0, Nat.zero_le _, rfl, rfl⟩
 case round =>
  obtain ⟨k, hk, rfl, ha⟩ := hrel
  have HA := Lib.hid ha; clear ha
  by_cases hlt : k < s.size
  ·cases hr : inR a b s[k].toNat
   ·have HR := Lib.hid hr
    clear hr
    have HF := Lib.hid (allR_take_false a b s k hlt HR.out)
    go_wp2_with (go_at_call 158; refine (withinC_any _ a b p q _ hp hq).mono ?_; rw [HR.out]; rintro e w' ⟨rfl, rfl⟩)
    go_ret
    exact ⟨ret_bool HF.out.symm, rfl⟩
   ·have HR := Lib.hid hr
    clear hr
    go_wp2_with (go_at_call 158; refine (withinC_any _ a b p q _ hp hq).mono ?_; rw [HR.out]; rintro e w' ⟨rfl, rfl⟩)
    go_round
    case rel => exact ⟨k + 1, by omega, by go_num, by rw [take_snoc s k hlt, allR_snoc, HA.out, HR.out]; rfl⟩
    case measure => simp [intOf]; omega
  ·go_wp2
   go_ret
   exact ⟨ret_bool (by rw [← HA.out, List.take_of_length_le (by simp; omega)]), rfl⟩

/-- What Number answers. -/
def numV (l : List UInt8) (most : Int) : Int := if l.length = 0 ∨ 18 < l.length ∨ allR 48 57 l = false ∨ most < num l then 0 else num l
def numB (l : List UInt8) (most : Int) : Bool := !(decide (l.length = 0) || decide (18 < l.length) || !allR 48 57 l || decide (most < num l))
theorem num_no (l : List UInt8) (most : Int) (h : l.length = 0 ∨ 18 < l.length ∨ allR 48 57 l = false ∨ most < num l) : numV l most = 0 ∧ numB l most = false := by
 refine ⟨by rw [numV, if_pos h], ?_⟩
 rw [numB]; rcases h with h | h | h | h <;> simp [h]
theorem num_yes (l : List UInt8) (most : Int) (h0 : l.length ≠ 0) (h1 : l.length ≤ 18) (h2 : allR 48 57 l = true) (h3 : num l ≤ most) : numV l most = num l ∧ numB l most = true := by
 refine ⟨by rw [numV, if_neg]; simp [h2]; exact ⟨by simpa using h0, h1, h3⟩, ?_⟩
 simp [numB, h2]; exact ⟨⟨by simpa using h0, h1⟩, h3⟩
theorem ret_pair {k : IntKind} {a b : Int} {c d : Bool} (h : a = b) (h' : c = d) : Ending.returned (.tuple #[.int k a, .bool c]) = .returned (.tuple #[.int k b, .bool d]) := by rw [h, h']
theorem num_ret_no (l : List UInt8) (most : Int) (h : l.length = 0 ∨ 18 < l.length ∨ allR 48 57 l = false ∨ most < num l) : Ending.returned (.tuple #[.int .i64 0, .bool false]) = .returned (.tuple #[.int .i64 (numV l most), .bool (numB l most)]) :=
 ret_pair (num_no l most h).1.symm (num_no l most h).2.symm

theorem below2 (w : World) (o o' : Obj) : Below w.heap.size w ((w.alloc o).alloc o') := ((Below.refl _ _).alloc (Nat.le_refl _) o).alloc (by simp) o'

/-- The loop of Number: all digits, one behind the other. -/
theorem num_take (s : ByteArray) (k : Nat) (hk : k ≤ 17) (hks : k ≤ s.size) (h : allR 48 57 s.data.toList = true) : 0 ≤ num (s.data.toList.take k) ∧ num (s.data.toList.take k) < 100000000000000000 := by
 have ha : allR 48 57 (s.data.toList.take k) = true := by
  rw [allR, List.all_eq_true] at h ⊢
  exact fun c hc => h c (List.mem_of_mem_take hc)
 have hb := num_bd _ ha
 have hl : (s.data.toList.take k).length = k := by simp; omega
 rw [hl] at hb
 refine ⟨hb.1, Int.lt_of_lt_of_le hb.2 ?_⟩
 have : (10 : Int) ^ 17 = 100000000000000000 := by decide
 rw [← this]
 exact_mod_cast Nat.pow_le_pow_right (by decide) hk
theorem dig_of_all (s : ByteArray) (k : Nat) (hk : k < s.size) (h : allR 48 57 s.data.toList = true) : 48 ≤ (s[k].toNat : Int) ∧ (s[k].toNat : Int) ≤ 57 := by
 have hm : s[k] ∈ s.data.toList := by
  have : s[k] = s.data[k]'hk := rfl
  rw [this]; simp
 rw [allR, List.all_eq_true] at h
 exact inR_true.1 (h _ hm)

set_option maxHeartbeats 400000 in
theorem Number_any (s : ByteArray) (most : Int) (w : World) (hs : s.size ≤ maxLen) :
  Calls Tryz.prog 84 #[.string s, .int .i64 most] w fun e w' => e = .returned (.tuple #[.int .i64 (numV s.data.toList most), .bool (numB s.data.toList most)]) ∧ Below w.heap.size w w' := by
 have hl : s.data.toList.length = s.size := by simp
 by_cases h0 : s.size = 0
 ·have HR := Lib.hid (num_ret_no s.data.toList most (.inl (by omega)))
  clear hl
  go_enter Tryz.func84, Tryz.ntmps84
  go_wp2
  go_ret2
  exact ⟨HR.out, Below.refl _ _⟩
 ·by_cases h1 : 18 < s.size
  ·have HR := Lib.hid (num_ret_no s.data.toList most (.inr (.inl (by omega))))
   clear hl
   have h0' : ((s.size : Int) == 0) = false := beq_eq_false_iff_ne.2 (by omega)
   clear h0
   go_enter Tryz.func84, Tryz.ntmps84
   go_wp2
   go_ret2
   exact ⟨HR.out, Below.refl _ _⟩
  ·have h1' : s.size ≤ 18 := by omega
   have h0' : ((s.size : Int) == 0) = false := beq_eq_false_iff_ne.2 (by omega)
   have hp : 0 < s.size := by omega
   clear h0 h1
   have hmf := mkf
   cases hall : allR 48 57 s.data.toList
   ·have HR := Lib.hid (num_ret_no s.data.toList most (.inr (.inr (.inl hall))))
    have HA := Lib.hid hall
    have HL := Lib.hid hl
    clear hall hl
    go_enter Tryz.func84, Tryz.ntmps84
    go_wp2_with fail
    refine (within_any _ _ _).mono ?_
    rintro e w1 ⟨rfl, rfl⟩
    go_wp2_with fail
    refine (everyW_any s 48 57 _ _ _ hs (by simp) (by simp)).mono ?_
    rw [HA.out]
    rintro e w1 ⟨rfl, rfl⟩
    go_wp2
    go_ret2
    exact ⟨HR.out, below2 _ _ _⟩
   ·have HA := Lib.hid hall
    have HL := Lib.hid hl
    clear hall hl
    go_enter Tryz.func84, Tryz.ntmps84
    go_wp2_with fail
    refine (within_any _ _ _).mono ?_
    rintro e w1 ⟨rfl, rfl⟩
    go_wp2_with fail
    refine (everyW_any s 48 57 _ _ _ hs (by simp) (by simp)).mono ?_
    rw [HA.out]
    rintro e w1 ⟨rfl, rfl⟩
    go_wp2
    go_loop [6, 7, 24] (fun n _ i => ∃ k : Nat, k ≤ s.size ∧ i = .int .i64 k ∧ n = .int .i64 (num (s.data.toList.take k))) (fun _ _ i => s.size - (intOf i).toNat)
    case atStart => exact ⟨0, Nat.zero_le _, rfl, rfl⟩
    case round =>
     obtain ⟨k, hk, rfl, rfl⟩ := hrel
     by_cases hlt : k < s.size
     ·obtain ⟨hb1, hb2⟩ := num_take s k (by omega) hk HA.out
      obtain ⟨hd1, hd2⟩ := dig_of_all s k hlt HA.out
      have HN : Hid (num (s.data.toList.take (k + 1)) = num (s.data.toList.take k) * 10 + ((s[k].toNat : Int) - 48)) := by rw [take_snoc s k hlt]; exact num_snoc _ _
      go_wp2
      go_round
      case rel => exact ⟨k + 1, by omega, by go_num, by rw [HN.out]⟩
      case measure => simp [intOf]; omega
     ·have HT : Hid (s.data.toList.take k = s.data.toList) := List.take_of_length_le (by simp; omega)
      rw [HT.out]
      by_cases hm : most < num s.data.toList
      ·have HR := Lib.hid (num_ret_no s.data.toList most (.inr (.inr (.inr hm))))
       go_wp2
       go_ret2
       exact ⟨HR.out, below2 _ _ _⟩
      ·have HR := Lib.hid (num_yes s.data.toList most (by have := HL.out; omega) (by have := HL.out; omega) HA.out (by omega))
       go_wp2
       go_ret2
       exact ⟨ret_pair HR.out.1.symm HR.out.2.symm, below2 _ _ _⟩

end Go.Proofs.YtcphokaamkalfaaGreatDoor
namespace Go.Proofs.YtcphokaamkalfaaGreatDoor
open Go.RowKit

theorem ix_hit (a : UInt8) (l : List UInt8) : Lib.index (a :: l) [a] = 0 := by rw [Lib.index]; simp [List.isPrefixOf]
theorem ix_miss {a b : UInt8} (h : b ≠ a) (l : List UInt8) : Lib.index (b :: l) [a] = if Lib.index l [a] == -1 then -1 else Lib.index l [a] + 1 := by
 have hp : ([a] : List UInt8).isPrefixOf (b :: l) = false := by simp [List.isPrefixOf, Ne.symm h]
 rw [Lib.index, hp]; simp
/-- What Cut answers at one byte. -/
def cutP (a : UInt8) : List UInt8 → List UInt8 × List UInt8 × Bool
 | [] => ([], [], false)
 | c :: l => if c = a then ([], l, true) else (c :: (cutP a l).1, (cutP a l).2)
theorem cut_one (a : UInt8) : ∀ l : List UInt8, Lib.cut l [a] = cutP a l
 | [] => rfl
 | c :: l => by
  have ih := cut_one a l
  unfold Lib.cut at ih ⊢
  by_cases h : c = a
  ·subst h
   rw [ix_hit, cutP, if_pos rfl]; rfl
  ·rw [ix_miss h, cutP, if_neg h, ← ih]
   have hge := Lib.index_ge l [a]
   by_cases hm : Lib.index l [a] = -1
   ·rw [hm]; rfl
   ·obtain ⟨j, hj⟩ : ∃ j : Nat, Lib.index l [a] = j := ⟨(Lib.index l [a]).toNat, by omega⟩
    rw [hj]
    have e2 : ((j : Int) == -1) = false := beq_eq_false_iff_ne.2 (by omega)
    rw [e2]
    simp only [Bool.false_eq_true, if_false]
    rw [if_pos (by omega), if_pos (by omega)]
    have e3 : ((j : Int) + 1).toNat = j + 1 := by omega
    rw [e3]
    simp
theorem replaceK_miss {old new : List UInt8} {k : Nat} {s : List UInt8} (h : Lib.index s old = -1) : Lib.replaceK old new k s = s := by
 cases k with
 | zero => rfl
 | succ k => rw [Lib.replaceK, h]; rfl
theorem replaceK_one (a : UInt8) (new : List UInt8) : ∀ l : List UInt8, Lib.replaceK [a] new (Lib.count l [a]) l = l.flatMap fun c => if c = a then new else [c]
 | [] => replaceK_miss rfl
 | c :: l => by
  have ih := replaceK_one a new l
  rw [List.flatMap_cons]
  by_cases h : c = a
  ·subst h
   rw [if_pos rfl, Lib.count_cons_eq, Nat.add_comm, Lib.replaceK_hit _ _ _ _ 0 (ix_hit c l), ← ih]
   simp
  ·rw [if_neg h, Lib.count_cons_ne c a l h, ← ih]
   have hge := Lib.index_ge l [a]
   by_cases hm : Lib.index l [a] = -1
   ·rw [replaceK_miss hm, replaceK_miss (by rw [ix_miss h, hm]; rfl)]; rfl
   ·obtain ⟨j, hj⟩ : ∃ j : Nat, Lib.index l [a] = j := ⟨(Lib.index l [a]).toNat, by omega⟩
    have hc := Lib.count_hit (s := l) (sub := [a]) (by simp) hj
    have e2 : ((j : Int) == -1) = false := beq_eq_false_iff_ne.2 (by omega)
    have hix : Lib.index (c :: l) [a] = ((j + 1 : Nat) : Int) := by rw [ix_miss h, hj, e2]; simp
    rw [hc, Nat.add_comm, Lib.replaceK_hit _ _ _ _ _ hix, Lib.replaceK_hit _ _ _ _ _ hj]
    simp
theorem replace_one (a : UInt8) (new l : List UInt8) : Lib.replaceAll l [a] new = l.flatMap fun c => if c = a then new else [c] := by
 unfold Lib.replaceAll Lib.replace
 by_cases h : ([a] == new) = true
 ·rw [if_pos h]
  obtain rfl := beq_iff_eq.1 h
  rw [show (fun c : UInt8 => if c = a then [a] else [c]) = fun c => [c] from funext fun c => by split <;> simp_all]
  induction l with
  | nil => rfl
  | cons c l ih => rw [List.flatMap_cons, ← ih]; rfl
 ·rw [if_neg h, show Lib.replaceNum l [a] (-1) = Lib.count l [a] by unfold Lib.replaceNum; rw [if_pos (.inl (by decide))], replaceK_one]
theorem flat_drop (a : UInt8) : ∀ l : List UInt8, (l.flatMap fun c => if c = a then [] else [c]) = l.filter fun c => c != a
 | [] => rfl
 | c :: l => by
  rw [List.flatMap_cons, flat_drop a l, List.filter_cons]
  by_cases h : c = a
  ·subst h; simp
  ·simp [h]
theorem flat_swap (a b : UInt8) : ∀ l : List UInt8, (l.flatMap fun c => if c = a then [b] else [c]) = l.map fun c => if c = a then b else c
 | [] => rfl
 | c :: l => by
  rw [List.flatMap_cons, flat_swap a b l, List.map_cons]
  by_cases h : c = a
  ·subst h; simp
  ·simp [h]

end Go.Proofs.YtcphokaamkalfaaGreatDoor
namespace Go.Proofs.YtcphokaamkalfaaGreatDoor
open Go.RowKit Go.Lib

def p32 (r : Nat) : Bool := decide (r ≤ 32)
/-- A byte that does not count at a text's ends. -/
def blankB (c : UInt8) : Bool := decide (c.toNat ≤ 32)
def trimU (l : List UInt8) : List UInt8 := ((l.dropWhile blankB).reverse.dropWhile blankB).reverse
set_option maxRecDepth 100000 in
theorem decN_big (n b0 b1 b2 b3 : Nat) (h : 128 ≤ b0) : 128 ≤ (decodeN n b0 b1 b2 b3).1 := by
 unfold decodeN
 repeat' split
 all_goals first | (exfalso; omega) | (simp only; omega)
theorem getD_at (l : List UInt8) (i : Nat) (h : i < l.length) : l.getD i 0 = l[i] := by simp [List.getD, h]
theorem left32 (s : ByteArray) : ∀ (f pos : Nat), s.size ≤ pos + f →
  (if idxFuncFrom p32 false s f pos = -1 then [] else s.data.toList.drop (idxFuncFrom p32 false s f pos).toNat) = (s.data.toList.drop pos).dropWhile blankB
 | 0, pos, h => by
  have : s.data.toList.drop pos = [] := List.drop_eq_nil_of_le (by rw [lenB]; omega)
  rw [this, idxFuncFrom]; rfl
 | f + 1, pos, h => by
  by_cases hp : pos < s.size
  ·have hl : pos < s.data.toList.length := by rw [lenB]; exact hp
   have hd : s.data.toList.drop pos = s.data.toList[pos] :: s.data.toList.drop (pos + 1) := List.drop_eq_getElem_cons hl
   rw [hd, List.dropWhile_cons, idxFuncFrom, if_pos hp]
   have hdec : Utf8.decode s pos = decodeN (s.data.toList.length - pos) s.data.toList[pos].toNat (s.data.toList.getD (pos + 1) 0).toNat (s.data.toList.getD (pos + 2) 0).toNat (s.data.toList.getD (pos + 3) 0).toNat := by
    rw [decode_N, getD_at _ _ hl]
   by_cases ha : s.data.toList[pos].toNat < 128
   ·rw [hdec, decodeN_ascii _ _ _ _ _ ha]
    by_cases hb : s.data.toList[pos].toNat ≤ 32
    ·rw [show p32 s.data.toList[pos].toNat = true from decide_eq_true hb, show blankB s.data.toList[pos] = true from decide_eq_true hb]
     simp only [Bool.true_eq_false, if_false, if_true]
     exact left32 s f (pos + 1) (by omega)
    ·rw [show p32 s.data.toList[pos].toNat = false from decide_eq_false hb, show blankB s.data.toList[pos] = false from decide_eq_false hb, if_pos rfl, if_neg (by omega), if_neg (by simp), Int.toNat_natCast, hd]
   ·have hbig := decN_big (s.data.toList.length - pos) s.data.toList[pos].toNat (s.data.toList.getD (pos + 1) 0).toNat (s.data.toList.getD (pos + 2) 0).toNat (s.data.toList.getD (pos + 3) 0).toNat (by omega)
    rw [← hdec] at hbig
    rw [show p32 (Utf8.decode s pos).1 = false from decide_eq_false (by omega), show blankB s.data.toList[pos] = false from decide_eq_false (by omega), if_pos rfl, if_neg (by omega), if_neg (by simp), Int.toNat_natCast, hd]
  ·have : s.data.toList.drop pos = [] := List.drop_eq_nil_of_le (by rw [lenB]; omega)
   rw [this, idxFuncFrom_end _ _ _ _ _ hp]; rfl
theorem last32 (l : List UInt8) (i : Nat) (hi : 0 < i) (hil : i ≤ l.length) :
  (blankB (l.getD (i - 1) 0) = true ∧ decodeLastL (l.take i) = ((l.getD (i - 1) 0).toNat, 1)) ∨ (blankB (l.getD (i - 1) 0) = false ∧ p32 (decodeLastL (l.take i)).1 = false) := by
 rcases last_cases l i hi hil with ⟨ha, hd⟩ | ⟨ha, hd⟩ | ⟨ha, st, hst, hd, hsum⟩
 ·by_cases hb : (l.getD (i - 1) 0).toNat ≤ 32
  ·exact .inl ⟨decide_eq_true hb, hd⟩
  ·exact .inr ⟨decide_eq_false hb, by rw [hd]; exact decide_eq_false hb⟩
 ·exact .inr ⟨decide_eq_false (by omega), by rw [hd]; rfl⟩
 ·refine .inr ⟨decide_eq_false (by omega), ?_⟩
  rw [hd]
  refine decide_eq_false ?_
  have hlen : ((l.take i).drop st).length = i - st := by rw [List.length_drop, List.length_take]; omega
  by_cases h1 : (decodeL ((l.take i).drop st)).2 = 1
  ·have e : st = i - 1 := by omega
   subst e
   have := decN_big ((l.take i).drop (i - 1)).length (((l.take i).drop (i - 1)).getD 0 0).toNat (((l.take i).drop (i - 1)).getD 1 0).toNat (((l.take i).drop (i - 1)).getD 2 0).toNat (((l.take i).drop (i - 1)).getD 3 0).toNat (by
    rw [getD_dropU, Nat.add_zero, getD_takeU l i (i - 1) (by omega)]; exact ha)
   rw [← decodeL_N] at this
   omega
  ·intro hle
   have hb0 : (((l.take i).drop st).getD 0 0).toNat < 128 := by
    by_cases h : (((l.take i).drop st).getD 0 0).toNat < 128
    ·exact h
    ·have := decN_big ((l.take i).drop st).length (((l.take i).drop st).getD 0 0).toNat (((l.take i).drop st).getD 1 0).toNat (((l.take i).drop st).getD 2 0).toNat (((l.take i).drop st).getD 3 0).toNat (by omega)
     rw [← decodeL_N] at this
     omega
   apply h1
   rw [decodeL_N, decodeN_ascii _ _ _ _ _ hb0]
theorem right32 (s : ByteArray) : ∀ (f i : Nat), i ≤ f → i ≤ s.data.toList.length → OpenAt s.data.toList i →
  s.data.toList.take (if 0 ≤ lastIdxFuncFrom p32 false s f i then (lastIdxFuncFrom p32 false s f i).toNat + (decodeL (s.data.toList.drop (lastIdxFuncFrom p32 false s f i).toNat)).2 else 0) = ((s.data.toList.take i).reverse.dropWhile blankB).reverse
 | 0, i, hf, _, _ => by
  obtain rfl : i = 0 := by omega
  simp [lastIdxFuncFrom]
 | f + 1, i, hf, hil, ho => by
  by_cases hi : 0 < i
  ·have hl1 : i - 1 < s.data.toList.length := by omega
   have ht : s.data.toList.take i = s.data.toList.take (i - 1) ++ [s.data.toList.getD (i - 1) 0] := by
    conv => lhs; rw [show i = i - 1 + 1 by omega, List.take_succ_eq_append_getElem hl1]
    rw [getD_at _ _ hl1]
   have hw := decodeLastL_width (s.data.toList.take i) (by rw [List.length_take]; omega)
   have hlen : (s.data.toList.take i).length = i := by rw [List.length_take]; omega
   rw [hlen] at hw
   rw [lastIdxFuncFrom, if_pos hi]
   rcases last32 s.data.toList i hi hil with ⟨hb, hd⟩ | ⟨hb, hp⟩
   ·have hp : p32 (decodeLastL (s.data.toList.take i)).1 = true := by rw [hd]; exact hb
    have hb' : (s.data.toList.getD (i - 1) 0).toNat ≤ 32 := of_decide_eq_true hb
    rw [hp]
    simp only [Bool.true_eq_false, if_false]
    rw [hd, right32 s f (i - 1) (by omega) (by omega) (.inr (by omega)), ht, List.reverse_append, List.reverse_cons, List.reverse_nil, List.nil_append, List.singleton_append, List.dropWhile_cons, hb, if_pos rfl]
   ·rw [hp, if_pos rfl, if_pos (by omega), Int.toNat_natCast, fw_width _ i hi hil ho, Nat.sub_add_cancel hw.2, ht, List.reverse_append, List.reverse_cons, List.reverse_nil, List.nil_append, List.singleton_append, List.dropWhile_cons, hb, if_neg (by simp), List.reverse_cons, List.reverse_reverse]
  ·obtain rfl : i = 0 := by omega
   rw [lastIdxFuncFrom_zero]; simp
theorem lastIdx_lt (s : ByteArray) : ∀ (f i : Nat), i ≤ s.data.toList.length → lastIdxFuncFrom p32 false s f i = -1 ∨ lastIdxFuncFrom p32 false s f i < (i : Int)
 | 0, _, _ => .inl rfl
 | f + 1, i, hil => by
  unfold lastIdxFuncFrom
  split
  ·rename_i hi
   have hw := decodeLastL_width (s.data.toList.take i) (by rw [List.length_take]; omega)
   split
   ·exact .inr (by omega)
   ·rcases lastIdx_lt s f (i - (decodeLastL (s.data.toList.take i)).2) (by omega) with h | h
    ·exact .inl h
    ·exact .inr (by omega)
  ·exact .inl rfl
theorem trimLeft32 (s : ByteArray) : (trimLeftF p32 s).data.toList = s.data.toList.dropWhile blankB := by
 have h := left32 s s.size 0 (by omega)
 rw [List.drop_zero] at h
 unfold trimLeftF idxFunc
 rw [← h]
 split
 ·rfl
 ·rw [extract_data, List.take_of_length_le (by rw [List.length_drop, lenB]; omega)]
theorem trimRight32 (s : ByteArray) : (trimRightF p32 s).data.toList = (s.data.toList.reverse.dropWhile blankB).reverse := by
 have h := right32 s s.size s.size (Nat.le_refl _) (by rw [lenB]; exact Nat.le_refl _) (.inl (size_eq s))
 have e : s.data.toList.take s.size = s.data.toList := List.take_of_length_le (by rw [lenB]; exact Nat.le_refl _)
 rw [e] at h
 rw [← h]
 unfold trimRightF rightEndF lastIdxFunc
 rw [extract_data, List.drop_zero, Nat.sub_zero]
 congr 1
 split
 ·rename_i h0
  congr 2
  rcases lastIdx_lt s s.size s.size (by rw [lenB]; exact Nat.le_refl _) with hm | hlt
  ·omega
  ·have hx : s.extract (lastIdxFuncFrom p32 false s s.size s.size).toNat s.size = ⟨(s.data.toList.drop (lastIdxFuncFrom p32 false s s.size s.size).toNat).toArray⟩ := by
    rw [extract_eq, List.take_of_length_le (by rw [List.length_drop, ← size_eq]; exact Nat.le_refl _)]
   rw [hx]
   by_cases hz : (⟨(s.data.toList.drop (lastIdxFuncFrom p32 false s s.size s.size).toNat).toArray⟩ : ByteArray).size = 0
   ·exfalso
    rw [size_eq] at hz
    simp only [List.length_drop] at hz
    rw [lenB] at hz
    omega
   ·unfold decodeGoB decodeL
    rw [if_neg hz]
 ·rfl
/-- strings.TrimFunc at the bytes up to the space. -/
theorem trimF32 (s : ByteArray) : (trimF p32 s).data.toList = trimU s.data.toList := by
 rw [trimF, trimRight32, trimLeft32]; rfl

end Go.Proofs.YtcphokaamkalfaaGreatDoor
namespace Go.Proofs.YtcphokaamkalfaaGreatDoor
open Go.RowKit

/- What is dropped. -/
def keptB (c : UInt8) : Bool := c != 9 && c != 10 && c != 13
def dropL (l : List UInt8) : List UInt8 := (trimU l).filter keptB
theorem dropL_eq (l : List UInt8) : (((trimU l).filter fun c => c != 9).filter fun c => c != 10).filter (fun c => c != 13) = dropL l := by
 rw [List.filter_filter, List.filter_filter, dropL]
 congr 1
 funext c
 unfold keptB
 cases c != 9 <;> cases c != 10 <;> cases c != 13 <;> rfl

/- A scheme. -/
def letB (c : UInt8) : Bool := decide (97 ≤ c.toNat ∧ c.toNat ≤ 122) || decide (65 ≤ c.toNat ∧ c.toNat ≤ 90)
def schB (c : UInt8) : Bool := letB c || decide (48 ≤ c.toNat ∧ c.toNat ≤ 57) || decide (c.toNat = 43) || decide (c.toNat = 45) || decide (c.toNat = 46)
/-- Does a text begin with a scheme's own bytes alone, a letter first? -/
def schOk (l : List UInt8) : Bool := match l with
 | [] => false
 | c :: l => letB c && l.all schB
/- What the program asks of a scheme. -/
theorem dropW_nil {p : UInt8 → Bool} : ∀ {l : List UInt8}, l.dropWhile p = [] ↔ l.all p = true
 | [] => by simp
 | c :: l => by
  rw [List.dropWhile_cons, List.all_cons]
  cases h : p c
  ·simp
  ·simp [dropW_nil (l := l)]
theorem trimS_nil (l cs : List UInt8) : Lib.trimS l cs = [] ↔ l.all (cs.contains ·) = true := by
 unfold Lib.trimS Lib.trimLeftS Lib.trimRightS
 rw [dropW_nil]
 constructor
 ·intro h
  rw [List.all_reverse] at h
  rw [← List.all_reverse (l := l)]
  have h2 := List.takeWhile_append_dropWhile (p := (cs.contains ·)) (l := l.reverse)
  rw [← h2, List.all_append, h, Bool.and_true]
  exact List.all_takeWhile
 ·intro h
  rw [List.all_reverse, List.all_eq_true]
  intro x hx
  rw [List.all_eq_true] at h
  exact h x (by simpa using (List.dropWhile_sublist _).subset hx)
abbrev LETS : List UInt8 := [97, 98, 99, 100, 101, 102, 103, 104, 105, 106, 107, 108, 109, 110, 111, 112, 113, 114, 115, 116, 117, 118, 119, 120, 121, 122]
abbrev SCHS : List UInt8 := LETS ++ [48, 49, 50, 51, 52, 53, 54, 55, 56, 57, 43, 45, 46]
theorem lets_fin : ∀ n : Fin 256, LETS.contains (low (UInt8.ofNat n.1)) = letB (UInt8.ofNat n.1) := by decide +kernel
theorem schs_fin : ∀ n : Fin 256, SCHS.contains (low (UInt8.ofNat n.1)) = schB (UInt8.ofNat n.1) := by decide +kernel
theorem lets_low (c : UInt8) : LETS.contains (low c) = letB c := by
 have := lets_fin ⟨c.toNat, c.toNat_lt⟩
 simpa using this
theorem schs_low (c : UInt8) : SCHS.contains (low c) = schB c := by
 have := schs_fin ⟨c.toNat, c.toNat_lt⟩
 simpa using this
theorem sch_let (c : UInt8) (h : letB c = true) : schB c = true := by unfold schB; simp [h]
/-- The program's question, of a scheme in small letters. -/
def schQ (l : List UInt8) : Bool := decide (l ≠ []) && decide (Lib.trimS (l.take 1) LETS = []) && decide (Lib.trimS l SCHS = [])
theorem schQ_eq (l : List UInt8) : schQ (l.map low) = schOk l := by
 unfold schQ
 cases l with
 | nil => rfl
 | cons c l =>
  simp only [trimS_nil, List.map_cons, List.take_succ_cons, List.take_zero, List.all_cons, List.all_nil, Bool.and_true, schOk, lets_low, schs_low]
  rw [List.all_map]
  have e : ((fun x => SCHS.contains x) ∘ low) = schB := funext fun x => schs_low x
  rw [e]
  cases h : letB c
  ·simp
  ·simp only [sch_let c h, Bool.true_and]
   by_cases hq : l.all schB = true <;> simp [hq]

/- Slashes of either kind. -/
def slB (c : UInt8) : Bool := decide (c.toNat = 47) || decide (c.toNat = 92)
def turnB (c : UInt8) : UInt8 := if c = 92 then 47 else c
theorem turn_sl (c : UInt8) : turnB c = 47 ↔ slB c = true := by
 unfold turnB slB
 by_cases h : c = 92
 ·subst h; simp
 ·rw [if_neg h]
  have h2 : ¬ c.toNat = 92 := fun e => h (UInt8.toNat_inj.1 e)
  simp [h2]
  exact ⟨fun e => by rw [e]; rfl, fun e => UInt8.toNat_inj.1 e⟩
theorem turn_id {c : UInt8} (h : slB c = false) : turnB c = c := by
 unfold turnB
 rw [if_neg]
 intro e; subst e; exact absurd h (by decide)
theorem drop_turn : ∀ l : List UInt8, Lib.trimLeftB (l.map turnB) 47 = (l.dropWhile slB).map turnB
 | [] => rfl
 | c :: l => by
  have ih := drop_turn l
  unfold Lib.trimLeftB at ih ⊢
  rw [List.map_cons, List.dropWhile_cons, List.dropWhile_cons]
  by_cases h : slB c = true
  ·rw [show (turnB c == 47) = true by rw [(turn_sl c).2 h]; rfl, h, if_pos rfl, if_pos rfl, ih]
  ·rw [show (turnB c == 47) = false by rw [beq_eq_false_iff_ne]; exact fun e => h ((turn_sl c).1 e)]
   rw [if_neg (by simp), if_neg h]; rfl
def placL (l : List UInt8) : List UInt8 := l.takeWhile fun c => !slB c
def restL (l : List UInt8) : List UInt8 := (l.dropWhile fun c => !slB c).tail
theorem cut_turn : ∀ l : List UInt8, (cutP 47 (l.map turnB)).1 = placL l ∧ (cutP 47 (l.map turnB)).2.1 = (restL l).map turnB
 | [] => ⟨rfl, rfl⟩
 | c :: l => by
  have ih := cut_turn l
  rw [List.map_cons, cutP]
  unfold placL restL at *
  rw [List.takeWhile_cons, List.dropWhile_cons]
  by_cases h : slB c = true
  ·rw [if_pos ((turn_sl c).2 h), h]; exact ⟨rfl, rfl⟩
  ·have h' : slB c = false := by simpa using h
   rw [if_neg (fun e => h ((turn_sl c).1 e)), h', turn_id h']
   simp only [Bool.not_false, if_true]
   exact ⟨by rw [ih.1], ih.2⟩
/-- What stands between slashes of either kind. -/
def ptsS : List UInt8 → List (List UInt8)
 | [] => [[]]
 | c :: l => if slB c = true then [] :: ptsS l else ahd c (ptsS l)
theorem pts_turn : ∀ l : List UInt8, pts 47 (l.map turnB) = ptsS l
 | [] => rfl
 | c :: l => by
  rw [List.map_cons, pts, ptsS, pts_turn l]
  by_cases h : slB c = true
  ·rw [if_pos ((turn_sl c).2 h), if_pos h]
  ·have h' : slB c = false := by simpa using h
   rw [if_neg (fun e => h ((turn_sl c).1 e)), if_neg h, turn_id h']

/- Parts that are points. -/
/-- A point that is told by three signs stands as a point. -/
def rep2e : List UInt8 → List UInt8
 | [] => []
 | a :: l => match l with
  | b :: c :: r => if a = 37 ∧ b = 50 ∧ c = 101 then 46 :: rep2e r else a :: rep2e (b :: c :: r)
  | l => a :: rep2e l
def PT : List UInt8 := [37, 50, 101]
theorem ixp (l : List UInt8) : ∀ a : UInt8, Lib.index (a :: l) PT = if PT.isPrefixOf (a :: l) then 0 else if Lib.index l PT == -1 then -1 else Lib.index l PT + 1 := fun a => by rw [Lib.index]
theorem rep_ne {l : List UInt8} {a : UInt8} (h : PT.isPrefixOf (a :: l) = false) : Lib.replaceK PT [46] (Lib.count (a :: l) PT) (a :: l) = a :: Lib.replaceK PT [46] (Lib.count l PT) l := by
 have hge := Lib.index_ge l PT
 have hix := ixp l a
 rw [h] at hix
 simp only [Bool.false_eq_true, if_false] at hix
 by_cases hm : Lib.index l PT = -1
 ·rw [replaceK_miss hm, replaceK_miss (by rw [hix, hm]; rfl)]
 ·obtain ⟨j, hj⟩ : ∃ j : Nat, Lib.index l PT = j := ⟨(Lib.index l PT).toNat, by omega⟩
  have e2 : ((j : Int) == -1) = false := beq_eq_false_iff_ne.2 (by omega)
  have hix2 : Lib.index (a :: l) PT = ((j + 1 : Nat) : Int) := by rw [hix, hj, e2]; simp
  have hc := Lib.count_hit (s := l) (sub := PT) (by decide) hj
  have hc2 := Lib.count_hit (s := a :: l) (sub := PT) (by decide) hix2
  have e3 : (a :: l).drop (j + 1 + PT.length) = l.drop (j + PT.length) := by
   rw [show j + 1 + PT.length = (j + PT.length) + 1 by omega, List.drop_succ_cons]
  rw [hc2, hc, e3, Nat.add_comm, Lib.replaceK_hit _ _ _ _ _ hix2, Lib.replaceK_hit _ _ _ _ _ hj, e3]
  simp
theorem rep_hit (r : List UInt8) : Lib.replaceK PT [46] (Lib.count (37 :: 50 :: 101 :: r) PT) (37 :: 50 :: 101 :: r) = 46 :: Lib.replaceK PT [46] (Lib.count r PT) r := by
 have hix : Lib.index (37 :: 50 :: 101 :: r) PT = ((0 : Nat) : Int) := by rw [ixp]; rfl
 have hc := Lib.count_hit (s := 37 :: 50 :: 101 :: r) (sub := PT) (by decide) hix
 have e3 : (37 :: 50 :: 101 :: r).drop (0 + PT.length) = r := rfl
 rw [hc, e3, Nat.add_comm, Lib.replaceK_hit _ _ _ _ _ hix, e3]
 rfl
theorem replaceK_2e : ∀ (n : Nat) (l : List UInt8), l.length ≤ n → Lib.replaceK PT [46] (Lib.count l PT) l = rep2e l
 | _, [], _ => replaceK_miss rfl
 | 0, _ :: _, h => absurd h (by simp)
 | n + 1, [a], h => by
  rw [rep_ne (by unfold PT; simp [List.isPrefixOf]), replaceK_miss rfl]; rfl
 | n + 1, [a, b], h => by
  rw [rep_ne (by unfold PT; simp [List.isPrefixOf]), replaceK_2e n [b] (by simp at h ⊢; omega)]; rfl
 | n + 1, a :: b :: c :: r, h => by
  rw [rep2e]
  by_cases hp : a = 37 ∧ b = 50 ∧ c = 101
  ·obtain ⟨rfl, rfl, rfl⟩ := hp
   rw [if_pos ⟨rfl, rfl, rfl⟩, rep_hit, replaceK_2e n r (by simp at h ⊢; omega)]
  ·rw [if_neg hp, rep_ne, replaceK_2e n (b :: c :: r) (by simp at h ⊢; omega)]
   unfold PT
   simp only [List.isPrefixOf, Bool.and_true]
   rw [Bool.eq_false_iff]
   intro h
   simp at h
   exact hp ⟨h.1.symm, h.2.1.symm, h.2.2.symm⟩
theorem replaceAll_2e (l : List UInt8) : Lib.replaceAll l PT [46] = rep2e l := by
 unfold Lib.replaceAll Lib.replace
 rw [if_neg (by decide), show Lib.replaceNum l PT (-1) = Lib.count l PT by unfold Lib.replaceNum; rw [if_pos (.inl (by decide))], replaceK_2e _ _ (Nat.le_refl _)]
/-- How many points a part is made of; none: it has something else. -/
def dotN : List UInt8 → Option Nat
 | [] => some 0
 | [a] => if a.toNat = 46 then some 1 else none
 | [a, b] => if a.toNat = 46 ∧ b.toNat = 46 then some 2 else none
 | a :: b :: c :: r => if a.toNat = 46 then (dotN (b :: c :: r)).map (· + 1) else if a.toNat = 37 ∧ b.toNat = 50 ∧ (low c).toNat = 101 then (dotN r).map (· + 1) else none
theorem dotN_pt {a : UInt8} (h : a.toNat = 46) (l : List UInt8) : dotN (a :: l) = (dotN l).map (· + 1) := by
 match l with
 | [] => simp [dotN, h]
 | [b] =>
  rw [dotN, dotN]
  by_cases hb : b.toNat = 46 <;> simp [h, hb]
 | b :: c :: r => rw [dotN, if_pos h]
theorem dotN_three {a b c : UInt8} {r : List UInt8} (h0 : a.toNat ≠ 46) (h : a.toNat = 37 ∧ b.toNat = 50 ∧ (low c).toNat = 101) : dotN (a :: b :: c :: r) = (dotN r).map (· + 1) := by
 rw [dotN, if_neg h0, if_pos h]
theorem dotN_else {a : UInt8} {l : List UInt8} (h0 : a.toNat ≠ 46) (h : ∀ b c r, l = b :: c :: r → ¬ (a.toNat = 37 ∧ b.toNat = 50 ∧ (low c).toNat = 101)) : dotN (a :: l) = none := by
 match l with
 | [] => rw [dotN, if_neg h0]
 | [b] => rw [dotN, if_neg (fun h => h0 h.1)]
 | b :: c :: r => rw [dotN, if_neg h0, if_neg (h b c r rfl)]
/-- How many points a part is, one or two; 0: it is none of these. -/
def ptN (l : List UInt8) : Nat := match dotN l with
 | some n => if 2 < n then 0 else n
 | none => 0
theorem low46i {a : UInt8} : low a = 46 ↔ a.toNat = 46 := by
 have h : ∀ n : Fin 256, low (UInt8.ofNat n.1) = 46 ↔ n.1 = 46 := by decide +kernel
 have := h ⟨a.toNat, a.toNat_lt⟩
 simpa using this
theorem low37i {a : UInt8} : low a = 37 ↔ a.toNat = 37 := by
 have h : ∀ n : Fin 256, low (UInt8.ofNat n.1) = 37 ↔ n.1 = 37 := by decide +kernel
 have := h ⟨a.toNat, a.toNat_lt⟩
 simpa using this
theorem low50i {a : UInt8} : low a = 50 ↔ a.toNat = 50 := by
 have h : ∀ n : Fin 256, low (UInt8.ofNat n.1) = 50 ↔ n.1 = 50 := by decide +kernel
 have := h ⟨a.toNat, a.toNat_lt⟩
 simpa using this
theorem low101i {a : UInt8} : low a = 101 ↔ (low a).toNat = 101 := ⟨fun e => by rw [e]; rfl, fun e => UInt8.toNat_inj.1 e⟩
theorem rep_dotN : ∀ (n : Nat) (l : List UInt8) (k : Nat), l.length ≤ n → (rep2e (l.map low) = List.replicate k 46 ↔ dotN l = some k)
 | _, [], k, _ => by
  cases k with
  | zero => simp [rep2e, dotN]
  | succ k => simp [rep2e, dotN, List.replicate_succ]
 | 0, _ :: _, _, h => absurd h (by simp)
 | n + 1, a :: l, k, h => by
  by_cases ha : a.toNat = 46
  ·have hl : low a = 46 := low46i.2 ha
   have e : rep2e ((a :: l).map low) = 46 :: rep2e (l.map low) := by
    rw [List.map_cons, hl]
    match l with
    | [] => rfl
    | [b] => rfl
    | b :: c :: r => simp only [List.map_cons]; rw [rep2e, if_neg (fun h => absurd h.1 (by decide))]
   rw [e, dotN_pt ha]
   have ih := fun k => rep_dotN n l k (by simp at h; omega)
   cases k with
   | zero => simp [List.replicate_zero]
   | succ k =>
    rw [List.replicate_succ]
    simp only [List.cons.injEq, true_and]
    rw [ih k]
    cases dotN l <;> simp
  ·have hn : low a ≠ 46 := fun e => ha (low46i.1 e)
   have no : ∀ (x : UInt8) (y : List UInt8), x ≠ 46 → ¬ x :: y = List.replicate k 46 := fun x y hx e => by
    cases k with
    | zero => cases e
    | succ k => rw [List.replicate_succ] at e; exact hx (List.cons.inj e).1
   match l with
   | [] => rw [dotN_else ha (fun b c r e => by cases e)]; exact ⟨fun e => absurd e (no _ _ hn), fun e => by cases e⟩
   | [b] => rw [dotN_else ha (fun b c r e => by cases e)]; exact ⟨fun e => absurd e (no _ _ hn), fun e => by cases e⟩
   | b :: c :: r =>
    simp only [List.map_cons]
    rw [rep2e]
    by_cases hp : a.toNat = 37 ∧ b.toNat = 50 ∧ (low c).toNat = 101
    ·rw [if_pos ⟨low37i.2 hp.1, low50i.2 hp.2.1, low101i.2 hp.2.2⟩, dotN_three ha hp]
     have ih := fun k => rep_dotN n r k (by simp at h; omega)
     cases k with
     | zero => simp [List.replicate_zero]
     | succ k =>
      rw [List.replicate_succ]
      simp only [List.cons.injEq, true_and]
      rw [ih k]
      cases dotN r <;> simp
    ·rw [if_neg (fun hq => hp ⟨low37i.1 hq.1, low50i.1 hq.2.1, low101i.1 hq.2.2⟩), dotN_else ha (fun b' c' r' e => by injection e with e1 e2; injection e2 with e2 e3; subst e1 e2 e3; exact hp)]
     exact ⟨fun e => absurd e (no _ _ hn), fun e => by cases e⟩
theorem rep_one (l : List UInt8) : rep2e (l.map low) = [46] ↔ ptN l = 1 := by
 rw [show ([46] : List UInt8) = List.replicate 1 46 from rfl, rep_dotN _ l 1 (Nat.le_refl _), ptN]
 cases h : dotN l with
 | none => simp
 | some n =>
  simp only [Option.some.injEq]
  split <;> omega
theorem rep_two (l : List UInt8) : rep2e (l.map low) = [46, 46] ↔ ptN l = 2 := by
 rw [show ([46, 46] : List UInt8) = List.replicate 2 46 from rfl, rep_dotN _ l 2 (Nat.le_refl _), ptN]
 cases h : dotN l with
 | none => simp
 | some n =>
  simp only [Option.some.injEq]
  split <;> omega
theorem ptN_le (l : List UInt8) : ptN l ≤ 2 := by
 unfold ptN
 cases dotN l with
 | none => exact Nat.zero_le _
 | some n => simp only; split <;> omega

end Go.Proofs.YtcphokaamkalfaaGreatDoor
namespace Go.Proofs.YtcphokaamkalfaaGreatDoor
open Go.RowKit

/-- An address, as it is told. -/
structure UrS where
 sch : ByteArray
 usr : ByteArray
 pas : ByteArray
 hst : ByteArray
 prt : Int
 pth : ByteArray
 qry : ByteArray
 hq : Bool
 mrk : ByteArray
 hm : Bool
/-- Nothing told. -/
def u0 : UrS := ⟨⟨#[]⟩, ⟨#[]⟩, ⟨#[]⟩, ⟨#[]⟩, 0, ⟨#[]⟩, ⟨#[]⟩, false, ⟨#[]⟩, false⟩
/-- The reader's state. -/
structure RdS where
 u : UrS
 b : UrS
 rest : ByteArray
 place : ByteArray
 parts : Value
def UrS.cells (u : UrS) : List Value := [.string u.sch, .string u.usr, .string u.pas, .string u.hst, .int .i64 u.prt, .string u.pth, .string u.qry, .bool u.hq, .string u.mrk, .bool u.hm]
def RdS.cells (s : RdS) : Array Value := (s.u.cells ++ s.b.cells ++ [.string s.rest, .string s.place, s.parts]).toArray
def RdAt (w : World) (b : Nat) (s : RdS) : Prop := w.heap[b]? = some (.cells s.cells 47 (0, 0))
theorem RdAt.cell {w : World} {b : Nat} {s : RdS} (h : RdAt w b s) (k : Nat) {v : Value} (hv : s.cells[k]? = some v) : w.cell? ⟨b, k, none⟩ = some v := by
 rw [cell_of_row w b k _ _ _ h]; exact hv
theorem RdAt.free {w : World} {b : Nat} {s : RdS} (h : RdAt w b s) (k : Nat) : w.frozen? ⟨b, k, none⟩ = false := frozen_of_row w b k _ _ h
theorem RdAt.lt {w : World} {b : Nat} {s : RdS} (h : RdAt w b s) : b < w.heap.size := lt_of_block h
theorem RdAt.set {w : World} {b : Nat} {s s' : RdS} (h : RdAt w b s) (k : Nat) (v : Value) (e : s.cells.setIfInBounds k v = s'.cells) : RdAt (w.setCell ⟨b, k, none⟩ v) b s' := by
 unfold RdAt at *
 rw [heap_setCell_same _ _ _ _ _ _ h, e]
theorem RdAt.below {w w' : World} {b : Nat} {s : RdS} (h : RdAt w b s) (hb : Below w.heap.size w w') : RdAt w' b s := (hb.block b h.lt).trans h
/-- What a cut leaves: the reader as it should be, or an error. -/
def CutC (w : World) (b : Nat) (o : Except Int RdS) (e : Ending) (w' : World) : Prop :=
 (match o with
  | .ok s => e = .returned (.tuple #[]) ∧ RdAt w' b s
  | .error c => e = .panicked [{ v := .iface 26 (.int .i64 c), recovered := false }]) ∧ Kp (Only b) w w'

theorem post_panic {P : Program} {f : Func} {Q : Ending → World → Prop} {c : List PanicEntry} {tm : Array Value} {w : World} (h : Q (.panicked c) w) : bodyPost P f Q (.panic c) { tmps := tm, defers := [] } w := ⟨rfl, h⟩
theorem Kp.set1 {b : Nat} {a w : World} (h : Kp (Only b) a w) (k : Nat) (v : Value) : Kp (Only b) a (w.setCell ⟨b, k, none⟩ v) := h.setCell (p := ⟨b, k, none⟩) rfl v
set_option maxHeartbeats 400000 in
theorem refuse_no (c : Int) (w : World) : Calls Tryz.prog 44 #[.bool false, .int .i64 c] w fun e w' => e = .returned (.tuple #[]) ∧ w = w' := by
 go_enter Tryz.func44, Tryz.ntmps44
 go_wp2
 go_end0
 exact ⟨rfl, rfl⟩
set_option maxHeartbeats 400000 in
theorem refuse_yes (c : Int) (w : World) : Calls Tryz.prog 44 #[.bool true, .int .i64 c] w fun e w' => e = .panicked [{ v := .iface 26 (.int .i64 c), recovered := false }] ∧ w = w' := by
 go_enter Tryz.func44, Tryz.ntmps44
 go_wp2
 exact post_panic ⟨rfl, rfl⟩
/-- A text's cut at a byte. -/
theorem portOf_http (w : World) : Calls Tryz.prog 22 #[.string ⟨#[104, 116, 116, 112]⟩] w fun e w' => e = .returned (.int .i64 80) ∧ w = w' := by
 go_enter Tryz.func22, Tryz.ntmps22
 go_wp2
 go_ret
 exact ⟨rfl, rfl⟩
theorem portOf_https (w : World) : Calls Tryz.prog 22 #[.string ⟨#[104, 116, 116, 112, 115]⟩] w fun e w' => e = .returned (.int .i64 443) ∧ w = w' := by
 go_enter Tryz.func22, Tryz.ntmps22
 go_wp2
 go_ret
 exact ⟨rfl, rfl⟩
/-- A scheme's own port. -/
def ownP (s : ByteArray) : Nat := if s = ⟨#[104, 116, 116, 112]⟩ then 80 else if s = ⟨#[104, 116, 116, 112, 115]⟩ then 443 else 0
theorem ne_lit {s : ByteArray} {l : List UInt8} (h : s ≠ ⟨l.toArray⟩) : (s.toList == l) = false := by
 rw [beq_eq_false_iff_ne, ByteArray.toList_eq]
 exact fun e => h (ByteArray.ext (Array.toList_inj.1 e))
set_option maxHeartbeats 1000000 in
theorem portOf_any (s : ByteArray) (w : World) : Calls Tryz.prog 22 #[.string s] w fun e w' => e = .returned (.int .i64 (ownP s)) ∧ w = w' := by
 by_cases h1 : s = ⟨#[104, 116, 116, 112]⟩
 ·subst h1
  exact portOf_http w
 by_cases h2 : s = ⟨#[104, 116, 116, 112, 115]⟩
 ·subst h2
  exact portOf_https w
 have e1 := ne_lit (l := [104, 116, 116, 112]) h1
 have e2 := ne_lit (l := [104, 116, 116, 112, 115]) h2
 have HO : Hid (ownP s = 0) := Lib.hid (by rw [ownP, if_neg h1, if_neg h2])
 rw [HO.out]
 clear h1 h2
 go_enter Tryz.func22, Tryz.ntmps22
 go_wp2
 go_ret
 exact ⟨rfl, rfl⟩
set_option maxRecDepth 100000 in
set_option maxHeartbeats 1000000 in
theorem dropSlashes_any (b : Nat) (s : RdS) (w : World) (h : RdAt w b s) :
  Calls Tryz.prog 47 #[.pointer (some ⟨b, 0, none⟩)] w (CutC w b (.ok { s with rest := ⟨(Lib.trimLeftB s.rest.data.toList 47).toArray⟩ })) := by
 have HR := Lib.hid h
 have c1 := h.cell 20 (v := .string s.rest) rfl
 have f1 := h.free 20
 clear h
 have HC : Hid (∀ w, Calls Tryz.prog 46 #[.string s.rest, .string ⟨#[47]⟩] w fun e w' => e = .returned (.string ⟨(Lib.trimLeftB s.rest.data.toList 47).toArray⟩) ∧ w = w') := Lib.hid (fun w =>
  (Tryz.strings_TrimLeft_one s.rest 47 (by decide) w).mono fun _ _ ⟨h1, h2⟩ => ⟨h1, h2.symm⟩)
 obtain ⟨r, Hr⟩ : ∃ r, Hid ((⟨(Lib.trimLeftB s.rest.data.toList 47).toArray⟩ : ByteArray) = r) := ⟨_, Lib.hid rfl⟩
 rw [Hr.out] at HC ⊢
 go_enter Tryz.func47, Tryz.ntmps47
 go_wp2_with fail
 refine (HC.out _).mono ?_
 rintro e w1 ⟨rfl, rfl⟩
 go_wp2
 go_end0
 exact ⟨⟨rfl, HR.out.set 20 _ rfl⟩, (Kp.refl _ _).set1 _ _⟩

end Go.Proofs.YtcphokaamkalfaaGreatDoor
namespace Go.Proofs.YtcphokaamkalfaaGreatDoor
open Go.RowKit

abbrev gML : Nat := 1
/-- A text's cut at a byte: ahead of it, behind it, whether there is one. -/
def cutA (a : UInt8) (s : ByteArray) : ByteArray := ⟨(Lib.cut s.data.toList [a]).1.toArray⟩
def cutB (a : UInt8) (s : ByteArray) : ByteArray := ⟨(Lib.cut s.data.toList [a]).2.1.toArray⟩
def cutF (a : UInt8) (s : ByteArray) : Bool := (Lib.cut s.data.toList [a]).2.2
theorem Cut_of (a : UInt8) (s : ByteArray) (m : Int) (w : World) (hs : s.size ≤ 9000000) (hm : w.cell? ⟨gML, 0, none⟩ = some (.int .i64 m)) :
  Calls Tryz.prog 41 #[.string s, .string ⟨#[a]⟩] w fun e w' => e = .returned (.tuple #[.string (cutA a s), .string (cutB a s), .bool (cutF a s)]) ∧ Below w.heap.size w w' := by
 refine (Tryz.strings_Cut s ⟨#[a]⟩ m w (by omega) hm).mono ?_
 rintro e w' ⟨rfl, n, rfl⟩
 exact ⟨rfl, ⟨rfl, rfl, rfl, Nat.le_refl _, fun _ _ => rfl⟩⟩
/-- A text with a byte for another one, or without it. -/
def repl (a : UInt8) (new : List UInt8) (s : ByteArray) : ByteArray := ⟨(Lib.replaceAll s.data.toList [a] new).toArray⟩
theorem Replace_of (a : UInt8) (new : ByteArray) (s : ByteArray) (m : Int) (w : World) (hs : s.size ≤ 9000000) (hn : new.size ≤ 1) (hm : w.cell? ⟨gML, 0, none⟩ = some (.int .i64 m)) :
  Calls Tryz.prog 40 #[.string s, .string ⟨#[a]⟩, .string new] w fun e w' => e = .returned (.string (repl a new.data.toList s)) ∧ Below w.heap.size w w' := by
 refine Tryz.strings_ReplaceAll s ⟨#[a]⟩ new m w (by omega) hm (Nat.le_refl 1) ?_
 have h1 := Lib.countB_le ⟨#[a]⟩ (Nat.le_refl 1) s.size s (Nat.le_refl _)
 have h2 : Lib.countB s ⟨#[a]⟩ * new.size ≤ Lib.countB s ⟨#[a]⟩ * 1 := Nat.mul_le_mul_left _ hn
 omega
theorem ml_below {w w' : World} {m : Int} (h : w.cell? ⟨gML, 0, none⟩ = some (.int .i64 m)) (hb : Below w.heap.size w w') : w'.cell? ⟨gML, 0, none⟩ = some (.int .i64 m) := (hb.cell (block_lt_of_cell h)).trans h

set_option maxRecDepth 100000 in
set_option maxHeartbeats 1000000 in
theorem turnSlashes_any (b : Nat) (s : RdS) (m : Int) (w : World) (h : RdAt w b s) (hs : s.rest.size ≤ 9000000) (hm : w.cell? ⟨gML, 0, none⟩ = some (.int .i64 m)) :
  Calls Tryz.prog 29 #[.pointer (some ⟨b, 0, none⟩)] w (CutC w b (.ok { s with rest := repl 92 [47] s.rest })) := by
 have c1 := h.cell 20 (v := .string s.rest) rfl
 have HR := Lib.hid h
 clear h
 have HC := Lib.hid (Replace_of 92 ⟨#[47]⟩ s.rest m w hs (by decide) hm)
 obtain ⟨r, Hr⟩ : ∃ r, Hid (repl 92 [47] s.rest = r) := ⟨_, Lib.hid rfl⟩
 rw [show repl 92 (⟨#[47]⟩ : ByteArray).data.toList s.rest = r from Hr.out] at HC
 rw [Hr.out]
 clear hm
 go_enter Tryz.func29, Tryz.ntmps29
 go_wp2_with fail
 refine HC.out.mono ?_
 rintro e w1 ⟨rfl, b1⟩
 have HR1 := Lib.hid (HR.out.below b1)
 have K1 := Lib.hid (Kp.of_below (X := Only b) b1)
 have c2 := HR1.out.cell 20 (v := .string s.rest) rfl
 have f2 := HR1.out.free 20
 clear b1 c1
 go_wp2
 go_end0
 exact ⟨⟨rfl, HR1.out.set 20 _ rfl⟩, K1.out.set1 _ _⟩

set_option maxRecDepth 100000 in
set_option maxHeartbeats 1000000 in
theorem cutPlace_any (b : Nat) (s : RdS) (m : Int) (w : World) (h : RdAt w b s) (hs : s.rest.size ≤ 9000000) (hm : w.cell? ⟨gML, 0, none⟩ = some (.int .i64 m)) :
  Calls Tryz.prog 48 #[.pointer (some ⟨b, 0, none⟩)] w (CutC w b (.ok { s with place := cutA 47 s.rest, rest := cutB 47 s.rest })) := by
 have c1 := h.cell 20 (v := .string s.rest) rfl
 have HR := Lib.hid h
 clear h
 have HC := Lib.hid (Cut_of 47 s.rest m w hs hm)
 obtain ⟨A, HA⟩ : ∃ r, Hid (cutA 47 s.rest = r) := ⟨_, Lib.hid rfl⟩
 obtain ⟨B, HB⟩ : ∃ r, Hid (cutB 47 s.rest = r) := ⟨_, Lib.hid rfl⟩
 rw [HA.out, HB.out] at HC
 rw [HA.out, HB.out]
 clear hm
 go_enter Tryz.func48, Tryz.ntmps48
 go_wp2_with fail
 refine HC.out.mono ?_
 rintro e w1 ⟨rfl, b1⟩
 have HR1 := Lib.hid (HR.out.below b1)
 have K1 := Lib.hid (Kp.of_below (X := Only b) b1)
 have c2 := HR1.out.cell 20 (v := .string s.rest) rfl
 have c3 := HR1.out.cell 21 (v := .string s.place) rfl
 have f2 := HR1.out.free 20
 have f3 := HR1.out.free 21
 clear b1 c1
 go_wp2
 go_end0
 exact ⟨⟨rfl, (HR1.out.set (s' := { s with place := A }) 21 _ rfl).set 20 _ rfl⟩, (K1.out.set1 _ _).set1 _ _⟩

set_option maxRecDepth 100000 in
set_option maxHeartbeats 1000000 in
theorem cutMark_any (b : Nat) (s : RdS) (m : Int) (w : World) (h : RdAt w b s) (hs : s.rest.size ≤ 3000000) (hm : w.cell? ⟨gML, 0, none⟩ = some (.int .i64 m)) (hB : (cutB 35 s.rest).size ≤ 3000000) :
  Calls Tryz.prog 27 #[.pointer (some ⟨b, 0, none⟩)] w (CutC w b (.ok { s with rest := cutA 35 s.rest, u := { s.u with hm := cutF 35 s.rest, mrk := encS 2 (cutB 35 s.rest) } })) := by
 have c1 := h.cell 20 (v := .string s.rest) rfl
 have HR := Lib.hid h
 clear h
 have HC := Lib.hid (Cut_of 35 s.rest m w (by omega) hm)
 have HE := Lib.hid (fun w => Encode_any (cutB 35 s.rest) 2 w (by omega) (by decide))
 obtain ⟨A, HA⟩ : ∃ r, Hid (cutA 35 s.rest = r) := ⟨_, Lib.hid rfl⟩
 obtain ⟨B, HBb⟩ : ∃ r, Hid (cutB 35 s.rest = r) := ⟨_, Lib.hid rfl⟩
 obtain ⟨F, HF⟩ : ∃ r, Hid (cutF 35 s.rest = r) := ⟨_, Lib.hid rfl⟩
 obtain ⟨E, HEe⟩ : ∃ r, Hid (encS 2 (cutB 35 s.rest) = r) := ⟨_, Lib.hid rfl⟩
 rw [HEe.out, HBb.out] at HE
 rw [HA.out, HBb.out, HF.out] at HC
 rw [HA.out, HF.out, HEe.out]
 clear hm hB
 go_enter Tryz.func27, Tryz.ntmps27
 go_wp2_with fail
 refine HC.out.mono ?_
 rintro e w1 ⟨rfl, b1⟩
 have HR1 := Lib.hid (HR.out.below b1)
 have K1 := Lib.hid (Kp.of_below (X := Only b) b1)
 have c2 := HR1.out.cell 20 (v := .string s.rest) rfl
 have c3 := HR1.out.cell 9 (v := .bool s.u.hm) rfl
 have f2 := HR1.out.free 20
 have f3 := HR1.out.free 9
 have HR2 : Hid (RdAt ((w1.setCell ⟨b, 20, none⟩ (.string A)).setCell ⟨b, 9, none⟩ (.bool F)) b { s with rest := A, u := { s.u with hm := F } }) := Lib.hid ((HR1.out.set (s' := { s with rest := A }) 20 _ rfl).set 9 _ rfl)
 have K2 : Hid (Kp (Only b) w ((w1.setCell ⟨b, 20, none⟩ (.string A)).setCell ⟨b, 9, none⟩ (.bool F))) := Lib.hid ((K1.out.set1 _ _).set1 _ _)
 obtain ⟨W2, HW2⟩ : ∃ W, Hid ((w1.setCell ⟨b, 20, none⟩ (.string A)).setCell ⟨b, 9, none⟩ (.bool F) = W) := ⟨_, Lib.hid rfl⟩
 rw [HW2.out] at HR2 K2
 clear b1 c1
 go_wp2_with fail
 rw [HW2.out]
 refine (HE.out _).mono ?_
 rintro e w3 ⟨rfl, b3⟩
 have HR3 := Lib.hid (HR2.out.below b3)
 have K3 : Hid (Kp (Only b) w w3) := Lib.hid (K2.out.trans (Kp.of_below b3))
 have c4 := HR3.out.cell 8 (v := .string s.u.mrk) rfl
 have f4 := HR3.out.free 8
 clear b3 c2 c3 f2 f3
 go_wp2
 go_end0
 exact ⟨⟨rfl, HR3.out.set 8 _ rfl⟩, K3.out.set1 _ _⟩

set_option maxRecDepth 100000 in
set_option maxHeartbeats 1000000 in
theorem cutQuery_any (b : Nat) (s : RdS) (m : Int) (w : World) (h : RdAt w b s) (hs : s.rest.size ≤ 3000000) (hm : w.cell? ⟨gML, 0, none⟩ = some (.int .i64 m)) (hB : (cutB 63 s.rest).size ≤ 3000000) :
  Calls Tryz.prog 28 #[.pointer (some ⟨b, 0, none⟩)] w (CutC w b (.ok { s with rest := cutA 63 s.rest, u := { s.u with hq := cutF 63 s.rest, qry := encS 3 (cutB 63 s.rest) } })) := by
 have c1 := h.cell 20 (v := .string s.rest) rfl
 have HR := Lib.hid h
 clear h
 have HC := Lib.hid (Cut_of 63 s.rest m w (by omega) hm)
 have HE := Lib.hid (fun w => Encode_any (cutB 63 s.rest) 3 w (by omega) (by decide))
 obtain ⟨A, HA⟩ : ∃ r, Hid (cutA 63 s.rest = r) := ⟨_, Lib.hid rfl⟩
 obtain ⟨B, HBb⟩ : ∃ r, Hid (cutB 63 s.rest = r) := ⟨_, Lib.hid rfl⟩
 obtain ⟨F, HF⟩ : ∃ r, Hid (cutF 63 s.rest = r) := ⟨_, Lib.hid rfl⟩
 obtain ⟨E, HEe⟩ : ∃ r, Hid (encS 3 (cutB 63 s.rest) = r) := ⟨_, Lib.hid rfl⟩
 rw [HEe.out, HBb.out] at HE
 rw [HA.out, HBb.out, HF.out] at HC
 rw [HA.out, HF.out, HEe.out]
 clear hm hB
 go_enter Tryz.func28, Tryz.ntmps28
 go_wp2_with fail
 refine HC.out.mono ?_
 rintro e w1 ⟨rfl, b1⟩
 have HR1 := Lib.hid (HR.out.below b1)
 have K1 := Lib.hid (Kp.of_below (X := Only b) b1)
 have c2 := HR1.out.cell 20 (v := .string s.rest) rfl
 have c3 := HR1.out.cell 7 (v := .bool s.u.hq) rfl
 have f2 := HR1.out.free 20
 have f3 := HR1.out.free 7
 have HR2 : Hid (RdAt ((w1.setCell ⟨b, 20, none⟩ (.string A)).setCell ⟨b, 7, none⟩ (.bool F)) b { s with rest := A, u := { s.u with hq := F } }) := Lib.hid ((HR1.out.set (s' := { s with rest := A }) 20 _ rfl).set 7 _ rfl)
 have K2 : Hid (Kp (Only b) w ((w1.setCell ⟨b, 20, none⟩ (.string A)).setCell ⟨b, 7, none⟩ (.bool F))) := Lib.hid ((K1.out.set1 _ _).set1 _ _)
 obtain ⟨W2, HW2⟩ : ∃ W, Hid ((w1.setCell ⟨b, 20, none⟩ (.string A)).setCell ⟨b, 7, none⟩ (.bool F) = W) := ⟨_, Lib.hid rfl⟩
 rw [HW2.out] at HR2 K2
 clear b1 c1
 go_wp2_with fail
 rw [HW2.out]
 refine (HE.out _).mono ?_
 rintro e w3 ⟨rfl, b3⟩
 have HR3 := Lib.hid (HR2.out.below b3)
 have K3 : Hid (Kp (Only b) w w3) := Lib.hid (K2.out.trans (Kp.of_below b3))
 have c4 := HR3.out.cell 6 (v := .string s.u.qry) rfl
 have f4 := HR3.out.free 6
 clear b3 c2 c3 f2 f3
 go_wp2
 go_end0
 exact ⟨⟨rfl, HR3.out.set 6 _ rfl⟩, K3.out.set1 _ _⟩

end Go.Proofs.YtcphokaamkalfaaGreatDoor
namespace Go.Proofs.YtcphokaamkalfaaGreatDoor
open Go.RowKit

/-- Where a host ends. -/
def hEndL : List UInt8 → Bool → Nat
 | [], _ => 0
 | c :: l, wi => if c.toNat = 91 then hEndL l true + 1 else if c.toNat = 93 then hEndL l false + 1 else if c.toNat = 58 ∧ wi = false then 0 else hEndL l wi + 1
theorem hEndL_le : ∀ (l : List UInt8) (wi : Bool), hEndL l wi ≤ l.length
 | [], _ => Nat.le_refl _
 | c :: l, wi => by
  have h1 := hEndL_le l true
  have h2 := hEndL_le l false
  have h3 := hEndL_le l wi
  rw [hEndL, List.length_cons]
  split
  ·omega
  split
  ·omega
  split <;> omega
theorem hEnd_step {s : ByteArray} {k T : Nat} {wi : Bool} (hk : k < s.size) (h : T = k + hEndL (s.data.toList.drop k) wi) :
  T = k + (if s[k].toNat = 91 then hEndL (s.data.toList.drop (k + 1)) true + 1 else if s[k].toNat = 93 then hEndL (s.data.toList.drop (k + 1)) false + 1 else if s[k].toNat = 58 ∧ wi = false then 0 else hEndL (s.data.toList.drop (k + 1)) wi + 1) := by
 have hl : k < s.data.toList.length := by rw [lenB]; exact hk
 rw [List.drop_eq_getElem_cons hl, hEndL] at h
 exact h
set_option maxRecDepth 100000 in
set_option maxHeartbeats 1000000 in
theorem hostEnd_any (s : ByteArray) (w : World) (hs : s.size ≤ 9000000) :
  Calls Tryz.prog 82 #[.string s] w fun e w' => e = .returned (.int .i64 (hEndL s.data.toList false)) ∧ w = w' := by
 obtain ⟨T, HT⟩ : ∃ T, Hid (T = hEndL s.data.toList false) := ⟨_, Lib.hid rfl⟩
 rw [← HT.out]
 go_enter Tryz.func82, Tryz.ntmps82
 go_wp2
 go_loop [3, 7] (fun b i => ∃ (k : Nat) (wi : Bool), k ≤ s.size ∧ b = .bool wi ∧ i = .int .i64 k ∧ Hid (T = k + hEndL (s.data.toList.drop k) wi)) (fun _ i => s.size - (intOf i).toNat)
 case atStart => exact ⟨0, false, Nat.zero_le _, rfl, rfl, Lib.hid (by rw [HT.out, List.drop_zero, Nat.zero_add])⟩
 case round =>
  obtain ⟨k, wi, hk, rfl, rfl, HK⟩ := hrel
  by_cases hlt : k < s.size
  ·have HS := Lib.hid (hEnd_step hlt HK.out)
   clear HK
   rcases (show s[k].toNat = 91 ∨ (s[k].toNat ≠ 91 ∧ s[k].toNat = 93) ∨ (s[k].toNat ≠ 91 ∧ s[k].toNat ≠ 93 ∧ s[k].toNat = 58) ∨ (s[k].toNat ≠ 91 ∧ s[k].toNat ≠ 93 ∧ s[k].toNat ≠ 58) by omega) with h1 | ⟨h1, h2⟩ | ⟨h1, h2, h3⟩ | ⟨h1, h2, h3⟩
   ·have HS2 : Hid (T = k + 1 + hEndL (s.data.toList.drop (k + 1)) true) := Lib.hid (by have := HS.out; rw [if_pos h1] at this; omega)
    clear HS
    go_wp2
    go_round
    case rel => exact ⟨k + 1, true, by omega, rfl, by go_num, HS2⟩
    case measure => simp [intOf]; omega
   ·have HS2 : Hid (T = k + 1 + hEndL (s.data.toList.drop (k + 1)) false) := Lib.hid (by have := HS.out; rw [if_neg h1, if_pos h2] at this; omega)
    clear HS
    go_wp2
    go_round
    case rel => exact ⟨k + 1, false, by omega, rfl, by go_num, HS2⟩
    case measure => simp [intOf]; omega
   ·cases wi
    ·have HS2 : Hid (T = k) := Lib.hid (by have := HS.out; rw [if_neg h1, if_neg h2, if_pos ⟨h3, rfl⟩] at this; omega)
     clear HS
     go_wp2
     go_ret
     exact ⟨by rw [HS2.out]; rfl, rfl⟩
    ·have HS2 : Hid (T = k + 1 + hEndL (s.data.toList.drop (k + 1)) true) := Lib.hid (by have := HS.out; rw [if_neg h1, if_neg h2, if_neg (by simp)] at this; omega)
     clear HS
     go_wp2
     go_round
     case rel => exact ⟨k + 1, true, by omega, rfl, by go_num, HS2⟩
     case measure => simp [intOf]; omega
   ·have HS2 : Hid (T = k + 1 + hEndL (s.data.toList.drop (k + 1)) wi) := Lib.hid (by have := HS.out; rw [if_neg h1, if_neg h2, if_neg (fun h => h3 h.1)] at this; omega)
    clear HS
    go_wp2
    go_round
    case rel => exact ⟨k + 1, wi, by omega, rfl, by go_num, HS2⟩
    case measure => simp [intOf]; omega
  ·have HS2 : Hid (T = s.size) := Lib.hid (by rw [HK.out, show s.data.toList.drop k = [] from List.drop_eq_nil_of_le (by rw [lenB]; omega)]; show k + 0 = _; omega)
   go_wp2
   go_ret
   exact ⟨by rw [HS2.out]; rfl, rfl⟩

/-- strings.TrimFunc at the reader's own function, in every later world. -/
def Trm (w : World) : Prop := ∀ w', Below w.heap.size w w' → ∀ s : ByteArray, s.size ≤ 9000000 → Calls Tryz.prog 38 #[.string s, .func (.func 39) #[] #[]] w' fun e w'' => e = .returned (.string ⟨(trimU s.data.toList).toArray⟩) ∧ Below w'.heap.size w' w''
/-- strconv.Itoa, in every later world. -/
def Dec (w : World) : Prop := ∀ w', Below w.heap.size w w' → ∀ n : Int, 0 ≤ n → n ≤ 9223372036854775807 → Calls Tryz.prog 17 #[.int .i64 n] w' fun e w'' => e = .returned (.string ⟨(Lib.itoa n).toArray⟩) ∧ Below w'.heap.size w' w''
/-- What urls asks of the world. -/
structure Uw (w : World) : Prop where
 hw : Hw w
 tr : Trm w
 dc : Dec w
theorem Uw.later {w w1 : World} (h : Uw w) (hb : Below w.heap.size w w1) : Uw w1 :=
 ⟨h.hw.later hb, fun w' hb' => h.tr w' (hb.trans (hb'.mono hb.size)), fun w' hb' => h.dc w' (hb.trans (hb'.mono hb.size))⟩
theorem isBlank (w : World) : PredAt Tryz.prog 39 #[] encR p32 w := fun W r _ => by
 unfold FnGives p32
 by_cases h1 : r ≤ 32
 all_goals
  have z1 : (r : Int) ≤ 32 ↔ r ≤ 32 := by omega
  go_enter Tryz.func39, Tryz.ntmps39
  go_wp2
  go_ret
  refine ⟨?_, 0, rfl⟩
  simp [h1]
theorem u8_later {g3 g4 : Nat} {w w' : World} (h : Lib.Utf8Tabs g3 g4 w) (hb : Below w.heap.size w w') : Lib.Utf8Tabs g3 g4 w' := by
 have hk : ∀ (a : Addr) (v : Value), w.cell? a = some v → w'.cell? a = some v := fun a v h => (hb.cell (p := a) (block_lt_of_cell h)).trans h
 exact ⟨fun c hc => hk _ _ (h.1 c hc), fun i hi => ⟨hk _ _ (h.2 i hi).1, hk _ _ (h.2 i hi).2⟩⟩
theorem trm_of {w : World} (hT : Lib.Utf8Tabs (Tryz.lays237_ren.g 3) (Tryz.lays237_ren.g 4) w) : Trm w := fun w' hb s hs =>
 (Tryz.strings_TrimFunc 39 #[] (enters_of Tryz.func39 (by kernel_rfl) rfl) p32 s w' (by omega) (u8_later hT hb) (isBlank w')).mono fun e w'' ⟨h1, h2⟩ => ⟨by
  have h3 : Lib.trimF p32 s = ⟨(trimU s.data.toList).toArray⟩ := ba_of (trimF32 s)
  rw [h1, h3], h2⟩
theorem dec_of {w : World} (hT : Lib.TabIs Tryz.prog w "internal/strconv.uint64pow10" .u64 Lib.pow10Tab) : Dec w := fun w' hb n h0 hn =>
 (Tryz.strconv_Itoa n (by omega) hn w' (Lib.tabBelow_of_tabIs hT w' hb)).mono fun e w'' ⟨he, k, os, hw⟩ => ⟨he, by
  rw [hw]; exact Lib.below_grow _ _ (Nat.le_refl _) _ _⟩
/-- The world's facts, as the reader's writes leave them. -/
def Rw (b : Nat) (w : World) : Prop := ∃ w0, Uw w0 ∧ w0.heap.size ≤ b ∧ Below w0.heap.size w0 w
theorem Rw.uw {b : Nat} {w : World} (h : Rw b w) : Uw w := by
 obtain ⟨w0, h0, _, hb⟩ := h; exact h0.later hb
theorem Rw.hw {b : Nat} {w : World} (h : Rw b w) : Hw w := h.uw.hw
theorem Rw.kp {b : Nat} {w w' : World} (h : Rw b w) (k : Kp (Only b) w w') : Rw b w' := by
 obtain ⟨w0, h0, hl, hb⟩ := h
 exact ⟨w0, h0, hl, hb.trans (k.below hb.size (fun j hj => by rw [show j = b from hj]; exact hl))⟩
theorem Rw.below {b : Nat} {w w' : World} (h : Rw b w) (k : Below w.heap.size w w') : Rw b w' := h.kp (Kp.of_below k)
theorem cutA_size (a : UInt8) (s : ByteArray) : (cutA a s).size ≤ s.size := by
 have h : (Lib.cut s.data.toList [a]).1.length ≤ s.data.toList.length := by
  unfold Lib.cut; split
  ·exact (List.take_sublist _ _).length_le
  ·exact Nat.le_refl _
 rw [lenB] at h; exact h
theorem cutB_size (a : UInt8) (s : ByteArray) : (cutB a s).size ≤ s.size := by
 have h : (Lib.cut s.data.toList [a]).2.1.length ≤ s.data.toList.length := by
  unfold Lib.cut; split
  ·exact (List.drop_sublist _ _).length_le
  ·exact Nat.zero_le _
 rw [lenB] at h; exact h
/-- Where the last '@' stands. -/
def atI (s : ByteArray) : Int := Lib.lastIndexByte s 64
theorem LastAt_of (s : ByteArray) (w : World) (hs : s.size ≤ 9000000) : Calls Tryz.prog 81 #[.string s, .string ⟨#[64]⟩] w fun e w' => e = .returned (.int .i64 (atI s)) ∧ w = w' :=
 (Tryz.strings_LastIndex_one s ⟨#[64]⟩ rfl (by omega) w).mono fun _ _ ⟨h1, h2⟩ => ⟨h1, h2.symm⟩
theorem atI_cases (s : ByteArray) : atI s = -1 ∨ ∃ n : Nat, n < s.size ∧ atI s = n := by
 rcases Lib.lastIndexByte_spec s 64 with h | ⟨i, hi, h, _⟩
 ·exact .inl h.1
 ·exact .inr ⟨i, hi, h⟩
def cutUserS (s : RdS) : RdS := if atI s.place < 0 then s else
 { s with u := { s.u with usr := encS 5 (cutA 58 (s.place.extract 0 (atI s.place).toNat)), pas := encS 5 (cutB 58 (s.place.extract 0 (atI s.place).toNat)) }, place := s.place.extract ((atI s.place).toNat + 1) s.place.size }
set_option maxRecDepth 100000 in
set_option maxHeartbeats 2000000 in
theorem cutUser_any (b : Nat) (s : RdS) (w : World) (h : RdAt w b s) (hs : s.place.size ≤ 3000000) (hW : Rw b w) :
  Calls Tryz.prog 49 #[.pointer (some ⟨b, 0, none⟩)] w (CutC w b (.ok (cutUserS s))) := by
 have c1 := h.cell 21 (v := .string s.place) rfl
 have HR := Lib.hid h
 clear h
 have HC := Lib.hid (fun w => LastAt_of s.place w (by omega))
 rcases atI_cases s.place with hn | ⟨n, hn, hi⟩
 ·have HS : Hid (cutUserS s = s) := Lib.hid (by rw [cutUserS, if_pos (by omega)])
  rw [HS.out]
  rw [hn] at HC
  clear hW hn
  go_enter Tryz.func49, Tryz.ntmps49
  go_wp2_with fail
  refine (HC.out _).mono ?_
  rintro e w1 ⟨rfl, rfl⟩
  go_wp2
  go_end0
  exact ⟨⟨rfl, HR.out⟩, Kp.refl _ _⟩
 ·obtain ⟨P, HP⟩ : ∃ P, Hid (s.place.extract 0 n = P) := ⟨_, Lib.hid rfl⟩
  obtain ⟨R, HRr⟩ : ∃ P, Hid (s.place.extract (n + 1) s.place.size = P) := ⟨_, Lib.hid rfl⟩
  obtain ⟨A, HA⟩ : ∃ r, Hid (encS 5 (cutA 58 P) = r) := ⟨_, Lib.hid rfl⟩
  obtain ⟨B, HB⟩ : ∃ r, Hid (encS 5 (cutB 58 P) = r) := ⟨_, Lib.hid rfl⟩
  have HS : Hid (cutUserS s = { s with u := { s.u with usr := A, pas := B }, place := R }) := Lib.hid (by
   rw [cutUserS, if_neg (by omega), hi, Int.toNat_natCast, HP.out, HA.out, HB.out, HRr.out])
  rw [HS.out]
  rw [hi] at HC
  have hP : P.size ≤ 3000000 := by rw [← HP.out, ByteArray.size_extract]; omega
  obtain ⟨m, hm⟩ := hW.hw.ml
  have HK := Lib.hid (Cut_of 58 P m w (by omega) hm)
  have hA := cutA_size 58 P
  have hB := cutB_size 58 P
  have HE1 := Lib.hid (fun w => Encode_any (cutA 58 P) 5 w (by omega) (by decide))
  have HE2 := Lib.hid (fun w => Encode_any (cutB 58 P) 5 w (by omega) (by decide))
  obtain ⟨X, HX⟩ : ∃ r, Hid (cutA 58 P = r) := ⟨_, Lib.hid rfl⟩
  obtain ⟨Y, HY⟩ : ∃ r, Hid (cutB 58 P = r) := ⟨_, Lib.hid rfl⟩
  rw [HA.out, HX.out] at HE1
  rw [HB.out, HY.out] at HE2
  rw [HX.out, HY.out] at HK
  clear hW hi hm hA hB hP
  go_enter Tryz.func49, Tryz.ntmps49
  go_wp2_with fail
  refine (HC.out _).mono ?_
  rintro e w1 ⟨rfl, rfl⟩
  go_wp2_with fail
  rw [HP.out]
  refine HK.out.mono ?_
  rintro e w1 ⟨rfl, b1⟩
  have HR1 := Lib.hid (HR.out.below b1)
  have K1 := Lib.hid (Kp.of_below (X := Only b) b1)
  clear b1 c1
  go_wp2_with fail
  refine (HE1.out _).mono ?_
  rintro e w2 ⟨rfl, b2⟩
  have HR2 := Lib.hid (HR1.out.below b2)
  have K2 : Hid (Kp (Only b) w w2) := Lib.hid (K1.out.trans (Kp.of_below b2))
  clear b2
  go_wp2_with fail
  refine (HE2.out _).mono ?_
  rintro e w3 ⟨rfl, b3⟩
  have HR3 := Lib.hid (HR2.out.below b3)
  have K3 : Hid (Kp (Only b) w w3) := Lib.hid (K2.out.trans (Kp.of_below b3))
  clear b3
  have c1 := HR3.out.cell 21 (v := .string s.place) rfl
  have c2 := HR3.out.cell 1 (v := .string s.u.usr) rfl
  have c3 := HR3.out.cell 2 (v := .string s.u.pas) rfl
  have f1 := HR3.out.free 21
  have f2 := HR3.out.free 1
  have f3 := HR3.out.free 2
  go_wp2
  rw [HRr.out]
  go_end0
  exact ⟨⟨rfl, ((HR3.out.set (s' := { s with u := { s.u with usr := A } }) 1 _ rfl).set (s' := { s with u := { s.u with usr := A, pas := B } }) 2 _ rfl).set 21 _ rfl⟩, ((K3.out.set1 _ _).set1 _ _).set1 _ _⟩

/-- What cutHost leaves. -/
def cutHostS (s : RdS) : Except Int RdS :=
 let h := hostT (s.place.extract 0 (hEndL s.place.data.toList false))
 if h.2 = 0 then .ok { s with u := { s.u with hst := h.1 }, place := s.place.extract (hEndL s.place.data.toList false) s.place.size } else .error 5
set_option maxRecDepth 100000 in
set_option maxHeartbeats 2000000 in
theorem cutHost_any (b : Nat) (s : RdS) (w : World) (h : RdAt w b s) (hs : s.place.size ≤ 9000000) (hh : (s.place.extract 0 (hEndL s.place.data.toList false)).size ≤ 10000) (hW : Rw b w) :
  Calls Tryz.prog 50 #[.pointer (some ⟨b, 0, none⟩)] w (CutC w b (cutHostS s)) := by
 have c1 := h.cell 21 (v := .string s.place) rfl
 have HR := Lib.hid h
 clear h
 have HC := Lib.hid (fun w => hostEnd_any s.place w (by omega))
 have hle := hEndL_le s.place.data.toList false
 rw [lenB] at hle
 unfold cutHostS
 obtain ⟨n, HN⟩ : ∃ n, Hid (hEndL s.place.data.toList false = n) := ⟨_, Lib.hid rfl⟩
 rw [HN.out] at HC hle hh ⊢
 obtain ⟨P, HP⟩ : ∃ P, Hid (s.place.extract 0 n = P) := ⟨_, Lib.hid rfl⟩
 obtain ⟨R, HRr⟩ : ∃ P, Hid (s.place.extract n s.place.size = P) := ⟨_, Lib.hid rfl⟩
 rw [HP.out] at hh
 rw [HP.out, HRr.out]
 have hP : P.size ≤ 10000 := hh
 clear hh
 have HH := Lib.hid (HostsParse_any P w (by unfold maxLen; omega) (.inl (by omega)) hW.hw)
 obtain ⟨H, c, HT⟩ : ∃ H c, Hid (hostT P = (H, c)) := ⟨_, _, Lib.hid rfl⟩
 rw [HT.out] at HH ⊢
 dsimp only at HH ⊢
 clear hW hP
 by_cases h0 : c = 0
 ·subst h0
  rw [if_pos rfl]
  go_enter Tryz.func50, Tryz.ntmps50
  go_wp2_with fail
  refine (HC.out _).mono ?_
  rintro e w1 ⟨rfl, rfl⟩
  go_wp2_with fail
  rw [HP.out]
  refine HH.out.mono ?_
  rintro e w1 ⟨rfl, b1⟩
  have HR1 := Lib.hid (HR.out.below b1)
  have K1 := Lib.hid (Kp.of_below (X := Only b) b1)
  clear b1 c1
  go_wp2_with fail
  refine (refuse_no _ _).mono ?_
  rintro e w2 ⟨rfl, rfl⟩
  have c1 := HR1.out.cell 21 (v := .string s.place) rfl
  have c2 := HR1.out.cell 3 (v := .string s.u.hst) rfl
  have f1 := HR1.out.free 21
  have f2 := HR1.out.free 3
  go_wp2
  go_region
  all_goals (
   go_wp2
   rw [HRr.out]
   go_end0
   exact ⟨⟨rfl, (HR1.out.set (s' := { s with u := { s.u with hst := H } }) 3 _ rfl).set 21 _ rfl⟩, ((K1.out.set1 _ _).set1 _ _).drew⟩)
 ·rw [if_neg h0]
  go_enter Tryz.func50, Tryz.ntmps50
  go_wp2_with fail
  refine (HC.out _).mono ?_
  rintro e w1 ⟨rfl, rfl⟩
  go_wp2_with fail
  rw [HP.out]
  refine HH.out.mono ?_
  rintro e w1 ⟨rfl, b1⟩
  have K1 := Lib.hid (Kp.of_below (X := Only b) b1)
  clear b1 c1
  go_wp2_with fail
  rw [show (c != 0) = true by simpa using h0]
  refine (refuse_yes _ _).mono ?_
  rintro e w2 ⟨rfl, rfl⟩
  exact post_panic ⟨rfl, K1.out⟩

end Go.Proofs.YtcphokaamkalfaaGreatDoor
namespace Go.Proofs.YtcphokaamkalfaaGreatDoor
open Go.RowKit

theorem nil_e (s : ByteArray) (h : s.size = 0) : s.toList.isEmpty = true := by
 have : s.data.toList = [] := List.eq_nil_of_length_eq_zero (by rw [lenB]; exact h)
 rw [ByteArray.toList_eq, this]; rfl
theorem nil_n (s : ByteArray) (h : s.size ≠ 0) : s.toList.isEmpty = false := by
 have : s.data.toList ≠ [] := fun e => h (by rw [← lenB, e]; rfl)
 rw [ByteArray.toList_eq]; simpa using this
/-- An address that was put into a box. -/
abbrev UBox (w : World) (C : Array Value) : World := w.alloc (.cells C 23)
theorem ubox_cell (u : UrS) (w : World) {C : Array Value} (hC : u.cells.toArray = C) (k : Nat) {v : Value} (h : u.cells[k]? = some v) : (UBox w C).cell? ⟨w.heap.size, k, none⟩ = some v := by
 rw [cell_of_row _ _ _ C _ _ (heap_alloc_new w _), ← hC]; simpa using h
theorem ubox_below (w : World) (C : Array Value) : Below w.heap.size w (UBox w C) := (Below.refl _ _).alloc (Nat.le_refl _) _

def userTextT (u : UrS) : ByteArray := if u.pas.size = 0 then (if u.usr.size = 0 then u.usr else u.usr ++ ⟨#[64]⟩) else u.usr ++ (⟨#[58]⟩ ++ u.pas) ++ ⟨#[64]⟩
theorem userTextT_size (u : UrS) : (userTextT u).size ≤ u.usr.size + u.pas.size + 2 := by
 unfold userTextT
 split
 ·split
  ·omega
  ·rw [ByteArray.size_append]; show _ + 1 ≤ _; omega
 ·rw [ByteArray.size_append, ByteArray.size_append, ByteArray.size_append]; show _ + (1 + _) + 1 ≤ _; omega
set_option maxRecDepth 100000 in
set_option maxHeartbeats 1000000 in
theorem userText_any (u : UrS) (w : World) (h1 : u.usr.size ≤ 9000000) (h2 : u.pas.size ≤ 9000000) :
  Calls Tryz.prog 16 #[.agg u.cells.toArray] w fun e w' => e = .returned (.string (userTextT u)) ∧ Below w.heap.size w w' := by
 obtain ⟨C, HC⟩ : ∃ C, Hid (u.cells.toArray = C) := ⟨_, Lib.hid rfl⟩
 rw [HC.out]
 have c1 := ubox_cell u w HC.out 1 (v := .string u.usr) rfl
 have c2 := ubox_cell u w HC.out 2 (v := .string u.pas) rfl
 have HB := Lib.hid (ubox_below w C)
 obtain ⟨R, HR⟩ : ∃ R, Hid (userTextT u = R) := ⟨_, Lib.hid rfl⟩
 have HRR := Lib.hid (show userTextT u = if u.pas.size = 0 then (if u.usr.size = 0 then u.usr else u.usr ++ ⟨#[64]⟩) else u.usr ++ (⟨#[58]⟩ ++ u.pas) ++ ⟨#[64]⟩ from rfl)
 rw [HR.out] at HRR ⊢
 by_cases hp : u.pas.size = 0
 ·rw [if_pos hp] at HRR
  have np := nil_e u.pas hp
  by_cases hu : u.usr.size = 0
  ·rw [if_pos hu] at HRR
   have nu := nil_e u.usr hu
   clear hp hu h1 h2
   go_enter Tryz.func16, Tryz.ntmps16
   go_wp2
   go_ret
   rw [HRR.out]
   exact ⟨rfl, HB.out⟩
  ·rw [if_neg hu] at HRR
   have nu := nil_n u.usr hu
   have z1 : ¬ 9223372036854775807 < u.usr.size + 1 := by omega
   clear hp hu h1 h2
   go_enter Tryz.func16, Tryz.ntmps16
   go_wp2
   go_ret
   rw [HRR.out]
   exact ⟨rfl, HB.out⟩
 ·rw [if_neg hp] at HRR
  have np := nil_n u.pas hp
  have nx := nil_n (u.usr ++ (⟨#[58]⟩ ++ u.pas)) (by rw [ByteArray.size_append, ByteArray.size_append]; show _ + (1 + _) ≠ 0; omega)
  have z1 : ¬ 9223372036854775807 < 1 + u.pas.size := by omega
  have z2 : ¬ 9223372036854775807 < u.usr.size + (1 + u.pas.size) := by omega
  have z3 : ¬ 9223372036854775807 < u.usr.size + (1 + u.pas.size) + 1 := by omega
  clear hp h1 h2
  go_enter Tryz.func16, Tryz.ntmps16
  go_wp2
  go_ret
  rw [HRR.out]
  exact ⟨rfl, HB.out⟩
def targetT (u : UrS) : ByteArray := if u.hq = true then u.pth ++ ⟨#[63]⟩ ++ u.qry else u.pth
theorem targetT_size (u : UrS) : (targetT u).size ≤ u.pth.size + u.qry.size + 1 := by
 unfold targetT
 split
 ·rw [ByteArray.size_append, ByteArray.size_append]; show _ + 1 + _ ≤ _; omega
 ·omega
set_option maxRecDepth 100000 in
set_option maxHeartbeats 1000000 in
theorem Target_any (u : UrS) (w : World) (h1 : u.pth.size ≤ 9000000) (h2 : u.qry.size ≤ 9000000) :
  Calls Tryz.prog 18 #[.agg u.cells.toArray] w fun e w' => e = .returned (.string (targetT u)) ∧ Below w.heap.size w w' := by
 obtain ⟨C, HC⟩ : ∃ C, Hid (u.cells.toArray = C) := ⟨_, Lib.hid rfl⟩
 rw [HC.out]
 have c1 := ubox_cell u w HC.out 5 (v := .string u.pth) rfl
 have c2 := ubox_cell u w HC.out 6 (v := .string u.qry) rfl
 have c3 := ubox_cell u w HC.out 7 (v := .bool u.hq) rfl
 have HB := Lib.hid (ubox_below w C)
 obtain ⟨R, HR⟩ : ∃ R, Hid (targetT u = R) := ⟨_, Lib.hid rfl⟩
 have HRR := Lib.hid (show targetT u = if u.hq = true then u.pth ++ ⟨#[63]⟩ ++ u.qry else u.pth from rfl)
 rw [HR.out] at HRR ⊢
 have z1 : ¬ 9223372036854775807 < u.pth.size + 1 := by omega
 have z2 : ¬ 9223372036854775807 < u.pth.size + 1 + u.qry.size := by omega
 clear h1 h2
 cases hq : u.hq
 ·rw [hq] at c3 HRR
  rw [if_neg Bool.false_ne_true] at HRR
  clear hq
  go_enter Tryz.func18, Tryz.ntmps18
  go_wp2
  go_ret
  rw [HRR.out]
  exact ⟨rfl, HB.out⟩
 ·rw [hq] at c3 HRR
  rw [if_pos rfl] at HRR
  clear hq
  go_enter Tryz.func18, Tryz.ntmps18
  go_wp2
  go_ret
  rw [HRR.out]
  exact ⟨rfl, HB.out⟩
def itoaB (n : Int) : ByteArray := ⟨(Lib.itoa n).toArray⟩
/-- The text of an address. -/
def textT (u : UrS) : ByteArray :=
 let a := u.sch ++ ⟨#[58]⟩ ++ ⟨#[47, 47]⟩ ++ userTextT u ++ u.hst
 let b := if 0 ≤ u.prt then a ++ (⟨#[58]⟩ ++ itoaB u.prt) else a
 if u.hm = true then b ++ targetT u ++ (⟨#[35]⟩ ++ u.mrk) else b ++ targetT u
theorem infoU : (Tryz.prog.info? 23).map (·.size) = some 10 := by kernel_rfl
set_option maxRecDepth 100000 in
set_option maxHeartbeats 4000000 in
theorem Text_any6 (u : UrS) (w : World) (h0 : u.sch.size ≤ 9000000) (h1 : u.usr.size ≤ 9000000) (h2 : u.pas.size ≤ 9000000) (h3 : u.hst.size ≤ 9000000) (h4 : u.pth.size ≤ 9000000) (h5 : u.qry.size ≤ 9000000) (h6 : u.mrk.size ≤ 9000000) (h7 : u.prt ≤ 9223372036854775807) (hD : Dec w) :
  Calls Tryz.prog 8 #[.agg u.cells.toArray] w fun e w' => e = .returned (.string (textT u)) ∧ Below w.heap.size w w' := by
 have HU := Lib.hid (fun w => userText_any u w h1 h2)
 have HT := Lib.hid (fun w => Target_any u w h4 h5)
 have hus := userTextT_size u
 have hts := targetT_size u
 have HDc := Lib.hid hD
 obtain ⟨C, HC⟩ : ∃ C, Hid (u.cells.toArray = C) := ⟨_, Lib.hid rfl⟩
 have hCs : (Tryz.prog.info? 23).map (·.size) = some C.size := by rw [infoU, ← HC.out]; rfl
 have HCs := Lib.hid hCs
 rw [HC.out] at HU HT ⊢
 obtain ⟨R, HR⟩ : ∃ R, Hid (textT u = R) := ⟨_, Lib.hid rfl⟩
 obtain ⟨W, HWw⟩ : ∃ W, Hid (UBox w C = W) := ⟨_, Lib.hid rfl⟩
 have HB : Hid (Below w.heap.size w W) := Lib.hid (by rw [← HWw.out]; exact ubox_below w C)
 have HG : Hid (W.heap[w.heap.size]? = some (.cells C 23 (0, 0))) := Lib.hid (by rw [← HWw.out]; exact heap_alloc_new w _)
 obtain ⟨g, Hg⟩ : ∃ g, Hid (w.heap.size = g) := ⟨_, Lib.hid rfl⟩
 have hC0 : C[0]? = some (.string u.sch) := by rw [← HC.out]; rfl
 have hC3 : C[3]? = some (.string u.hst) := by rw [← HC.out]; rfl
 have hC4 : C[4]? = some (.int .i64 u.prt) := by rw [← HC.out]; rfl
 have hC8 : C[8]? = some (.string u.mrk) := by rw [← HC.out]; rfl
 have hC9 : C[9]? = some (.bool u.hm) := by rw [← HC.out]; rfl
 obtain ⟨U, HUu⟩ : ∃ U, Hid (userTextT u = U) := ⟨_, Lib.hid rfl⟩
 obtain ⟨T, HTt⟩ : ∃ T, Hid (targetT u = T) := ⟨_, Lib.hid rfl⟩
 have HRR := Lib.hid (show textT u = if u.hm = true then (if 0 ≤ u.prt then u.sch ++ ⟨#[58]⟩ ++ ⟨#[47, 47]⟩ ++ userTextT u ++ u.hst ++ (⟨#[58]⟩ ++ itoaB u.prt) else u.sch ++ ⟨#[58]⟩ ++ ⟨#[47, 47]⟩ ++ userTextT u ++ u.hst) ++ targetT u ++ (⟨#[35]⟩ ++ u.mrk) else (if 0 ≤ u.prt then u.sch ++ ⟨#[58]⟩ ++ ⟨#[47, 47]⟩ ++ userTextT u ++ u.hst ++ (⟨#[58]⟩ ++ itoaB u.prt) else u.sch ++ ⟨#[58]⟩ ++ ⟨#[47, 47]⟩ ++ userTextT u ++ u.hst) ++ targetT u from rfl)
 rw [HR.out, HUu.out, HTt.out] at HRR
 rw [HR.out]
 rw [HUu.out] at HU hus
 rw [HTt.out] at HT hts
 have hl7 : ∀ n, 0 ≤ n → n ≤ 9223372036854775807 → (itoaB n).size ≤ 21 := fun n h0 h1 => Lib.itoa_length_le n (by omega) h1
 have HUq : Hid (∀ p : BW W, Calls Tryz.prog 16 #[.agg C] p.w fun e w'' => e = .returned (.string U) ∧ Below p.w.heap.size p.w w'') := Lib.hid (fun p => HU.out p.w)
 have hq0 : ∀ p : BW W, p.w.cell? ⟨g, 0, none⟩ = some (.string u.sch) := fun p => by rw [← Hg.out, BW.cell HG.out p 0]; exact hC0
 have hq3 : ∀ p : BW W, p.w.cell? ⟨g, 3, none⟩ = some (.string u.hst) := fun p => by rw [← Hg.out, BW.cell HG.out p 3]; exact hC3
 have HGg : Hid (W.heap[g]? = some (.cells C 23 (0, 0))) := Lib.hid (by rw [← Hg.out]; exact HG.out)
 have z1 : ¬ 9223372036854775807 < u.sch.size + 1 := by omega
 have z2 : ¬ 9223372036854775807 < u.sch.size + 1 + 2 := by omega
 have z3 : ¬ 9223372036854775807 < u.sch.size + 1 + 2 + U.size := by omega
 have z4 : ¬ 9223372036854775807 < u.sch.size + 1 + 2 + U.size + u.hst.size := by omega
 have z5 : ¬ 9223372036854775807 < u.sch.size + 1 + 2 + U.size + u.hst.size + T.size := by omega
 have z6 : ¬ 9223372036854775807 < 1 + u.mrk.size := by omega
 have z7 : ¬ 9223372036854775807 < u.sch.size + 1 + 2 + U.size + u.hst.size + T.size + (1 + u.mrk.size) := by omega
 clear hCs hC0 hC3 hD HU
 go_enter Tryz.func8, Tryz.ntmps8
 go_wp2_with fail
 rw [show w.alloc (.cells C 23) = W from HWw.out, Hg.out]
 refine bw_region (by kernel_rfl) (by kernel_rfl) ?_
 repeat (first
  | (refine bw_load rfl 23 _ rfl g C ?_ 23 (0, 0) _ ?_ Tryz.underlying23 rfl HCs.out ?_; (exact rfl); (intro w hw; obtain ⟨p, rfl⟩ := hw; exact BW.at HGg.out p))
  | (quiet_step ((go_at_call 16; exact Calls.bw_of (HUq.out _)))))
 refine wpQuiet_nil ?_
 intro w1 hw'
 have hw1 : Below W.heap.size W w1 := by
  obtain ⟨p, hp⟩ := hw'
  rw [hp]; exact p.h
 have HG1 : Hid (w1.heap[g]? = some (.cells C 23 (0, 0))) := Lib.hid (BW.at HGg.out ⟨w1, hw1⟩)
 have HB1 : Hid (Below w.heap.size w w1) := Lib.hid (HB.out.trans (hw1.mono HB.out.size))
 have d4 : w1.cell? ⟨g, 4, none⟩ = some (.int .i64 u.prt) := (cell_of_row _ _ _ _ _ _ HG1.out).trans hC4
 clear hq0 hq3 hw1
 have HDc1 := Lib.hid (HDc.out w1 HB1.out)
 clear HDc HUq HUu HTt HC
 by_cases hp : 0 ≤ u.prt
 ·have HRR2 := HRR.out
  rw [if_pos hp] at HRR2
  have HI : Hid (Calls Tryz.prog 17 #[.int .i64 u.prt] w1 fun e w'' => e = .returned (.string (itoaB u.prt)) ∧ Below w1.heap.size w1 w'') := Lib.hid (HDc1.out _ hp h7)
  have hIs := hl7 _ hp h7
  obtain ⟨I, HIi⟩ : ∃ I, Hid (itoaB u.prt = I) := ⟨_, Lib.hid rfl⟩
  rw [HIi.out] at HI HRR2 hIs
  have z8 : ¬ 9223372036854775807 < 1 + I.size := by omega
  have z9 : ¬ 9223372036854775807 < u.sch.size + 1 + 2 + U.size + u.hst.size + (1 + I.size) := by omega
  have z10 : ¬ 9223372036854775807 < u.sch.size + 1 + 2 + U.size + u.hst.size + (1 + I.size) + T.size := by omega
  have z11 : ¬ 9223372036854775807 < u.sch.size + 1 + 2 + U.size + u.hst.size + (1 + I.size) + T.size + (1 + u.mrk.size) := by omega
  have HRR3 := Lib.hid HRR2
  clear hl7 hus hts h0 h1 h2 h3 h4 h5 h6 h7 HRR HRR2 z5 z7 hIs
  go_wp2_with fail
  refine HI.out.mono ?_
  rintro e w2 ⟨rfl, b2⟩
  have HG2 : Hid (w2.heap[g]? = some (.cells C 23 (0, 0))) := Lib.hid ((b2.block _ (lt_of_block HG1.out)).trans HG1.out)
  have HB2 : Hid (Below w.heap.size w w2) := Lib.hid (HB1.out.trans (b2.mono HB1.out.size))
  clear b2 d4
  go_wp2_with (refine wpList_load_row rfl 23 _ rfl g ?_ 23 C (0, 0) _ ?_ Tryz.underlying23 rfl HCs.out ?_; (exact rfl); (exact HG2.out))
  refine (HT.out _).mono ?_
  rintro e w3 ⟨rfl, b3⟩
  have HG3 : Hid (w3.heap[g]? = some (.cells C 23 (0, 0))) := Lib.hid ((b3.block _ (lt_of_block HG2.out)).trans HG2.out)
  have HB3 : Hid (Below w.heap.size w w3) := Lib.hid (HB2.out.trans (b3.mono HB2.out.size))
  have d8 : w3.cell? ⟨g, 8, none⟩ = some (.string u.mrk) := (cell_of_row _ _ _ _ _ _ HG3.out).trans hC8
  have d9 : w3.cell? ⟨g, 9, none⟩ = some (.bool u.hm) := (cell_of_row _ _ _ _ _ _ HG3.out).trans hC9
  clear b3
  cases hm : u.hm
  ·rw [hm] at d9 HRR3
   have HR4 := Lib.hid (HRR3.out.trans (if_neg Bool.false_ne_true))
   clear HRR3 hm
   go_wp2
   go_ret
   rw [HR4.out]
   exact ⟨rfl, HB3.out⟩
  ·rw [hm] at d9 HRR3
   have HR4 := Lib.hid (HRR3.out.trans (if_pos rfl))
   clear HRR3 hm
   go_wp2
   go_ret
   rw [HR4.out]
   exact ⟨rfl, HB3.out⟩
 ·have HRR2 := HRR.out
  rw [if_neg hp] at HRR2
  have hp' : u.prt < 0 := by omega
  have HRR3 := Lib.hid HRR2
  clear hl7 hus hts h0 h1 h2 h3 h4 h5 h6 h7 HRR HRR2 hp
  go_wp2_with (refine wpList_load_row rfl 23 _ rfl g ?_ 23 C (0, 0) _ ?_ Tryz.underlying23 rfl HCs.out ?_; (exact rfl); (exact HG1.out))
  refine (HT.out _).mono ?_
  rintro e w3 ⟨rfl, b3⟩
  have HG3 : Hid (w3.heap[g]? = some (.cells C 23 (0, 0))) := Lib.hid ((b3.block _ (lt_of_block HG1.out)).trans HG1.out)
  have HB3 : Hid (Below w.heap.size w w3) := Lib.hid (HB1.out.trans (b3.mono HB1.out.size))
  have d8 : w3.cell? ⟨g, 8, none⟩ = some (.string u.mrk) := (cell_of_row _ _ _ _ _ _ HG3.out).trans hC8
  have d9 : w3.cell? ⟨g, 9, none⟩ = some (.bool u.hm) := (cell_of_row _ _ _ _ _ _ HG3.out).trans hC9
  clear b3 d4
  cases hm : u.hm
  ·rw [hm] at d9 HRR3
   have HR4 := Lib.hid (HRR3.out.trans (if_neg Bool.false_ne_true))
   clear HRR3 hm
   go_wp2
   go_ret
   rw [HR4.out]
   exact ⟨rfl, HB3.out⟩
  ·rw [hm] at d9 HRR3
   have HR4 := Lib.hid (HRR3.out.trans (if_pos rfl))
   clear HRR3 hm
   go_wp2
   go_ret
   rw [HR4.out]
   exact ⟨rfl, HB3.out⟩

end Go.Proofs.YtcphokaamkalfaaGreatDoor
namespace Go.Proofs.YtcphokaamkalfaaGreatDoor
open Go.RowKit

/-- An address of no great size. -/
structure Sm (u : UrS) : Prop where
 h0 : u.sch.size ≤ 9000000
 h1 : u.usr.size ≤ 9000000
 h2 : u.pas.size ≤ 9000000
 h3 : u.hst.size ≤ 9000000
 h4 : u.pth.size ≤ 9000000
 h5 : u.qry.size ≤ 9000000
 h6 : u.mrk.size ≤ 9000000
 h7 : u.prt ≤ 9223372036854775807
theorem Text_of (u : UrS) (w : World) (h : Sm u) (hD : Dec w) : Calls Tryz.prog 8 #[.agg u.cells.toArray] w fun e w' => e = .returned (.string (textT u)) ∧ Below w.heap.size w w' :=
 Text_any6 u w h.h0 h.h1 h.h2 h.h3 h.h4 h.h5 h.h6 h.h7 hD
theorem textT_size (u : UrS) (h : Sm u) : (textT u).size ≤ 90000000 := by
 have h1 := userTextT_size u
 have h2 := targetT_size u
 have hi : 0 ≤ u.prt → (itoaB u.prt).size ≤ 21 := fun h0 => Lib.itoa_length_le u.prt (by omega) h.h7
 have e1 : (⟨#[58]⟩ : ByteArray).size = 1 := rfl
 have e2 : (⟨#[47, 47]⟩ : ByteArray).size = 2 := rfl
 have e3 : (⟨#[35]⟩ : ByteArray).size = 1 := rfl
 obtain ⟨a0, a1, a2, a3, a4, a5, a6, _⟩ := h
 unfold textT
 by_cases hp : 0 ≤ u.prt
 ·have hi' := hi hp
  by_cases hm : u.hm = true
  ·simp only [if_pos hp, if_pos hm, ByteArray.size_append, e1, e2, e3]; omega
  ·simp only [if_pos hp, if_neg hm, ByteArray.size_append, e1, e2]; omega
 ·by_cases hm : u.hm = true
  ·simp only [if_neg hp, if_pos hm, ByteArray.size_append, e1, e2, e3]; omega
  ·simp only [if_neg hp, if_neg hm, ByteArray.size_append, e1, e2]; omega
theorem RdAt.range {w : World} {b : Nat} {s : RdS} (h : RdAt w b s) : w.rangeAt b 0 s.u.cells := fun j v hj => by
 rw [Nat.zero_add]
 refine h.cell j ?_
 have hl : j < s.u.cells.length := (List.getElem?_eq_some_iff.1 hj).1
 rw [RdS.cells, List.getElem?_toArray, List.append_assoc, List.getElem?_append_left hl]; exact hj
theorem infoUl (u : UrS) : (Tryz.prog.info? 23).map (·.size) = some u.cells.length := infoU
def measureS (s : RdS) : Except Int RdS := if 4096 < (textT s.u).size then .error 3 else .ok s
set_option maxRecDepth 100000 in
set_option maxHeartbeats 2000000 in
theorem measure_any (b : Nat) (s : RdS) (w : World) (h : RdAt w b s) (hs : Sm s.u) (hW : Rw b w) :
  Calls Tryz.prog 31 #[.pointer (some ⟨b, 0, none⟩)] w (CutC w b (measureS s)) := by
 have HR := Lib.hid h
 have HRg := Lib.hid h.range
 have HI := Lib.hid (infoUl s.u)
 have HT := Lib.hid (fun w' (k : Kp (Only b) w w') => Text_of s.u w' hs (hW.kp k).uw.dc)
 have hsz := textT_size s.u hs
 unfold measureS
 obtain ⟨T, HTt⟩ : ∃ T, Hid (textT s.u = T) := ⟨_, Lib.hid rfl⟩
 rw [HTt.out] at HT hsz ⊢
 obtain ⟨C, HC⟩ : ∃ C, Hid (s.u.cells = C) := ⟨_, Lib.hid rfl⟩
 rw [HC.out] at HT HRg HI
 clear h hs hW
 by_cases hg : 4096 < T.size
 ·rw [if_pos hg]
  have hgI : (4096 : Int) < (T.size : Int) := by omega
  clear hg
  go_enter Tryz.func31, Tryz.ntmps31
  go_wp2_with (refine wpList_load_mid rfl 23 _ rfl b 0 ?_ C _ ?_ Tryz.underlying23 rfl HI.out ?_; (exact rfl); (exact HRg.out))
  refine (HT.out _ (Kp.refl _ _)).mono ?_
  rintro e w1 ⟨rfl, b1⟩
  have K1 := Lib.hid (Kp.of_below (X := Only b) b1)
  clear b1
  go_wp2_with fail
  refine (refuse_yes _ _).mono ?_
  rintro e w2 ⟨rfl, rfl⟩
  exact post_panic ⟨rfl, K1.out⟩
 ·rw [if_neg hg]
  have hgI : ¬ (4096 : Int) < (T.size : Int) := by omega
  have HgD : Hid (decide ((4096 : Int) < (T.size : Int)) = false) := Lib.hid (decide_eq_false hgI)
  clear hg
  go_enter Tryz.func31, Tryz.ntmps31
  go_wp2_with (refine wpList_load_mid rfl 23 _ rfl b 0 ?_ C _ ?_ Tryz.underlying23 rfl HI.out ?_; (exact rfl); (exact HRg.out))
  refine (HT.out _ (Kp.refl _ _)).mono ?_
  rintro e w1 ⟨rfl, b1⟩
  have HR1 := Lib.hid (HR.out.below b1)
  have K1 := Lib.hid (Kp.of_below (X := Only b) b1)
  clear b1
  go_wp2_with fail
  rw [HgD.out]
  refine (refuse_no _ _).mono ?_
  rintro e w2 ⟨rfl, rfl⟩
  go_wp2
  go_end0
  exact ⟨⟨rfl, HR1.out⟩, K1.out⟩

/-- An errno that goes through as a panic. -/
def errP (c : Int) : Ending := .panicked [{ v := .iface 26 (.int .i64 c), recovered := false }]
set_option maxRecDepth 100000 in
set_option maxHeartbeats 2000000 in
theorem inOrder_any (n fb cp : Nat) (G : Nat → FuncId) (A : Nat → Array Value) (J : Nat → World → Prop) (B : Int → World → Prop) (w : World)
  (hent : ∀ k, k < n → ∀ args w, (callFunc (G k) args).run Tryz.prog w = .ok (.enter (G k) args) w)
  (hcell : ∀ k w', k < n → J k w' → w'.cell? ⟨fb, k, none⟩ = some (.func (.func (G k)) (A k) #[]))
  (hstep : ∀ k w', k < n → J k w' → Calls Tryz.prog (G k) (A k) w' fun e w'' => (e = .returned (.tuple #[]) ∧ J (k + 1) w'') ∨ ∃ c, e = errP c ∧ B c w'')
  (hn : n ≤ 1000) (h0 : J 0 w) :
  Calls Tryz.prog 24 #[.slice (some ⟨fb, 0, none⟩) n cp] w fun e w' => (e = .returned (.tuple #[]) ∧ J n w') ∨ ∃ c, e = errP c ∧ B c w' := by
 have HE := Lib.hid hent
 have HC := Lib.hid hcell
 have HS := Lib.hid hstep
 have HJ := Lib.hid h0
 clear hent hcell hstep h0
 go_enter Tryz.func24, Tryz.ntmps24
 go_wp2
 go_loopw [3, 6] (fun _ i wr => ∃ k : Nat, k ≤ n ∧ i = .int .i64 k ∧ Hid (J k wr)) (fun _ i _ => n - (intOf i).toNat)
 case atStart => exact ⟨0, Nat.zero_le _, rfl, HJ⟩
 case round =>
  obtain ⟨k, hk, rfl, HK⟩ := hrel
  by_cases hlt : k < n
  ·have hc := HC.out k wr hlt HK.out
   have hent := HE.out k hlt
   have HSk := Lib.hid (HS.out k wr hlt HK.out)
   obtain ⟨g, Hg⟩ : ∃ g, Hid (G k = g) := ⟨_, Lib.hid rfl⟩
   obtain ⟨al, Hal⟩ : ∃ g, Hid (A k = g) := ⟨_, Lib.hid rfl⟩
   rw [Hg.out, Hal.out] at HSk hc
   rw [Hg.out] at hent
   go_wp2_with fail
   refine HSk.out.mono ?_
   rintro e w1 (⟨rfl, hJ⟩ | ⟨c, rfl, hB⟩)
   ·have HJ1 := Lib.hid hJ
    clear hJ
    go_wp2
    exact ⟨⟨k + 1, by omega, by go_num, HJ1⟩, by simp [intOf]; omega⟩
   ·exact post_panic (P := Tryz.prog) (f := Tryz.f24) (Q := fun e w' => (e = .returned (.tuple #[]) ∧ J n w') ∨ ∃ c, e = errP c ∧ B c w') (Or.inr ⟨c, rfl, hB⟩)
  ·obtain rfl : k = n := by omega
   go_wp2
   go_end0
   exact .inl ⟨rfl, HK.out⟩

end Go.Proofs.YtcphokaamkalfaaGreatDoor
namespace Go.Proofs.YtcphokaamkalfaaGreatDoor
open Go.RowKit

/- A port. -/
theorem num_cons (c : UInt8) (l : List UInt8) : num (c :: l) = ((c.toNat : Int) - 48) * 10 ^ l.length + num l := by
 refine snocInd (P := fun l => num (c :: l) = ((c.toNat : Int) - 48) * 10 ^ l.length + num l) ?_ (fun l d ih => ?_) l
 ·simp [num]
 ·rw [← List.cons_append, num_snoc, ih, num_snoc, List.length_append, List.length_singleton, Int.pow_succ]
  rw [Int.add_mul, Int.mul_assoc, Int.add_assoc]
theorem num_lead (t : List UInt8) : num (Lib.trimLeftB t 48) = num t := by
 unfold Lib.trimLeftB
 induction t with
 | nil => rfl
 | cons c t ih =>
  rw [List.dropWhile_cons]
  by_cases h : (c == 48) = true
  ·rw [if_pos h, ih, num_cons, beq_iff_eq.1 h]
   simp
  ·rw [if_neg h]
theorem all_lead (t : List UInt8) : allR 48 57 (Lib.trimLeftB t 48) = allR 48 57 t := by
 unfold Lib.trimLeftB
 induction t with
 | nil => rfl
 | cons c t ih =>
  rw [List.dropWhile_cons]
  by_cases h : (c == 48) = true
  ·rw [if_pos h, ih, beq_iff_eq.1 h]
   unfold allR
   rw [List.all_cons]; rfl
  ·rw [if_neg h]
theorem lead_big (t : List UInt8) (h : allR 48 57 t = true) (hl : 17 < (Lib.trimLeftB t 48).length) : 65535 < num t := by
 rw [← num_lead t]
 rw [← all_lead t] at h
 have hne : ∀ c l, Lib.trimLeftB t 48 = c :: l → c ≠ 48 := fun c l e hc => by
  unfold Lib.trimLeftB at e
  have := List.head_dropWhile_not (p := (· == (48 : UInt8))) (l := t) (by rw [e]; simp)
  simp only [e, List.head_cons] at this
  rw [hc] at this
  exact absurd this (by decide)
 cases e : Lib.trimLeftB t 48 with
 | nil => rw [e] at hl; simp at hl
 | cons c l =>
  rw [e] at h hl
  have hc := hne c l e
  rw [num_cons]
  unfold allR at h
  rw [List.all_cons, Bool.and_eq_true, inR_true] at h
  have hb := (num_bd l h.2).1
  have h1 : (1 : Int) ≤ (c.toNat : Int) - 48 := by
   have : c.toNat ≠ 48 := fun e => hc (UInt8.toNat_inj.1 e)
   omega
  have h2 : (10 : Int) ^ 17 ≤ 10 ^ l.length := by
   have : 17 ≤ l.length := by simp at hl; omega
   exact_mod_cast Nat.pow_le_pow_right (by decide) this
  have h3 : (10 : Int) ^ l.length ≤ ((c.toNat : Int) - 48) * 10 ^ l.length := by
   have h4 := Int.mul_le_mul_of_nonneg_right h1 (show (0 : Int) ≤ 10 ^ l.length by exact Int.le_trans (by decide) h2)
   rwa [Int.one_mul] at h4
  have h5 : (65535 : Int) < 10 ^ 17 := by decide
  omega
/-- The digits of a port, told: none, or its number. -/
def prtD (t : List UInt8) : Option Int := if allR 48 57 t = true ∧ num t ≤ 65535 then some (num t) else none
theorem prt_prog (t : List UInt8) : numB (48 :: Lib.trimLeftB t 48) 65535 = (prtD t).isSome ∧ ∀ n, prtD t = some n → numV (48 :: Lib.trimLeftB t 48) 65535 = n := by
 have hall : allR 48 57 (48 :: Lib.trimLeftB t 48) = allR 48 57 t := by
  rw [← all_lead t]; unfold allR; rw [List.all_cons]; rfl
 have hnum : num (48 :: Lib.trimLeftB t 48) = num t := by
  rw [num_cons, num_lead]; simp
 unfold prtD
 by_cases ha : allR 48 57 t = true
 ·by_cases hn : num t ≤ 65535
  ·have hl : ¬ 17 < (Lib.trimLeftB t 48).length := fun h => by have := lead_big t ha h; omega
   have := num_yes (48 :: Lib.trimLeftB t 48) 65535 (by simp) (by simp; omega) (by rw [hall]; exact ha) (by rw [hnum]; exact hn)
   rw [if_pos ⟨ha, hn⟩]
   exact ⟨this.2, fun n e => by rw [this.1, hnum]; exact Option.some.inj e⟩
  ·have := num_no (48 :: Lib.trimLeftB t 48) 65535 (.inr (.inr (.inr (by rw [hnum]; omega))))
   rw [if_neg (fun h => hn h.2)]
   exact ⟨this.2, fun n e => by cases e⟩
 ·have := num_no (48 :: Lib.trimLeftB t 48) 65535 (.inr (.inr (.inl (by rw [hall]; simpa using ha))))
  rw [if_neg (fun h => ha h.1)]
  exact ⟨this.2, fun n e => by cases e⟩
/- A path. -/
/-- The rest of a path, behind parts that are there; f: a part, as it stands in a path. -/
def pathB (f : ByteArray → ByteArray) : List ByteArray → List ByteArray → List ByteArray
 | S, [] => S
 | S, p :: P => if ptN p.data.toList = 0 then pathB f (S ++ [f p]) P
  else if P.length = 0 then (if ptN p.data.toList = 2 then S.dropLast else S) ++ [⟨#[]⟩]
  else pathB f (if ptN p.data.toList = 2 then S.dropLast else S) P
theorem pathB_ne (f : ByteArray → ByteArray) : ∀ (S P : List ByteArray), (P ≠ [] ∨ S ≠ []) → pathB f S P ≠ []
 | S, [], h => by rcases h with h | h; exact absurd rfl h; exact h
 | S, p :: P, _ => by
  rw [pathB]
  split
  ·exact pathB_ne f _ P (.inr (by simp))
  split
  ·simp
  ·rename_i h; exact pathB_ne f _ P (.inl (fun e => h (by rw [e]; rfl)))
theorem pathB_len (f : ByteArray → ByteArray) : ∀ (S P : List ByteArray), (pathB f S P).length ≤ S.length + P.length
 | S, [] => Nat.le_refl _
 | S, p :: P => by
  rw [pathB]
  have hd : (if ptN p.data.toList = 2 then S.dropLast else S).length ≤ S.length := by split <;> simp
  split
  ·have := pathB_len f (S ++ [f p]) P
   simp at this ⊢; omega
  split
  ·simp at hd ⊢; omega
  ·have := pathB_len f (if ptN p.data.toList = 2 then S.dropLast else S) P
   simp at hd ⊢; omega
/-- Each with a slash ahead. -/
def slJ (S : List ByteArray) : ByteArray := ⟨(S.flatMap fun p => 47 :: p.data.toList).toArray⟩
theorem slJ_data (S : List ByteArray) : (slJ S).data.toList = S.flatMap fun p => 47 :: p.data.toList := rfl
theorem slJ_snoc (S : List ByteArray) (p : ByteArray) : slJ (S ++ [p]) = slJ S ++ (⟨#[47]⟩ ++ p) := by
 apply ByteArray.ext; apply Array.toList_inj.1
 rw [slJ_data, ByteArray.data_append, Array.toList_append, slJ_data, ByteArray.data_append, Array.toList_append]
 simp
theorem slJ_join : ∀ S : List ByteArray, S ≠ [] → 47 :: Lib.join (S.map (·.data.toList)) [47] = (slJ S).data.toList
 | [], h => absurd rfl h
 | [p], _ => by rw [slJ_data]; simp [Lib.join]
 | p :: q :: S, _ => by
  have ih := slJ_join (q :: S) (by simp)
  rw [slJ_data] at ih ⊢
  rw [List.flatMap_cons, ← ih]
  simp [Lib.join]

end Go.Proofs.YtcphokaamkalfaaGreatDoor
namespace Go.Proofs.YtcphokaamkalfaaGreatDoor
open Go.RowKit

/-- A part, with its points that are told by three signs. -/
def wpB (s : ByteArray) : ByteArray := asB (rep2e (s.data.toList.map low))
theorem wpB_q1 (s : ByteArray) : ((wpB s).toList == [46]) = decide (ptN s.data.toList = 1) := by
 rw [ByteArray.toList_eq, show (wpB s).data.toList = rep2e (s.data.toList.map low) from rfl, Bool.eq_iff_iff, beq_iff_eq, decide_eq_true_iff, rep_one]
theorem wpB_q2 (s : ByteArray) : ((wpB s).toList == [46, 46]) = decide (ptN s.data.toList = 2) := by
 rw [ByteArray.toList_eq, show (wpB s).data.toList = rep2e (s.data.toList.map low) from rfl, Bool.eq_iff_iff, beq_iff_eq, decide_eq_true_iff, rep_two]
set_option maxRecDepth 100000 in
set_option maxHeartbeats 1000000 in
theorem withPoints_any (s : ByteArray) (m : Int) (w : World) (hs : s.size ≤ 9000000) (hm : w.cell? ⟨gML, 0, none⟩ = some (.int .i64 m)) :
  Calls Tryz.prog 86 #[.string s] w fun e w' => e = .returned (.string (wpB s)) ∧ Below w.heap.size w w' := by
 have hz := lowS_size s
 have HL := Lib.hid (Lower_any s w (by unfold maxLen; omega))
 have HRp : Hid (∀ w1, Below w.heap.size w w1 → Calls Tryz.prog 40 #[.string (lowS s), .string ⟨#[37, 50, 101]⟩, .string ⟨#[46]⟩] w1 fun e w' => e = .returned (.string (wpB s)) ∧ Below w1.heap.size w1 w') := Lib.hid (fun w1 b1 => by
  have h1 := Lib.countB_le ⟨#[37, 50, 101]⟩ (by decide : 1 ≤ (⟨#[37, 50, 101]⟩ : ByteArray).size) (lowS s).size (lowS s) (Nat.le_refl _)
  have h2 := Tryz.strings_ReplaceAll (lowS s) ⟨#[37, 50, 101]⟩ ⟨#[46]⟩ m w1 (by omega) (ml_below hm b1) (by decide) (by
   show (lowS s).size + Lib.countB (lowS s) ⟨#[37, 50, 101]⟩ * 1 ≤ _; omega)
  have e : (⟨(Lib.replaceAll (lowS s).data.toList (⟨#[37, 50, 101]⟩ : ByteArray).data.toList (⟨#[46]⟩ : ByteArray).data.toList).toArray⟩ : ByteArray) = wpB s := by
   have := replaceAll_2e (lowS s).data.toList
   show (⟨(Lib.replaceAll (lowS s).data.toList PT [46]).toArray⟩ : ByteArray) = _
   rw [this]; rfl
  rwa [e] at h2)
 obtain ⟨L, HLl⟩ : ∃ L, Hid (lowS s = L) := ⟨_, Lib.hid rfl⟩
 rw [HLl.out] at HL HRp
 clear hz hm hs
 go_enter Tryz.func86, Tryz.ntmps86
 go_wp2_with fail
 refine HL.out.mono ?_
 rintro e w1 ⟨rfl, b1⟩
 have B1 := Lib.hid b1
 clear b1
 go_wp2_with fail
 refine (HRp.out _ B1.out).mono ?_
 rintro e w2 ⟨rfl, b2⟩
 go_wp2
 go_ret
 exact ⟨rfl, B1.out.trans (b2.mono B1.out.size)⟩

/-- Parts that are there. -/
def PO (base : Nat) (w : World) (v : Value) (S : List ByteArray) : Prop :=
 (v = .slice none 0 0 ∧ S = []) ∨ ∃ g o cap cur, v = .slice (some ⟨g, o, none⟩) S.length cap ∧ base ≤ g ∧ w.heap[g]? = some (.cells cur 9 (0, 0)) ∧ S.length ≤ cap ∧ cap ≤ maxLen ∧ o + cap ≤ cur.size ∧ ∀ j x, S[j]? = some x → cur[o + j]? = some (.string x)
theorem PO.nil (base : Nat) (w : World) : PO base w (.slice none 0 0) [] := .inl ⟨rfl, rfl⟩
theorem PO.shape {base : Nat} {w : World} {v : Value} {S : List ByteArray} (h : PO base w v S) : ∃ a cap, v = .slice a S.length cap ∧ S.length ≤ cap ∧ (∀ q, v.ownBlock = some q → base ≤ q ∧ q < w.heap.size) := by
 rcases h with ⟨rfl, rfl⟩ | ⟨g, o, cap, cur, rfl, hg, hh, h1, _⟩
 ·exact ⟨none, 0, rfl, Nat.le_refl _, fun q hq => by cases hq⟩
 ·exact ⟨_, _, rfl, h1, fun q hq => by injection hq with hq; rw [← hq]; exact ⟨hg, lt_of_block hh⟩⟩
theorem PO.kept {base : Nat} {X : Nat → Prop} {w w' : World} {v : Value} {S : List ByteArray} (h : PO base w v S) (k : Kp X w w') (hX : ∀ q, v.ownBlock = some q → ¬ X q) : PO base w' v S := by
 rcases h with h | ⟨g, o, cap, cur, rfl, hg, hh, r⟩
 ·exact .inl h
 ·exact .inr ⟨g, o, cap, cur, rfl, hg, k.at hh (hX g rfl), r⟩
theorem PO.pop {base : Nat} {w : World} {a : Option Addr} {cap : Nat} {S : List ByteArray} (h : PO base w (.slice a S.length cap) S) : PO base w (.slice a (S.length - 1) cap) S.dropLast := by
 rcases h with ⟨hv, rfl⟩ | ⟨g, o, cap', cur, hv, hg, hh, h1, h2, h3, h4⟩
 ·exact .inl ⟨hv, rfl⟩
 ·injection hv with e1 _ e3
  subst e1 e3
  refine .inr ⟨g, o, cap, cur, by rw [List.length_dropLast], hg, hh, by rw [List.length_dropLast]; omega, h2, h3, fun j x hj => h4 j x ?_⟩
  rw [List.getElem?_dropLast] at hj
  split at hj
  ·exact hj
  ·cases hj
theorem grown_set {w : World} {g o : Nat} {v : Value} : w.grownBy (w.setCell ⟨g, o, none⟩ v) (some g) :=
 ⟨rfl, rfl, rfl, by simp [World.setCell], fun k _ hk => Below.heap_setCell _ _ _ _ (fun e => hk (by rw [e]))⟩
theorem po_app (base : Nat) (v : Value) (S : List ByteArray) (x : ByteArray) (w : World) (q : Nat) (h : PO base w v S) (hq : w.cell? ⟨q, 0, none⟩ = some (.string x)) (hS : S.length ≤ 10000000) (hb : base ≤ w.heap.size) :
  ∃ v' w1, (Builtin.append_ #[45, 45] 45 #[v, .slice (some ⟨q, 0, none⟩) 1 1]).run Tryz.prog w = .ok v' w1 ∧ PO base w1 v' (S ++ [x]) ∧ w.grownBy w1 v.ownBlock ∧ (v'.ownBlock = v.ownBlock ∨ v'.ownBlock = some w.heap.size) := by
 obtain ⟨i0, hi, hz0, hz1, hz2⟩ := info_parts rf_infoS
 have hnews : ∀ j u, [Value.string x][j]? = some u → w.cell? ((⟨q, 0, none⟩ : Addr).add j) = some u := fun j u hj => by
  cases j with
  | zero => rw [← Option.some.inj hj]; exact hq
  | succ j => cases hj
 rcases h with ⟨rfl, rfl⟩ | ⟨g, o, cap, cur, rfl, hg, hh, h1, h2, h3, h4⟩
 ·have hr := run_append_nil (P := Tryz.prog) w 45 45 9 i0 (.string ⟨#[]⟩) Tryz.underlying45 hi hz0 ⟨q, 0, none⟩ 1 1 [.string x] (by rw [hz1]; rfl) hnews (by omega) (by omega) (by rw [hz2]; decide)
  refine ⟨_, _, hr, .inr ⟨w.heap.size, 0, _, _, rfl, hb, heap_alloc_new w.drew _, grownCap_ge w 1 0 _, grownCap_le_maxLen w 1 0 _ (by decide), ?_, fun j y hj => ?_⟩, ⟨rfl, rfl, rfl, by simp, fun k hk _ => Below.heap_alloc w.drew _ k hk⟩, .inr rfl⟩
  ·have hge := grownCap_ge w 1 0 9
   simp only [Array.size_append, List.size_toArray, List.length_singleton, size_zeroCells]
   show 0 + _ ≤ 1 + (_ * 1)
   omega
  ·cases j with
   | zero =>
    rw [← Option.some.inj hj, Array.getElem?_append_left (by simp)]; rfl
   | succ j => cases hj
 ·by_cases hroom : S.length + 1 ≤ cap
  ·have hlt : o + S.length < cur.size := by omega
   have hc : w.cell? ⟨g, o + S.length * i0.size + 0, none⟩ = cur[o + S.length]? := by
    rw [hz1, Nat.mul_one, Nat.add_zero, cell_of_row w _ _ _ _ _ hh]
   have hr := run_append_room_cells (P := Tryz.prog) w 45 45 9 i0 Tryz.underlying45 hi g o S.length cap ⟨q, 0, none⟩ 1 1 [.string x] (by rw [hz1]; rfl) hnews (fun u hu => by rw [List.mem_singleton.1 hu]; rfl) hroom (fun j hj => by
    obtain rfl : j = 0 := by simpa using hj
    rw [hc, Array.getElem?_eq_getElem hlt]; rfl) (fun j hj => by
    obtain rfl : j = 0 := by simpa using hj
    exact frozen_of_row w _ _ _ _ hh)
   refine ⟨_, _, hr, .inr ⟨g, o, cap, cur.setIfInBounds (o + S.length) (.string x), by simp, hg, ?_, by simp; omega, h2, by simp; omega, fun j y hj => ?_⟩, ?_, .inl rfl⟩
   ·rw [hz1, Nat.mul_one]
    exact heap_setCell_same _ _ _ _ _ _ hh
   ·by_cases hjl : j < S.length
    ·rw [List.getElem?_append_left hjl] at hj
     rw [Array.getElem?_setIfInBounds_ne (by omega)]
     exact h4 j y hj
    ·rw [List.getElem?_append_right (by omega)] at hj
     have hj0 : j = S.length := by
      cases hk : j - S.length with
      | zero => omega
      | succ k => rw [hk] at hj; cases hj
     subst hj0
     rw [Nat.sub_self] at hj
     rw [Array.getElem?_setIfInBounds_self_of_lt hlt]
     rw [← Option.some.inj hj]
   ·rw [hz1, Nat.mul_one]
    exact grown_set
  ·have holds : ∀ j u, (S.map Value.string)[j]? = some u → w.cell? ((⟨g, o, none⟩ : Addr).add j) = some u := fun j u hj => by
    rw [List.getElem?_map] at hj
    cases hsj : S[j]? with
    | none => rw [hsj] at hj; cases hj
    | some y =>
     rw [hsj] at hj
     rw [← Option.some.inj hj]
     rw [Addr.add_lit]
     exact (cell_of_row w g (o + j) _ _ _ hh).trans (h4 j y hsj)
   have hr := run_append_grow (P := Tryz.prog) w 45 45 9 i0 (.string ⟨#[]⟩) Tryz.underlying45 hi hz0 ⟨g, o, none⟩ S.length cap (S.map Value.string) (by rw [hz1, List.length_map, Nat.mul_one]) holds ⟨q, 0, none⟩ 1 1 [.string x] (by rw [hz1]; rfl) hnews (by omega) (by omega) (by rw [hz2]; exact growslice_fits (by omega) (by omega))
   refine ⟨_, _, hr, .inr ⟨w.heap.size, 0, _, _, by rw [List.length_append]; rfl, hb, heap_alloc_new w.drew _, by rw [List.length_append]; exact grownCap_ge w (S.length + 1) cap _, grownCap_le_maxLen w (S.length + 1) cap _ (by unfold maxLen; omega), ?_, fun j y hj => ?_⟩, ⟨rfl, rfl, rfl, by simp, fun k hk _ => Below.heap_alloc w.drew _ k hk⟩, .inr rfl⟩
   ·have hge := grownCap_ge w (S.length + 1) cap 9
    simp only [Array.size_append, List.size_toArray, List.length_singleton, List.length_map, size_zeroCells]
    show 0 + _ ≤ S.length + 1 + (_ * 1)
    omega
   ·have hjl : j < S.length + 1 := by
     have := (List.getElem?_eq_some_iff.1 hj).1
     simpa using this
    rw [Nat.zero_add, Array.getElem?_append_left (by simp; omega), List.append_toArray, List.getElem?_toArray]
    have : (S.map Value.string ++ [Value.string x]) = (S ++ [x]).map Value.string := by simp
    rw [this, List.getElem?_map, hj]; rfl

theorem Kp.grownX {X : Nat → Prop} {a w w' : World} {row : Option Nat} (h : Kp X a w) (hg : w.grownBy w' row) (hr : ∀ q, row = some q → X q ∨ a.heap.size ≤ q) : Kp X a w' :=
 ⟨hg.os.trans h.os, hg.tape.trans h.tape, hg.output.trans h.output, Nat.le_trans h.size hg.size, fun k hk hx => (hg.block k (Nat.lt_of_lt_of_le hk h.size) (fun e => by
  rcases hr k e.symm with h1 | h1
  ·exact hx h1
  ·omega)).trans (h.block k hk hx)⟩
theorem slJ_size {B : Nat} : ∀ S : List ByteArray, (∀ x ∈ S, x.size ≤ B) → (slJ S).size ≤ S.length * (B + 1)
 | [], _ => Nat.zero_le _
 | p :: S, h => by
  have h1 := h p List.mem_cons_self
  have h2 := slJ_size S fun x hx => h x (List.mem_cons_of_mem _ hx)
  have e : (slJ (p :: S)).size = 1 + p.size + (slJ S).size := by
   rw [← lenB, ← lenB, ← lenB, slJ_data, slJ_data, List.flatMap_cons, List.length_append, List.length_cons]; omega
  rw [e, List.length_cons, Nat.add_mul]
  omega
/-- The parts that stand while the rest of a path is read. -/
theorem pathB_mem {f : ByteArray → ByteArray} {B : Nat} : ∀ (S P : List ByteArray), (∀ x ∈ S, x.size ≤ B) → (∀ p ∈ P, (f p).size ≤ B) → ∀ x ∈ pathB f S P, x.size ≤ B
 | S, [], h, _ => h
 | S, p :: P, h, hf => by
  have hd : ∀ x ∈ (if ptN p.data.toList = 2 then S.dropLast else S), x.size ≤ B := fun x hx => by
   split at hx
   ·exact h x (List.dropLast_subset S hx)
   ·exact h x hx
  rw [pathB]
  split
  ·exact pathB_mem _ P (fun x hx => by
    rcases List.mem_append.1 hx with hx | hx
    ·exact h x hx
    ·rw [List.mem_singleton.1 hx]; exact hf p List.mem_cons_self) (fun q hq => hf q (List.mem_cons_of_mem _ hq))
  split
  ·intro x hx
   rcases List.mem_append.1 hx with hx | hx
   ·exact hd x hx
   ·rw [List.mem_singleton.1 hx]; exact Nat.zero_le _
  ·exact pathB_mem _ P hd (fun q hq => hf q (List.mem_cons_of_mem _ hq))
theorem encS_le (n : Nat) (s : ByteArray) : (encS n s).size ≤ 3 * s.size := by
 have := encL_len n s.data.toList
 rw [lenB] at this
 exact this
theorem wpB_f1 {s : ByteArray} {n : Nat} (h : ptN s.data.toList = n) : ((wpB s).toList == [46]) = decide (n = 1) ∧ ((wpB s).toList == [46, 46]) = decide (n = 2) := by
 rw [wpB_q1, wpB_q2, h]; exact ⟨rfl, rfl⟩
/-- Where the parts may lie. -/
def PtX (b : Nat) (s : RdS) : Nat → Prop := fun i => i = b ∨ s.parts.ownBlock = some i
/-- Between two parts. -/
structure PathI (b : Nat) (s : RdS) (w : World) (P : List ByteArray) (n0 : Nat) (k : Nat) (S : List ByteArray) (v : Value) (wr : World) : Prop where
 rd : RdAt wr b { s with parts := v }
 po : PO (b + 1) wr v S
 row : wr.heap[w.heap.size]? = some (.cells (P.map Value.string).toArray 9 (0, 0))
 kp : Kp (PtX b s) w wr
 own : v.ownBlock = s.parts.ownBlock ∨ ∃ q, v.ownBlock = some q ∧ w.heap.size < q
 len : S.length ≤ n0 + k
theorem PathI.notRow {b : Nat} {s : RdS} {w : World} {P : List ByteArray} {n0 k : Nat} {S : List ByteArray} {v : Value} {wr : World} (h : PathI b s w P n0 k S v wr) (hP : ∀ q, s.parts.ownBlock = some q → q < w.heap.size) : v.ownBlock ≠ some w.heap.size := fun e => by
 rcases h.own with ho | ⟨q, ho, hq⟩
 ·have := hP w.heap.size (ho.symm.trans e); omega
 ·rw [ho] at e; have := Option.some.inj e; omega
/-- A part is put behind them. -/
theorem PathI.app {b : Nat} {s : RdS} {w : World} {P : List ByteArray} {n0 k : Nat} {S : List ByteArray} {v : Value} {wr w5 : World} (h : PathI b s w P n0 k S v wr) (hb : b < w.heap.size) (hP : ∀ q, s.parts.ownBlock = some q → q < w.heap.size) (hn : n0 + k ≤ 1000000) (h5 : Below wr.heap.size wr w5) (x : ByteArray) :
  ∃ v' w6, (Builtin.append_ #[45, 45] 45 #[v, .slice (some ⟨w5.heap.size, 0, none⟩) 1 1]).run Tryz.prog (w5.alloc (.cells #[.string x] 9)) = .ok v' w6 ∧ (∃ a cap, v' = .slice a (S.length + 1) cap) ∧ RdAt w6 b { s with parts := v } ∧
   PathI b s w P n0 (k + 1) (S ++ [x]) v' (w6.setCell ⟨b, 22, none⟩ v') := by
 have hK5 : Kp (PtX b s) w (w5.alloc (.cells #[.string x] 9)) := (h.kp.trans (Kp.of_below h5)).alloc _
 have hPO : PO (b + 1) (w5.alloc (.cells #[.string x] 9)) v S := h.po.kept (X := fun _ => False) ((Kp.of_below h5).alloc _) (fun _ _ h => h)
 have hrow5 : (w5.alloc (.cells #[.string x] 9)).heap[w.heap.size]? = some (.cells (P.map Value.string).toArray 9 (0, 0)) := ((Kp.of_below (X := fun _ => False) h5).alloc _).at h.row id
 have hrd5 : RdAt (w5.alloc (.cells #[.string x] 9)) b { s with parts := v } := ((Kp.of_below (X := fun _ => False) h5).alloc _).at h.rd id
 have hs5 : w.heap.size ≤ w5.heap.size := Nat.le_trans h.kp.size h5.size
 have hq : (w5.alloc (.cells #[.string x] 9)).cell? ⟨w5.heap.size, 0, none⟩ = some (.string x) := cell_new w5 _ _ _ rfl
 obtain ⟨v', w6, hrun, hpo, hgr, hown⟩ := po_app (b + 1) v S x (w5.alloc (.cells #[.string x] 9)) w5.heap.size hPO hq (by have := h.len; omega) (by rw [World.size_alloc]; omega)
 have hob : ∀ q, v.ownBlock = some q → b + 1 ≤ q := fun q e => by
  obtain ⟨_, _, _, _, h3⟩ := hPO.shape
  exact (h3 q e).1
 have hrd6 : RdAt w6 b { s with parts := v } := (hgr.block b (lt_of_block hrd5) (fun e => by have := hob b e.symm; omega)).trans hrd5
 obtain ⟨a, cap, hv', _, hob'⟩ := hpo.shape
 refine ⟨v', w6, hrun, ⟨a, cap, by rw [hv', List.length_append]; rfl⟩, hrd6, ⟨hrd6.set 22 _ rfl, ?_, ?_, ?_, ?_, ?_⟩⟩
 ·exact hpo.kept (X := Only b) ((Kp.refl _ _).set1 _ _) (fun q hq e => by have := (hob' q hq).1; have : q = b := e; omega)
 ·rw [Below.heap_setCell _ _ _ _ (by show w.heap.size ≠ b; omega)]
  exact (hgr.block w.heap.size (lt_of_block hrow5) (fun e => h.notRow hP e.symm)).trans hrow5
 ·refine (hK5.grownX hgr (fun q hq => ?_)).setCell (p := ⟨b, 22, none⟩) (.inl rfl) _
  rcases h.own with ho | ⟨q', ho, hq'⟩
  ·exact .inl (.inr (ho.symm.trans hq))
  ·rw [ho] at hq
   have := Option.some.inj hq
   exact .inr (by omega)
 ·rcases hown with ho | ho
  ·rw [ho]; exact h.own
  ·exact .inr ⟨_, ho, by rw [World.size_alloc]; omega⟩
 ·rw [List.length_append, List.length_singleton]; have := h.len; omega
theorem PathI.below {b : Nat} {s : RdS} {w : World} {P : List ByteArray} {n0 k : Nat} {S : List ByteArray} {v : Value} {wr w5 : World} (h : PathI b s w P n0 k S v wr) (h5 : Below wr.heap.size wr w5) : PathI b s w P n0 k S v w5 :=
 ⟨h.rd.below h5, h.po.kept (X := fun _ => False) (Kp.of_below h5) (fun _ _ h => h), (Kp.of_below (X := fun _ => False) h5).at h.row id, h.kp.trans (Kp.of_below h5), h.own, h.len⟩
theorem PathI.drew {b : Nat} {s : RdS} {w : World} {P : List ByteArray} {n0 k : Nat} {S : List ByteArray} {v : Value} {wr : World} (h : PathI b s w P n0 k S v wr) : PathI b s w P n0 k S v wr.drew := h.below ((Below.refl wr.heap.size wr).drew)
theorem PathI.skip {b : Nat} {s : RdS} {w : World} {P : List ByteArray} {n0 k : Nat} {S : List ByteArray} {v : Value} {wr : World} (h : PathI b s w P n0 k S v wr) : PathI b s w P n0 (k + 1) S v wr :=
 ⟨h.rd, h.po, h.row, h.kp, h.own, by have := h.len; omega⟩
theorem PathI.pop {b : Nat} {s : RdS} {w : World} {P : List ByteArray} {n0 k : Nat} {S : List ByteArray} {a : Option Addr} {cap : Nat} {wr : World} (h : PathI b s w P n0 k S (.slice a S.length cap) wr) (hb : b < w.heap.size) : PathI b s w P n0 k S.dropLast (.slice a (S.length - 1) cap) (wr.setCell ⟨b, 22, none⟩ (.slice a (S.length - 1) cap)) := by
 have hp := h.po.pop
 obtain ⟨_, _, _, _, hob⟩ := hp.shape
 refine ⟨h.rd.set 22 _ rfl, hp.kept (X := Only b) ((Kp.refl _ _).set1 _ _) (fun q hq e => ?_), ?_, h.kp.setCell (p := ⟨b, 22, none⟩) (.inl rfl) _, ?_, ?_⟩
 ·have := (hob q hq).1
  have : q = b := e
  omega
 ·rw [Below.heap_setCell _ _ _ _ (by show w.heap.size ≠ b; omega)]; exact h.row
 ·rcases h.own with ho | ⟨q, ho, hq⟩
  ·exact .inl (by rw [← ho]; cases a <;> rfl)
  ·exact .inr ⟨q, by rw [← ho]; cases a <;> rfl, hq⟩
 ·rw [List.length_dropLast]; have := h.len; omega
theorem Rw.kpX {b : Nat} {X : Nat → Prop} {w w' : World} (h : Rw b w) (k : Kp X w w') (hX : ∀ j, X j → b ≤ j) : Rw b w' := by
 obtain ⟨w0, h0, hl, hb⟩ := h
 exact ⟨w0, h0, hl, hb.trans (k.below hb.size (fun j hj => by have := hX j hj; omega))⟩
theorem pathB_0 {f : ByteArray → ByteArray} {S P : List ByteArray} {p : ByteArray} (h : ptN p.data.toList = 0) : pathB f S (p :: P) = pathB f (S ++ [f p]) P := by rw [pathB, if_pos h]
theorem pathB_1 {f : ByteArray → ByteArray} {S P : List ByteArray} {p : ByteArray} (h : ptN p.data.toList = 1) (hP : P.length ≠ 0) : pathB f S (p :: P) = pathB f S P := by rw [pathB, if_neg (by omega), if_neg hP, if_neg (by omega)]
theorem pathB_1l {f : ByteArray → ByteArray} {S P : List ByteArray} {p : ByteArray} (h : ptN p.data.toList = 1) (hP : P.length = 0) : pathB f S (p :: P) = pathB f (S ++ [⟨#[]⟩]) P := by
 rw [pathB, if_neg (by omega), if_pos hP, if_neg (by omega), List.eq_nil_of_length_eq_zero hP]; rfl
theorem pathB_2 {f : ByteArray → ByteArray} {S P : List ByteArray} {p : ByteArray} (h : ptN p.data.toList = 2) (hP : P.length ≠ 0) : pathB f S (p :: P) = pathB f S.dropLast P := by rw [pathB, if_neg (by omega), if_neg hP, if_pos h]
theorem pathB_2l {f : ByteArray → ByteArray} {S P : List ByteArray} {p : ByteArray} (h : ptN p.data.toList = 2) (hP : P.length = 0) : pathB f S (p :: P) = pathB f (S.dropLast ++ [⟨#[]⟩]) P := by
 rw [pathB, if_neg (by omega), if_pos hP, if_pos h, List.eq_nil_of_length_eq_zero hP]; rfl

end Go.Proofs.YtcphokaamkalfaaGreatDoor
namespace Go.Proofs.YtcphokaamkalfaaGreatDoor
open Go.RowKit

set_option maxRecDepth 100000 in
set_option maxHeartbeats 8000000 in
theorem cutPath_any (b : Nat) (s : RdS) (S0 : List ByteArray) (w : World) (h : RdAt w b s) (hs : s.rest.size ≤ 9000) (hW : Rw b w) (hP : PO (b + 1) w s.parts S0) (hS0 : S0.length ≤ 9000) (hSB : ∀ x ∈ S0, x.size ≤ 27000) :
  Calls Tryz.prog 52 #[.pointer (some ⟨b, 0, none⟩)] w fun e w' => e = .returned (.tuple #[]) ∧ (∃ v, RdAt w' b { s with u := { s.u with pth := slJ (pathB (encS 4) S0 (rawB 47 s.rest)) }, parts := v }) ∧ Kp (PtX b s) w w' := by
 have hblt := h.lt
 have c1 := h.cell 20 (v := .string s.rest) rfl
 have HPo : Hid (∀ q, s.parts.ownBlock = some q → b + 1 ≤ q ∧ q < w.heap.size) := Lib.hid (fun q e => by
  obtain ⟨_, _, _, _, h3⟩ := hP.shape
  exact h3 q e)
 obtain ⟨m, hm⟩ := hW.hw.ml
 obtain ⟨P, HP⟩ : ∃ P, Hid (rawB 47 s.rest = P) := ⟨_, Lib.hid rfl⟩
 have hPn : P.length ≤ 9001 := by rw [← HP.out]; have := rawB_count 47 s.rest; omega
 have HPs : Hid (∀ p ∈ P, p.size ≤ 9000) := Lib.hid (fun p hp => by rw [← HP.out] at hp; have := (rawB_mem 47 s.rest p hp).1; omega)
 have HPne : Hid (P ≠ []) := Lib.hid (by rw [← HP.out]; exact rawB_ne 47 s.rest)
 rw [HP.out]
 obtain ⟨L, HL⟩ : ∃ L, Hid (pathB (encS 4) S0 P = L) := ⟨_, Lib.hid rfl⟩
 have HLB : Hid (∀ x ∈ L, x.size ≤ 27000) := Lib.hid (by
  rw [← HL.out]
  exact pathB_mem S0 P hSB (fun p hp => by have := encS_le 4 p; have := HPs.out p hp; omega))
 have HLn : Hid (L ≠ [] ∧ L.length ≤ 18001) := Lib.hid (by
  rw [← HL.out]
  refine ⟨pathB_ne _ _ _ (.inl HPne.out), ?_⟩
  have := pathB_len (encS 4) S0 P
  omega)
 rw [HL.out]
 obtain ⟨n, HN⟩ : ∃ n, Hid (P.length = n) := ⟨_, Lib.hid rfl⟩
 rw [HN.out] at hPn
 have HSp : Hid (Calls Tryz.prog 85 #[.string s.rest, .string ⟨#[47]⟩] w fun e w' => e = .returned (.slice (some ⟨w.heap.size, 0, none⟩) n n) ∧ w' = w.alloc (.cells (P.map Value.string).toArray 9)) := Lib.hid (by
  have := Tryz.strings_Split s.rest ⟨#[47]⟩ m w (by omega) hm (Nat.le_refl 1)
  rw [show Lib.splitB ⟨#[47]⟩ 0 (Lib.countB s.rest ⟨#[47]⟩) s.rest = P from HP.out, show Lib.countB s.rest ⟨#[47]⟩ + 1 = n by rw [← rawB_len, HP.out, HN.out]] at this
  exact this)
 have HX : Hid (∀ j, PtX b s j → b ≤ j) := Lib.hid (fun j hj => by
  rcases hj with rfl | hj
  ·exact Nat.le_refl _
  ·have := (HPo.out j hj).1; omega)
 have HWP : Hid (∀ (p : ByteArray) (wq : World), p.size ≤ 9000 → Kp (PtX b s) w wq → Calls Tryz.prog 86 #[.string p] wq fun e w' => e = .returned (.string (wpB p)) ∧ Below wq.heap.size wq w') := Lib.hid (fun p wq hp K => by
  obtain ⟨m', hm'⟩ := (hW.kpX K HX.out).hw.ml
  exact withPoints_any p m' wq (by omega) hm')
 have HEn : Hid (∀ (p : ByteArray) (wq : World), p.size ≤ 9000 → Calls Tryz.prog 45 #[.string p, .int .u8 4] wq fun e w' => e = .returned (.string (encS 4 p)) ∧ Below wq.heap.size wq w') := Lib.hid (fun p wq hp => Encode_any p 4 wq (by omega) (by decide))
 obtain ⟨n0, Hn0⟩ : ∃ n, Hid (S0.length = n) := ⟨_, Lib.hid rfl⟩
 rw [Hn0.out] at hS0
 have HI0 : Hid (PathI b s w P n0 0 S0 s.parts (w.alloc (.cells (P.map Value.string).toArray 9))) := Lib.hid
  ⟨((Kp.refl (fun _ => False) w).alloc _).at h id, hP.kept ((Kp.refl (fun _ => False) w).alloc _) (fun _ _ h => h), heap_alloc_new w _, (Kp.refl _ w).alloc _, .inl rfl, by rw [← Hn0.out]; exact Nat.le_refl _⟩
 clear hm hW hP hSB hs h
 go_enter Tryz.func52, Tryz.ntmps52
 go_wp2_with fail
 refine HSp.out.mono ?_
 rintro e w1 ⟨rfl, rfl⟩
 clear c1
 go_wp2
 go_loopw [3, 4, 5, 13] (fun _ _ _ i wr => ∃ (k : Nat) (S : List ByteArray) (v : Value), k ≤ n ∧ i = .int .i64 k ∧ Hid (pathB (encS 4) S (P.drop k) = L) ∧ Hid (PathI b s w P n0 k S v wr)) (fun _ _ _ i _ => n - (intOf i).toNat)
 case atStart => exact ⟨0, S0, s.parts, Nat.zero_le _, rfl, Lib.hid (by rw [List.drop_zero]; exact HL.out), HI0⟩
 case round =>
  obtain ⟨k, S, v, hk, rfl, HEq, HI⟩ := hrel
  by_cases hlt : k < n
  ·have hkl : k < P.length := by rw [HN.out]; exact hlt
   obtain ⟨p, Hp⟩ : ∃ p, Hid (P[k] = p) := ⟨_, Lib.hid rfl⟩
   have hps : p.size ≤ 9000 := HPs.out p (by rw [← Hp.out]; exact List.getElem_mem hkl)
   have cp : wr.cell? ⟨w.heap.size, k, none⟩ = some (.string p) := by
    rw [cell_of_row wr _ _ _ _ _ HI.out.row, List.getElem?_toArray, List.getElem?_map, List.getElem?_eq_getElem hkl, Hp.out]; rfl
   have HEq1 : Hid (pathB (encS 4) S (p :: P.drop (k + 1)) = L) := Lib.hid (by rw [← HEq.out, List.drop_eq_getElem_cons hkl, Hp.out])
   have hdl : (P.drop (k + 1)).length = n - (k + 1) := by rw [List.length_drop, HN.out]
   have HDl := Lib.hid hdl
   clear hdl Hp hkl
   obtain ⟨a, cap, rfl, hle, hob⟩ := HI.out.po.shape
   have HOb := Lib.hid hob
   clear hob
   have hcap := hle
   go_wp2_with fail
   refine (HWP.out p wr hps HI.out.kp).mono ?_
   rintro e w2 ⟨rfl, b2⟩
   have HI2 := Lib.hid (HI.out.below b2)
   have c22 := HI2.out.rd.cell 22 (v := .slice a S.length cap) rfl
   have f22 := HI2.out.rd.free 22
   clear b2 cp
   obtain ⟨N, HNn⟩ : ∃ N, Hid (ptN p.data.toList = N) := ⟨_, Lib.hid rfl⟩
   have hN := ptN_le p.data.toList
   obtain ⟨q1, q2⟩ := wpB_f1 HNn.out
   rw [HNn.out] at hN
   obtain ⟨T, HT⟩ : ∃ T, Hid (wpB p = T) := ⟨_, Lib.hid rfl⟩
   rw [HT.out] at q1 q2 ⊢
   rcases (show N = 0 ∨ N = 1 ∨ N = 2 by omega) with rfl | rfl | rfl
   ·rw [decide_eq_false (by decide)] at q1 q2
    have HCe : Hid (∀ wq : World, Calls Tryz.prog 45 #[.string p, .int .u8 4] wq fun e w' => e = .returned (.string (encS 4 p)) ∧ Below wq.heap.size wq w') := Lib.hid (fun wq => HEn.out p wq hps)
    have HEq2 : Hid (pathB (encS 4) (S ++ [encS 4 p]) (P.drop (k + 1)) = L) := Lib.hid (by rw [← HEq1.out, pathB_0 HNn.out])
    obtain ⟨E, HE⟩ : ∃ E, Hid (encS 4 p = E) := ⟨_, Lib.hid rfl⟩
    rw [HE.out] at HCe HEq2
    have hb0 : n0 + k ≤ 1000000 := by omega
    clear hN HNn HE
    go_wp2
    go_region_law (first
     | (refine step_append_run _ rfl _ _ _ _ rfl _ _ rfl rfl _ _ HRun.out ?_)
     | (go_simp; go_at_call 45; (with_reducible refine (HCe.out _).mono ?_); rintro e w5 ⟨rfl, b5⟩; (have b5' : Below w2.heap.size w2 w5 := by first | exact b5 | exact (Below.refl w2.heap.size w2).drew.trans b5); (obtain ⟨v', w6, hrun, ⟨a', cap', rfl⟩, hrd6, hI6⟩ := HI2.out.app hblt (fun q e => (HPo.out q e).2) hb0 b5' E); have HRun := Lib.hid hrun; have c5 := (HI2.out.below b5').rd.cell 22 (v := .slice a S.length cap) rfl; have cA : (w5.alloc (.cells #[.string E] 9)).cell? ⟨b, 22, none⟩ = some (.slice a S.length cap) := cell_old _ c5; have c6 := hrd6.cell 22 (v := .slice a S.length cap) rfl; have f6 := hrd6.free 22; have HI6 := Lib.hid hI6; clear hrun hrd6 hI6 b5 b5'))
    all_goals
     go_wp2
     exact ⟨⟨k + 1, _, _, by omega, by go_num, HEq2, HI6⟩, by simp [intOf]; omega⟩
   ·rw [decide_eq_true rfl] at q1
    rw [decide_eq_false (by decide)] at q2
    clear hN
    by_cases hlast : k + 1 = n
    ·have hI : ((k : Int) == (n : Int) - 1) = true := by rw [beq_iff_eq]; omega
     obtain ⟨v', w6, hrun, ⟨a', cap', rfl⟩, hrd6, hI6⟩ := HI2.out.app hblt (fun q e => (HPo.out q e).2) (by omega) (Below.refl _ _) (⟨#[]⟩ : ByteArray)
     have HRun := Lib.hid hrun
     have c6 := hrd6.cell 22 (v := .slice a S.length cap) rfl
     have f6 := hrd6.free 22
     have HI6 := Lib.hid hI6
     have HEq2 : Hid (pathB (encS 4) (S ++ [⟨#[]⟩]) (P.drop (k + 1)) = L) := Lib.hid (by rw [← HEq1.out, pathB_1l HNn.out (by rw [HDl.out]; omega)])
     clear hrun hrd6 hI6
     go_wp2_with (at_builtin; refine Lib.wpList_append_run _ rfl _ _ _ _ rfl _ _ rfl rfl _ _ HRun.out ?_)
     exact ⟨⟨k + 1, _, _, by omega, by go_num, HEq2, HI6⟩, by simp [intOf]; omega⟩
    ·have hI : ((k : Int) == (n : Int) - 1) = false := beq_eq_false_iff_ne.2 (by omega)
     have HEq2 : Hid (pathB (encS 4) S (P.drop (k + 1)) = L) := Lib.hid (by rw [← HEq1.out, pathB_1 HNn.out (by rw [HDl.out]; omega)])
     go_wp2
     exact ⟨⟨k + 1, _, _, by omega, by go_num, HEq2, Lib.hid HI2.out.skip⟩, by simp [intOf]; omega⟩
   ·rw [decide_eq_false (by decide)] at q1
    rw [decide_eq_true rfl] at q2
    clear hN
    have hsn : S.length ≤ 18001 := by have := HI2.out.len; omega
    have HP2 := Lib.hid (HI2.out.pop hblt).drew
    obtain ⟨q, Hq⟩ : ∃ q, Hid (S.length - 1 = q) := ⟨_, Lib.hid rfl⟩
    rw [Hq.out] at HP2
    have hm3 : max ((S.length : Int) - 1) 0 = (q : Int) := by rw [← Hq.out]; omega
    have hqc : (q : Int) ≤ (cap : Int) := by rw [← Hq.out]; omega
    go_wp2
    go_region
    have hsd : S.dropLast.length = q := by rw [List.length_dropLast]; exact Hq.out
    by_cases hlast : k + 1 = n
    ·have hI : ((k : Int) == (n : Int) - 1) = true := by rw [beq_iff_eq]; omega
     obtain ⟨v', w6, hrun, ⟨a', cap', rfl⟩, hrd6, hI6⟩ := HP2.out.app hblt (fun q e => (HPo.out q e).2) (by omega) (Below.refl _ _) (⟨#[]⟩ : ByteArray)
     rw [hsd] at hrun hI6
     have HRun := Lib.hid hrun
     have c7 := HP2.out.rd.cell 22 (v := .slice a q cap) rfl
     have c6 := hrd6.cell 22 (v := .slice a q cap) rfl
     have f6 := hrd6.free 22
     have HI6 := Lib.hid hI6
     have HEq2 : Hid (pathB (encS 4) (S.dropLast ++ [⟨#[]⟩]) (P.drop (k + 1)) = L) := Lib.hid (by rw [← HEq1.out, pathB_2l HNn.out (by rw [HDl.out]; omega)])
     clear hrun hrd6 hI6 hm3 hsd hle hcap
     obtain ⟨W2, HW2⟩ : ∃ W, Hid ((w2.setCell ⟨b, 22, none⟩ (.slice a q cap)).drew = W) := ⟨_, Lib.hid rfl⟩
     rw [HW2.out] at HRun c7 ⊢
     go_wp2_with (at_builtin; refine Lib.wpList_append_run _ rfl _ _ _ _ rfl _ _ rfl rfl _ _ HRun.out ?_)
     exact ⟨⟨k + 1, _, _, by omega, by go_num, HEq2, HI6⟩, by simp [intOf]; omega⟩
    ·have hI : ((k : Int) == (n : Int) - 1) = false := beq_eq_false_iff_ne.2 (by omega)
     have HEq2 : Hid (pathB (encS 4) S.dropLast (P.drop (k + 1)) = L) := Lib.hid (by rw [← HEq1.out, pathB_2 HNn.out (by rw [HDl.out]; omega)])
     go_wp2
     exact ⟨⟨k + 1, _, _, by omega, by go_num, HEq2, Lib.hid HP2.out.skip⟩, by simp [intOf]; omega⟩
  ·obtain rfl : k = n := by omega
   obtain rfl : S = L := by
    have := HEq.out
    rwa [List.drop_eq_nil_of_le (by rw [HN.out]; exact Nat.le_refl _)] at this
   obtain ⟨hLne, hLn⟩ := HLn.out
   rcases HI.out.po with ⟨rfl, hnil⟩ | ⟨g, o, cap, cur, rfl, hg, hh, h1, h2, h3, h4⟩
   ·exact absurd hnil hLne
   ·have hsz := slJ_size S HLB.out
    have hjoin := slJ_join S hLne
    have hjl : (Lib.join (S.map (·.data.toList)) [47]).length + 1 = (slJ S).size := by rw [← lenB, ← hjoin]; rfl
    have hjb : (slJ S).size ≤ 18001 * 27001 := Nat.le_trans hsz (Nat.mul_le_mul_right _ hLn)
    have HJ : Hid (Calls Tryz.prog 87 #[.slice (some ⟨g, o, none⟩) S.length cap, .string ⟨#[47]⟩] wr fun e w' => e = .returned (.string ⟨(Lib.join (S.map (·.data.toList)) [47]).toArray⟩) ∧ Below wr.heap.size wr w') := Lib.hid
     (Tryz.strings_Join g o cap S ⟨#[47]⟩ wr (fun j x hj => (cell_of_row wr g (o + j) _ _ _ hh).trans (h4 j x hj)) (lt_of_block hh) (by omega) h1 (by show (Lib.join (S.map (·.data.toList)) [47]).length ≤ _; omega))
    obtain ⟨J, HJj⟩ : ∃ J : ByteArray, Hid ((⟨(Lib.join (S.map (·.data.toList)) [47]).toArray⟩ : ByteArray) = J) := ⟨_, Lib.hid rfl⟩
    have hJs : J.size + 1 = (slJ S).size := by rw [← HJj.out, ← hjl]; rfl
    have HR : Hid ((⟨#[47]⟩ : ByteArray) ++ J = slJ S) := Lib.hid (by
     apply ByteArray.ext; apply Array.toList_inj.1
     rw [ByteArray.data_append, Array.toList_append, ← hjoin, ← HJj.out]; rfl)
    rw [HJj.out] at HJ
    have z1 : ¬ 9223372036854775807 < 1 + J.size := by omega
    have c22 := HI.out.rd.cell 22 (v := .slice (some ⟨g, o, none⟩) S.length cap) rfl
    clear hsz hjoin hjl hjb hJs HJj hh h1 h2 h3 h4 hg hLne hLn
    go_wp2_with fail
    refine HJ.out.mono ?_
    rintro e w2 ⟨rfl, b2⟩
    have HI2 := Lib.hid (HI.out.below b2)
    have c5 := HI2.out.rd.cell 5 (v := .string s.u.pth) rfl
    have f5 := HI2.out.rd.free 5
    clear b2 c22
    go_wp2
    rw [HR.out]
    go_end0
    exact ⟨rfl, ⟨_, HI2.out.rd.set 5 _ rfl⟩, HI2.out.kp.setCell (p := ⟨b, 5, none⟩) (.inl rfl) _⟩

end Go.Proofs.YtcphokaamkalfaaGreatDoor
namespace Go.Proofs.YtcphokaamkalfaaGreatDoor
open Go.RowKit

def takePlaceS (s : RdS) : RdS := { s with u := { s.u with usr := s.b.usr, pas := s.b.pas, hst := s.b.hst, prt := s.b.prt } }
set_option maxRecDepth 100000 in
set_option maxHeartbeats 4000000 in
theorem takePlace_any (b : Nat) (s : RdS) (w : World) (h : RdAt w b s) :
  Calls Tryz.prog 53 #[.pointer (some ⟨b, 0, none⟩)] w (CutC w b (.ok (takePlaceS s))) := by
 have c1 := h.cell 11 (v := .string s.b.usr) rfl
 have c2 := h.cell 12 (v := .string s.b.pas) rfl
 have c3 := h.cell 13 (v := .string s.b.hst) rfl
 have c4 := h.cell 14 (v := .int .i64 s.b.prt) rfl
 have f1 := h.free 1
 have f2 := h.free 2
 have f3 := h.free 3
 have f4 := h.free 4
 have d1 := h.cell 1 (v := .string s.u.usr) rfl
 have d2 := h.cell 2 (v := .string s.u.pas) rfl
 have d3 := h.cell 3 (v := .string s.u.hst) rfl
 have d4 := h.cell 4 (v := .int .i64 s.u.prt) rfl
 have HR := Lib.hid h
 clear h
 unfold takePlaceS
 obtain ⟨v1, H1⟩ : ∃ v, Hid (s.b.usr = v) := ⟨_, Lib.hid rfl⟩
 obtain ⟨v2, H2⟩ : ∃ v, Hid (s.b.pas = v) := ⟨_, Lib.hid rfl⟩
 obtain ⟨v3, H3⟩ : ∃ v, Hid (s.b.hst = v) := ⟨_, Lib.hid rfl⟩
 obtain ⟨v4, H4⟩ : ∃ v, Hid (s.b.prt = v) := ⟨_, Lib.hid rfl⟩
 rw [H1.out] at c1
 rw [H2.out] at c2
 rw [H3.out] at c3
 rw [H4.out] at c4
 rw [H1.out, H2.out, H3.out, H4.out]
 go_enter Tryz.func53, Tryz.ntmps53
 go_wp2
 go_region
 all_goals (
  go_wp2
  go_end0
  exact ⟨⟨rfl, (((HR.out.set (s' := { s with u := { s.u with usr := v1 } }) 1 _ rfl).set (s' := { s with u := { s.u with usr := v1, pas := v2 } }) 2 _ rfl).set (s' := { s with u := { s.u with usr := v1, pas := v2, hst := v3 } }) 3 _ rfl).set 4 _ rfl⟩, (((((Kp.refl _ _).set1 _ _).set1 _ _).set1 _ _).set1 _ _).drew⟩)

def takePathS (s : RdS) : RdS := if s.u.hq = true then { s with u := { s.u with pth := s.b.pth } } else { s with u := { s.u with pth := s.b.pth, qry := s.b.qry, hq := s.b.hq } }
set_option maxRecDepth 100000 in
set_option maxHeartbeats 4000000 in
theorem takePath_any (b : Nat) (s : RdS) (w : World) (h : RdAt w b s) :
  Calls Tryz.prog 55 #[.pointer (some ⟨b, 0, none⟩)] w (CutC w b (.ok (takePathS s))) := by
 have c1 := h.cell 15 (v := .string s.b.pth) rfl
 have f1 := h.free 5
 have d1 := h.cell 5 (v := .string s.u.pth) rfl
 have HR := Lib.hid h
 unfold takePathS
 obtain ⟨v1, H1⟩ : ∃ v, Hid (s.b.pth = v) := ⟨_, Lib.hid rfl⟩
 rw [H1.out] at c1 ⊢
 by_cases hq : s.u.hq = true
 ·rw [if_pos hq]
  have c2 := h.cell 7 (v := .bool s.u.hq) rfl
  rw [hq] at c2
  clear h hq
  go_enter Tryz.func55, Tryz.ntmps55
  go_wp2
  go_end0
  exact ⟨⟨rfl, HR.out.set (s' := { s with u := { s.u with pth := v1 } }) 5 _ rfl⟩, (Kp.refl _ _).set1 _ _⟩
 ·rw [if_neg hq]
  have c2 := h.cell 7 (v := .bool s.u.hq) rfl
  rw [Bool.eq_false_iff.2 hq] at c2
  have c3 := h.cell 16 (v := .string s.b.qry) rfl
  have c4 := h.cell 17 (v := .bool s.b.hq) rfl
  have f3 := h.free 6
  have f4 := h.free 7
  have d3 := h.cell 6 (v := .string s.u.qry) rfl
  obtain ⟨v3, H3⟩ : ∃ v, Hid (s.b.qry = v) := ⟨_, Lib.hid rfl⟩
  obtain ⟨v4, H4⟩ : ∃ v, Hid (s.b.hq = v) := ⟨_, Lib.hid rfl⟩
  rw [H3.out] at c3
  rw [H4.out] at c4
  rw [H3.out, H4.out]
  clear h hq
  go_enter Tryz.func55, Tryz.ntmps55
  go_wp2
  go_region
  all_goals (
   go_wp2
   go_end0
   exact ⟨⟨rfl, ((HR.out.set (s' := { s with u := { s.u with pth := v1 } }) 5 _ rfl).set (s' := { s with u := { s.u with pth := v1, qry := v3 } }) 6 _ rfl).set 7 _ rfl⟩, ((((Kp.refl _ _).set1 _ _).set1 _ _).set1 _ _).drew⟩)

/-- The parts of a base's path but the last one, and what stands ahead of its first slash. -/
def bparts (p : ByteArray) : List ByteArray := (rawB 47 p).tail.dropLast
set_option maxRecDepth 100000 in
set_option maxHeartbeats 4000000 in
theorem takeParts_any (b : Nat) (s : RdS) (w : World) (h : RdAt w b s) (hs : s.b.pth.size ≤ 9000) (h2 : 2 ≤ (rawB 47 s.b.pth).length) (hW : Rw b w) :
  Calls Tryz.prog 54 #[.pointer (some ⟨b, 0, none⟩)] w fun e w' => e = .returned (.tuple #[]) ∧ (∃ v, RdAt w' b { s with parts := v } ∧ PO w.heap.size w' v (bparts s.b.pth)) ∧ Kp (Only b) w w' := by
 have c1 := h.cell 15 (v := .string s.b.pth) rfl
 have hblt := h.lt
 obtain ⟨m, hm⟩ := hW.hw.ml
 unfold bparts
 obtain ⟨P, HP⟩ : ∃ P, Hid (rawB 47 s.b.pth = P) := ⟨_, Lib.hid rfl⟩
 have hPn : P.length ≤ 9001 := by rw [← HP.out]; have := rawB_count 47 s.b.pth; omega
 obtain ⟨q, HQ⟩ : ∃ q, Hid (P.length = q + 2) := ⟨P.length - 2, Lib.hid (by rw [HP.out] at h2; omega)⟩
 have HSp : Hid (Calls Tryz.prog 85 #[.string s.b.pth, .string ⟨#[47]⟩] w fun e w' => e = .returned (.slice (some ⟨w.heap.size, 0, none⟩) (q + 2) (q + 2)) ∧ w' = w.alloc (.cells (P.map Value.string).toArray 9)) := Lib.hid (by
  have := Tryz.strings_Split s.b.pth ⟨#[47]⟩ m w (by omega) hm (Nat.le_refl 1)
  rw [show Lib.splitB ⟨#[47]⟩ 0 (Lib.countB s.b.pth ⟨#[47]⟩) s.b.pth = P from HP.out, show Lib.countB s.b.pth ⟨#[47]⟩ + 1 = q + 2 by rw [← rawB_len, HP.out, HQ.out]] at this
  exact this)
 rw [HP.out]
 rw [HQ.out] at hPn
 have HL : Hid (P.tail.dropLast.length = q) := Lib.hid (by rw [List.length_dropLast, List.length_tail, HQ.out]; omega)
 have HPO : Hid (∀ w' : World, w'.heap[w.heap.size]? = some (.cells (P.map Value.string).toArray 9 (0, 0)) → PO w.heap.size w' (.slice (some ⟨w.heap.size, 1, none⟩) q (q + 1)) P.tail.dropLast) := Lib.hid (fun w' h' => by
  refine .inr ⟨w.heap.size, 1, q + 1, _, by rw [HL.out], Nat.le_refl _, h', by rw [HL.out]; omega, by unfold maxLen; omega, ?_, fun j x hj => ?_⟩
  ·show 1 + (q + 1) ≤ (P.map Value.string).length
   rw [List.length_map, HQ.out]; omega
  ·have hj' : P[1 + j]? = some x := by
    rw [List.getElem?_dropLast] at hj
    split at hj
    ·rw [List.getElem?_tail] at hj; rwa [Nat.add_comm]
    ·cases hj
   rw [List.getElem?_toArray, List.getElem?_map, hj']; rfl)
 have HR1 : Hid (RdAt (w.alloc (.cells (P.map Value.string).toArray 9)) b s) := Lib.hid (((Kp.refl (fun _ => False) w).alloc _).at h id)
 have G1 : Hid ((w.alloc (.cells (P.map Value.string).toArray 9)).heap[w.heap.size]? = some (.cells (P.map Value.string).toArray 9 (0, 0))) := Lib.hid (heap_alloc_new w _)
 obtain ⟨W1, HW1⟩ : ∃ W, Hid (w.alloc (.cells (P.map Value.string).toArray 9) = W) := ⟨_, Lib.hid rfl⟩
 have K1 : Hid (Kp (Only b) w W1) := Lib.hid (by rw [← HW1.out]; exact (Kp.refl _ w).alloc _)
 rw [HW1.out] at HSp HR1 G1
 have c22 := HR1.out.cell 22 (v := s.parts) rfl
 have f22 := HR1.out.free 22
 have hq0 : (1 : Int) ≤ (q : Int) + 1 := by omega
 clear hm hW hs h h2 HP HQ
 go_enter Tryz.func54, Tryz.ntmps54
 go_wp2_with fail
 refine HSp.out.mono ?_
 rintro e w1 ⟨rfl, rfl⟩
 clear c1
 go_wp2
 go_end0
 exact ⟨rfl, ⟨_, HR1.out.set 22 _ rfl, HPO.out _ (by rw [Below.heap_setCell _ _ _ _ (by first | (show w.heap.size ≠ b; omega) | (show b ≠ w.heap.size; omega))]; exact G1.out)⟩, K1.out.set1 _ _⟩

end Go.Proofs.YtcphokaamkalfaaGreatDoor
namespace Go.Proofs.YtcphokaamkalfaaGreatDoor
open Go.RowKit

/-- How many slashes a reader's rest begins with. -/
def aheadN (s : RdS) : Nat := s.rest.size - (Lib.trimLeftB s.rest.data.toList 47).length
/-- A new row of the reader's methods. -/
def FunRow (w : World) (b : Nat) (l : List Nat) (e : Ending) (w' : World) : Prop :=
 ∃ g, e = .returned (.slice (some ⟨g, 0, none⟩) l.length l.length) ∧ w.heap.size ≤ g ∧ w'.heap[g]? = some (.cells (l.map fun f => Value.func (.func f) #[.pointer (some ⟨b, 0, none⟩)] #[]).toArray 1 (0, 0)) ∧ Below w.heap.size w w'
theorem below_drewN {k : Nat} {w w1 : World} (h : Below k w w1) (n : Nat) : Below k w (w1.drewN n) := ⟨h.os, h.tape, h.output, h.size, h.block⟩
def cutsA : List Nat := [47, 48, 49, 50, 51, 52]
def cutsB : List Nat := [47, 53, 52]
def cutsC : List Nat := [53, 54, 52]
def cutsD : List Nat := [53, 55]
def cutsS (s : RdS) : List Nat := if s.u.sch ≠ s.b.sch ∨ 2 ≤ aheadN s then cutsA else if 0 < aheadN s then cutsB else if s.rest.size ≠ 0 then cutsC else cutsD
set_option maxRecDepth 100000 in
set_option maxHeartbeats 4000000 in
theorem cutsOfRest_any (b : Nat) (s : RdS) (w : World) (h : RdAt w b s) (hs : s.rest.size ≤ 9000000) :
  Calls Tryz.prog 30 #[.pointer (some ⟨b, 0, none⟩)] w (FunRow w b (cutsS s)) := by
 have hmf := mkfK
 have HR := Lib.hid h
 have HQ : Hid (∀ p : BW w, Calls Tryz.prog 46 #[.string s.rest, .string ⟨#[47]⟩] p.w fun e w'' => e = .returned (.string ⟨(Lib.trimLeftB s.rest.data.toList 47).toArray⟩) ∧ Below p.w.heap.size p.w w'') := Lib.hid (fun p =>
  (Tryz.strings_TrimLeft_one s.rest 47 (by decide) p.w).mono fun _ _ ⟨h1, h2⟩ => ⟨h1, by rw [h2]; exact Below.refl _ _⟩)
 have hq20 : ∀ p : BW w, p.w.cell? ⟨b, 20, none⟩ = some (.string s.rest) := fun p => by
  have := HR.out.below p.h
  exact this.cell 20 rfl
 have hle : (Lib.trimLeftB s.rest.data.toList 47).length ≤ s.rest.size := by
  have := (List.dropWhile_sublist (p := fun c => c == (47 : UInt8)) (l := s.rest.data.toList)).length_le
  rw [lenB] at this; exact this
 have HA := Lib.hid (show aheadN s = s.rest.size - (Lib.trimLeftB s.rest.data.toList 47).length from rfl)
 obtain ⟨R, HRr⟩ : ∃ r, Hid ((⟨(Lib.trimLeftB s.rest.data.toList 47).toArray⟩ : ByteArray) = r) := ⟨_, Lib.hid rfl⟩
 rw [show (Lib.trimLeftB s.rest.data.toList 47).length = R.size by rw [← HRr.out]; rfl] at hle HA
 rw [HRr.out] at HQ
 obtain ⟨a, Ha⟩ : ∃ a, Hid (aheadN s = a) := ⟨_, Lib.hid rfl⟩
 rw [Ha.out] at HA
 have hz : (s.rest.size : Int) - (R.size : Int) = (a : Int) := by rw [HA.out]; omega
 have HC := Lib.hid (show cutsS s = if s.u.sch ≠ s.b.sch ∨ 2 ≤ aheadN s then cutsA else if 0 < aheadN s then cutsB else if s.rest.size ≠ 0 then cutsC else cutsD from rfl)
 rw [Ha.out] at HC
 obtain ⟨L, HL⟩ : ∃ L, Hid (cutsS s = L) := ⟨_, Lib.hid rfl⟩
 rw [HL.out] at HC ⊢
 clear h
 go_enter Tryz.func30, Tryz.ntmps30
 go_wp2
 refine bw_region (by kernel_rfl) (by kernel_rfl) ?_
 repeat (quiet_step ((go_at_call 46; exact Calls.bw_of (HQ.out _))))
 refine wpQuiet_nil ?_
 intro w1 hw'
 have HB : Hid (Below w.heap.size w w1) := Lib.hid (by
  obtain ⟨p, hp⟩ := hw'
  rw [hp]; exact p.h)
 have HR1 := Lib.hid (HR.out.below HB.out)
 clear hq20 HQ hw'
 have hw : IntKind.i64.wrap (a : Int) = (a : Int) := IntWalk.i64_in _ (by omega)
 have c0 := HR1.out.cell 0 (v := .string s.u.sch) rfl
 have c10 := HR1.out.cell 10 (v := .string s.b.sch) rfl
 have c20 := HR1.out.cell 20 (v := .string s.rest) rfl
 rw [hw]
 clear hz hw
 have HRest := Lib.hid HR1
 clear HRr HA Ha hle
 by_cases hne : s.u.sch = s.b.sch
 ·have E : (s.u.sch.toList == s.b.sch.toList) = true := by rw [hne]; exact beq_self_eq_true _
  by_cases h2 : 2 ≤ a
  ·have HV : Hid (L = cutsA) := Lib.hid (by rw [HC.out, if_pos (.inr h2)])
   have h2I : (2 : Int) ≤ (a : Int) := by omega
   clear hne HC HL h2
   go_wp2
   go_quiet (fail)
   go_wp2
   go_ret
   rw [HV.out]
   exact ⟨_, rfl, HB.out.size, heap_alloc_new _ _, (below_drewN HB.out _).alloc HB.out.size _⟩
  ·have h2I : ¬ (2 : Int) ≤ (a : Int) := by omega
   have h2D : decide ((2 : Int) ≤ (a : Int)) = false := decide_eq_false h2I
   by_cases h1 : 0 < a
   ·have HV : Hid (L = cutsB) := Lib.hid (by rw [HC.out, if_neg (by rintro (h | h); exact h hne; exact h2 h), if_pos h1])
    have h1I : (0 : Int) < (a : Int) := by omega
    clear hne HC HL h2 h1
    go_wp2
    go_quiet (fail)
    go_wp2
    go_ret
    rw [HV.out]
    exact ⟨_, rfl, HB.out.size, heap_alloc_new _ _, (below_drewN HB.out _).alloc HB.out.size _⟩
   ·have h1I : ¬ (0 : Int) < (a : Int) := by omega
    by_cases h0 : s.rest.size ≠ 0
    ·have HV : Hid (L = cutsC) := Lib.hid (by rw [HC.out, if_neg (by rintro (h | h); exact h hne; exact h2 h), if_neg h1, if_pos h0])
     have e0 := nil_n s.rest h0
     clear hne HC HL h2 h1 h0
     go_wp2
     go_quiet (fail)
     go_wp2
     go_ret
     rw [HV.out]
     exact ⟨_, rfl, HB.out.size, heap_alloc_new _ _, (below_drewN HB.out _).alloc HB.out.size _⟩
    ·have HV : Hid (L = cutsD) := Lib.hid (by rw [HC.out, if_neg (by rintro (h | h); exact h hne; exact h2 h), if_neg h1, if_neg h0])
     have e0 := nil_e s.rest (by omega)
     clear hne HC HL h2 h1 h0
     go_wp2
     go_quiet (fail)
     go_wp2
     go_ret
     rw [HV.out]
     exact ⟨_, rfl, HB.out.size, heap_alloc_new _ _, (below_drewN HB.out _).alloc HB.out.size _⟩
 ·have E : (s.u.sch.toList == s.b.sch.toList) = false := by
   rw [beq_eq_false_iff_ne, ByteArray.toList_eq, ByteArray.toList_eq]
   exact fun e => hne (ByteArray.ext (Array.toList_inj.1 e))
  have HV : Hid (L = cutsA) := Lib.hid (by rw [HC.out, if_pos (.inl hne)])
  clear hne HC HL
  go_wp2
  go_quiet (fail)
  go_wp2
  go_ret
  rw [HV.out]
  exact ⟨_, rfl, HB.out.size, heap_alloc_new _ _, (below_drewN HB.out _).alloc HB.out.size _⟩

end Go.Proofs.YtcphokaamkalfaaGreatDoor
namespace Go.Proofs.YtcphokaamkalfaaGreatDoor
open Go.RowKit

theorem setRow_kp {X : Nat → Prop} (w : World) (g : Nat) (old cs : Array Value) (t : TypeId) (fr : Nat × Nat) (_hg : w.heap[g]? = some (.cells old t fr)) (hX : X g) : Kp X w (w.setRow g cs) := by
 refine ⟨?_, ?_, ?_, ?_, fun k _ hx => setRow_other w g k cs (fun e => hx (e ▸ hX))⟩ <;> unfold World.setRow <;> simp
theorem cells_one (u : UrS) : u.cells.toArray.all (·.oneCell') = true := by simp [UrS.cells, Value.oneCell']
theorem u0_one : u0.cells.toArray.all (·.oneCell') = true := cells_one u0
set_option maxRecDepth 100000 in
set_option maxHeartbeats 2000000 in
theorem catch_yes (q r : Nat) (c d : Int) (old : Array Value) (older : List PanicEntry) (w : World) (hq : w.heap[q]? = some (.cells old 23 (0, 0))) (ho : old.size = 10) (hr : w.heap[r]? = some (.cells #[.int .i64 d] 26 (0, 0))) (hqr : q ≠ r) :
  CallsD Tryz.prog 23 #[.pointer (some ⟨q, 0, none⟩), .pointer (some ⟨r, 0, none⟩)] (.panicking ({ v := .iface 26 (.int .i64 c), recovered := false } :: older)) w fun e u' w' =>
   e = .returned (.tuple #[]) ∧ u' = .panicking ({ v := .iface 26 (.int .i64 c), recovered := true } :: older) ∧ w'.heap[q]? = some (.cells u0.cells.toArray 23 (0, 0)) ∧ w'.heap[r]? = some (.cells #[.int .i64 c] 26 (0, 0)) ∧ Kp (fun k => k = q ∨ k = r) w w' := by
 have HQ := Lib.hid hq
 have HO : Hid (old.size = u0.cells.toArray.size) := Lib.hid ho
 obtain ⟨W1, HW1⟩ : ∃ W, Hid (w.setRow q u0.cells.toArray = W) := ⟨_, Lib.hid rfl⟩
 have HQ1 : Hid (W1.heap[q]? = some (.cells u0.cells.toArray 23 (0, 0))) := Lib.hid (by rw [← HW1.out]; exact setRow_heap w q old _ _ _ hq)
 have hr1 : W1.heap[r]? = some (.cells #[.int .i64 d] 26 (0, 0)) := by rw [← HW1.out, setRow_other w q r _ hqr.symm]; exact hr
 have HK1 : Hid (Kp (fun k => k = q ∨ k = r) w W1) := Lib.hid (by rw [← HW1.out]; exact setRow_kp w q old _ _ _ hq (.inl rfl))
 have c1 := cell_of_one hr1
 have f1 := free_of_one hr1
 have HR1 := Lib.hid hr1
 clear hq ho hr hr1
 have hta : ∀ w, (Instr.typeAssert (.iface 26 (.int .i64 c)) 20 26 true).run Tryz.prog w = .ok (.tuple #[.int .i64 c, .bool true]) w := fun _ => rfl
 refine callsD_of_wpS Tryz.func23 rfl fun c₀ cs hu => ?_
 apply wpS_seq
 apply wpS_region
 simp [wpOpsS, go_sem, recoverD, hu, Tryz.ntmps23, Exit.thenS, hta, Array.replicate]
 clear hta hu
 refine wpS_of_wp ?_
 go_wp2_with (refine wpL_store_row rfl 23 _ _ rfl q u0.cells.toArray ?_ ?_ 23 old ?_ ?_ ?_ ?_ ?_; exact rfl; exact rfl; exact HQ.out; exact infoU; exact HO.out; exact u0_one; rw [HW1.out])
 exact ⟨rfl, _, rfl, _, results_none rfl _ _ _, rfl, rfl, by rw [Below.heap_setCell _ _ _ _ (by first | (show q ≠ r; exact hqr) | (show r ≠ q; exact hqr.symm))]; exact HQ1.out, one_setCell HR1.out, HK1.out.setCell (p := ⟨r, 0, none⟩) (.inr rfl) _⟩
set_option maxRecDepth 100000 in
set_option maxHeartbeats 2000000 in
theorem catch_no (q r : Nat) (w : World) :
  CallsD Tryz.prog 23 #[.pointer (some ⟨q, 0, none⟩), .pointer (some ⟨r, 0, none⟩)] .returning w fun e u' w' => e = .returned (.tuple #[]) ∧ u' = .returning ∧ w' = w := by
 have hta : ∀ w, (Instr.typeAssert .nilIface 20 26 true).run Tryz.prog w = .ok (.tuple #[.int .i64 0, .bool false]) w := fun _ => rfl
 refine callsD_of_wpS Tryz.func23 rfl fun c₀ cs hu => ?_
 apply wpS_seq
 apply wpS_region
 simp [wpOpsS, go_sem, recoverD, hu, Tryz.ntmps23, Exit.thenS, hta, Array.replicate]
 clear hta
 refine wpS_of_wp ?_
 go_wp2
 have hc : c₀ = { c₀ with mode := .returning } := by cases c₀; simp_all
 exact ⟨rfl, .returning, by rw [← hc], _, results_none rfl _ _ _, rfl, rfl, rfl⟩

end Go.Proofs.YtcphokaamkalfaaGreatDoor
namespace Go.Proofs.YtcphokaamkalfaaGreatDoor
open Go.RowKit

/-- What cutPort leaves. -/
def cutPortS (s : RdS) : Except Int RdS :=
 if Lib.trimPrefix s.place.data.toList [58] = [] then .ok { s with u := { s.u with prt := -1 } }
 else if numB (48 :: Lib.trimLeftB (Lib.trimPrefix s.place.data.toList [58]) 48) 65535 = true then
  .ok { s with u := { s.u with prt := if numV (48 :: Lib.trimLeftB (Lib.trimPrefix s.place.data.toList [58]) 48) 65535 = (ownP s.u.sch : Int) then -1 else numV (48 :: Lib.trimLeftB (Lib.trimPrefix s.place.data.toList [58]) 48) 65535 } }
 else .error 4
theorem trimLeftB_le (l : List UInt8) (c : UInt8) : (Lib.trimLeftB l c).length ≤ l.length := (List.dropWhile_sublist _).length_le
theorem trimPrefix_le (l p : List UInt8) : (Lib.trimPrefix l p).length ≤ l.length := by
 unfold Lib.trimPrefix; split
 ·exact (List.drop_sublist _ _).length_le
 ·exact Nat.le_refl _
set_option maxRecDepth 100000 in
set_option maxHeartbeats 2000000 in
theorem cutPort_any (b : Nat) (s : RdS) (w : World) (h : RdAt w b s) (hs : s.place.size ≤ 9000000) :
  Calls Tryz.prog 51 #[.pointer (some ⟨b, 0, none⟩)] w (CutC w b (cutPortS s)) := by
 have c0 := h.cell 4 (v := .int .i64 s.u.prt) rfl
 have f0 := h.free 4
 have HR0 : Hid (RdAt (w.setCell ⟨b, 4, none⟩ (.int .i64 (-1))) b { s with u := { s.u with prt := -1 } }) := Lib.hid (h.set 4 _ rfl)
 have K0 : Hid (Kp (Only b) w (w.setCell ⟨b, 4, none⟩ (.int .i64 (-1)))) := Lib.hid ((Kp.refl _ _).set1 _ _)
 clear h
 obtain ⟨W, HWw⟩ : ∃ W, Hid (w.setCell ⟨b, 4, none⟩ (.int .i64 (-1)) = W) := ⟨_, Lib.hid rfl⟩
 rw [HWw.out] at HR0 K0
 have c1 := HR0.out.cell 21 (v := .string s.place) rfl
 have c2 := HR0.out.cell 0 (v := .string s.u.sch) rfl
 have c3 := HR0.out.cell 4 (v := .int .i64 (-1)) rfl
 have f3 := HR0.out.free 4
 have hl1 := trimPrefix_le s.place.data.toList [58]
 rw [lenB] at hl1
 unfold cutPortS
 have HTp := Lib.hid (fun w => Tryz.strings_TrimPrefix s.place ⟨#[58]⟩ w)
 obtain ⟨t, Ht⟩ : ∃ t, Hid (Lib.trimPrefix s.place.data.toList [58] = t) := ⟨_, Lib.hid rfl⟩
 rw [show Lib.trimPrefix s.place.data.toList (⟨#[58]⟩ : ByteArray).data.toList = t from Ht.out] at HTp
 rw [Ht.out] at hl1 ⊢
 by_cases ht : t = []
 ·subst ht
  rw [if_pos rfl]
  go_enter Tryz.func51, Tryz.ntmps51
  go_upto_region 1 with fail
  rw [HWw.out]
  go_wp2_with fail
  refine (HTp.out _).mono ?_
  rintro e w1 ⟨rfl, rfl⟩
  go_wp2
  go_end0
  exact ⟨⟨rfl, HR0.out⟩, K0.out⟩
 ·rw [if_neg ht]
  obtain ⟨T, HT⟩ : ∃ T : ByteArray, Hid ((⟨t.toArray⟩ : ByteArray) = T) := ⟨_, Lib.hid rfl⟩
  have hTd : T.data.toList = t := by rw [← HT.out]
  have hne : (T.toList == []) = false := ne_lit (l := []) (fun e => ht (by rw [← hTd, e]))
  have HTl := Lib.hid (fun w => Tryz.strings_TrimLeft_one T 48 (by decide) w)
  have hl2 := trimLeftB_le t 48
  obtain ⟨V, HV⟩ : ∃ V : ByteArray, Hid ((⟨(Lib.trimLeftB t 48).toArray⟩ : ByteArray) = V) := ⟨_, Lib.hid rfl⟩
  rw [hTd] at HTl
  rw [HV.out] at HTl
  rw [HT.out] at HTp
  have hVd : V.data.toList = Lib.trimLeftB t 48 := by rw [← HV.out]
  have hVs : V.size ≤ 9000000 := by rw [← lenB, hVd]; omega
  have hz1 : ¬ 9223372036854775807 < 1 + V.size := by omega
  have HN := Lib.hid (fun w => Number_any (⟨#[48]⟩ ++ V) 65535 w (by rw [ByteArray.size_append]; unfold maxLen; show 1 + V.size ≤ _; omega))
  rw [show ((⟨#[48]⟩ : ByteArray) ++ V).data.toList = 48 :: Lib.trimLeftB t 48 by rw [ByteArray.data_append, Array.toList_append, hVd]; rfl] at HN
  clear hTd hVd hl1 hl2 ht hs
  obtain ⟨n, Hn⟩ : ∃ n, Hid (numV (48 :: Lib.trimLeftB t 48) 65535 = n) := ⟨_, Lib.hid rfl⟩
  obtain ⟨B, HB⟩ : ∃ n, Hid (numB (48 :: Lib.trimLeftB t 48) 65535 = n) := ⟨_, Lib.hid rfl⟩
  rw [Hn.out, HB.out] at HN ⊢
  cases B with
  | false =>
   rw [if_neg Bool.false_ne_true]
   go_enter Tryz.func51, Tryz.ntmps51
   go_upto_region 1 with fail
   rw [HWw.out]
   go_wp2_with fail
   refine (HTp.out _).mono ?_
   rintro e w1 ⟨rfl, rfl⟩
   go_wp2_with fail
   refine (HTl.out _).mono ?_
   rintro e w1 ⟨rfl, rfl⟩
   go_wp2_with fail
   refine (HN.out _).mono ?_
   rintro e w1 ⟨rfl, b1⟩
   have K1 : Hid (Kp (Only b) w w1) := Lib.hid (K0.out.trans (Kp.of_below b1))
   clear b1
   go_wp2_with fail
   refine (refuse_yes _ _).mono ?_
   rintro e w2 ⟨rfl, rfl⟩
   exact post_panic ⟨rfl, K1.out⟩
  | true =>
   rw [if_pos rfl]
   by_cases hp : n = (ownP s.u.sch : Int)
   ·rw [if_pos hp]
    have hpn : (n != (ownP s.u.sch : Int)) = false := by rw [hp]; simp
    clear hp
    go_enter Tryz.func51, Tryz.ntmps51
    go_upto_region 1 with fail
    rw [HWw.out]
    go_wp2_with fail
    refine (HTp.out _).mono ?_
    rintro e w1 ⟨rfl, rfl⟩
    go_wp2_with fail
    refine (HTl.out _).mono ?_
    rintro e w1 ⟨rfl, rfl⟩
    go_wp2_with fail
    refine (HN.out _).mono ?_
    rintro e w1 ⟨rfl, b1⟩
    have HR1 := Lib.hid (HR0.out.below b1)
    have K1 : Hid (Kp (Only b) w w1) := Lib.hid (K0.out.trans (Kp.of_below b1))
    have c4 := HR1.out.cell 0 (v := .string s.u.sch) rfl
    clear b1
    go_wp2_with fail
    refine (refuse_no _ _).mono ?_
    rintro e w2 ⟨rfl, rfl⟩
    go_wp2_with fail
    refine (portOf_any _ _).mono ?_
    rintro e w2 ⟨rfl, rfl⟩
    go_wp2
    go_end0
    exact ⟨⟨rfl, HR1.out⟩, K1.out⟩
   ·rw [if_neg hp]
    have hpn : (n != (ownP s.u.sch : Int)) = true := by simpa using hp
    clear hp
    go_enter Tryz.func51, Tryz.ntmps51
    go_upto_region 1 with fail
    rw [HWw.out]
    go_wp2_with fail
    refine (HTp.out _).mono ?_
    rintro e w1 ⟨rfl, rfl⟩
    go_wp2_with fail
    refine (HTl.out _).mono ?_
    rintro e w1 ⟨rfl, rfl⟩
    go_wp2_with fail
    refine (HN.out _).mono ?_
    rintro e w1 ⟨rfl, b1⟩
    have HR1 := Lib.hid (HR0.out.below b1)
    have K1 : Hid (Kp (Only b) w w1) := Lib.hid (K0.out.trans (Kp.of_below b1))
    have c4 := HR1.out.cell 0 (v := .string s.u.sch) rfl
    have c5 := HR1.out.cell 4 (v := .int .i64 (-1)) rfl
    have f5 := HR1.out.free 4
    clear b1
    go_wp2_with fail
    refine (refuse_no _ _).mono ?_
    rintro e w2 ⟨rfl, rfl⟩
    go_wp2_with fail
    refine (portOf_any _ _).mono ?_
    rintro e w2 ⟨rfl, rfl⟩
    go_wp2
    go_end0
    exact ⟨⟨rfl, HR1.out.set (s' := { s with u := { s.u with prt := n } }) 4 _ rfl⟩, K1.out.set1 _ _⟩

end Go.Proofs.YtcphokaamkalfaaGreatDoor
namespace Go.Proofs.YtcphokaamkalfaaGreatDoor
open Go.RowKit

theorem repl_none_size (a : UInt8) (s : ByteArray) : (repl a [] s).size ≤ s.size := by
 show (Lib.replaceAll s.data.toList [a] []).length ≤ _
 rw [replace_one, flat_drop, ← lenB]
 exact List.length_filter_le _ _
theorem trimU_le (l : List UInt8) : (trimU l).length ≤ l.length := by
 unfold trimU
 have h1 := (List.dropWhile_sublist blankB (l := (l.dropWhile blankB).reverse)).length_le
 have h2 := (List.dropWhile_sublist blankB (l := l)).length_le
 simp at h1 h2 ⊢
 omega
/-- A text without its blanks, and without the first k of the tabs and ends of lines. -/
def drp0 (s : ByteArray) : ByteArray := ⟨(trimU s.data.toList).toArray⟩
def drpS (s : ByteArray) (k : Nat) : ByteArray := match k with
 | 0 => drp0 s
 | 1 => repl 9 [] (drp0 s)
 | 2 => repl 10 [] (repl 9 [] (drp0 s))
 | _ => repl 13 [] (repl 10 [] (repl 9 [] (drp0 s)))
theorem drp0_size (s : ByteArray) : (drp0 s).size ≤ s.size := by
 show (trimU s.data.toList).length ≤ _
 have := trimU_le s.data.toList
 rw [lenB] at this; exact this
theorem drpS_size (s : ByteArray) (k : Nat) : (drpS s k).size ≤ s.size := by
 have h0 := drp0_size s
 have h1 := repl_none_size 9 (drp0 s)
 have h2 := repl_none_size 10 (repl 9 [] (drp0 s))
 have h3 := repl_none_size 13 (repl 10 [] (repl 9 [] (drp0 s)))
 unfold drpS
 split <;> omega
theorem drpS_data (s : ByteArray) : (drpS s 3).data.toList = dropL s.data.toList := by
 rw [← dropL_eq, ← flat_drop, ← flat_drop, ← flat_drop, ← replace_one, ← replace_one, ← replace_one]; rfl
set_option maxRecDepth 100000 in
set_option maxHeartbeats 4000000 in
theorem dropBlanks_any (b : Nat) (s : RdS) (w : World) (h : RdAt w b s) (hs : s.rest.size ≤ 9000000) (hW : Rw b w) :
  Calls Tryz.prog 25 #[.pointer (some ⟨b, 0, none⟩)] w (CutC w b (.ok { s with rest := drpS s.rest 3 })) := by
 have c1 := h.cell 20 (v := .string s.rest) rfl
 have HR := Lib.hid h
 clear h
 have HT := Lib.hid (hW.uw.tr w (Below.refl _ _) s.rest hs)
 have HRp : Hid (∀ (a : UInt8) (j : Nat) (W : World), Kp (Only b) w W → Calls Tryz.prog 40 #[.string (drpS s.rest j), .string ⟨#[a]⟩, .string ⟨#[]⟩] W fun e w' => e = .returned (.string (repl a [] (drpS s.rest j))) ∧ Below W.heap.size W w') := Lib.hid (fun a j W K => by
  obtain ⟨m, hm⟩ := (hW.kp K).hw.ml
  exact Replace_of a ⟨#[]⟩ (drpS s.rest j) m W (Nat.le_trans (drpS_size _ _) hs) (by decide) hm)
 have HC0 : Hid (∀ (W : World), Kp (Only b) w W → Calls Tryz.prog 40 #[.string (drpS s.rest 0), .string ((⟨#[9, 10, 13]⟩ : ByteArray).extract 0 1), .string ⟨#[]⟩] W fun e w' => e = .returned (.string (drpS s.rest 1)) ∧ Below W.heap.size W w') := Lib.hid (fun W K => by
  rw [show (⟨#[9, 10, 13]⟩ : ByteArray).extract 0 1 = ⟨#[9]⟩ by decide +kernel]
  exact HRp.out 9 0 W K)
 have HC1 : Hid (∀ (W : World), Kp (Only b) w W → Calls Tryz.prog 40 #[.string (drpS s.rest 1), .string ((⟨#[9, 10, 13]⟩ : ByteArray).extract 1 2), .string ⟨#[]⟩] W fun e w' => e = .returned (.string (drpS s.rest 2)) ∧ Below W.heap.size W w') := Lib.hid (fun W K => by
  rw [show (⟨#[9, 10, 13]⟩ : ByteArray).extract 1 2 = ⟨#[10]⟩ by decide +kernel]
  exact HRp.out 10 1 W K)
 have HC2 : Hid (∀ (W : World), Kp (Only b) w W → Calls Tryz.prog 40 #[.string (drpS s.rest 2), .string ((⟨#[9, 10, 13]⟩ : ByteArray).extract 2 3), .string ⟨#[]⟩] W fun e w' => e = .returned (.string (drpS s.rest 3)) ∧ Below W.heap.size W w') := Lib.hid (fun W K => by
  rw [show (⟨#[9, 10, 13]⟩ : ByteArray).extract 2 3 = ⟨#[13]⟩ by decide +kernel]
  exact HRp.out 13 2 W K)
 obtain ⟨D, HD⟩ : ∃ D, Hid (drpS s.rest = D) := ⟨_, Lib.hid rfl⟩
 rw [show (⟨(trimU s.rest.data.toList).toArray⟩ : ByteArray) = D 0 by rw [← HD.out]; rfl] at HT
 rw [HD.out] at HC0 HC1 HC2 ⊢
 clear HRp
 clear hW
 go_enter Tryz.func25, Tryz.ntmps25
 go_wp2_with fail
 refine HT.out.mono ?_
 rintro e w1 ⟨rfl, b1⟩
 have HR1 := Lib.hid (HR.out.below b1)
 have K1 := Lib.hid (Kp.of_below (X := Only b) b1)
 have c2 := HR1.out.cell 20 (v := .string s.rest) rfl
 have f2 := HR1.out.free 20
 clear b1 c1
 go_wp2
 go_loopw [11] (fun i wr => ∃ k : Nat, k ≤ 3 ∧ i = .int .i64 k ∧ Hid (RdAt wr b { s with rest := D k }) ∧ Hid (Kp (Only b) w wr)) (fun i _ => 3 - (intOf i).toNat)
 case atStart => exact ⟨0, by decide, rfl, Lib.hid (HR1.out.set (s' := { s with rest := D 0 }) 20 _ rfl), Lib.hid (K1.out.set1 _ _)⟩
 case round =>
  obtain ⟨k, hk, rfl, HRk, HKk⟩ := hrel
  have c3 := HRk.out.cell 20 (v := .string (D k)) rfl
  have f3 := HRk.out.free 20
  by_cases hlt : k < 3
  ·rcases (show k = 0 ∨ k = 1 ∨ k = 2 by omega) with rfl | rfl | rfl
   ·go_wp2
    go_region_with (go_at_call 40; ((with_reducible refine (HC0.out _ ?_).mono ?_); (first | exact HKk.out.drew | exact HKk.out); rintro e w5 ⟨rfl, b5⟩; have HR5 := Lib.hid (RdAt.below (w := wr.drew) HRk.out b5); have K5 : Hid (Kp (Only b) w w5) := Lib.hid (HKk.out.drew.trans (Kp.of_below b5)); have c5 := HR5.out.cell 20 (v := .string (D 0)) rfl; have f5 := HR5.out.free 20; clear b5))
    all_goals
     go_wp2
     exact ⟨⟨1, by decide, by go_num, Lib.hid (HR5.out.set (s' := { s with rest := D 1 }) 20 _ rfl), Lib.hid (K5.out.set1 _ _)⟩, by simp [intOf]⟩
   ·go_wp2
    go_region_with (go_at_call 40; ((with_reducible refine (HC1.out _ ?_).mono ?_); (first | exact HKk.out.drew | exact HKk.out); rintro e w5 ⟨rfl, b5⟩; have HR5 := Lib.hid (RdAt.below (w := wr.drew) HRk.out b5); have K5 : Hid (Kp (Only b) w w5) := Lib.hid (HKk.out.drew.trans (Kp.of_below b5)); have c5 := HR5.out.cell 20 (v := .string (D 1)) rfl; have f5 := HR5.out.free 20; clear b5))
    all_goals
     go_wp2
     exact ⟨⟨2, by decide, by go_num, Lib.hid (HR5.out.set (s' := { s with rest := D 2 }) 20 _ rfl), Lib.hid (K5.out.set1 _ _)⟩, by simp [intOf]⟩
   ·go_wp2
    go_region_with (go_at_call 40; ((with_reducible refine (HC2.out _ ?_).mono ?_); (first | exact HKk.out.drew | exact HKk.out); rintro e w5 ⟨rfl, b5⟩; have HR5 := Lib.hid (RdAt.below (w := wr.drew) HRk.out b5); have K5 : Hid (Kp (Only b) w w5) := Lib.hid (HKk.out.drew.trans (Kp.of_below b5)); have c5 := HR5.out.cell 20 (v := .string (D 2)) rfl; have f5 := HR5.out.free 20; clear b5))
    all_goals
     go_wp2
     exact ⟨⟨3, by decide, by go_num, Lib.hid (HR5.out.set (s' := { s with rest := D 3 }) 20 _ rfl), Lib.hid (K5.out.set1 _ _)⟩, by simp [intOf]⟩
  ·obtain rfl : k = 3 := by omega
   go_wp2
   go_end0
   exact ⟨⟨rfl, HRk.out⟩, HKk.out⟩

end Go.Proofs.YtcphokaamkalfaaGreatDoor
namespace Go.Proofs.YtcphokaamkalfaaGreatDoor
open Go.RowKit

theorem trim_q (l cs : List UInt8) : (⟨(Lib.trimS l cs).toArray⟩ : ByteArray).toList.isEmpty = decide (Lib.trimS l cs = []) := by
 rw [ByteArray.toList_eq]
 by_cases h : Lib.trimS l cs = []
 ·rw [decide_eq_true h, h]; rfl
 ·rw [decide_eq_false h]
  exact List.isEmpty_eq_false_iff.2 h
theorem nil_q (s : ByteArray) : s.toList.isEmpty = decide (s.size = 0) := by
 rw [ByteArray.toList_eq, ← lenB]
 cases s.data.toList <;> simp
abbrev LETB : ByteArray := ⟨#[97, 98, 99, 100, 101, 102, 103, 104, 105, 106, 107, 108, 109, 110, 111, 112, 113, 114, 115, 116, 117, 118, 119, 120, 121, 122]⟩
abbrev SCHT : ByteArray := ⟨#[97, 98, 99, 100, 101, 102, 103, 104, 105, 106, 107, 108, 109, 110, 111, 112, 113, 114, 115, 116, 117, 118, 119, 120, 121, 122, 48, 49, 50, 51, 52, 53, 54, 55, 56, 57, 43, 45, 46]⟩
theorem letb_plain : ∀ (j : Nat) b, LETB.data.toList[j]? = some b → b.toNat < 128 := fun j b h =>
 (show ∀ c ∈ LETB.data.toList, c.toNat < 128 by decide +kernel) b (List.mem_of_getElem? h)
theorem scht_plain : ∀ (j : Nat) b, SCHT.data.toList[j]? = some b → b.toNat < 128 := fun j b h =>
 (show ∀ c ∈ SCHT.data.toList, c.toNat < 128 by decide +kernel) b (List.mem_of_getElem? h)
set_option maxRecDepth 100000 in
set_option maxHeartbeats 2000000 in
theorem isScheme_any (s : ByteArray) (w : World) (hs : s.size ≤ 9000000) :
  Calls Tryz.prog 43 #[.string s] w fun e w' => e = .returned (.bool (schQ s.data.toList)) ∧ Below w.heap.size w w' := by
 by_cases h0 : s.size = 0
 ·have HQ : Hid (schQ s.data.toList = false) := Lib.hid (by
   have : s.data.toList = [] := List.eq_nil_of_length_eq_zero (by rw [lenB]; exact h0)
   rw [this]; rfl)
  have hne : s.toList.isEmpty = true := by rw [nil_q, decide_eq_true h0]
  rw [HQ.out]
  go_enter Tryz.func43, Tryz.ntmps43
  go_wp2
  go_ret
  exact ⟨rfl, Below.refl _ _⟩
 have hne : s.toList.isEmpty = false := by rw [nil_q, decide_eq_false h0]
 have h1 : 1 ≤ s.size := by omega
 have hx : (s.extract 0 1).data.toList = s.data.toList.take 1 := by
  rw [ByteArray.data_extract, Array.toList_extract, List.extract_eq_take_drop, List.drop_zero]
 have HT1 : Hid (∀ w, Calls Tryz.prog 75 #[.string (s.extract 0 1), .string LETB] w fun e w' => e = .returned (.string ⟨(Lib.trimS (s.data.toList.take 1) LETS).toArray⟩) ∧ Below w.heap.size w w') := Lib.hid (fun w => by
  have := Tryz.strings_Trim_laid (s.extract 0 1) LETB w (by rw [ByteArray.size_extract]; omega) (by decide) letb_plain
  rw [hx] at this
  exact this)
 have HT2 : Hid (∀ w, Calls Tryz.prog 75 #[.string s, .string SCHT] w fun e w' => e = .returned (.string ⟨(Lib.trimS s.data.toList SCHS).toArray⟩) ∧ Below w.heap.size w w') := Lib.hid (fun w =>
  Tryz.strings_Trim_laid s SCHT w (by omega) (by decide) scht_plain)
 obtain ⟨X, HX⟩ : ∃ X, Hid (s.extract 0 1 = X) := ⟨_, Lib.hid rfl⟩
 rw [HX.out] at HT1
 have q1 := trim_q (s.data.toList.take 1) LETS
 have q2 := trim_q s.data.toList SCHS
 obtain ⟨V, HV⟩ : ∃ V, Hid (schQ s.data.toList = V) := ⟨_, Lib.hid rfl⟩
 have HVV : Hid (V = (decide (Lib.trimS (s.data.toList.take 1) LETS = []) && decide (Lib.trimS s.data.toList SCHS = []))) := Lib.hid (by
  have hd : s.data.toList ≠ [] := fun e => h0 (by rw [← lenB, e]; rfl)
  rw [← HV.out, schQ, decide_eq_true hd, Bool.true_and])
 rw [HV.out]
 obtain ⟨T1, HTT1⟩ : ∃ T, Hid ((⟨(Lib.trimS (s.data.toList.take 1) LETS).toArray⟩ : ByteArray) = T) := ⟨_, Lib.hid rfl⟩
 obtain ⟨T2, HTT2⟩ : ∃ T, Hid ((⟨(Lib.trimS s.data.toList SCHS).toArray⟩ : ByteArray) = T) := ⟨_, Lib.hid rfl⟩
 rw [HTT1.out] at HT1 q1
 rw [HTT2.out] at HT2 q2
 obtain ⟨B1, HB1⟩ : ∃ B, Hid (decide (Lib.trimS (s.data.toList.take 1) LETS = []) = B) := ⟨_, Lib.hid rfl⟩
 obtain ⟨B2, HB2⟩ : ∃ B, Hid (decide (Lib.trimS s.data.toList SCHS = []) = B) := ⟨_, Lib.hid rfl⟩
 rw [HB1.out] at q1
 rw [HB2.out] at q2
 rw [HB1.out, HB2.out] at HVV
 clear h0 hx hs
 cases B1 with
 | false =>
  go_enter Tryz.func43, Tryz.ntmps43
  go_wp2_with fail
  rw [HX.out]
  refine (HT1.out _).mono ?_
  rintro e w1 ⟨rfl, b1⟩
  go_wp2
  go_ret
  exact ⟨by rw [HVV.out]; rfl, b1⟩
 | true =>
  go_enter Tryz.func43, Tryz.ntmps43
  go_wp2_with fail
  rw [HX.out]
  refine (HT1.out _).mono ?_
  rintro e w1 ⟨rfl, b1⟩
  have HBl := Lib.hid b1
  clear b1
  go_wp2_with fail
  refine (HT2.out _).mono ?_
  rintro e w2 ⟨rfl, b2⟩
  have HBm := Lib.hid (HBl.out.trans (b2.mono HBl.out.size))
  clear b2
  go_wp2
  go_ret
  exact ⟨by rw [HVV.out]; rfl, HBm.out⟩

/-- What cutScheme leaves. -/
def cutSchemeS (s : RdS) : Except Int RdS :=
 if cutF 58 s.rest = true ∧ schQ (lowS (cutA 58 s.rest)).data.toList = true then
  if ownP (lowS (cutA 58 s.rest)) = 0 then .error 6 else .ok { s with u := { s.u with sch := lowS (cutA 58 s.rest) }, rest := cutB 58 s.rest }
 else if s.b.sch.size = 0 then .error 4 else .ok { s with u := { s.u with sch := s.b.sch } }
set_option maxRecDepth 100000 in
set_option maxHeartbeats 2000000 in
theorem cutScheme_any (b : Nat) (s : RdS) (w : World) (h : RdAt w b s) (hs : s.rest.size ≤ 9000000) (hW : Rw b w) :
  Calls Tryz.prog 26 #[.pointer (some ⟨b, 0, none⟩)] w (CutC w b (cutSchemeS s)) := by
 obtain ⟨O, HO⟩ : ∃ O, Hid (cutSchemeS s = O) := ⟨_, Lib.hid rfl⟩
 have HOO := Lib.hid (show cutSchemeS s = if cutF 58 s.rest = true ∧ schQ (lowS (cutA 58 s.rest)).data.toList = true then
  if ownP (lowS (cutA 58 s.rest)) = 0 then .error 6 else .ok { s with u := { s.u with sch := lowS (cutA 58 s.rest) }, rest := cutB 58 s.rest }
  else if s.b.sch.size = 0 then .error 4 else .ok { s with u := { s.u with sch := s.b.sch } } from rfl)
 have c1 := h.cell 20 (v := .string s.rest) rfl
 have HR := Lib.hid h
 clear h
 obtain ⟨m, hm⟩ := hW.hw.ml
 have HC := Lib.hid (Cut_of 58 s.rest m w hs hm)
 have hA := cutA_size 58 s.rest
 obtain ⟨A, HA⟩ : ∃ r, Hid (cutA 58 s.rest = r) := ⟨_, Lib.hid rfl⟩
 obtain ⟨B, HB⟩ : ∃ r, Hid (cutB 58 s.rest = r) := ⟨_, Lib.hid rfl⟩
 obtain ⟨F, HF⟩ : ∃ r, Hid (cutF 58 s.rest = r) := ⟨_, Lib.hid rfl⟩
 rw [HA.out, HB.out, HF.out] at HC HOO
 rw [HA.out] at hA
 have HL := Lib.hid (fun w => Lower_any A w (by unfold maxLen; omega))
 have hLs := lowS_size A
 obtain ⟨L, HLl⟩ : ∃ r, Hid (lowS A = r) := ⟨_, Lib.hid rfl⟩
 rw [HLl.out] at HL HOO hLs
 have HI := Lib.hid (fun w => isScheme_any L w (by omega))
 obtain ⟨Q, HQ⟩ : ∃ r, Hid (schQ L.data.toList = r) := ⟨_, Lib.hid rfl⟩
 rw [HQ.out] at HI HOO
 have nq := nil_q s.b.sch
 rw [HO.out] at HOO ⊢
 clear hm hW hs hA hLs
 by_cases hF : F = true ∧ Q = true
 ·obtain ⟨rfl, rfl⟩ := hF
  rw [if_pos ⟨rfl, rfl⟩] at HOO
  by_cases ho : ownP L = 0
  ·rw [if_pos ho] at HOO
   have hz : ((ownP L : Int) == 0) = true := by rw [ho]; rfl
   clear ho
   go_enter Tryz.func26, Tryz.ntmps26
   go_wp2_with fail
   refine HC.out.mono ?_
   rintro e w1 ⟨rfl, b1⟩
   have K1 := Lib.hid (Kp.of_below (X := Only b) b1)
   clear b1 c1
   go_wp2_with fail
   refine (HL.out _).mono ?_
   rintro e w2 ⟨rfl, b2⟩
   have K2 : Hid (Kp (Only b) w w2) := Lib.hid (K1.out.trans (Kp.of_below b2))
   clear b2
   go_wp2_with fail
   refine (HI.out _).mono ?_
   rintro e w3 ⟨rfl, b3⟩
   have K3 : Hid (Kp (Only b) w w3) := Lib.hid (K2.out.trans (Kp.of_below b3))
   clear b3
   go_wp2_with fail
   refine (portOf_any _ _).mono ?_
   rintro e w4 ⟨rfl, rfl⟩
   go_wp2_with fail
   refine (refuse_yes _ _).mono ?_
   rintro e w4 ⟨rfl, rfl⟩
   rw [HOO.out]
   exact post_panic ⟨rfl, K3.out⟩
  ·rw [if_neg ho] at HOO
   have hz : ((ownP L : Int) == 0) = false := beq_eq_false_iff_ne.2 (by omega)
   clear ho
   go_enter Tryz.func26, Tryz.ntmps26
   go_wp2_with fail
   refine HC.out.mono ?_
   rintro e w1 ⟨rfl, b1⟩
   have HR1 := Lib.hid (HR.out.below b1)
   have K1 := Lib.hid (Kp.of_below (X := Only b) b1)
   clear b1 c1
   go_wp2_with fail
   refine (HL.out _).mono ?_
   rintro e w2 ⟨rfl, b2⟩
   have HR2 := Lib.hid (HR1.out.below b2)
   have K2 : Hid (Kp (Only b) w w2) := Lib.hid (K1.out.trans (Kp.of_below b2))
   clear b2
   go_wp2_with fail
   refine (HI.out _).mono ?_
   rintro e w3 ⟨rfl, b3⟩
   have HR3 := Lib.hid (HR2.out.below b3)
   have K3 : Hid (Kp (Only b) w w3) := Lib.hid (K2.out.trans (Kp.of_below b3))
   clear b3
   go_wp2_with fail
   refine (portOf_any _ _).mono ?_
   rintro e w4 ⟨rfl, rfl⟩
   go_wp2_with fail
   refine (refuse_no _ _).mono ?_
   rintro e w4 ⟨rfl, rfl⟩
   have c2 := HR3.out.cell 20 (v := .string s.rest) rfl
   have c3 := HR3.out.cell 0 (v := .string s.u.sch) rfl
   have f2 := HR3.out.free 20
   have f3 := HR3.out.free 0
   go_wp2
   go_end0
   rw [HOO.out]
   exact ⟨⟨rfl, (HR3.out.set (s' := { s with u := { s.u with sch := L } }) 0 _ rfl).set 20 _ rfl⟩, (K3.out.set1 _ _).set1 _ _⟩
 ·rw [if_neg hF] at HOO
  have hcase : F = false ∨ (F = true ∧ Q = false) := by
   cases F
   ·exact .inl rfl
   ·cases Q
    ·exact .inr ⟨rfl, rfl⟩
    ·exact absurd ⟨rfl, rfl⟩ hF
  clear hF
  by_cases hb : s.b.sch.size = 0
  ·rw [if_pos hb] at HOO
   rw [decide_eq_true hb] at nq
   clear hb
   rcases hcase with rfl | ⟨rfl, rfl⟩
   ·go_enter Tryz.func26, Tryz.ntmps26
    go_wp2_with fail
    refine HC.out.mono ?_
    rintro e w1 ⟨rfl, b1⟩
    have HR1 := Lib.hid (HR.out.below b1)
    have K1 := Lib.hid (Kp.of_below (X := Only b) b1)
    clear b1 c1
    go_wp2_with fail
    refine (HL.out _).mono ?_
    rintro e w2 ⟨rfl, b2⟩
    have HR2 := Lib.hid (HR1.out.below b2)
    have K2 : Hid (Kp (Only b) w w2) := Lib.hid (K1.out.trans (Kp.of_below b2))
    have c2 := HR2.out.cell 10 (v := .string s.b.sch) rfl
    clear b2
    go_wp2_with fail
    refine (refuse_yes _ _).mono ?_
    rintro e w4 ⟨rfl, rfl⟩
    rw [HOO.out]
    exact post_panic ⟨rfl, K2.out⟩
   ·go_enter Tryz.func26, Tryz.ntmps26
    go_wp2_with fail
    refine HC.out.mono ?_
    rintro e w1 ⟨rfl, b1⟩
    have HR1 := Lib.hid (HR.out.below b1)
    have K1 := Lib.hid (Kp.of_below (X := Only b) b1)
    clear b1 c1
    go_wp2_with fail
    refine (HL.out _).mono ?_
    rintro e w2 ⟨rfl, b2⟩
    have HR2 := Lib.hid (HR1.out.below b2)
    have K2 : Hid (Kp (Only b) w w2) := Lib.hid (K1.out.trans (Kp.of_below b2))
    clear b2
    go_wp2_with fail
    refine (HI.out _).mono ?_
    rintro e w3 ⟨rfl, b3⟩
    have HR3 := Lib.hid (HR2.out.below b3)
    have K3 : Hid (Kp (Only b) w w3) := Lib.hid (K2.out.trans (Kp.of_below b3))
    have c2 := HR3.out.cell 10 (v := .string s.b.sch) rfl
    clear b3
    go_wp2_with fail
    refine (refuse_yes _ _).mono ?_
    rintro e w4 ⟨rfl, rfl⟩
    rw [HOO.out]
    exact post_panic ⟨rfl, K3.out⟩
  ·rw [if_neg hb] at HOO
   rw [decide_eq_false hb] at nq
   clear hb
   rcases hcase with rfl | ⟨rfl, rfl⟩
   ·go_enter Tryz.func26, Tryz.ntmps26
    go_wp2_with fail
    refine HC.out.mono ?_
    rintro e w1 ⟨rfl, b1⟩
    have HR1 := Lib.hid (HR.out.below b1)
    have K1 := Lib.hid (Kp.of_below (X := Only b) b1)
    clear b1 c1
    go_wp2_with fail
    refine (HL.out _).mono ?_
    rintro e w2 ⟨rfl, b2⟩
    have HR2 := Lib.hid (HR1.out.below b2)
    have K2 : Hid (Kp (Only b) w w2) := Lib.hid (K1.out.trans (Kp.of_below b2))
    have c2 := HR2.out.cell 10 (v := .string s.b.sch) rfl
    have c3 := HR2.out.cell 0 (v := .string s.u.sch) rfl
    have f3 := HR2.out.free 0
    clear b2
    go_wp2_with fail
    refine (refuse_no _ _).mono ?_
    rintro e w4 ⟨rfl, rfl⟩
    go_wp2
    go_end0
    rw [HOO.out]
    exact ⟨⟨rfl, HR2.out.set (s' := { s with u := { s.u with sch := s.b.sch } }) 0 _ rfl⟩, K2.out.set1 _ _⟩
   ·go_enter Tryz.func26, Tryz.ntmps26
    go_wp2_with fail
    refine HC.out.mono ?_
    rintro e w1 ⟨rfl, b1⟩
    have HR1 := Lib.hid (HR.out.below b1)
    have K1 := Lib.hid (Kp.of_below (X := Only b) b1)
    clear b1 c1
    go_wp2_with fail
    refine (HL.out _).mono ?_
    rintro e w2 ⟨rfl, b2⟩
    have HR2 := Lib.hid (HR1.out.below b2)
    have K2 : Hid (Kp (Only b) w w2) := Lib.hid (K1.out.trans (Kp.of_below b2))
    clear b2
    go_wp2_with fail
    refine (HI.out _).mono ?_
    rintro e w3 ⟨rfl, b3⟩
    have HR3 := Lib.hid (HR2.out.below b3)
    have K3 : Hid (Kp (Only b) w w3) := Lib.hid (K2.out.trans (Kp.of_below b3))
    have c2 := HR3.out.cell 10 (v := .string s.b.sch) rfl
    have c3 := HR3.out.cell 0 (v := .string s.u.sch) rfl
    have f3 := HR3.out.free 0
    clear b3
    go_wp2_with fail
    refine (refuse_no _ _).mono ?_
    rintro e w4 ⟨rfl, rfl⟩
    go_wp2
    go_end0
    rw [HOO.out]
    exact ⟨⟨rfl, HR3.out.set (s' := { s with u := { s.u with sch := s.b.sch } }) 0 _ rfl⟩, K3.out.set1 _ _⟩

end Go.Proofs.YtcphokaamkalfaaGreatDoor
namespace Go.Proofs.YtcphokaamkalfaaGreatDoor
open Go.RowKit

def dropS (s : RdS) : RdS := { s with rest := drpS s.rest 3 }
def markS (s : RdS) : RdS := { s with rest := cutA 35 s.rest, u := { s.u with hm := cutF 35 s.rest, mrk := encS 2 (cutB 35 s.rest) } }
def queryS (s : RdS) : RdS := { s with rest := cutA 63 s.rest, u := { s.u with hq := cutF 63 s.rest, qry := encS 3 (cutB 63 s.rest) } }
def turnS (s : RdS) : RdS := { s with rest := repl 92 [47] s.rest }
def slashS (s : RdS) : RdS := { s with rest := ⟨(Lib.trimLeftB s.rest.data.toList 47).toArray⟩ }
def plcS (s : RdS) : RdS := { s with place := cutA 47 s.rest, rest := cutB 47 s.rest }
/-- The first cuts. -/
def firstS (s : RdS) : Except Int RdS := match cutSchemeS (dropS s) with
 | .ok t => .ok (turnS (queryS (markS t)))
 | .error c => .error c
theorem scheme_rest {s t : RdS} (h : cutSchemeS s = .ok t) : t.rest.size ≤ s.rest.size ∧ t.b = s.b ∧ t.parts = s.parts := by
 unfold cutSchemeS at h
 split at h
 ·split at h
  ·cases h
  ·injection h with h; subst h
   exact ⟨cutB_size 58 s.rest, rfl, rfl⟩
 ·split at h
  ·cases h
  ·injection h with h; subst h
   exact ⟨Nat.le_refl _, rfl, rfl⟩
theorem repl_turn (s : ByteArray) : (repl 92 [47] s).data.toList = s.data.toList.map turnB := by
 show Lib.replaceAll s.data.toList [92] [47] = _
 rw [replace_one, flat_swap]; rfl
theorem turn_size (s : ByteArray) : (repl 92 [47] s).size = s.size := by
 rw [← lenB, repl_turn, List.length_map, lenB]
/-- An inner row of functions is as it was. -/
theorem row_kept {b fb : Nat} {l : List Nat} {P : Value} {w w' : World} {t : TypeId} (h : w.heap[fb]? = some (.cells (l.map fun f => Value.func (.func f) #[P] #[]).toArray t (0, 0))) (k : Kp (Only b) w w') (hb : fb ≠ b) (n f : Nat) (hn : l[n]? = some f) :
  w'.cell? ⟨fb, n, none⟩ = some (.func (.func f) #[P] #[]) := by
 rw [cell_of_row w' fb n _ _ _ (k.at h hb), List.getElem?_toArray, List.getElem?_map, hn]; rfl
/-- Between the first cuts. -/
abbrev J1 (b : Nat) (W : World) (s : RdS) (k : Nat) (w' : World) : Prop :=
 Kp (Only b) W w' ∧ match k with
  | 0 => RdAt w' b s
  | 1 => RdAt w' b (dropS s)
  | 2 => ∃ t, cutSchemeS (dropS s) = .ok t ∧ RdAt w' b t
  | 3 => ∃ t, cutSchemeS (dropS s) = .ok t ∧ RdAt w' b (markS t)
  | 4 => ∃ t, cutSchemeS (dropS s) = .ok t ∧ RdAt w' b (queryS (markS t))
  | _ => ∃ t, cutSchemeS (dropS s) = .ok t ∧ RdAt w' b (turnS (queryS (markS t)))
/-- What cuts leave: a reader, or an error. -/
def EndP (b : Nat) (W : World) (o : Except Int RdS) (e : Ending) (w' : World) : Prop :=
 (∃ t, o = .ok t ∧ e = .returned (.tuple #[]) ∧ RdAt w' b t ∧ Kp (Only b) W w') ∨ ∃ c, o = .error c ∧ e = errP c ∧ Kp (Only b) W w'
def firsts : List Nat := [25, 26, 27, 28, 29]
theorem exc_cases {α : Type} (o : Except Int α) : (∃ t, o = .ok t) ∨ ∃ c, o = .error c := by
 cases o with
 | ok t => exact .inl ⟨t, rfl⟩
 | error c => exact .inr ⟨c, rfl⟩
theorem ok_step {b : Nat} {W w w' : World} {s : RdS} {e : Ending} (J : World → Prop) (h : CutC w b (.ok s) e w') (k : Kp (Only b) W w) (hJ : Kp (Only b) W w' → RdAt w' b s → J w') :
  e = .returned (.tuple #[]) ∧ J w' := ⟨h.1.1, hJ (k.trans h.2) h.1.2⟩
set_option maxHeartbeats 1000000 in
theorem firsts_any (b fb : Nat) (s : RdS) (W : World) (h : RdAt W b s) (hs : s.rest.size ≤ 9000) (hW : Rw b W)
  (hrow : W.heap[fb]? = some (.cells (firsts.map fun f => Value.func (.func f) #[.pointer (some ⟨b, 0, none⟩)] #[]).toArray 1 (0, 0))) (hfb : fb ≠ b) :
  Calls Tryz.prog 24 #[.slice (some ⟨fb, 0, none⟩) 5 5] W (EndP b W (firstS s)) := by
 have hd := drpS_size s.rest 3
 refine (inOrder_any 5 fb 5 (fun k => firsts.getD k 0) (fun _ => #[.pointer (some ⟨b, 0, none⟩)]) (J1 b W s) (fun c w' => Kp (Only b) W w' ∧ cutSchemeS (dropS s) = .error c) W ?_ ?_ ?_ (by omega) ⟨Kp.refl _ _, h⟩).mono ?_
 ·intro k hk args w
  rcases (show k = 0 ∨ k = 1 ∨ k = 2 ∨ k = 3 ∨ k = 4 by omega) with rfl | rfl | rfl | rfl | rfl
  ·exact enters_of Tryz.func25 (by kernel_rfl) rfl args w
  ·exact enters_of Tryz.func26 (by kernel_rfl) rfl args w
  ·exact enters_of Tryz.func27 (by kernel_rfl) rfl args w
  ·exact enters_of Tryz.func28 (by kernel_rfl) rfl args w
  ·exact enters_of Tryz.func29 (by kernel_rfl) rfl args w
 ·intro k w' hk hJ
  refine row_kept hrow hJ.1 hfb k _ ?_
  rcases (show k = 0 ∨ k = 1 ∨ k = 2 ∨ k = 3 ∨ k = 4 by omega) with rfl | rfl | rfl | rfl | rfl <;> rfl
 ·intro k w' hk hJ
  obtain ⟨hK, hJ⟩ := hJ
  have hR := hW.kp hK
  obtain ⟨m, hm⟩ := hR.hw.ml
  rcases (show k = 0 ∨ k = 1 ∨ k = 2 ∨ k = 3 ∨ k = 4 by omega) with rfl | rfl | rfl | rfl | rfl
  ·exact (dropBlanks_any b s w' hJ (by omega) hR).mono fun e w'' hC => .inl (ok_step (J1 b W s 1) hC hK fun k1 r1 => ⟨k1, r1⟩)
  ·refine (cutScheme_any b (dropS s) w' hJ (by show (drpS s.rest 3).size ≤ _; omega) hR).mono fun e w'' hC => ?_
   rcases exc_cases (cutSchemeS (dropS s)) with ⟨t, hO⟩ | ⟨c, hO⟩
   ·rw [hO] at hC
    exact .inl (ok_step (J1 b W s 2) hC hK fun k1 r1 => ⟨k1, t, hO, r1⟩)
   ·rw [hO] at hC
    exact .inr ⟨c, hC.1, hK.trans hC.2, hO⟩
  ·obtain ⟨t, hO, hJ⟩ := hJ
   have ht := (scheme_rest hO).1
   have h1 : (dropS s).rest.size ≤ s.rest.size := hd
   exact (cutMark_any b t m w' hJ (by omega) hm (by have := cutB_size 35 t.rest; omega)).mono fun e w'' hC => .inl (ok_step (J1 b W s 3) hC hK fun k1 r1 => ⟨k1, t, hO, r1⟩)
  ·obtain ⟨t, hO, hJ⟩ := hJ
   have ht := (scheme_rest hO).1
   have h1 : (dropS s).rest.size ≤ s.rest.size := hd
   have h2 : (markS t).rest.size ≤ t.rest.size := cutA_size 35 t.rest
   exact (cutQuery_any b (markS t) m w' hJ (by omega) hm (by have := cutB_size 63 (markS t).rest; omega)).mono fun e w'' hC => .inl (ok_step (J1 b W s 4) hC hK fun k1 r1 => ⟨k1, t, hO, r1⟩)
  ·obtain ⟨t, hO, hJ⟩ := hJ
   have ht := (scheme_rest hO).1
   have h1 : (dropS s).rest.size ≤ s.rest.size := hd
   have h2 : (markS t).rest.size ≤ t.rest.size := cutA_size 35 t.rest
   have h3 : (queryS (markS t)).rest.size ≤ (markS t).rest.size := cutA_size 63 (markS t).rest
   exact (turnSlashes_any b (queryS (markS t)) m w' hJ (by omega) hm).mono fun e w'' hC => .inl (ok_step (J1 b W s 5) hC hK fun k1 r1 => ⟨k1, t, hO, r1⟩)
 ·rintro e w' (⟨rfl, hK, t, hO, hR⟩ | ⟨c, rfl, hK, hO⟩)
  ·exact .inl ⟨_, by rw [firstS, hO], rfl, hR, hK⟩
  ·exact .inr ⟨c, by rw [firstS, hO], rfl, hK⟩

set_option maxHeartbeats 1000000 in
theorem last_any (b fb : Nat) (s : RdS) (W : World) (h : RdAt W b s) (hs : Sm s.u) (hW : Rw b W)
  (hrow : W.heap[fb]? = some (.cells ([31].map fun f => Value.func (.func f) #[.pointer (some ⟨b, 0, none⟩)] #[]).toArray 1 (0, 0))) (hfb : fb ≠ b) :
  Calls Tryz.prog 24 #[.slice (some ⟨fb, 0, none⟩) 1 1] W (EndP b W (measureS s)) := by
 refine (inOrder_any 1 fb 1 (fun _ => 31) (fun _ => #[.pointer (some ⟨b, 0, none⟩)]) (fun k w' => Kp (Only b) W w' ∧ if k = 0 then RdAt w' b s else ∃ t, measureS s = .ok t ∧ RdAt w' b t) (fun c w' => Kp (Only b) W w' ∧ measureS s = .error c) W ?_ ?_ ?_ (by omega) ⟨Kp.refl _ _, h⟩).mono ?_
 ·intro k hk args w
  exact enters_of Tryz.func31 (by kernel_rfl) rfl args w
 ·intro k w' hk hJ
  refine row_kept hrow hJ.1 hfb k _ ?_
  obtain rfl : k = 0 := by omega
  rfl
 ·intro k w' hk hJ
  obtain rfl : k = 0 := by omega
  obtain ⟨hK, hJ⟩ := hJ
  refine (measure_any b s w' hJ hs (hW.kp hK)).mono fun e w'' hC => ?_
  rcases exc_cases (measureS s) with ⟨t, hO⟩ | ⟨c, hO⟩
  ·rw [hO] at hC
   exact .inl ⟨hC.1.1, hK.trans hC.2, t, hO, hC.1.2⟩
  ·rw [hO] at hC
   exact .inr ⟨c, hC.1, hK.trans hC.2, hO⟩
 ·rintro e w' (⟨rfl, hK, t, hO, hR⟩ | ⟨c, rfl, hK, hO⟩)
  ·exact .inl ⟨t, hO, rfl, hR, hK⟩
  ·exact .inr ⟨c, hO, rfl, hK⟩

end Go.Proofs.YtcphokaamkalfaaGreatDoor
namespace Go.Proofs.YtcphokaamkalfaaGreatDoor
open Go.RowKit

def hpS (s : RdS) : Except Int RdS := (cutHostS (cutUserS (plcS (slashS s)))).bind cutPortS
def pathS (s : RdS) (S : List ByteArray) : RdS := { s with u := { s.u with pth := slJ (pathB (encS 4) S (rawB 47 s.rest)) } }
/-- What the later cuts leave, but for the parts. -/
def restS (s : RdS) : Except Int RdS :=
 if s.u.sch ≠ s.b.sch ∨ 2 ≤ aheadN s then (match hpS s with | .ok t => .ok (pathS t []) | .error c => .error c)
 else if 0 < aheadN s then .ok (pathS (takePlaceS (slashS s)) [])
 else if s.rest.size ≠ 0 then .ok (pathS (takePlaceS s) (bparts s.b.pth))
 else .ok (takePathS (takePlaceS s))
theorem host_keep {s t : RdS} (h : cutHostS s = .ok t) : t.parts = s.parts ∧ t.rest = s.rest ∧ t.b = s.b ∧ t.place.size ≤ s.place.size := by
 unfold cutHostS at h
 dsimp only at h
 split at h
 ·injection h with h; subst h
  refine ⟨rfl, rfl, rfl, ?_⟩
  show (s.place.extract _ s.place.size).size ≤ _
  rw [ByteArray.size_extract]; omega
 ·cases h
theorem port_keep {s t : RdS} (h : cutPortS s = .ok t) : t.parts = s.parts ∧ t.rest = s.rest ∧ t.b = s.b := by
 unfold cutPortS at h
 split at h
 ·injection h with h; subst h; exact ⟨rfl, rfl, rfl⟩
 ·split at h
  ·injection h with h; subst h; exact ⟨rfl, rfl, rfl⟩
  ·cases h
theorem user_keep (s : RdS) : (cutUserS s).parts = s.parts ∧ (cutUserS s).rest = s.rest ∧ (cutUserS s).b = s.b ∧ (cutUserS s).place.size ≤ s.place.size := by
 unfold cutUserS
 split
 ·exact ⟨rfl, rfl, rfl, Nat.le_refl _⟩
 ·refine ⟨rfl, rfl, rfl, ?_⟩
  show (s.place.extract _ s.place.size).size ≤ _
  rw [ByteArray.size_extract]; omega
theorem slash_size (s : RdS) : (slashS s).rest.size ≤ s.rest.size := by
 have := (List.dropWhile_sublist (p := fun c => c == (47 : UInt8)) (l := s.rest.data.toList)).length_le
 rw [lenB] at this; exact this
/-- What cuts leave, but for the parts. -/
def EndU (b : Nat) (W : World) (o : Except Int RdS) (e : Ending) (w' : World) : Prop :=
 (∃ t v, o = .ok t ∧ e = .returned (.tuple #[]) ∧ RdAt w' b { t with parts := v } ∧ Kp (Only b) W w') ∨ ∃ c, o = .error c ∧ e = errP c ∧ Kp (Only b) W w'
theorem kp_nil {b : Nat} {s : RdS} {w w' : World} (k : Kp (PtX b s) w w') (h : s.parts = .slice none 0 0) : Kp (Only b) w w' := k.mono fun i hi => by
 rcases hi with hi | hi
 ·exact hi
 ·rw [h] at hi; cases hi
theorem kp_new {b : Nat} {s : RdS} {W w w' : World} (k0 : Kp (Only b) W w) (k : Kp (PtX b s) w w') (h : ∀ q, s.parts.ownBlock = some q → W.heap.size ≤ q) : Kp (Only b) W w' :=
 ⟨k.os.trans k0.os, k.tape.trans k0.tape, k.output.trans k0.output, Nat.le_trans k0.size k.size, fun i hi hx => by
  rw [k.block i (Nat.lt_of_lt_of_le hi k0.size) (fun hp => by
   rcases hp with hp | hp
   ·exact hx hp
   ·have := h i hp; omega)]
  exact k0.block i hi hx⟩
theorem bparts_ok (p : ByteArray) (h : p.size ≤ 8000) : (bparts p).length ≤ 9000 ∧ ∀ x ∈ bparts p, x.size ≤ 27000 := by
 have hc := rawB_count 47 p
 refine ⟨?_, fun x hx => ?_⟩
 ·unfold bparts; rw [List.length_dropLast, List.length_tail]; omega
 ·have := (rawB_mem 47 p x ((List.tail_sublist _).subset ((List.dropLast_sublist _).subset hx))).1; omega

abbrev JA (b : Nat) (W : World) (s : RdS) (k : Nat) (w' : World) : Prop :=
 Kp (Only b) W w' ∧ match k with
  | 0 => RdAt w' b s
  | 1 => RdAt w' b (slashS s)
  | 2 => RdAt w' b (plcS (slashS s))
  | 3 => RdAt w' b (cutUserS (plcS (slashS s)))
  | 4 => ∃ t, cutHostS (cutUserS (plcS (slashS s))) = .ok t ∧ RdAt w' b t
  | 5 => ∃ t, hpS s = .ok t ∧ RdAt w' b t
  | _ => ∃ t v, hpS s = .ok t ∧ RdAt w' b { pathS t [] with parts := v }
set_option maxHeartbeats 1000000 in
theorem restA_any (b fb : Nat) (s : RdS) (W : World) (h : RdAt W b s) (hs : s.rest.size ≤ 9000) (hW : Rw b W) (hp : s.parts = .slice none 0 0)
  (hh : ((cutUserS (plcS (slashS s))).place.extract 0 (hEndL (cutUserS (plcS (slashS s))).place.data.toList false)).size ≤ 10000)
  (hrow : W.heap[fb]? = some (.cells (cutsA.map fun f => Value.func (.func f) #[.pointer (some ⟨b, 0, none⟩)] #[]).toArray 1 (0, 0))) (hfb : fb ≠ b) :
  Calls Tryz.prog 24 #[.slice (some ⟨fb, 0, none⟩) 6 6] W (EndU b W (match hpS s with | .ok t => .ok (pathS t []) | .error c => .error c)) := by
 have hsl := slash_size s
 have hpl : (plcS (slashS s)).place.size ≤ (slashS s).rest.size := cutA_size 47 _
 have hrs : (plcS (slashS s)).rest.size ≤ (slashS s).rest.size := cutB_size 47 _
 obtain ⟨u1, u2, u3, u4⟩ := user_keep (plcS (slashS s))
 refine (inOrder_any 6 fb 6 (fun k => cutsA.getD k 0) (fun _ => #[.pointer (some ⟨b, 0, none⟩)]) (JA b W s) (fun c w' => Kp (Only b) W w' ∧ hpS s = .error c) W ?_ ?_ ?_ (by omega) ⟨Kp.refl _ _, h⟩).mono ?_
 ·intro k hk args w
  rcases (show k = 0 ∨ k = 1 ∨ k = 2 ∨ k = 3 ∨ k = 4 ∨ k = 5 by omega) with rfl | rfl | rfl | rfl | rfl | rfl
  ·exact enters_of Tryz.func47 (by kernel_rfl) rfl args w
  ·exact enters_of Tryz.func48 (by kernel_rfl) rfl args w
  ·exact enters_of Tryz.func49 (by kernel_rfl) rfl args w
  ·exact enters_of Tryz.func50 (by kernel_rfl) rfl args w
  ·exact enters_of Tryz.func51 (by kernel_rfl) rfl args w
  ·exact enters_of Tryz.func52 (by kernel_rfl) rfl args w
 ·intro k w' hk hJ
  refine row_kept hrow hJ.1 hfb k _ ?_
  rcases (show k = 0 ∨ k = 1 ∨ k = 2 ∨ k = 3 ∨ k = 4 ∨ k = 5 by omega) with rfl | rfl | rfl | rfl | rfl | rfl <;> rfl
 ·intro k w' hk hJ
  obtain ⟨hK, hJ⟩ := hJ
  have hR := hW.kp hK
  obtain ⟨m, hm⟩ := hR.hw.ml
  rcases (show k = 0 ∨ k = 1 ∨ k = 2 ∨ k = 3 ∨ k = 4 ∨ k = 5 by omega) with rfl | rfl | rfl | rfl | rfl | rfl
  ·exact (dropSlashes_any b s w' hJ).mono fun e w'' hC => .inl (ok_step (JA b W s 1) hC hK fun k1 r1 => ⟨k1, r1⟩)
  ·exact (cutPlace_any b (slashS s) m w' hJ (by omega) hm).mono fun e w'' hC => .inl (ok_step (JA b W s 2) hC hK fun k1 r1 => ⟨k1, r1⟩)
  ·exact (cutUser_any b (plcS (slashS s)) w' hJ (by omega) hR).mono fun e w'' hC => .inl (ok_step (JA b W s 3) hC hK fun k1 r1 => ⟨k1, r1⟩)
  ·refine (cutHost_any b (cutUserS (plcS (slashS s))) w' hJ (by omega) hh hR).mono fun e w'' hC => ?_
   rcases exc_cases (cutHostS (cutUserS (plcS (slashS s)))) with ⟨t, hO⟩ | ⟨c, hO⟩
   ·rw [hO] at hC
    exact .inl (ok_step (JA b W s 4) hC hK fun k1 r1 => ⟨k1, t, hO, r1⟩)
   ·rw [hO] at hC
    exact .inr ⟨c, hC.1, hK.trans hC.2, by rw [hpS, hO]; rfl⟩
  ·obtain ⟨t, hO, hJ⟩ := hJ
   obtain ⟨v1, v2, v3, v4⟩ := host_keep hO
   refine (cutPort_any b t w' hJ (by omega)).mono fun e w'' hC => ?_
   rcases exc_cases (cutPortS t) with ⟨x, hX⟩ | ⟨c, hX⟩
   ·rw [hX] at hC
    exact .inl (ok_step (JA b W s 5) hC hK fun k1 r1 => ⟨k1, x, by rw [hpS, hO]; exact hX, r1⟩)
   ·rw [hX] at hC
    exact .inr ⟨c, hC.1, hK.trans hC.2, by rw [hpS, hO]; exact hX⟩
  ·obtain ⟨t, hO, hJ⟩ := hJ
   obtain ⟨x, hX⟩ : ∃ x, cutHostS (cutUserS (plcS (slashS s))) = .ok x ∧ cutPortS x = .ok t := by
    rcases exc_cases (cutHostS (cutUserS (plcS (slashS s)))) with ⟨x, hx⟩ | ⟨c, hx⟩
    ·exact ⟨x, hx, by rw [hpS, hx] at hO; exact hO⟩
    ·rw [hpS, hx] at hO; cases hO
   obtain ⟨v1, v2, v3, v4⟩ := host_keep hX.1
   obtain ⟨p1, p2, p3⟩ := port_keep hX.2
   have hpt : t.parts = .slice none 0 0 := by rw [p1, v1, u1]; exact hp
   have hrt : t.rest.size ≤ 9000 := by rw [p2, v2, u2]; omega
   refine (cutPath_any b t [] w' hJ hrt hR (by rw [hpt]; exact PO.nil _ _) (by simp) (by simp)).mono fun e w'' hC => ?_
   obtain ⟨rfl, ⟨v, hv⟩, hk⟩ := hC
   exact .inl ⟨rfl, hK.trans (kp_nil hk hpt), t, v, hO, hv⟩
 ·rintro e w' (⟨rfl, hK, t, v, hO, hR⟩ | ⟨c, rfl, hK, hO⟩)
  ·exact .inl ⟨_, v, by rw [hO], rfl, hR, hK⟩
  ·exact .inr ⟨c, by rw [hO], rfl, hK⟩

abbrev JB (b : Nat) (W : World) (s : RdS) (k : Nat) (w' : World) : Prop :=
 Kp (Only b) W w' ∧ match k with
  | 0 => RdAt w' b s
  | 1 => RdAt w' b (slashS s)
  | 2 => RdAt w' b (takePlaceS (slashS s))
  | _ => ∃ v, RdAt w' b { pathS (takePlaceS (slashS s)) [] with parts := v }
set_option maxHeartbeats 1000000 in
theorem restB_any (b fb : Nat) (s : RdS) (W : World) (h : RdAt W b s) (hs : s.rest.size ≤ 9000) (hW : Rw b W) (hp : s.parts = .slice none 0 0)
  (hrow : W.heap[fb]? = some (.cells (cutsB.map fun f => Value.func (.func f) #[.pointer (some ⟨b, 0, none⟩)] #[]).toArray 1 (0, 0))) (hfb : fb ≠ b) :
  Calls Tryz.prog 24 #[.slice (some ⟨fb, 0, none⟩) 3 3] W (EndU b W (.ok (pathS (takePlaceS (slashS s)) []))) := by
 have hsl := slash_size s
 refine (inOrder_any 3 fb 3 (fun k => cutsB.getD k 0) (fun _ => #[.pointer (some ⟨b, 0, none⟩)]) (JB b W s) (fun _ _ => False) W ?_ ?_ ?_ (by omega) ⟨Kp.refl _ _, h⟩).mono ?_
 ·intro k hk args w
  rcases (show k = 0 ∨ k = 1 ∨ k = 2 by omega) with rfl | rfl | rfl
  ·exact enters_of Tryz.func47 (by kernel_rfl) rfl args w
  ·exact enters_of Tryz.func53 (by kernel_rfl) rfl args w
  ·exact enters_of Tryz.func52 (by kernel_rfl) rfl args w
 ·intro k w' hk hJ
  refine row_kept hrow hJ.1 hfb k _ ?_
  rcases (show k = 0 ∨ k = 1 ∨ k = 2 by omega) with rfl | rfl | rfl <;> rfl
 ·intro k w' hk hJ
  obtain ⟨hK, hJ⟩ := hJ
  have hR := hW.kp hK
  rcases (show k = 0 ∨ k = 1 ∨ k = 2 by omega) with rfl | rfl | rfl
  ·exact (dropSlashes_any b s w' hJ).mono fun e w'' hC => .inl (ok_step (JB b W s 1) hC hK fun k1 r1 => ⟨k1, r1⟩)
  ·exact (takePlace_any b (slashS s) w' hJ).mono fun e w'' hC => .inl (ok_step (JB b W s 2) hC hK fun k1 r1 => ⟨k1, r1⟩)
  ·have hpt : (takePlaceS (slashS s)).parts = .slice none 0 0 := hp
   refine (cutPath_any b (takePlaceS (slashS s)) [] w' hJ (by show (slashS s).rest.size ≤ _; omega) hR (by rw [hpt]; exact PO.nil _ _) (by simp) (by simp)).mono fun e w'' hC => ?_
   obtain ⟨rfl, ⟨v, hv⟩, hk⟩ := hC
   exact .inl ⟨rfl, hK.trans (kp_nil hk hpt), v, hv⟩
 ·rintro e w' (⟨rfl, hK, v, hR⟩ | ⟨c, rfl, hB⟩)
  ·exact .inl ⟨_, v, rfl, rfl, hR, hK⟩
  ·exact hB.elim

abbrev JC (b : Nat) (W : World) (s : RdS) (k : Nat) (w' : World) : Prop :=
 Kp (Only b) W w' ∧ match k with
  | 0 => RdAt w' b s
  | 1 => RdAt w' b (takePlaceS s)
  | 2 => ∃ v, RdAt w' b { takePlaceS s with parts := v } ∧ PO W.heap.size w' v (bparts s.b.pth)
  | _ => ∃ v, RdAt w' b { pathS (takePlaceS s) (bparts s.b.pth) with parts := v }
theorem PO.lower {x y : Nat} {w : World} {v : Value} {S : List ByteArray} (h : PO x w v S) (hxy : y ≤ x) : PO y w v S := by
 rcases h with h | ⟨g, o, cap, cur, rfl, hg, r⟩
 ·exact .inl h
 ·exact .inr ⟨g, o, cap, cur, rfl, by omega, r⟩
set_option maxHeartbeats 1000000 in
theorem restC_any (b fb : Nat) (s : RdS) (W : World) (h : RdAt W b s) (hs : s.rest.size ≤ 9000) (hb : s.b.pth.size ≤ 8000) (h2 : 2 ≤ (rawB 47 s.b.pth).length) (hW : Rw b W)
  (hrow : W.heap[fb]? = some (.cells (cutsC.map fun f => Value.func (.func f) #[.pointer (some ⟨b, 0, none⟩)] #[]).toArray 1 (0, 0))) (hfb : fb ≠ b) :
  Calls Tryz.prog 24 #[.slice (some ⟨fb, 0, none⟩) 3 3] W (EndU b W (.ok (pathS (takePlaceS s) (bparts s.b.pth)))) := by
 have hbl := h.lt
 refine (inOrder_any 3 fb 3 (fun k => cutsC.getD k 0) (fun _ => #[.pointer (some ⟨b, 0, none⟩)]) (JC b W s) (fun _ _ => False) W ?_ ?_ ?_ (by omega) ⟨Kp.refl _ _, h⟩).mono ?_
 ·intro k hk args w
  rcases (show k = 0 ∨ k = 1 ∨ k = 2 by omega) with rfl | rfl | rfl
  ·exact enters_of Tryz.func53 (by kernel_rfl) rfl args w
  ·exact enters_of Tryz.func54 (by kernel_rfl) rfl args w
  ·exact enters_of Tryz.func52 (by kernel_rfl) rfl args w
 ·intro k w' hk hJ
  refine row_kept hrow hJ.1 hfb k _ ?_
  rcases (show k = 0 ∨ k = 1 ∨ k = 2 by omega) with rfl | rfl | rfl <;> rfl
 ·intro k w' hk hJ
  obtain ⟨hK, hJ⟩ := hJ
  have hR := hW.kp hK
  rcases (show k = 0 ∨ k = 1 ∨ k = 2 by omega) with rfl | rfl | rfl
  ·exact (takePlace_any b s w' hJ).mono fun e w'' hC => .inl (ok_step (JC b W s 1) hC hK fun k1 r1 => ⟨k1, r1⟩)
  ·refine (takeParts_any b (takePlaceS s) w' hJ (by show s.b.pth.size ≤ _; omega) h2 hR).mono fun e w'' hC => ?_
   obtain ⟨rfl, ⟨v, hv, hpo⟩, hk⟩ := hC
   exact .inl ⟨rfl, hK.trans hk, v, hv, hpo.lower hK.size⟩
  ·obtain ⟨v, hJ, hpo⟩ := hJ
   obtain ⟨q1, q2⟩ := bparts_ok s.b.pth hb
   refine (cutPath_any b { takePlaceS s with parts := v } (bparts s.b.pth) w' hJ hs hR (hpo.lower (by omega)) q1 q2).mono fun e w'' hC => ?_
   obtain ⟨rfl, ⟨v', hv⟩, hk⟩ := hC
   obtain ⟨_, _, _, _, hob⟩ := hpo.shape
   exact .inl ⟨rfl, kp_new hK hk (fun q e => (hob q e).1), v', hv⟩
 ·rintro e w' (⟨rfl, hK, v, hR⟩ | ⟨c, rfl, hB⟩)
  ·exact .inl ⟨_, v, rfl, rfl, hR, hK⟩
  ·exact hB.elim

abbrev JD (b : Nat) (W : World) (s : RdS) (k : Nat) (w' : World) : Prop :=
 Kp (Only b) W w' ∧ match k with
  | 0 => RdAt w' b s
  | 1 => RdAt w' b (takePlaceS s)
  | _ => RdAt w' b (takePathS (takePlaceS s))
set_option maxHeartbeats 1000000 in
theorem restD_any (b fb : Nat) (s : RdS) (W : World) (h : RdAt W b s)
  (hrow : W.heap[fb]? = some (.cells (cutsD.map fun f => Value.func (.func f) #[.pointer (some ⟨b, 0, none⟩)] #[]).toArray 1 (0, 0))) (hfb : fb ≠ b) :
  Calls Tryz.prog 24 #[.slice (some ⟨fb, 0, none⟩) 2 2] W (EndU b W (.ok (takePathS (takePlaceS s)))) := by
 refine (inOrder_any 2 fb 2 (fun k => cutsD.getD k 0) (fun _ => #[.pointer (some ⟨b, 0, none⟩)]) (JD b W s) (fun _ _ => False) W ?_ ?_ ?_ (by omega) ⟨Kp.refl _ _, h⟩).mono ?_
 ·intro k hk args w
  rcases (show k = 0 ∨ k = 1 by omega) with rfl | rfl
  ·exact enters_of Tryz.func53 (by kernel_rfl) rfl args w
  ·exact enters_of Tryz.func55 (by kernel_rfl) rfl args w
 ·intro k w' hk hJ
  refine row_kept hrow hJ.1 hfb k _ ?_
  rcases (show k = 0 ∨ k = 1 by omega) with rfl | rfl <;> rfl
 ·intro k w' hk hJ
  obtain ⟨hK, hJ⟩ := hJ
  rcases (show k = 0 ∨ k = 1 by omega) with rfl | rfl
  ·exact (takePlace_any b s w' hJ).mono fun e w'' hC => .inl (ok_step (JD b W s 1) hC hK fun k1 r1 => ⟨k1, r1⟩)
  ·exact (takePath_any b (takePlaceS s) w' hJ).mono fun e w'' hC => .inl (ok_step (JD b W s 2) hC hK fun k1 r1 => ⟨k1, r1⟩)
 ·rintro e w' (⟨rfl, hK, hR⟩ | ⟨c, rfl, hB⟩)
  ·exact .inl ⟨_, _, rfl, rfl, hR, hK⟩
  ·exact hB.elim

/-- The later cuts, whichever they are. -/
theorem rests_any (b fb : Nat) (s : RdS) (W : World) (h : RdAt W b s) (hs : s.rest.size ≤ 9000) (hb : s.b.pth.size ≤ 8000) (h2 : s.u.sch = s.b.sch → 2 ≤ (rawB 47 s.b.pth).length) (hW : Rw b W) (hp : s.parts = .slice none 0 0)
  (hh : ((cutUserS (plcS (slashS s))).place.extract 0 (hEndL (cutUserS (plcS (slashS s))).place.data.toList false)).size ≤ 10000)
  (hrow : W.heap[fb]? = some (.cells ((cutsS s).map fun f => Value.func (.func f) #[.pointer (some ⟨b, 0, none⟩)] #[]).toArray 1 (0, 0))) (hfb : fb ≠ b) :
  Calls Tryz.prog 24 #[.slice (some ⟨fb, 0, none⟩) (cutsS s).length (cutsS s).length] W (EndU b W (restS s)) := by
 unfold cutsS at hrow ⊢
 unfold restS
 by_cases h1 : s.u.sch ≠ s.b.sch ∨ 2 ≤ aheadN s
 ·simp only [if_pos h1] at hrow ⊢
  exact restA_any b fb s W h hs hW hp hh hrow hfb
 simp only [if_neg h1] at hrow ⊢
 by_cases h3 : 0 < aheadN s
 ·simp only [if_pos h3] at hrow ⊢
  exact restB_any b fb s W h hs hW hp hrow hfb
 simp only [if_neg h3] at hrow ⊢
 by_cases h4 : s.rest.size ≠ 0
 ·simp only [if_pos h4] at hrow ⊢
  exact restC_any b fb s W h hs hb (h2 (Classical.byContradiction fun h => h1 (.inl h))) hW hrow hfb
 ·simp only [if_neg h4] at hrow ⊢
  exact restD_any b fb s W h hrow hfb

end Go.Proofs.YtcphokaamkalfaaGreatDoor
namespace Go.Proofs.YtcphokaamkalfaaGreatDoor
open Go.RowKit

def readS (s : RdS) : Except Int RdS := (firstS s).bind fun t => (restS t).bind measureS
def uOf (o : Except Int RdS) : UrS × Int := match o with
 | .ok x => (x.u, 0)
 | .error c => (u0, c)
def readU (s : RdS) : UrS × Int := uOf (readS s)
theorem load_errno (w : World) (g : Nat) (v : Value) (h : w.cell? ⟨g, 0, none⟩ = some v) : (loadVar 26 ⟨g, 0, none⟩).run Tryz.prog w = .ok v w := by
 simp [loadVar, Sem.run_bind, go_sem, h]
theorem results_cells2 {fn : Func} {p u : Tmp} (h : fn.results = #[.cell p 23, .cell u 26]) (tmps : Array Value) (w : World) (g k : Nat) (U : UrS) (c : Int)
  (hp : tmps.getD p undef = .pointer (some ⟨g, 0, none⟩)) (hk : tmps.getD u undef = .pointer (some ⟨k, 0, none⟩)) (hg : w.heap[g]? = some (.cells U.cells.toArray 23 (0, 0))) (hc : w.heap[k]? = some (.cells #[.int .i64 c] 26 (0, 0))) :
  (results fn tmps).run Tryz.prog w = .ok (.tuple #[.agg U.cells.toArray, .int .i64 c]) w := by
 have hp' : tmps[p]?.getD undef = .pointer (some ⟨g, 0, none⟩) := by simpa using hp
 have hk' : tmps[u]?.getD undef = .pointer (some ⟨k, 0, none⟩) := by simpa using hk
 have h1 := run_loadVar_row (P := Tryz.prog) w g 23 23 U.cells.toArray (0, 0) _ hg Tryz.underlying23 rfl (infoUl U)
 have h2 := load_errno w k _ (cell_of_one hc)
 simp [results, h, hp', hk', asAddr, Sem.run_bind, h1, h2]
/-- What read's own new variables hold, and all else. -/
structure Bx (b : Nat) (w W : World) : Prop where
 q : W.heap[w.heap.size]? = some (.cells u0.cells.toArray 23 (0, 0))
 r : W.heap[w.heap.size + 1]? = some (.cells #[.int .i64 0] 26 (0, 0))
 k : Kp (Only b) w W
theorem Bx.kp {b : Nat} {w W W' : World} (h : Bx b w W) (hb : b < w.heap.size) (k : Kp (Only b) W W') : Bx b w W' :=
 ⟨k.at h.q (by show ¬ w.heap.size = b; omega), k.at h.r (by show ¬ w.heap.size + 1 = b; omega), h.k.trans k⟩
theorem Bx.below {b : Nat} {w W W' : World} (h : Bx b w W) (hb : b < w.heap.size) (k : Below W.heap.size W W') : Bx b w W' := h.kp hb (Kp.of_below k)
theorem kp_news {b : Nat} {w W W' : World} (k0 : Kp (Only b) w W) (k : Kp (fun k => k = w.heap.size ∨ k = w.heap.size + 1) W W') : Kp (Only b) w W' :=
 ⟨k.os.trans k0.os, k.tape.trans k0.tape, k.output.trans k0.output, Nat.le_trans k0.size k.size, fun i hi hx => by
  rw [k.block i (Nat.lt_of_lt_of_le hi k0.size) (fun hp => by omega)]
  exact k0.block i hi hx⟩
theorem read_caught (b : Nat) (c : Int) (w W : World) (tmps : Array Value) (h : Bx b w W) (h2 : tmps.getD 2 undef = .pointer (some ⟨w.heap.size, 0, none⟩)) (h3 : tmps.getD 3 undef = .pointer (some ⟨w.heap.size + 1, 0, none⟩)) :
  bodyPostD Tryz.prog Tryz.f15 (fun e w' => e = .returned (.tuple #[.agg u0.cells.toArray, .int .i64 c]) ∧ Kp (Only b) w w') (.panic [{ v := .iface 26 (.int .i64 c), recovered := false }])
   { tmps := tmps, defers := [{ target := Target.fn (Fn.func 23) #[.pointer (some ⟨w.heap.size, 0, none⟩), .pointer (some ⟨w.heap.size + 1, 0, none⟩)], args := #[] }] } W := by
 refine leaves_cons (f := 23) (args := #[.pointer (some ⟨w.heap.size, 0, none⟩), .pointer (some ⟨w.heap.size + 1, 0, none⟩)]) (by simp) (by simp [go_sem]) ?_
 refine (catch_yes w.heap.size (w.heap.size + 1) c 0 _ [] W h.q rfl h.r (by omega)).mono ?_
 rintro e u' w'' ⟨rfl, rfl, hq, hr, hk⟩
 exact ⟨_, results_cells2 rfl tmps w'' w.heap.size (w.heap.size + 1) u0 c h2 h3 hq hr, rfl, kp_news h.k hk⟩
theorem read_done (b : Nat) (u : UrS) (w W : World) (tmps : Array Value) (hq : W.heap[w.heap.size]? = some (.cells u.cells.toArray 23 (0, 0))) (hr : W.heap[w.heap.size + 1]? = some (.cells #[.int .i64 0] 26 (0, 0))) (hk : Kp (Only b) w W)
  (h2 : tmps.getD 2 undef = .pointer (some ⟨w.heap.size, 0, none⟩)) (h3 : tmps.getD 3 undef = .pointer (some ⟨w.heap.size + 1, 0, none⟩)) :
  bodyPostD Tryz.prog Tryz.f15 (fun e w' => e = .returned (.tuple #[.agg u.cells.toArray, .int .i64 0]) ∧ Kp (Only b) w w') .ret
   { tmps := tmps, defers := [{ target := Target.fn (Fn.func 23) #[.pointer (some ⟨w.heap.size, 0, none⟩), .pointer (some ⟨w.heap.size + 1, 0, none⟩)], args := #[] }] } W := by
 refine leaves_cons (f := 23) (args := #[.pointer (some ⟨w.heap.size, 0, none⟩), .pointer (some ⟨w.heap.size + 1, 0, none⟩)]) (by simp) (by simp [go_sem]) ?_
 refine (catch_no w.heap.size (w.heap.size + 1) W).mono ?_
 rintro e u' w'' ⟨rfl, rfl, rfl⟩
 exact ⟨_, results_cells2 rfl tmps _ w.heap.size (w.heap.size + 1) u 0 h2 h3 hq hr, rfl, hk⟩

theorem first_keep {s t : RdS} (h : firstS s = .ok t) : t.rest.size ≤ s.rest.size ∧ t.b = s.b ∧ t.parts = s.parts := by
 unfold firstS at h
 rcases exc_cases (cutSchemeS (dropS s)) with ⟨x, hx⟩ | ⟨c, hx⟩
 ·rw [hx] at h
  injection h with h
  subst h
  obtain ⟨h1, h2, h3⟩ := scheme_rest hx
  have h4 : (dropS s).rest.size ≤ s.rest.size := drpS_size s.rest 3
  refine ⟨?_, h2, h3⟩
  show (repl 92 [47] (cutA 63 (cutA 35 x.rest))).size ≤ _
  rw [turn_size]
  have h5 := cutA_size 35 x.rest
  have h6 := cutA_size 63 (cutA 35 x.rest)
  omega
 ·rw [hx] at h; cases h
theorem u0_lit (T : TypeId) : Obj.cells #[.string ⟨#[]⟩, .string ⟨#[]⟩, .string ⟨#[]⟩, .string ⟨#[]⟩, .int .i64 0, .string ⟨#[]⟩, .string ⟨#[]⟩, .bool false, .string ⟨#[]⟩, .bool false] T = .cells u0.cells.toArray T := rfl
set_option maxRecDepth 100000 in
set_option maxHeartbeats 4000000 in
theorem read_any (b : Nat) (s : RdS) (w : World) (h : RdAt w b s) (hs : s.rest.size ≤ 9000) (hb : s.b.pth.size ≤ 8000) (hW : Rw b w) (hp : s.parts = .slice none 0 0)
  (h2 : ∀ t, firstS s = .ok t → t.u.sch = t.b.sch → 2 ≤ (rawB 47 t.b.pth).length)
  (hh : ∀ t, firstS s = .ok t → ((cutUserS (plcS (slashS t))).place.extract 0 (hEndL (cutUserS (plcS (slashS t))).place.data.toList false)).size ≤ 10000)
  (hm : ∀ t x, firstS s = .ok t → restS t = .ok x → Sm x.u) :
  Calls Tryz.prog 15 #[.pointer (some ⟨b, 0, none⟩)] w fun e w' => e = .returned (.tuple #[.agg (readU s).1.cells.toArray, .int .i64 (readU s).2]) ∧ Kp (Only b) w w' := by
 have hmf := mkfK
 have hbl := h.lt
 have HU := Lib.hid (show readU s = uOf (readS s) from rfl)
 obtain ⟨U, c, HUc⟩ : ∃ U c, Hid (readU s = (U, c)) := ⟨_, _, Lib.hid rfl⟩
 rw [HUc.out] at HU ⊢
 dsimp only
 have F1 : Hid (∀ (W : World) (fb : Nat), RdAt W b s → Kp (Only b) w W → W.heap[fb]? = some (.cells (firsts.map fun f => Value.func (.func f) #[.pointer (some ⟨b, 0, none⟩)] #[]).toArray 1 (0, 0)) → fb ≠ b →
   Calls Tryz.prog 24 #[.slice (some ⟨fb, 0, none⟩) 5 5] W (EndP b W (firstS s))) := Lib.hid (fun W fb hR hK hr hf => firsts_any b fb s W hR hs (hW.kp hK) hr hf)
 have HRd := Lib.hid h
 have HH := Lib.hid hh
 have HM := Lib.hid hm
 have H2 := Lib.hid h2
 have HW := Lib.hid hW
 clear hh hm h2 h hW
 go_enter_defers Tryz.func15, Tryz.ntmps15
 go_wp2_with fail
 obtain ⟨W3, HW3⟩ : ∃ W, Hid (((w.alloc (.cells #[.string ⟨#[]⟩, .string ⟨#[]⟩, .string ⟨#[]⟩, .string ⟨#[]⟩, .int .i64 0, .string ⟨#[]⟩, .string ⟨#[]⟩, .bool false, .string ⟨#[]⟩, .bool false] 23)).alloc (.cells #[.int .i64 0] 26)).alloc (.cells (firsts.map fun f => Value.func (.func f) #[.pointer (some ⟨b, 0, none⟩)] #[]).toArray 1) = W) := ⟨_, Lib.hid rfl⟩
 have HB3 : Hid (Bx b w W3) := Lib.hid (by
  rw [← HW3.out, u0_lit]
  refine ⟨?_, ?_, ((Kp.refl _ w).alloc _).alloc _ |>.alloc _⟩
  ·exact ((Kp.refl (fun _ => False) _).alloc _).at (((Kp.refl (fun _ => False) _).alloc _).at (heap_alloc_new w _) id) id
  ·exact ((Kp.refl (fun _ => False) _).alloc _).at (by have := heap_alloc_new (w.alloc (.cells u0.cells.toArray 23)) (.cells #[.int .i64 0] 26); rwa [World.size_alloc] at this) id)
 have HR3 : Hid (RdAt W3 b s) := Lib.hid (by
  rw [← HW3.out]
  exact ((((Kp.refl (fun _ => False) w).alloc _).alloc _).alloc _).at HRd.out id)
 have HF3 : Hid (W3.heap[w.heap.size + 1 + 1]? = some (.cells (firsts.map fun f => Value.func (.func f) #[.pointer (some ⟨b, 0, none⟩)] #[]).toArray 1 (0, 0))) := Lib.hid (by
  rw [← HW3.out]
  have := heap_alloc_new ((w.alloc (.cells #[.string ⟨#[]⟩, .string ⟨#[]⟩, .string ⟨#[]⟩, .string ⟨#[]⟩, .int .i64 0, .string ⟨#[]⟩, .string ⟨#[]⟩, .bool false, .string ⟨#[]⟩, .bool false] 23)).alloc (.cells #[.int .i64 0] 26)) (.cells (firsts.map fun f => Value.func (.func f) #[.pointer (some ⟨b, 0, none⟩)] #[]).toArray 1)
  rwa [World.size_alloc, World.size_alloc] at this)
 refine (show Calls Tryz.prog 24 #[.slice (some ⟨w.heap.size + 1 + 1, 0, none⟩) 5 5] (((w.alloc (.cells #[.string ⟨#[]⟩, .string ⟨#[]⟩, .string ⟨#[]⟩, .string ⟨#[]⟩, .int .i64 0, .string ⟨#[]⟩, .string ⟨#[]⟩, .bool false, .string ⟨#[]⟩, .bool false] 23)).alloc (.cells #[.int .i64 0] 26)).alloc (.cells (firsts.map fun f => Value.func (.func f) #[.pointer (some ⟨b, 0, none⟩)] #[]).toArray 1)) (EndP b W3 (firstS s)) from by rw [HW3.out]; exact F1.out W3 _ HR3.out HB3.out.k HF3.out (by omega)).mono ?_
 rintro e w4 (⟨t, hO, rfl, hR, hK⟩ | ⟨c', hO, rfl, hK⟩)
 rotate_left
 ·have hc : (U, c) = (u0, c') := by rw [HU.out, readS, hO]; rfl
  injection hc with e1 e2
  subst e1 e2
  exact read_caught b _ w w4 _ (HB3.out.kp hbl hK) rfl rfl
 obtain ⟨k1, k2, k3⟩ := first_keep hO
 have HR4 := Lib.hid hR
 have HB4 := Lib.hid (HB3.out.kp hbl hK)
 have HW4 := Lib.hid (HW.out.kp HB4.out.k)
 have hrt : t.rest.size ≤ 9000 := by omega
 have HPt : Hid (t.parts = .slice none 0 0) := Lib.hid (k3.trans hp)
 have HBt : Hid (t.b.pth.size ≤ 8000) := Lib.hid (by rw [k2]; exact hb)
 have HU1 : Hid ((U, c) = uOf ((restS t).bind measureS)) := Lib.hid (by rw [HU.out, readS, hO]; rfl)
 have HHt := Lib.hid (HH.out t hO)
 have HMt := Lib.hid (fun x => HM.out t x hO)
 have H2t := Lib.hid (H2.out t hO)
 have HC := Lib.hid (cutsOfRest_any b t w4 hR (by omega))
 have HRs : Hid (∀ (W : World) (fb : Nat), RdAt W b t → Kp (Only b) w W → W.heap[fb]? = some (.cells ((cutsS t).map fun f => Value.func (.func f) #[.pointer (some ⟨b, 0, none⟩)] #[]).toArray 1 (0, 0)) → fb ≠ b →
   Calls Tryz.prog 24 #[.slice (some ⟨fb, 0, none⟩) (cutsS t).length (cutsS t).length] W (EndU b W (restS t))) := Lib.hid (fun W fb hR hK hr hf => rests_any b fb t W hR hrt HBt.out H2t.out (HW.out.kp hK) HPt.out HHt.out hr hf)
 obtain ⟨n, Hn⟩ : ∃ n, Hid ((cutsS t).length = n) := ⟨_, Lib.hid rfl⟩
 rw [Hn.out] at HRs
 clear hR hK hO k1 k2 k3 hrt hb hs hp
 go_wp2_with fail
 refine HC.out.mono ?_
 rintro e w5 ⟨g, rfl, hg, hrow, hb5⟩
 rw [Hn.out]
 have HR5 := Lib.hid (HR4.out.below hb5)
 have HB5 := Lib.hid (HB4.out.below hbl hb5)
 have HRow := Lib.hid hrow
 have hgb : g ≠ b := by have := HB4.out.k.size; omega
 clear hrow hb5
 go_wp2_with fail
 refine (HRs.out w5 g HR5.out HB5.out.k HRow.out hgb).mono ?_
 rintro e w6 (⟨x, v, hO, rfl, hR, hK⟩ | ⟨c', hO, rfl, hK⟩)
 rotate_left
 ·have hc : (U, c) = (u0, c') := by rw [HU1.out, hO]; rfl
  injection hc with e1 e2
  subst e1 e2
  exact read_caught b _ w w6 _ (HB5.out.kp hbl hK) rfl rfl
 have HR6 := Lib.hid hR
 have HB6 := Lib.hid (HB5.out.kp hbl hK)
 have HU2 : Hid ((U, c) = uOf (measureS x)) := Lib.hid (by rw [HU1.out, hO]; rfl)
 have HMx := Lib.hid (HMt.out x hO)
 clear hR hK hO hg hgb
 go_wp2_with fail
 obtain ⟨W7, HW7⟩ : ∃ W, Hid (w6.alloc (.cells ([31].map fun f => Value.func (.func f) #[.pointer (some ⟨b, 0, none⟩)] #[]).toArray 1) = W) := ⟨_, Lib.hid rfl⟩
 have HB7 : Hid (Bx b w W7) := Lib.hid (HB6.out.kp hbl (by rw [← HW7.out]; exact (Kp.refl _ _).alloc _))
 have HR7 : Hid (RdAt W7 b { x with parts := v }) := Lib.hid (by rw [← HW7.out]; exact ((Kp.refl (fun _ => False) _).alloc _).at HR6.out id)
 have HF7 : Hid (W7.heap[w6.heap.size]? = some (.cells ([31].map fun f => Value.func (.func f) #[.pointer (some ⟨b, 0, none⟩)] #[]).toArray 1 (0, 0))) := Lib.hid (by rw [← HW7.out]; exact heap_alloc_new _ _)
 have hfb : w6.heap.size ≠ b := by have := HB6.out.k.size; omega
 refine (show Calls Tryz.prog 24 #[.slice (some ⟨w6.heap.size, 0, none⟩) 1 1] (w6.alloc (.cells ([31].map fun f => Value.func (.func f) #[.pointer (some ⟨b, 0, none⟩)] #[]).toArray 1)) (EndP b W7 (measureS { x with parts := v })) from by rw [HW7.out]; exact last_any b _ _ W7 HR7.out HMx.out (HW.out.kp HB7.out.k) HF7.out hfb).mono ?_
 rintro e w8 (⟨y, hO, rfl, hR, hK⟩ | ⟨c', hO, rfl, hK⟩)
 rotate_left
 ·have hc : (U, c) = (u0, c') := by
   rw [HU2.out]
   unfold measureS at hO ⊢
   split at hO
   ·rename_i hl
    rw [if_pos hl]; injection hO with hO; rw [hO]; rfl
   ·cases hO
  injection hc with e1 e2
  subst e1 e2
  exact read_caught b _ w w8 _ (HB7.out.kp hbl hK) rfl rfl
 have hc : (U, c) = (x.u, 0) ∧ y = { x with parts := v } := by
  rw [HU2.out]
  unfold measureS at hO ⊢
  split at hO
  ·cases hO
  ·rename_i hl
   rw [if_neg hl]; injection hO with hO; exact ⟨rfl, hO.symm⟩
 obtain ⟨hc, rfl⟩ := hc
 injection hc with e1 e2
 subst e1 e2
 have HB8 := Lib.hid (HB7.out.kp hbl hK)
 have HRg : Hid (w8.rangeAt b 0 x.u.cells) := Lib.hid hR.range
 obtain ⟨C, HC⟩ : ∃ C, Hid (x.u.cells = C) := ⟨_, Lib.hid rfl⟩
 have HI : Hid ((Tryz.prog.info? 23).map (·.size) = some C.length) := Lib.hid (by rw [← HC.out]; exact infoUl x.u)
 have HO : Hid (C.toArray.all (·.oneCell') = true) := Lib.hid (by rw [← HC.out]; exact cells_one x.u)
 have HZ : Hid (u0.cells.toArray.size = C.toArray.size) := Lib.hid (by rw [← HC.out]; rfl)
 obtain ⟨W9, HW9⟩ : ∃ W, Hid (w8.setRow w.heap.size C.toArray = W) := ⟨_, Lib.hid rfl⟩
 have HQ9 : Hid (W9.heap[w.heap.size]? = some (.cells C.toArray 23 (0, 0))) := Lib.hid (by rw [← HW9.out]; exact setRow_heap w8 _ _ _ _ _ HB8.out.q)
 have hr9 : W9.heap[w.heap.size + 1]? = some (.cells #[.int .i64 0] 26 (0, 0)) := by rw [← HW9.out, setRow_other w8 _ _ _ (by omega)]; exact HB8.out.r
 have HK9 : Hid (Kp (Only b) w W9) := Lib.hid (kp_news HB8.out.k (by rw [← HW9.out]; exact setRow_kp w8 _ _ _ _ _ HB8.out.q (.inl rfl)))
 have c1 := cell_of_one hr9
 have f1 := free_of_one hr9
 have HR9 := Lib.hid hr9
 have HL8 : Hid (b < w8.heap.size) := Lib.hid (by have := HB8.out.k.size; omega)
 rw [HC.out] at HRg
 clear hR hK hO hr9
 go_wp2_with (first
  | (refine wpList_load_mid rfl 23 _ rfl b 0 ?_ C _ ?_ Tryz.underlying23 rfl HI.out ?_; (exact rfl); (exact HRg.out))
  | (refine wpL_store_row rfl 23 _ _ rfl w.heap.size C.toArray ?_ ?_ 23 u0.cells.toArray ?_ ?_ ?_ ?_ ?_; exact rfl; exact rfl; exact HB8.out.q; exact HI.out; exact HZ.out; exact HO.out; rw [HW9.out]))
 rw [← HC.out] at HQ9
 exact read_done b x.u w _ _ (by rw [Below.heap_setCell _ _ _ _ (by first | (show w.heap.size ≠ w.heap.size + 1; omega) | (show w.heap.size + 1 ≠ w.heap.size; omega))]; exact HQ9.out) (one_setCell HR9.out) (HK9.out.setNew (p := ⟨w.heap.size + 1, 0, none⟩) (by show w.heap.size ≤ w.heap.size + 1; omega) _) rfl rfl

end Go.Proofs.YtcphokaamkalfaaGreatDoor
namespace Go.Proofs.YtcphokaamkalfaaGreatDoor
open Go.RowKit

/-- A reader of a text, ahead of its cuts. -/
def rd0 (s : ByteArray) (u : UrS) : RdS := ⟨u0, u, s, ⟨#[]⟩, .slice none 0 0⟩
theorem built_R (u : UrS) (s : ByteArray) : Tryz.prog.built 47 [(1, .agg u.cells.toArray), (2, .string s)] = some (rd0 s u).cells := by
 obtain ⟨a, b, c, d, e, f, g, h, i, j⟩ := u
 kernel_rfl
set_option maxRecDepth 100000 in
set_option maxHeartbeats 1000000 in
theorem urReaderOf_any (s : ByteArray) (u : UrS) (w : World) :
  Calls Tryz.prog 14 #[.string s, .agg u.cells.toArray] w fun e w' => ∃ b, e = .returned (.pointer (some ⟨b, 0, none⟩)) ∧ w.heap.size ≤ b ∧ RdAt w' b (rd0 s u) ∧ Below w.heap.size w w' := by
 have HI := Lib.hid (infoU)
 have HB := Lib.hid (built_R u s)
 obtain ⟨R, HR⟩ : ∃ R, Hid ((rd0 s u).cells = R) := ⟨_, Lib.hid rfl⟩
 obtain ⟨C, HC⟩ : ∃ C, Hid (u.cells.toArray = C) := ⟨_, Lib.hid rfl⟩
 have HIc : Hid ((Tryz.prog.info? 23).map (·.size) = some C.size) := Lib.hid (by rw [← HC.out]; exact HI.out)
 rw [HR.out, HC.out] at HB
 rw [HC.out]
 have HG : Hid ((w.alloc (.cells C 23)).heap[w.heap.size]? = some (.cells C 23 (0, 0))) := Lib.hid (heap_alloc_new w _)
 go_enter Tryz.func14, Tryz.ntmps14
 go_wp2_with (first
  | (refine wpL_build rfl 47 _ rfl R ?_ ?_; exact HB.out)
  | (refine wpList_load_row rfl 23 _ rfl w.heap.size ?_ 23 C (0, 0) _ ?_ Tryz.underlying23 rfl HIc.out ?_; (exact rfl); (exact HG.out)))
 go_ret
 refine ⟨_, rfl, by omega, ?_, ?_⟩
 ·unfold RdAt
  rw [HR.out]
  have := heap_alloc_new (w.alloc (.cells C 23)) (.cells R 47)
  rwa [World.size_alloc] at this
 ·exact ((Below.refl _ _).alloc (Nat.le_refl _) _).alloc (by simp) _

/-- What is asked of a reader, so that its cuts can be walked. -/
structure RdOk (s : RdS) : Prop where
 h2 : ∀ t, firstS s = .ok t → t.u.sch = t.b.sch → 2 ≤ (rawB 47 t.b.pth).length
 hh : ∀ t, firstS s = .ok t → ((cutUserS (plcS (slashS t))).place.extract 0 (hEndL (cutUserS (plcS (slashS t))).place.data.toList false)).size ≤ 10000
 hm : ∀ t x, firstS s = .ok t → restS t = .ok x → Sm x.u
theorem uw_rw {w w1 : World} {b : Nat} (h : Uw w) (hb : w.heap.size ≤ b) (k : Below w.heap.size w w1) : Rw b w1 := ⟨w, h, hb, k⟩
/-- readerOf and read, one behind the other. -/
theorem read_new (s : ByteArray) (u : UrS) (b : Nat) (w w1 : World) (hW : Uw w) (hs : s.size ≤ 9000) (hb : w.heap.size ≤ b) (h : RdAt w1 b (rd0 s u)) (k : Below w.heap.size w w1) (hp : u.pth.size ≤ 8000) (hO : RdOk (rd0 s u)) :
  Calls Tryz.prog 15 #[.pointer (some ⟨b, 0, none⟩)] w1 fun e w' => e = .returned (.tuple #[.agg (readU (rd0 s u)).1.cells.toArray, .int .i64 (readU (rd0 s u)).2]) ∧ Below w.heap.size w w' :=
 (read_any b (rd0 s u) w1 h hs hp (uw_rw hW hb k) rfl hO.h2 hO.hh hO.hm).mono fun e w' ⟨h1, h2⟩ => ⟨h1, k.trans (h2.below k.size (fun j hj => by rw [show j = b from hj]; exact hb))⟩
/-- Parse's own two variables: its base, its answer. -/
def PBox (w : World) (C : Array Value) : World := (w.alloc (.cells C 23)).alloc (.cells #[.string ⟨#[]⟩, .string ⟨#[]⟩, .string ⟨#[]⟩, .string ⟨#[]⟩, .int .i64 0, .string ⟨#[]⟩, .string ⟨#[]⟩, .bool false, .string ⟨#[]⟩, .bool false] 23)
theorem pbox_below (w : World) (C : Array Value) : Below w.heap.size w (PBox w C) := ((Below.refl _ _).alloc (Nat.le_refl _) _).alloc (by simp) _
theorem pbox_ans (w : World) (C : Array Value) : (PBox w C).heap[w.heap.size + 1]? = some (.cells u0.cells.toArray 23 (0, 0)) := by
 have := heap_alloc_new (w.alloc (.cells C 23)) (.cells u0.cells.toArray 23)
 rwa [World.size_alloc] at this
theorem pbox_base (w : World) (C : Array Value) : (PBox w C).heap[w.heap.size]? = some (.cells C 23 (0, 0)) :=
 ((Kp.refl (fun _ => False) _).alloc _).at (heap_alloc_new w _) id
theorem pbox_size (w : World) (C : Array Value) : (PBox w C).heap.size = w.heap.size + 2 := by simp [PBox]
theorem setRow_below {k : Nat} {w0 w : World} (h : Below k w0 w) (g : Nat) (cs : Array Value) (hg : k ≤ g) : Below k w0 (w.setRow g cs) :=
 ⟨by show w.os = _; exact h.os, by show w.tape = _; exact h.tape, by show w.output = _; exact h.output, by have := h.size; simpa [World.setRow] using this, fun j hj => by rw [setRow_other w g j cs (by omega)]; exact h.block j hj⟩
set_option maxRecDepth 100000 in
set_option maxHeartbeats 2000000 in
theorem ParseLong_any (s : ByteArray) (u : UrS) (f : Bool) (w : World) (hs : 4096 < s.size) :
  Calls Tryz.prog 7 #[.string s, .agg u.cells.toArray, .bool f] w fun e w' => e = .returned (.tuple #[.agg u0.cells.toArray, .int .i64 3]) ∧ Below w.heap.size w w' := by
 have hsI : (4096 : Int) < (s.size : Int) := by omega
 obtain ⟨C, HC⟩ : ∃ C, Hid (u.cells.toArray = C) := ⟨_, Lib.hid rfl⟩
 rw [HC.out]
 clear hs
 go_enter Tryz.func7, Tryz.ntmps7
 go_wp2_with fail
 exact bodyPost_ret (v := .tuple #[.agg u0.cells.toArray, .int .i64 3]) (results_row2 (P := Tryz.prog) Tryz.results7 _ _ (w.heap.size + 1) _ _ (0, 0) _ rfl (pbox_ans w C) Tryz.underlying23 rfl infoU) rfl ⟨rfl, pbox_below w C⟩
set_option maxRecDepth 100000 in
set_option maxHeartbeats 4000000 in
theorem ParseAlone_any (s : ByteArray) (u : UrS) (w : World) (hs : s.size ≤ 4096) (hW : Uw w) (hO : RdOk (rd0 s u0)) :
  Calls Tryz.prog 7 #[.string s, .agg u.cells.toArray, .bool false] w fun e w' => e = .returned (.tuple #[.agg (readU (rd0 s u0)).1.cells.toArray, .int .i64 (readU (rd0 s u0)).2]) ∧ Below w.heap.size w w' := by
 have hsI : ¬ (4096 : Int) < (s.size : Int) := by omega
 obtain ⟨C, HC⟩ : ∃ C, Hid (u.cells.toArray = C) := ⟨_, Lib.hid rfl⟩
 rw [HC.out]
 have HB2 : Hid (Below w.heap.size w (PBox w C)) := Lib.hid (pbox_below w C)
 have HR := Lib.hid (urReaderOf_any s u0)
 have HN : Hid (∀ (b : Nat) (w1 : World), (PBox w C).heap.size ≤ b → RdAt w1 b (rd0 s u0) → Below (PBox w C).heap.size (PBox w C) w1 → Calls Tryz.prog 15 #[.pointer (some ⟨b, 0, none⟩)] w1 fun e w' => e = .returned (.tuple #[.agg (readU (rd0 s u0)).1.cells.toArray, .int .i64 (readU (rd0 s u0)).2]) ∧ Below (PBox w C).heap.size (PBox w C) w') := Lib.hid (fun b w1 hb h k =>
  read_new s u0 b (PBox w C) w1 (hW.later HB2.out) (by omega) hb h k (by show 0 ≤ 8000; omega) hO)
 have HA : Hid ((PBox w C).heap[w.heap.size + 1]? = some (.cells u0.cells.toArray 23 (0, 0))) := Lib.hid (pbox_ans w C)
 have HZ : Hid ((PBox w C).heap.size = w.heap.size + 2) := Lib.hid (pbox_size w C)
 obtain ⟨U, c, HU⟩ : ∃ U c, Hid (readU (rd0 s u0) = (U, c)) := ⟨_, _, Lib.hid rfl⟩
 rw [HU.out] at HN ⊢
 dsimp only at HN ⊢
 obtain ⟨W2, HW2⟩ : ∃ W, Hid (PBox w C = W) := ⟨_, Lib.hid rfl⟩
 rw [HW2.out] at HB2 HN HA HZ
 have HI : Hid ((Tryz.prog.info? 23).map (·.size) = some U.cells.toArray.size) := Lib.hid infoU
 have HO : Hid (U.cells.toArray.all (·.oneCell') = true) := Lib.hid (cells_one U)
 have HS : Hid (u0.cells.toArray.size = U.cells.toArray.size) := Lib.hid rfl
 obtain ⟨V, HV⟩ : ∃ V, Hid (U.cells.toArray = V) := ⟨_, Lib.hid rfl⟩
 rw [HV.out] at HN HI HO HS ⊢
 clear hs hW hO
 go_enter Tryz.func7, Tryz.ntmps7
 go_wp2_with fail
 refine (show Calls Tryz.prog 14 _ (PBox w C) _ from by rw [HW2.out]; exact HR.out W2).mono ?_
 rintro e w3 ⟨b, rfl, hb, hR, hB⟩
 have HR3 := Lib.hid hR
 have HB3 := Lib.hid hB
 have HBb := Lib.hid hb
 clear hb hR hB
 go_wp2_with fail
 refine (HN.out b w3 HBb.out HR3.out HB3.out).mono ?_
 rintro e w4 ⟨rfl, b4⟩
 have HB4 : Hid (Below w.heap.size w w4) := Lib.hid (HB2.out.trans (b4.mono HB2.out.size))
 have HA4 : Hid (w4.heap[w.heap.size + 1]? = some (.cells u0.cells.toArray 23 (0, 0))) := Lib.hid ((b4.block _ (by rw [HZ.out]; omega)).trans HA.out)
 obtain ⟨W5, HW5⟩ : ∃ W, Hid (w4.setRow (w.heap.size + 1) V = W) := ⟨_, Lib.hid rfl⟩
 have HA5 : Hid (W5.heap[w.heap.size + 1]? = some (.cells V 23 (0, 0))) := Lib.hid (by rw [← HW5.out]; exact setRow_heap w4 _ _ _ _ _ HA4.out)
 have HB5 : Hid (Below w.heap.size w W5) := Lib.hid (by rw [← HW5.out]; exact setRow_below HB4.out _ _ (by omega))
 clear b4
 go_wp2_with (refine wpL_store_row rfl 23 _ _ rfl (w.heap.size + 1) V ?_ ?_ 23 u0.cells.toArray ?_ ?_ ?_ ?_ ?_; exact rfl; exact rfl; exact HA4.out; exact HI.out; exact HS.out; exact HO.out; rw [HW5.out])
 exact bodyPost_ret (v := .tuple #[.agg V, .int .i64 c]) (results_row2 (P := Tryz.prog) Tryz.results7 _ _ (w.heap.size + 1) _ _ (0, 0) _ rfl HA5.out Tryz.underlying23 rfl HI.out) rfl ⟨rfl, HB5.out⟩

end Go.Proofs.YtcphokaamkalfaaGreatDoor
namespace Go.Proofs.YtcphokaamkalfaaGreatDoor
open Go.RowKit

theorem cutA_data (a : UInt8) (s : ByteArray) : (cutA a s).data.toList = (cutP a s.data.toList).1 := by rw [← cut_one]; rfl
theorem cutB_data (a : UInt8) (s : ByteArray) : (cutB a s).data.toList = (cutP a s.data.toList).2.1 := by rw [← cut_one]; rfl
theorem cutF_eq (a : UInt8) (s : ByteArray) : cutF a s = (cutP a s.data.toList).2.2 := by rw [← cut_one]; rfl
/-- A port's text, of a scheme. -/
def portT (sch : ByteArray) (q : List UInt8) : Option Int := if q = [] then some (-1) else (prtD q).map fun n => if n = (ownP sch : Int) then -1 else n
def usrT (u : UrS) (p : ByteArray) : UrS := if atI p < 0 then u else { u with usr := encS 5 (cutA 58 (p.extract 0 (atI p).toNat)), pas := encS 5 (cutB 58 (p.extract 0 (atI p).toNat)) }
def hstT (p : ByteArray) : ByteArray := if atI p < 0 then p else p.extract ((atI p).toNat + 1) p.size
/-- A host and a port, told. -/
def hpT (u : UrS) (h : ByteArray) : Except Int UrS :=
 if (hostT (h.extract 0 (hEndL h.data.toList false))).2 = 0 then
  match portT u.sch (h.data.toList.drop (hEndL h.data.toList false + 1)) with
  | some p => .ok { u with hst := (hostT (h.extract 0 (hEndL h.data.toList false))).1, prt := p }
  | none => .error 4
 else .error 5
def pthT (u : UrS) (S : List ByteArray) (r : List UInt8) : UrS := { u with pth := slJ (pathB (encS 4) S ((ptsS r).map asB)) }
/-- A place's text, told. -/
def placeT (u : UrS) (l : List UInt8) : Except Int UrS :=
 match hpT (usrT u (asB (placL l))) (hstT (asB (placL l))) with
 | .ok v => .ok (pthT v [] (restL l))
 | .error c => .error c
def tailT (u : UrS) (r : ByteArray) : UrS :=
 { u with mrk := encS 2 (cutB 35 r), hm := cutF 35 r, qry := encS 3 (cutB 63 (cutA 35 r)), hq := cutF 63 (cutA 35 r) }
def measT (o : Except Int UrS) : Except Int UrS := match o with
 | .ok u => if 4096 < (textT u).size then .error 3 else .ok u
 | .error c => .error c
/-- Has it a scheme? -/
def schT (r : ByteArray) : Bool := cutF 58 r && schOk (cutA 58 r).data.toList
/-- A text alone, told. -/
def aloneT (r : ByteArray) : Except Int UrS :=
 if schT r = true then
  if ownP (lowS (cutA 58 r)) = 0 then .error 6
  else measT (placeT (tailT { u0 with sch := lowS (cutA 58 r) } (cutB 58 r)) ((cutA 63 (cutA 35 (cutB 58 r))).data.toList.dropWhile slB))
 else .error 4

/- The reader's cuts. -/
theorem hEnd_at : ∀ (l : List UInt8) (wi : Bool), (l.drop (hEndL l wi)) = [] ∨ ∃ t, l.drop (hEndL l wi) = 58 :: t
 | [], _ => .inl rfl
 | c :: l, wi => by
  rw [hEndL]
  split
  ·rw [List.drop_succ_cons]; exact hEnd_at l true
  split
  ·rw [List.drop_succ_cons]; exact hEnd_at l false
  split
  ·rename_i h
   exact .inr ⟨l, by rw [List.drop_zero, show c = 58 from UInt8.toNat_inj.1 h.1]⟩
  ·rw [List.drop_succ_cons]; exact hEnd_at l wi
theorem port_tail (l : List UInt8) : Lib.trimPrefix (l.drop (hEndL l false)) [58] = l.drop (hEndL l false + 1) := by
 rw [← List.tail_drop]
 rcases hEnd_at l false with h | ⟨t, h⟩
 ·rw [h]; rfl
 ·rw [h]; simp [Lib.trimPrefix, Lib.hasPrefix, List.isPrefixOf]
theorem extract_data (s : ByteArray) (i j : Nat) : (s.extract i j).data.toList = (s.data.toList.drop i).take (j - i) := by
 rw [ByteArray.data_extract, Array.toList_extract, List.extract_eq_take_drop]
theorem extract_tail (s : ByteArray) (i : Nat) : (s.extract i s.size).data.toList = s.data.toList.drop i := by
 rw [extract_data, List.take_of_length_le]; rw [List.length_drop, lenB]; exact Nat.le_refl _
theorem port_prog (sch : ByteArray) (q : List UInt8) : portT sch q = if q = [] then some (-1) else if numB (48 :: Lib.trimLeftB q 48) 65535 = true then some (if numV (48 :: Lib.trimLeftB q 48) 65535 = (ownP sch : Int) then -1 else numV (48 :: Lib.trimLeftB q 48) 65535) else none := by
 unfold portT
 by_cases h : q = []
 ·rw [if_pos h, if_pos h]
 rw [if_neg h, if_neg h]
 have h1 := prt_prog q
 cases hp : prtD q with
 | none => rw [hp] at h1; rw [if_neg (by rw [h1.1]; simp)]; rfl
 | some n => rw [hp] at h1; rw [if_pos (by rw [h1.1]; rfl), h1.2 n rfl]; rfl
theorem usr_place (s : RdS) : (cutUserS s).u = usrT s.u s.place ∧ (cutUserS s).place = hstT s.place ∧ (cutUserS s).rest = s.rest ∧ (cutUserS s).b = s.b ∧ (cutUserS s).parts = s.parts := by
 unfold cutUserS usrT hstT
 split <;> exact ⟨rfl, rfl, rfl, rfl, rfl⟩
theorem hp_prog (s : RdS) : (cutHostS s).bind cutPortS = match hpT s.u s.place with
  | .ok v => .ok { s with u := v, place := s.place.extract (hEndL s.place.data.toList false) s.place.size }
  | .error c => .error c := by
 unfold cutHostS hpT
 by_cases h : (hostT (s.place.extract 0 (hEndL s.place.data.toList false))).2 = 0
 ·simp only [if_pos h]
  show cutPortS _ = _
  unfold cutPortS
  simp only [extract_tail, port_tail]
  rw [port_prog]
  by_cases h1 : s.place.data.toList.drop (hEndL s.place.data.toList false + 1) = []
  ·simp only [if_pos h1]
  ·simp only [if_neg h1]
   by_cases h2 : numB (48 :: Lib.trimLeftB (s.place.data.toList.drop (hEndL s.place.data.toList false + 1)) 48) 65535 = true
   ·simp only [if_pos h2]
   ·simp only [if_neg h2]
 ·simp only [if_neg h]; rfl
/-- What stands behind the slashes of a reader's rest, in the document's words. -/
theorem turn_place (r : ByteArray) (l : List UInt8) (h : r.data.toList = l.map turnB) :
  cutA 47 ⟨(Lib.trimLeftB r.data.toList 47).toArray⟩ = asB (placL (l.dropWhile slB)) ∧ (cutB 47 ⟨(Lib.trimLeftB r.data.toList 47).toArray⟩).data.toList = (restL (l.dropWhile slB)).map turnB := by
 have hc := cut_turn (l.dropWhile slB)
 have hd : (⟨(Lib.trimLeftB r.data.toList 47).toArray⟩ : ByteArray).data.toList = (l.dropWhile slB).map turnB := by
  show Lib.trimLeftB r.data.toList 47 = _
  rw [h, drop_turn]
 exact ⟨ba_of (by rw [cutA_data, hd, hc.1]; rfl), by rw [cutB_data, hd, hc.2]⟩
theorem raw_turn (r : ByteArray) (l : List UInt8) (h : r.data.toList = l.map turnB) : rawB 47 r = (ptsS l).map asB := by
 rw [rawB_eq, h, pts_turn]

/-- What is answered of what was told, or refused. -/
def ansU (o : Except Int UrS) : UrS × Int := match o with
 | .ok u => (u, 0)
 | .error c => (u0, c)
theorem place_prog (t : RdS) (l : List UInt8) (h : t.rest.data.toList = l.map turnB) :
  (match hpS t with | .ok x => Except.ok (pathS x []).u | .error c => .error c) = placeT t.u (l.dropWhile slB) := by
 obtain ⟨p1, p2⟩ := turn_place t.rest l h
 obtain ⟨q1, q2, q3, _, _⟩ := usr_place (plcS (slashS t))
 have e1 : (plcS (slashS t)).place = asB (placL (l.dropWhile slB)) := p1
 have e2 : (plcS (slashS t)).rest.data.toList = (restL (l.dropWhile slB)).map turnB := p2
 have e3 : (plcS (slashS t)).u = t.u := rfl
 rw [e1, e3] at q1
 rw [e1] at q2
 unfold hpS placeT
 rw [hp_prog, q1, q2]
 cases hpT (usrT t.u (asB (placL (l.dropWhile slB)))) (hstT (asB (placL (l.dropWhile slB)))) with
 | error c => rfl
 | ok v =>
  show Except.ok _ = Except.ok _
  unfold pathS pthT
  dsimp only
  rw [q3, raw_turn _ _ e2]
theorem ownP_nil : ownP ⟨#[]⟩ = 0 := by decide
/-- The reader behind its first cuts. -/
def behT (s : RdS) (sch r : ByteArray) : RdS := { s with u := tailT { s.u with sch := sch } r, rest := repl 92 [47] (cutA 63 (cutA 35 r)) }
theorem sch_prog (s : RdS) (r : ByteArray) : (match cutSchemeS { s with rest := r } with | .ok t => Except.ok (turnS (queryS (markS t))) | .error c => .error c) = if schT r = true then
   (if ownP (lowS (cutA 58 r)) = 0 then .error 6 else .ok (behT s (lowS (cutA 58 r)) (cutB 58 r)))
  else if s.b.sch.size = 0 then .error 4 else .ok (behT s s.b.sch r) := by
 have hc : (cutF 58 r = true ∧ schQ (lowS (cutA 58 r)).data.toList = true) ↔ schT r = true := by
  unfold schT
  rw [show (lowS (cutA 58 r)).data.toList = (cutA 58 r).data.toList.map low from rfl, schQ_eq, Bool.and_eq_true]
 unfold cutSchemeS
 dsimp only
 by_cases h : schT r = true
 ·rw [if_pos h]
  rw [if_pos (hc.2 h)]
  by_cases ho : ownP (lowS (cutA 58 r)) = 0
  ·rw [if_pos ho, if_pos ho]
  ·rw [if_neg ho, if_neg ho]; rfl
 ·rw [if_neg h]
  rw [if_neg (fun x => h (hc.1 x))]
  by_cases h0 : s.b.sch.size = 0
  ·rw [if_pos h0, if_pos h0]
  ·rw [if_neg h0, if_neg h0]; rfl
theorem first_prog (s : RdS) : firstS s = if schT (drpS s.rest 3) = true then
   (if ownP (lowS (cutA 58 (drpS s.rest 3))) = 0 then .error 6 else .ok (behT s (lowS (cutA 58 (drpS s.rest 3))) (cutB 58 (drpS s.rest 3))))
  else if s.b.sch.size = 0 then .error 4 else .ok (behT s s.b.sch (drpS s.rest 3)) := sch_prog s (drpS s.rest 3)
theorem own_ne {s : ByteArray} (h : ¬ ownP s = 0) : s ≠ ⟨#[]⟩ := fun e => h (by rw [e]; exact ownP_nil)
theorem behT_turn (s : RdS) (sch r : ByteArray) : (behT s sch r).rest.data.toList = (cutA 63 (cutA 35 r)).data.toList.map turnB := repl_turn _
theorem meas_prog (o : Except Int RdS) : uOf (o.bind measureS) = ansU (measT (match o with | .ok x => .ok x.u | .error c => .error c)) := by
 cases o with
 | error c => rfl
 | ok x =>
  show uOf (measureS x) = ansU (measT (.ok x.u))
  unfold measureS measT
  dsimp only
  split <;> rfl
theorem alone_aux (s r : ByteArray) : uOf ((if schT r = true then
   (if ownP (lowS (cutA 58 r)) = 0 then Except.error 6 else .ok (behT (rd0 s u0) (lowS (cutA 58 r)) (cutB 58 r)))
  else if (0 : Nat) = 0 then .error 4 else .ok (behT (rd0 s u0) u0.sch r)).bind fun t => (restS t).bind measureS) = ansU (aloneT r) := by
 unfold aloneT
 by_cases h : schT r = true
 ·rw [if_pos h, if_pos h]
  by_cases ho : ownP (lowS (cutA 58 r)) = 0
  ·rw [if_pos ho, if_pos ho]; rfl
  ·rw [if_neg ho, if_neg ho]
   show uOf ((restS (behT (rd0 s u0) (lowS (cutA 58 r)) (cutB 58 r))).bind measureS) = _
   rw [meas_prog]
   have hne : (behT (rd0 s u0) (lowS (cutA 58 r)) (cutB 58 r)).u.sch ≠ (behT (rd0 s u0) (lowS (cutA 58 r)) (cutB 58 r)).b.sch := own_ne ho
   have hp := place_prog (behT (rd0 s u0) (lowS (cutA 58 r)) (cutB 58 r)) _ (behT_turn _ _ _)
   unfold restS
   rw [if_pos (.inl hne)]
   have hu : (behT (rd0 s u0) (lowS (cutA 58 r)) (cutB 58 r)).u = tailT { u0 with sch := lowS (cutA 58 r) } (cutB 58 r) := rfl
   rw [hu] at hp
   rw [← hp]
   cases hpS (behT (rd0 s u0) (lowS (cutA 58 r)) (cutB 58 r)) with
   | ok x => rfl
   | error c => rfl
 ·rw [if_neg h, if_neg h, if_pos rfl]; rfl
/-- Without a base: the reader's cuts say what the document says. -/
theorem alone_read (s : ByteArray) : readU (rd0 s u0) = ansU (aloneT (drpS s 3)) := by
 unfold readU readS
 rw [first_prog]
 exact alone_aux s (drpS s 3)

end Go.Proofs.YtcphokaamkalfaaGreatDoor
namespace Go.Proofs.YtcphokaamkalfaaGreatDoor
open Go.RowKit

theorem slJ_app (S : List ByteArray) (p : ByteArray) : (slJ (S ++ [p])).size = (slJ S).size + 1 + p.size := by
 rw [slJ_snoc, ByteArray.size_append, ByteArray.size_append]
 have : (⟨#[47]⟩ : ByteArray).size = 1 := rfl
 omega
theorem slJ_drop (S : List ByteArray) : (slJ S.dropLast).size ≤ (slJ S).size := by
 rcases List.eq_nil_or_concat S with h | ⟨L, x, h⟩
 ·subst h; exact Nat.le_refl _
 ·rw [h, List.concat_eq_append, List.dropLast_concat, slJ_app]; omega
def wgtS (P : List ByteArray) : Nat := (P.map fun p => 3 * p.size + 1).sum
theorem pathB_sum : ∀ (S P : List ByteArray), (slJ (pathB (encS 4) S P)).size ≤ (slJ S).size + wgtS P
 | S, [] => by rw [pathB]; exact Nat.le_add_right _ _
 | S, p :: P => by
  rw [pathB]
  have hw : wgtS (p :: P) = 3 * p.size + 1 + wgtS P := by simp [wgtS]
  have he := encS_le 4 p
  have hd : (slJ (if ptN p.data.toList = 2 then S.dropLast else S)).size ≤ (slJ S).size := by
   split
   ·exact slJ_drop S
   ·exact Nat.le_refl _
  split
  ·have := pathB_sum (S ++ [encS 4 p]) P
   rw [slJ_app] at this; omega
  split
  ·rw [slJ_app]
   have : (⟨#[]⟩ : ByteArray).size = 0 := rfl
   omega
  ·have := pathB_sum (if ptN p.data.toList = 2 then S.dropLast else S) P
   omega
theorem wgt_ahd (c : UInt8) : ∀ L : List (List UInt8), L ≠ [] → ((ahd c L).map fun p => 3 * p.length + 1).sum = (L.map fun p => 3 * p.length + 1).sum + 3
 | [], h => absurd rfl h
 | x :: L, _ => by simp [ahd]; omega
theorem ptsS_ne : ∀ l : List UInt8, ptsS l ≠ []
 | [] => by simp [ptsS]
 | c :: l => by
  rw [ptsS]
  split
  ·simp
  ·have := ptsS_ne l
   match ptsS l, this with
   | x :: L, _ => simp [ahd]
theorem ptsS_wgt : ∀ l : List UInt8, ((ptsS l).map fun p => 3 * p.length + 1).sum ≤ 4 * l.length + 1
 | [] => by simp [ptsS]
 | c :: l => by
  have ih := ptsS_wgt l
  rw [ptsS]
  split
  ·simp; omega
  ·rw [wgt_ahd c _ (ptsS_ne l), List.length_cons]; omega
theorem ptsS_wgtS (l : List UInt8) : wgtS ((ptsS l).map asB) ≤ 4 * l.length + 1 := by
 have := ptsS_wgt l
 unfold wgtS
 rw [List.map_map]
 exact this
theorem hostT_size {s : ByteArray} (_ : s.size ≤ 10000) : (hostT s).1.size ≤ 253 := by
 unfold hostT
 split
 ·exact Nat.zero_le _
 ·cases h : hostO s with
  | none => exact Nat.zero_le _
  | some x =>
   show x.size ≤ 253
   unfold hostO at h
   split at h
   ·unfold brackT at h
    split at h
    ·split at h
     ·cases h
     ·rename_i ps hps
      injection h with h
      subst h
      have h1 := (six_made (pb ps) (pb_lt ps)).2.2.2
      have h2 : (textD true (pb ps)).length ≤ 39 := h1
      rw [asB_size]
      simp only [List.length_append, List.length_cons, List.length_nil]
      omega
    ·cases h
   ·unfold namedT at h
    split at h
    ·cases h
    ·obtain ⟨_, h2, h3⟩ := end_some h
     rcases h3 with ⟨_, h4⟩ | ⟨a, ha, h4⟩
     ·rw [h4]; exact h2
     ·obtain ⟨b0, b1, b2, b3, h5, _⟩ := fourD_small ha
      subst h5
      rw [h4]
      exact Nat.le_trans (four4_size b0 b1 b2 b3) (by decide)
theorem prt_le {sch : ByteArray} {q : List UInt8} {p : Int} (h : portT sch q = some p) : p ≤ 65535 := by
 unfold portT prtD at h
 split at h
 ·injection h with h; omega
 ·split at h
  ·rename_i h1
   injection h with h
   dsimp only at h
   split at h <;> omega
  ·cases h
theorem hst_size (p : ByteArray) : (hstT p).size ≤ p.size := by
 unfold hstT
 split
 ·exact Nat.le_refl _
 ·rw [ByteArray.size_extract]; omega
theorem usr_sizes (u : UrS) (p : ByteArray) : (usrT u p).usr.size ≤ max u.usr.size (3 * p.size) ∧ (usrT u p).pas.size ≤ max u.pas.size (3 * p.size) ∧ (usrT u p).sch = u.sch ∧ (usrT u p).mrk = u.mrk ∧ (usrT u p).qry = u.qry := by
 unfold usrT
 split
 ·exact ⟨by omega, by omega, rfl, rfl, rfl⟩
 ·have h1 := encS_le 5 (cutA 58 (p.extract 0 (atI p).toNat))
  have h2 := encS_le 5 (cutB 58 (p.extract 0 (atI p).toNat))
  have h3 := cutA_size 58 (p.extract 0 (atI p).toNat)
  have h4 := cutB_size 58 (p.extract 0 (atI p).toNat)
  have h5 : (p.extract 0 (atI p).toNat).size ≤ p.size := by rw [ByteArray.size_extract]; omega
  refine ⟨?_, ?_, rfl, rfl, rfl⟩
  ·show (encS 5 _).size ≤ _; omega
  ·show (encS 5 _).size ≤ _; omega
/-- What a host and a port leave alone, and how great their answer may be. -/
theorem hp_sizes {u v : UrS} {h : ByteArray} (hb : (hostT (h.extract 0 (hEndL h.data.toList false))).1.size ≤ 9000000) (e : hpT u h = .ok v) :
  v.sch = u.sch ∧ v.usr = u.usr ∧ v.pas = u.pas ∧ v.mrk = u.mrk ∧ v.qry = u.qry ∧ v.hst.size ≤ 9000000 ∧ v.prt ≤ 65535 := by
 unfold hpT at e
 split at e
 ·split at e
  ·rename_i p hp
   injection e with e; subst e
   exact ⟨rfl, rfl, rfl, rfl, rfl, hb, prt_le hp⟩
  ·cases e
 ·cases e
theorem tail_sizes (u : UrS) (r : ByteArray) : (tailT u r).mrk.size ≤ 3 * r.size ∧ (tailT u r).qry.size ≤ 3 * r.size := by
 have h1 := encS_le 2 (cutB 35 r)
 have h2 := encS_le 3 (cutB 63 (cutA 35 r))
 have h3 := cutB_size 35 r
 have h4 := cutB_size 63 (cutA 35 r)
 have h5 := cutA_size 35 r
 exact ⟨by show (encS 2 _).size ≤ _; omega, by show (encS 3 _).size ≤ _; omega⟩
theorem rest_le (l : List UInt8) : (restL l).length ≤ l.length := by
 unfold restL
 have := (List.dropWhile_sublist (p := fun c => !slB c) (l := l)).length_le
 rw [List.length_tail]; omega
theorem plac_le (l : List UInt8) : (placL l).length ≤ l.length := (List.takeWhile_sublist _).length_le
theorem dropw_le (l : List UInt8) : (l.dropWhile slB).length ≤ l.length := (List.dropWhile_sublist _).length_le

theorem sm_place {u x : UrS} {l : List UInt8} (h : placeT u l = .ok x) (hu : Sm u) (hl : l.length ≤ 100000)
  (hb : (hostT ((hstT (asB (placL l))).extract 0 (hEndL (hstT (asB (placL l))).data.toList false))).1.size ≤ 9000000) : Sm x := by
 unfold placeT at h
 rcases exc_cases (hpT (usrT u (asB (placL l))) (hstT (asB (placL l)))) with ⟨v, hv⟩ | ⟨c, hc⟩
 rotate_left
 ·rw [hc] at h; cases h
 rw [hv] at h
 injection h with h
 subst h
 obtain ⟨a1, a2, a3, a4, a5, a6, a7⟩ := hp_sizes hb hv
 obtain ⟨b1, b2, b3, b4, b5⟩ := usr_sizes u (asB (placL l))
 have hp : (asB (placL l)).size ≤ 100000 := by rw [asB_size]; have := plac_le l; omega
 have hr := rest_le l
 have hw := ptsS_wgtS (restL l)
 have hs := pathB_sum [] ((ptsS (restL l)).map asB)
 have h0 : (slJ []).size = 0 := rfl
 obtain ⟨c0, c1, c2, c3, c4, c5, c6, c7⟩ := hu
 refine ⟨?_, ?_, ?_, ?_, ?_, ?_, ?_, ?_⟩
 ·show v.sch.size ≤ _; rw [a1, b3]; omega
 ·show v.usr.size ≤ _; rw [a2]; omega
 ·show v.pas.size ≤ _; rw [a3]; omega
 ·show v.hst.size ≤ _; omega
 ·show (slJ (pathB (encS 4) [] ((ptsS (restL l)).map asB))).size ≤ _; omega
 ·show v.qry.size ≤ _; rw [a5, b5]; omega
 ·show v.mrk.size ≤ _; rw [a4, b4]; omega
 ·show v.prt ≤ _; omega
theorem first_cases {s t : RdS} (h : firstS s = .ok t) : ∃ sch r, t = behT s sch r ∧ r.size ≤ s.rest.size ∧ ((sch.size ≤ s.rest.size ∧ ¬ ownP sch = 0) ∨ (sch = s.b.sch ∧ s.b.sch.size ≠ 0)) := by
 have hd := drpS_size s.rest 3
 rw [first_prog] at h
 have h1 := cutA_size 58 (drpS s.rest 3)
 have h2 := cutB_size 58 (drpS s.rest 3)
 split at h
 ·split at h
  ·cases h
  ·rename_i ho
   injection h with h
   exact ⟨_, _, h.symm, by omega, .inl ⟨by rw [lowS_size]; omega, ho⟩⟩
 ·split at h
  ·cases h
  ·rename_i ho
   injection h with h
   exact ⟨_, _, h.symm, hd, .inr ⟨rfl, ho⟩⟩
theorem behT_sizes (s : RdS) (sch r : ByteArray) : (behT s sch r).rest.size ≤ r.size ∧ (cutA 63 (cutA 35 r)).data.toList.length ≤ r.size := by
 have h1 := cutA_size 35 r
 have h2 := cutA_size 63 (cutA 35 r)
 refine ⟨?_, by rw [lenB]; omega⟩
 show (repl 92 [47] (cutA 63 (cutA 35 r))).size ≤ _
 rw [turn_size]; omega
theorem behT_sm (s : RdS) (sch r : ByteArray) (hs : Sm s.u) (h1 : sch.size ≤ 9000000) (h2 : r.size ≤ 100000) : Sm (behT s sch r).u := by
 obtain ⟨c0, c1, c2, c3, c4, c5, c6, c7⟩ := hs
 have := tail_sizes { s.u with sch := sch } r
 exact ⟨h1, c1, c2, c3, c4, by show (tailT { s.u with sch := sch } r).qry.size ≤ _; omega, by show (tailT { s.u with sch := sch } r).mrk.size ≤ _; omega, c7⟩
theorem sm_u0 : Sm u0 := ⟨by decide, by decide, by decide, by decide, by decide, by decide, by decide, by decide⟩
/-- The host's text of a reader's place. -/
theorem hh_le (t : RdS) : ((cutUserS (plcS (slashS t))).place.extract 0 (hEndL (cutUserS (plcS (slashS t))).place.data.toList false)).size ≤ t.rest.size := by
 have h1 := slash_size t
 have h2 : (plcS (slashS t)).place.size ≤ (slashS t).rest.size := cutA_size 47 _
 have h3 := (user_keep (plcS (slashS t))).2.2.2
 rw [ByteArray.size_extract]; omega
theorem alone_ok (s : ByteArray) (hs : s.size ≤ 10000) : RdOk (rd0 s u0) := by
 refine ⟨fun t h e => ?_, fun t h => ?_, fun t x h hx => ?_⟩
 ·obtain ⟨sch, r, rfl, _, h2 | h2⟩ := first_cases h
  ·exact absurd e (own_ne h2.2)
  ·exact absurd rfl h2.2
 ·obtain ⟨sch, r, rfl, h1, _⟩ := first_cases h
  have h2 := hh_le (behT (rd0 s u0) sch r)
  have h3 := (behT_sizes (rd0 s u0) sch r).1
  have h4 : (rd0 s u0).rest.size = s.size := rfl
  omega
 ·obtain ⟨sch, r, rfl, h1, h2 | h2⟩ := first_cases h
  rotate_left
  ·exact absurd rfl h2.2
  have hr : (rd0 s u0).rest.size = s.size := rfl
  have hne : (behT (rd0 s u0) sch r).u.sch ≠ (behT (rd0 s u0) sch r).b.sch := own_ne h2.2
  have hp := place_prog (behT (rd0 s u0) sch r) _ (behT_turn _ _ _)
  unfold restS at hx
  rw [if_pos (.inl hne)] at hx
  rcases exc_cases (hpS (behT (rd0 s u0) sch r)) with ⟨y, hy⟩ | ⟨c, hy⟩
  rotate_left
  ·rw [hy] at hx; cases hx
  rw [hy] at hx hp
  injection hx with hx
  subst hx
  have hz := (behT_sizes (rd0 s u0) sch r).2
  have hd := dropw_le (cutA 63 (cutA 35 r)).data.toList
  refine sm_place hp.symm (behT_sm (rd0 s u0) sch r sm_u0 (by omega) (by omega)) (by omega) ?_
  refine Nat.le_trans (hostT_size ?_) (by omega)
  have h5 := hst_size (asB (placL ((cutA 63 (cutA 35 r)).data.toList.dropWhile slB)))
  have h6 := plac_le ((cutA 63 (cutA 35 r)).data.toList.dropWhile slB)
  rw [asB_size] at h5
  rw [ByteArray.size_extract]; omega

end Go.Proofs.YtcphokaamkalfaaGreatDoor
namespace Go.Proofs.YtcphokaamkalfaaGreatDoor
open Go.RowKit

theorem us_keep {w a b : World} (h : Below w.heap.size w a) (k : Below a.heap.size a b) : Below w.heap.size w b := h.trans (k.mono h.size)
theorem part_one {t : TypeId} {xs : Array Value} {i : Nat} {v : Value} (w : World) (ha : (isAgg t).run Tryz.prog w = .ok false w) (hv : xs[i]? = some v) : (part t xs i).run Tryz.prog w = .ok v w := by
 simp [part, Sem.run_bind, ha, Result.andThen, hv]
theorem fieldsU : (Tryz.prog.fieldsOf 23).toList.map (fun f => (f.name == "_", f.type, f.offset)) = [(false, 9, 0), (false, 9, 1), (false, 9, 2), (false, 9, 3), (false, 3, 4), (false, 9, 5), (false, 9, 6), (false, 4, 7), (false, 9, 8), (false, 4, 9)] := by kernel_rfl
theorem eqF_cons (d : Nat) (xs ys : Array Value) (w : World) (f : Field) (fs : List Field) (hn : (f.name == "_") = false) (ha : (isAgg f.type).run Tryz.prog w = .ok false w) (x y : Value) (hx : xs[f.offset]? = some x) (hy : ys[f.offset]? = some y) (b : Bool) (he : (Op.equalIn d f.type x y).run Tryz.prog w = .ok b w) :
  (Op.eqFields d xs ys (f :: fs)).run Tryz.prog w = if b then (Op.eqFields d xs ys fs).run Tryz.prog w else .ok false w := by
 have h1 := part_one w ha hx
 have h2 := part_one w ha hy
 have hn' : f.name ≠ "_" := by simpa using hn
 cases b <;> simp [Op.eqFields, hn', Sem.run_bind, h1, h2, he, Result.andThen]
theorem eqF_list (d : Nat) (xs ys : Array Value) (w : World) (e : Nat → Bool) : ∀ (S : List (TypeId × Nat)) (fs : List Field), fs.map (fun f => (f.name == "_", f.type, f.offset)) = S.map (fun p => (false, p.1, p.2)) →
  (∀ q ∈ S, (isAgg q.1).run Tryz.prog w = .ok false w ∧ ∃ x y, xs[q.2]? = some x ∧ ys[q.2]? = some y ∧ (Op.equalIn d q.1 x y).run Tryz.prog w = .ok (e q.2) w) →
  (Op.eqFields d xs ys fs).run Tryz.prog w = .ok (S.all fun p => e p.2) w
 | [], fs, h, _ => by
  obtain rfl : fs = [] := by simpa using h
  simp [Op.eqFields]
 | q :: S, [], h, _ => by cases h
 | q :: S, f :: fs, h, hq => by
  simp only [List.map_cons, List.cons.injEq, Prod.mk.injEq] at h
  obtain ⟨⟨h1, h2, h3⟩, h4⟩ := h
  obtain ⟨ha, x, y, hx, hy, he⟩ := hq q List.mem_cons_self
  rw [eqF_cons d xs ys w f fs h1 (by rw [h2]; exact ha) x y (by rw [h3]; exact hx) (by rw [h3]; exact hy) (e q.2) (by rw [h2]; exact he), eqF_list d xs ys w e S fs h4 (fun p hp => hq p (List.mem_cons_of_mem _ hp))]
  rw [List.all_cons]
  cases e q.2 <;> rfl
def eqC (u v : UrS) : Bool := (u.sch.toList == v.sch.toList) && ((u.usr.toList == v.usr.toList) && ((u.pas.toList == v.pas.toList) && ((u.hst.toList == v.hst.toList) && ((u.prt == v.prt) && ((u.pth.toList == v.pth.toList) && ((u.qry.toList == v.qry.toList) && ((u.hq == v.hq) && ((u.mrk.toList == v.mrk.toList) && (u.hm == v.hm)))))))))
theorem eqC_self (u : UrS) : eqC u u = true := by simp [eqC]
def eqN (u v : UrS) (n : Nat) : Bool := match n with
 | 0 => u.sch.toList == v.sch.toList
 | 1 => u.usr.toList == v.usr.toList
 | 2 => u.pas.toList == v.pas.toList
 | 3 => u.hst.toList == v.hst.toList
 | 4 => u.prt == v.prt
 | 5 => u.pth.toList == v.pth.toList
 | 6 => u.qry.toList == v.qry.toList
 | 7 => u.hq == v.hq
 | 8 => u.mrk.toList == v.mrk.toList
 | _ => u.hm == v.hm
theorem eqU (u v : UrS) (w : World) : (binOp .eql 23 (.agg u.cells.toArray) (.agg v.cells.toArray)).run Tryz.prog w = .ok (.bool (eqC u v)) w := by
 have hS : Tryz.prog.underlying 23 = some (.struct (Tryz.prog.fieldsOf 23)) := by kernel_rfl
 have hp : Tryz.prog.stoodInHeld 23 = false := by kernel_rfl
 have hs : (isAgg 9).run Tryz.prog w = .ok false w := by go_simp
 have hi : (isAgg 3).run Tryz.prog w = .ok false w := by go_simp
 have hb : (isAgg 4).run Tryz.prog w = .ok false w := by go_simp
 rw [run_eql_struct, show (10000 : Nat) = 9998 + 1 + 1 from rfl, run_equalIn_struct w (9998 + 1) 23 _ _ hS hp]
 rw [eqF_list (9998 + 1) u.cells.toArray v.cells.toArray w (eqN u v) [(9, 0), (9, 1), (9, 2), (9, 3), (3, 4), (9, 5), (9, 6), (4, 7), (9, 8), (4, 9)] _ fieldsU (fun q hq => by
  simp only [List.mem_cons, List.not_mem_nil, or_false] at hq
  rcases hq with rfl | rfl | rfl | rfl | rfl | rfl | rfl | rfl | rfl | rfl
  ·exact ⟨hs, _, _, rfl, rfl, run_equalIn_string w 9998 9 _ _ Tryz.underlying9⟩
  ·exact ⟨hs, _, _, rfl, rfl, run_equalIn_string w 9998 9 _ _ Tryz.underlying9⟩
  ·exact ⟨hs, _, _, rfl, rfl, run_equalIn_string w 9998 9 _ _ Tryz.underlying9⟩
  ·exact ⟨hs, _, _, rfl, rfl, run_equalIn_string w 9998 9 _ _ Tryz.underlying9⟩
  ·exact ⟨hi, _, _, rfl, rfl, run_equalIn_int w 9998 3 .i64 .i64 _ _ Tryz.underlying3⟩
  ·exact ⟨hs, _, _, rfl, rfl, run_equalIn_string w 9998 9 _ _ Tryz.underlying9⟩
  ·exact ⟨hs, _, _, rfl, rfl, run_equalIn_string w 9998 9 _ _ Tryz.underlying9⟩
  ·exact ⟨hb, _, _, rfl, rfl, run_equalIn_bool w 9998 4 _ _ Tryz.underlying4⟩
  ·exact ⟨hs, _, _, rfl, rfl, run_equalIn_string w 9998 9 _ _ Tryz.underlying9⟩
  ·exact ⟨hb, _, _, rfl, rfl, run_equalIn_bool w 9998 4 _ _ Tryz.underlying4⟩)]
 simp only [List.all_cons, List.all_nil, Bool.and_true, eqN, Result.andThen_ok, eqC]

end Go.Proofs.YtcphokaamkalfaaGreatDoor
