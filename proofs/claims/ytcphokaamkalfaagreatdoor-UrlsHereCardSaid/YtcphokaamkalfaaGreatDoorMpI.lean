/-
  What few letters say, as the document counts: the same, as long as there are at most a thousand signs.
  Contracts of small functions of package ascii: within, its closure.
  Contracts: moved, its closure, changed over that closure, Lower, Same.
  Contract: Decode.
  Contract: Lower.
-/
import Derived.Test.YtcphokaamkalfaaGreatDoorMpA
import Derived.Test.YtcphokaamkalfaaGreatDoorRows
import Derived.WalkSpells
import Derived.WalkLawsBesides
import Derived.Deep.QuietTactic
import Derived.BigQuiet
import Derived.OneCell
import Derived.Laws.IdiomStrings
import Derived.Laws.EntriesVeiled
import Derived.Test.YtcphokaamkalfaaGreatDoorMpC
namespace Go.Proofs.YtcphokaamkalfaaGreatDoor
open Go.RowKit

end Go.Proofs.YtcphokaamkalfaaGreatDoor
namespace Go.Proofs.YtcphokaamkalfaaGreatDoor
open Go.RowKit

theorem mkf (fn : Fn) (first cap : Array Value) (w : World) : (Instr.makeFunc fn first cap).run Tryz.prog w = .ok (.func fn first cap) w := rfl

set_option maxHeartbeats 400000 in
theorem within_any (a b : Int) (w : World) :
  Calls Tryz.prog 114 #[.int .u8 a, .int .u8 b] w fun e w' => e = .returned (.func (.func 158) #[] #[.pointer (some ⟨w.heap.size, 0, none⟩), .pointer (some ⟨w.heap.size + 1, 0, none⟩)]) ∧ (w.alloc (.cells #[.int .u8 a] 5)).alloc (.cells #[.int .u8 b] 5) = w' := by
 have hmf := mkf
 go_enter Tryz.func114, Tryz.ntmps114
 go_wp2
 go_ret
 exact ⟨rfl, rfl⟩

set_option maxHeartbeats 400000 in
theorem withinC_any (c a b : Int) (p q : Nat) (w : World) (hp : w.cell? ⟨p, 0, none⟩ = some (.int .u8 a)) (hq : w.cell? ⟨q, 0, none⟩ = some (.int .u8 b)) :
  Calls Tryz.prog 158 #[.int .u8 c, .pointer (some ⟨p, 0, none⟩), .pointer (some ⟨q, 0, none⟩)] w fun e w' => e = .returned (.bool (inR a b c)) ∧ w = w' := by
 by_cases h1 : a ≤ c
 ·go_enter Tryz.func158, Tryz.ntmps158
  go_wp2
  go_ret
  exact ⟨ret_bool (by simp [inR, h1]), rfl⟩
 ·go_enter Tryz.func158, Tryz.ntmps158
  go_wp2
  go_ret
  exact ⟨ret_bool (by simp [inR]; omega), rfl⟩

end Go.Proofs.YtcphokaamkalfaaGreatDoor
namespace Go.Proofs.YtcphokaamkalfaaGreatDoor
open Go.RowKit

def low (c : UInt8) : UInt8 := if 65 ≤ c.toNat ∧ c.toNat ≤ 90 then c + 32 else c
theorem low_yes (c : UInt8) (h1 : 65 ≤ c.toNat) (h2 : c.toNat ≤ 90) : ((low c).toNat : Int) = (c.toNat : Int) - 65 + 97 := by
 rw [low, if_pos ⟨h1, h2⟩, UInt8.toNat_add]; simp; omega
theorem low_no (c : UInt8) (h : ¬ (65 ≤ c.toNat ∧ c.toNat ≤ 90)) : low c = c := by rw [low, if_neg h]

theorem cell_old {W : World} {a : Addr} {v : Value} (o : Obj) (h : W.cell? a = some v) : (W.alloc o).cell? a = some v := by
 rw [World.cell?_alloc_lt W o a (block_lt_of_cell h)]; exact h
theorem cell_new (W : World) (n : Nat) (v : Value) (t : TypeId) (hn : n = W.heap.size) : (W.alloc (.cells #[v] t)).cell? ⟨n, 0, none⟩ = some v := by
 rw [World.cell?_alloc_at _ _ _ _ hn]; rfl
theorem frozen_alloc_mark (w : World) (c : Array Value) (t : TypeId) (a i : Nat) (h : i < a) : (w.alloc (.cells c t (a, a + 1))).frozen? ⟨w.heap.size, i, none⟩ = false := by
 unfold World.frozen?
 rw [heap_alloc_new]
 simp
 omega
theorem setCell_alloc_mark (w : World) (c : Array Value) (t : TypeId) (fr : Nat × Nat) (i : Nat) (v : Value) :
  (w.alloc (.cells c t fr)).setCell ⟨w.heap.size, i, none⟩ v = w.alloc (.cells (c.setIfInBounds i v) t fr) := by
 unfold World.setCell World.alloc
 congr 1
 apply Array.ext_getElem?
 intro k
 rw [Array.getElem?_modify]
 by_cases hk : w.heap.size = k
 ·subst hk
  simp
 ·have hk' : k ≠ w.heap.size := fun e => hk e.symm
  simp [hk, hk', Array.getElem?_push]

/-- What the closure of moved leads to. -/
structure Led (w : World) (p q r x y : Nat) : Prop where
 hp : w.cell? ⟨p, 0, none⟩ = some (.func (.func 158) #[] #[.pointer (some ⟨x, 0, none⟩), .pointer (some ⟨y, 0, none⟩)])
 hq : w.cell? ⟨q, 0, none⟩ = some (.int .u8 65)
 hr : w.cell? ⟨r, 0, none⟩ = some (.int .u8 97)
 hx : w.cell? ⟨x, 0, none⟩ = some (.int .u8 65)
 hy : w.cell? ⟨y, 0, none⟩ = some (.int .u8 90)

theorem Led.alloc {w : World} {p q r x y : Nat} (L : Led w p q r x y) (o : Obj) : Led (w.alloc o) p q r x y :=
 ⟨cell_old o L.hp, cell_old o L.hq, cell_old o L.hr, cell_old o L.hx, cell_old o L.hy⟩
theorem Led.drew {w : World} {p q r x y : Nat} (L : Led w p q r x y) : Led w.drew p q r x y := ⟨L.hp, L.hq, L.hr, L.hx, L.hy⟩

set_option maxHeartbeats 400000 in
theorem movedC_any (c : UInt8) (p q r x y : Nat) (w : World) (L : Led w p q r x y) :
  Calls Tryz.prog 115 #[.int .u8 c.toNat, .pointer (some ⟨p, 0, none⟩), .pointer (some ⟨q, 0, none⟩), .pointer (some ⟨r, 0, none⟩)] w fun e w' => e = .returned (.int .u8 (low c).toNat) ∧ w = w' := by
 obtain ⟨hp, hq, hr, hx, hy⟩ := L
 by_cases h : 65 ≤ c.toNat ∧ c.toNat ≤ 90
 ·have HL := Lib.hid (low_yes c h.1 h.2)
  have HR : Hid (inR 65 90 c.toNat = true) := inR_true.2 (by omega)
  obtain ⟨h1, h2⟩ := h
  go_enter Tryz.func115, Tryz.ntmps115
  go_wp2_with (go_at_call 158; refine (withinC_any _ 65 90 x y _ hx hy).mono ?_; rw [HR.out]; rintro e w' ⟨rfl, rfl⟩)
  go_ret
  exact ⟨ret_int HL.out.symm, rfl⟩
 ·have HL := Lib.hid (low_no c h)
  have HR : Hid (inR 65 90 c.toNat = false) := inR_false.2 (by omega)
  clear h
  go_enter Tryz.func115, Tryz.ntmps115
  go_wp2_with (go_at_call 158; refine (withinC_any _ 65 90 x y _ hx hy).mono ?_; rw [HR.out]; rintro e w' ⟨rfl, rfl⟩)
  go_ret
  exact ⟨ret_int (by rw [HL.out]), rfl⟩

set_option maxHeartbeats 400000 in
theorem moved_any (w : World) :
  Calls Tryz.prog 74 #[.int .u8 65, .int .u8 90, .int .u8 97] w fun e w' => e = .returned (.func (.func 115) #[] #[.pointer (some ⟨w.heap.size + 4, 0, none⟩), .pointer (some ⟨w.heap.size, 0, none⟩), .pointer (some ⟨w.heap.size + 1, 0, none⟩)]) ∧ Below w.heap.size w w' ∧ Led w' (w.heap.size + 4) w.heap.size (w.heap.size + 1) (w.heap.size + 2) (w.heap.size + 3) ∧ w'.heap.size = w.heap.size + 5 := by
 have hmf := mkf
 go_enter Tryz.func74, Tryz.ntmps74
 go_wp2_with (go_at_call 114; refine (within_any _ _ _).mono ?_; rintro e w' ⟨rfl, rfl⟩)
 go_ret
 refine ⟨rfl, (((((Below.refl _ _).alloc (Nat.le_refl _) _).alloc (by simp) _).alloc (by simp; omega) _).alloc (by simp; omega) _).alloc (by simp; omega) _, ⟨?_, ?_, ?_, ?_, ?_⟩, by simp⟩
 ·exact cell_new _ _ _ _ (by simp)
 ·exact cell_old _ (cell_old _ (cell_old _ (cell_old _ (cell_new _ _ _ _ rfl))))
 ·exact cell_old _ (cell_old _ (cell_old _ (cell_new _ _ _ _ (by simp))))
 ·exact cell_old _ (cell_old _ (cell_new _ _ _ _ (by simp)))
 ·exact cell_old _ (cell_new _ _ _ _ (by simp))

/-- The first k bytes in small letters. -/
def lowTo (s : ByteArray) (k : Nat) : ByteArray := ⟨((s.data.toList.take k).map low ++ s.data.toList.drop k).toArray⟩
theorem lowTo_size (s : ByteArray) (k : Nat) (h : k ≤ s.size) : (lowTo s k).size = s.size := by
 have : s.data.size = s.size := rfl
 simp only [lowTo, ByteArray.size, List.size_toArray, List.length_append, List.length_map, List.length_take, List.length_drop, Array.length_toList]; omega
theorem lowTo_zero (s : ByteArray) : lowTo s 0 = s := by simp [lowTo]
theorem lowTo_at (s : ByteArray) (k j : Nat) (hj : j < s.size) (hk : k ≤ s.size) : (lowTo s k).data[j]? = some (if j < k then low s[j] else s[j]) := by
 have hl : s.data.toList.length = s.size := by simp
 have hg : s.data.toList[j]? = some s[j] := by
  rw [List.getElem?_eq_getElem (by omega)]; rfl
 simp only [lowTo, List.getElem?_toArray]
 by_cases h : j < k
 ·rw [List.getElem?_append_left (by simp; omega), if_pos h, List.getElem?_map, List.getElem?_take_of_lt h, hg]; rfl
 ·rw [List.getElem?_append_right (by simp; omega), if_neg h, List.getElem?_drop]
  have : k + (j - ((s.data.toList.take k).map low).length) = j := by simp; omega
  rw [this, hg]
theorem lowRow_at (s : ByteArray) (k j cap : Nat) (hj : j < s.size) (hk : k ≤ s.size) : (bytesRow (lowTo s k) cap)[j]? = some (.int .u8 ((if j < k then low s[j] else s[j]).toNat : Int)) := by
 have h1 := lowTo_size s k hk
 have h2 : j < (lowTo s k).data.size := by show j < (lowTo s k).size; omega
 rw [bytesRow_at _ _ _ h2]
 have h3 := lowTo_at s k j hj hk
 rw [Array.getElem?_eq_getElem h2] at h3
 rw [Option.some.inj h3]
theorem lowRow_size (s : ByteArray) (k cap : Nat) (hk : k ≤ s.size) (hc : s.size ≤ cap) : (bytesRow (lowTo s k) cap).size = cap := by
 have h1 := lowTo_size s k hk
 have h2 : (lowTo s k).data.size = (lowTo s k).size := rfl
 simp [bytesRow, h2, h1]; omega
theorem lowRow_set (s : ByteArray) (k cap : Nat) (hk : k < s.size) (hc : s.size ≤ cap) : (bytesRow (lowTo s k) cap).setIfInBounds k (.int .u8 ((low s[k]).toNat : Int)) = bytesRow (lowTo s (k + 1)) cap := by
 apply Array.ext_getElem?
 intro j
 have hz := lowRow_size s k cap (by omega) hc
 have hz' := lowRow_size s (k + 1) cap (by omega) hc
 rw [Array.getElem?_setIfInBounds]
 by_cases e : k = j
 ·subst e
  rw [if_pos rfl, if_pos (by omega), lowRow_at s (k + 1) k cap hk (by omega), if_pos (by omega)]
 ·rw [if_neg e]
  by_cases hj : j < s.size
  ·rw [lowRow_at s k j cap hj (by omega), lowRow_at s (k + 1) j cap hj (by omega)]
   by_cases hjk : j < k
   ·rw [if_pos hjk, if_pos (by omega)]
   ·rw [if_neg hjk, if_neg (by omega)]
  ·have h1 := lowTo_size s k (by omega)
   have h2 := lowTo_size s (k + 1) (by omega)
   have h3 : (lowTo s k).data.size = (lowTo s k).size := rfl
   have h4 : (lowTo s (k + 1)).data.size = (lowTo s (k + 1)).size := rfl
   simp only [bytesRow, h1, h2]
   rw [Array.getElem?_append_right (by simp; omega), Array.getElem?_append_right (by simp; omega)]
   simp only [Array.size_map, h3, h4, h1, h2]

set_option maxHeartbeats 400000 in
theorem changed_any (s : ByteArray) (p q r x y : Nat) (w : World) (hs : s.size ≤ maxLen) (L : Led w p q r x y) :
  Calls Tryz.prog 73 #[.string s, .func (.func 115) #[] #[.pointer (some ⟨p, 0, none⟩), .pointer (some ⟨q, 0, none⟩), .pointer (some ⟨r, 0, none⟩)]] w fun e w' => e = .returned (.string ⟨(s.data.toList.map low).toArray⟩) ∧ Below w.heap.size w w' := by
 unfold maxLen at hs
 have hcv := fun (w : World) => run_bytes_of_string (P := Tryz.prog) w 9 81 5 s Tryz.underlying9 Tryz.underlying81 Tryz.underlying5
 have hge := grownCap_ge w s.size 0 5
 have HM : Hid ((bytesRow s (grownCap w s.size 0 5)).size = grownCap w s.size 0 5) := by
  have := lowRow_size s 0 (grownCap w s.size 0 5) (Nat.zero_le _) hge
  rw [lowTo_zero] at this
  exact Lib.hid this
 go_enter Tryz.func73, Tryz.ntmps73
 go_wp2
 clear hcv
 rw [HM.out]
 generalize grownCap w s.size 0 5 = cap at *
 go_loopw [6, 7, 12] (fun _ _ i wr => ∃ k : Nat, k ≤ s.size ∧ i = .int .i64 k ∧ wr = (w.alloc (.cells (bytesRow (lowTo s k) cap) 5 (cap, cap + 1))).drew) (fun _ _ i _ => s.size - (intOf i).toNat)
 case atStart => exact ⟨0, Nat.zero_le _, rfl, by rw [lowTo_zero]⟩
 case round =>
  obtain ⟨k, hk, rfl, rfl⟩ := hrel
  obtain ⟨R, HR⟩ : ∃ R, Hid (R = bytesRow (lowTo s k) cap) := ⟨_, rfl⟩
  rw [← HR.out]
  by_cases hlt : k < s.size
  ·have hc : (w.alloc (.cells R 5 (cap, cap + 1))).cell? ⟨w.heap.size, k, none⟩ = some (.int .u8 (s[k].toNat : Int)) := by rw [World.cell?_alloc_mark, HR.out, lowRow_at s k k cap hlt hk, if_neg (by omega)]
   have hf : (w.alloc (.cells R 5 (cap, cap + 1))).frozen? ⟨w.heap.size, k, none⟩ = false := frozen_alloc_mark _ _ _ _ _ (by omega)
   have L' : Led (w.alloc (.cells R 5 (cap, cap + 1))).drew p q r x y := (L.alloc _).drew
   have HS := Lib.hid (lowRow_set s k cap hlt hge)
   go_wp2_with (go_at_call 115; refine (movedC_any _ p q r x y _ L').mono ?_; rintro e w' ⟨rfl, rfl⟩)
   refine ⟨⟨k + 1, by omega, by go_num, ?_⟩, by simp [intOf]; omega⟩
   rw [setCell_alloc_mark, HR.out, HS.out]
  ·obtain rfl : k = s.size := by omega
   have hb := run_convert_bytes_back (P := Tryz.prog) (w.alloc (.cells R 5 (cap, cap + 1))).drew 81 9 5 ⟨w.heap.size, 0, none⟩ cap (s.data.toList.map low) Tryz.underlying81 Tryz.underlying5 Tryz.underlying9 (fun j hj => by
    have hj' : j < s.size := by simpa using hj
    have e : (⟨w.heap.size, 0, none⟩ : Addr).add j = ⟨w.heap.size, j, none⟩ := by unfold Addr.add; split <;> simp_all
    rw [World.cell?_drew, e, World.cell?_alloc_mark, HR.out, lowRow_at s s.size j cap hj' (Nat.le_refl _), if_pos hj']
    simp [ByteArray.getElem_eq_getElem_data])
   rw [show (s.data.toList.map low).length = s.size by simp] at hb
   go_wp2
   go_ret
   exact ⟨rfl, ((Below.refl _ _).alloc (Nat.le_refl _) _).drew⟩

end Go.Proofs.YtcphokaamkalfaaGreatDoor
namespace Go.Proofs.YtcphokaamkalfaaGreatDoor
open Go.RowKit

theorem belowN {B : Nat} {a w : World} (h : Below B a w) (n : Nat) : Below B a (w.drewN n) := ⟨h.os, h.tape, h.output, h.size, h.block⟩
theorem runes_plain (s : ByteArray) (hp : ∀ (j : Nat) (h : j < s.size), (s[j]'h).toNat < 128) : ∀ (b i : Nat) (acc : Array Value), s.size ≤ i + b →
  Conv.runesFrom s b i acc = acc ++ ((s.data.toList.drop i).map fun c => rv c.toNat).toArray
 | 0, i, acc, h => by
  rw [Conv.runesFrom, List.drop_of_length_le (by simp; omega)]; simp
 | b + 1, i, acc, h => by
  rw [Conv.runesFrom]
  by_cases hi : i < s.size
  ·rw [if_pos hi, decode_ascii s i hi (hp i hi)]
   simp only
   rw [runes_plain s hp b (i + 1) _ (by omega), drop_at s i hi]
   simp [rv]
  ·rw [if_neg hi, List.drop_of_length_le (by simp; omega)]; simp
theorem plain_at {s : ByteArray} (h : plainL s.data.toList = true) (j : Nat) (hj : j < s.size) : (s[j]'hj).toNat < 128 := by
 rw [plainL, List.all_eq_true] at h
 have hm : s[j] ∈ s.data.toList := by
  have : s[j] = s.data[j]'hj := rfl
  rw [this]; simp
 simpa using h _ hm
theorem plain_sub {a b : List UInt8} (h : plainL b = true) (hs : ∀ c ∈ a, c ∈ b) : plainL a = true := by
 rw [plainL, List.all_eq_true] at h ⊢
 exact fun c hc => h c (hs c hc)
theorem pSigns_sub (s : ByteArray) : ∀ c ∈ (pSigns s).data.toList, c ∈ s.data.toList := by
 intro c hc
 rw [pSigns] at hc
 split at hc
 ·simp at hc
 ·rw [exTake] at hc; exact List.mem_of_mem_take hc
theorem p_sizes (s : ByteArray) : (pSigns s).size + (pRest s).size ≤ s.size := by
 rw [pSigns, pRest]
 split
 ·show 0 + s.size ≤ s.size; omega
 ·have h := lastI_bd s.data.toList
  have hl : (s.data.toList.length : Int) = s.size := by simp
  rw [exS _ _ _ (by omega), exS _ _ _ (Nat.le_refl _)]; omega

/-- What Decode answers. -/
def decO (s : ByteArray) : Option (List Nat) := decL (pRest s).size ((pSigns s).data.toList.map (·.toNat)) (pRest s).data.toList 0 128 72 true
def decW : Option (List Nat) → ByteArray × Int
 | none => (⟨#[]⟩, 4)
 | some l => (utf l, 0)
def decT (s : ByteArray) : ByteArray × Int :=
 if 65536 < s.size then (⟨#[]⟩, 3) else if plainL s.data.toList = false then (⟨#[]⟩, 4) else
 decW (decO s)
theorem row_runes (w : World) (l : List Nat) (cap : Nat) (hc : l.length ≤ cap) (hm : cap ≤ maxLen) :
  RowR (w.alloc (.cells ((l.map rv).toArray ++ Array.replicate (cap - l.length) (.int .i32 0)) 21)) w.heap.size (.slice (some ⟨w.heap.size, 0, none⟩) l.length cap) (l.map rv) := by
 refine ⟨w.heap.size, cap, _, by simp, Nat.le_refl _, heap_alloc_new _ _, by simpa using hc, hm, by simp; omega, ?_⟩
 simp

set_option maxHeartbeats 1000000 in
set_option maxRecDepth 100000 in
theorem Decode_any (s : ByteArray) (w : World) (hs : s.size ≤ maxLen) :
  Calls Tryz.prog 172 #[.string s] w fun e w' => e = .returned (.tuple #[.string (decT s).1, .int .i64 (decT s).2]) ∧ Below w.heap.size w w' := by
 by_cases h1 : 65536 < s.size
 ·have HF : Hid (decT s = (⟨#[]⟩, 3)) := Lib.hid (by rw [decT, if_pos h1])
  unfold maxLen at hs
  go_enter Tryz.func172, Tryz.ntmps172
  go_wp2
  go_ret2
  exact ⟨by rw [HF.out]; rfl, Below.refl _ _⟩
 ·cases hp : plainL s.data.toList with
  | false =>
   have HF : Hid (decT s = (⟨#[]⟩, 4)) := Lib.hid (by rw [decT, if_neg h1, if_pos hp])
   have HP := Lib.hid hp
   clear hp
   go_enter Tryz.func172, Tryz.ntmps172
   go_wp2_with fail
   refine (plain_any s _).mono ?_
   rw [HP.out]
   rintro e w1 ⟨rfl, pos, rfl⟩
   go_wp2
   go_ret2
   exact ⟨by rw [HF.out]; rfl, iter_below _ _ _⟩
  | true =>
   obtain ⟨T, HT⟩ : ∃ T, Hid (T = decO s) := ⟨_, Lib.hid rfl⟩
   have HF : Hid (decT s = decW T) := Lib.hid (by rw [decT, if_neg h1, if_neg (by rw [hp]; simp), HT.out])
   have HP := Lib.hid hp
   have HPS := Lib.hid (plain_sub hp (pSigns_sub s))
   clear hp
   have hz := p_sizes s
   obtain ⟨g, hg⟩ : ∃ g, g = pSigns s := ⟨_, rfl⟩
   obtain ⟨r, hr⟩ : ∃ r, r = pRest s := ⟨_, rfl⟩
   rw [← hg, ← hr] at hz
   rw [← hg] at HPS
   have HPart : Hid (∀ w, Calls Tryz.prog 188 #[.string s] w fun e w' => e = .returned (.tuple #[.string g, .string r]) ∧ ∃ m, w' = w.drewN m) := Lib.hid (fun w => by rw [hg, hr]; exact parted_any s w hs)
   have HT2 : Hid (T = decL r.size (g.data.toList.map (·.toNat)) r.data.toList 0 128 72 true) := Lib.hid (by rw [HT.out, hg, hr]; rfl)
   clear hg hr
   have hru := runes_plain g (fun j hj => plain_at HPS.out j hj) g.size 0 #[] (by omega)
   rw [List.drop_zero, Array.empty_append] at hru
   obtain ⟨l, hl⟩ : ∃ l : List Nat, l = g.data.toList.map (·.toNat) := ⟨_, rfl⟩
   have hll : l.length = g.size := by rw [hl]; simp
   have hru2 : Conv.runesFrom g g.size 0 #[] = (l.map rv).toArray := by rw [hru, hl]; simp
   rw [← hl] at HT2
   clear hru hl
   have HC : Hid (∀ w : World, (convert 9 188 (.string g)).run Tryz.prog w = .ok (.slice (some ⟨w.heap.size, 0, none⟩) l.length (grownCap w l.length 0 21)) (w.drew.alloc (.cells ((l.map rv).toArray ++ Array.replicate (grownCap w l.length 0 21 - l.length) (.int .i32 0)) 21))) := Lib.hid (fun w => by
    have h := run_runes_of_string (P := Tryz.prog) w 9 188 21 g Tryz.underlying9 Tryz.underlying188 Tryz.underlying21 (by rw [hru2]; simp; omega)
    rw [hru2] at h
    simpa using h)
   clear hru2
   have HLL := Lib.hid hll
   clear hll
   have hcv := HC.out
   go_enter Tryz.func172, Tryz.ntmps172
   go_wp2_with fail
   refine (plain_any s _).mono ?_
   rw [HP.out]
   rintro e w1 ⟨rfl, pos, hw1⟩
   have hb0 := iter_below w s pos
   rw [← hw1] at hb0
   have HB0 := Lib.hid hb0
   clear hw1 hb0
   go_wp2_with fail
   refine (HPart.out _).mono ?_
   rintro e w2 ⟨rfl, m, rfl⟩
   go_wp2_with fail
   clear hcv
   have h1 := grownCap_ge (w1.drewN m) l.length 0 21
   have h2 := grownCap_le_maxLen (w1.drewN m) l.length 0 21 (by unfold maxLen; have := HLL.out; omega)
   have hdz : (w1.drewN (m + 1)).heap.size = w1.heap.size := by simp
   have hrow := row_runes (w1.drewN (m + 1)) l _ h1 h2
   rw [hdz] at hrow
   refine (withOthers_any w1.heap.size _ l r _ hrow (by simp) (by have := HLL.out; omega)).mono ?_
   rw [← HT2.out]
   rintro e w2 ⟨rfl, hb1⟩
   have HB2 : Hid (Below w.heap.size w w2) := Lib.hid (HB0.out.trans (Below.trans ((belowN (Below.refl _ w1) (m + 1)).alloc (by simpa using HB0.out.size) _) (hb1.mono HB0.out.size)))
   clear hb1
   cases T with
   | none =>
    dsimp only [wiT]
    go_wp2
    go_ret2
    exact ⟨by rw [HF.out]; rfl, HB2.out⟩
   | some L =>
    dsimp only [wiT]
    go_wp2
    go_ret2
    exact ⟨by rw [HF.out]; rfl, HB2.out⟩

end Go.Proofs.YtcphokaamkalfaaGreatDoor
namespace Go.Proofs.YtcphokaamkalfaaGreatDoor
open Go.RowKit

/-- A text in small letters. -/
def lowS (s : ByteArray) : ByteArray := ⟨(s.data.toList.map low).toArray⟩
theorem lowS_size (s : ByteArray) : (lowS s).size = s.size := by
 show (s.data.toList.map low).toArray.size = s.data.size
 rw [List.size_toArray, List.length_map, Array.length_toList]
set_option maxHeartbeats 400000 in
theorem Lower_any (s : ByteArray) (w : World) (hs : s.size ≤ maxLen) :
  Calls Tryz.prog 42 #[.string s] w fun e w' => e = .returned (.string (lowS s)) ∧ Below w.heap.size w w' := by
 go_enter Tryz.func42, Tryz.ntmps42
 go_wp2_with fail
 refine (moved_any _).mono ?_
 rintro e w1 ⟨rfl, hb, hL, hz⟩
 have HZ := Lib.hid hz; clear hz
 go_wp2_with fail
 refine (changed_any s _ _ _ _ _ _ hs hL).mono ?_
 rintro e w2 ⟨rfl, hb2⟩
 go_wp2
 go_ret
 exact ⟨rfl, hb.trans (hb2.mono hb.size)⟩

end Go.Proofs.YtcphokaamkalfaaGreatDoor
