/-
  The document's Signs, plainly; what it answers.
-/
import Derived.Test.YtgmjfnddeogfdaaDoorEnR
import Derived.Test.YtgmjfnddeogfdaaDoorEnF
import Derived.Lib.DecodeN
namespace Go.Proofs.YtgmjfnddeogfdaaDoor
open Go.RowKit

/-- A text's signs, if it is one in UTF-8. -/
def sgO (s : ByteArray) : Nat → Nat → Option (List Nat)
  | 0, _ => some []
  | f + 1, p => if p < s.size then (if (Utf8.decode s p).1 = 65533 ∧ (Utf8.decode s p).2 = 1 then none else (sgO s f (p + (Utf8.decode s p).2)).map fun l => (Utf8.decode s p).1 :: l) else some []
theorem sgO_end (s : ByteArray) (f p : Nat) (h : ¬ p < s.size) : sgO s f p = some [] := by
  cases f with
  | zero => rfl
  | succ f => rw [sgO, if_neg h]
theorem sgO_bad (s : ByteArray) (f p : Nat) (h : p < s.size) (hd : Utf8.decode s p = (65533, 1)) : sgO s (f + 1) p = none := by
  rw [sgO, if_pos h, hd]; simp
theorem sgO_ok (s : ByteArray) (f p r n : Nat) (h : p < s.size) (hd : Utf8.decode s p = (r, n)) (hr : ¬ (r = 65533 ∧ n = 1)) : sgO s (f + 1) p = (sgO s f (p + n)).map fun l => r :: l := by
  rw [sgO, if_pos h, hd, if_neg hr]

theorem get_at (s : ByteArray) (i : Nat) (h : i < s.size) : s.get! i = s[i] := by
  show s.data[i]! = s.data[i]'h
  rw [getElem!_pos]
theorem decA (s : ByteArray) (i : Nat) (h : i < s.size) (hb : s[i].toNat < 128) : Utf8.decode s i = (s[i].toNat, 1) := by
  rw [Lib.decode_at, get_at s i h]; unfold Lib.decodeN; rw [if_pos hb]
theorem decE (s : ByteArray) (i : Nat) (h : i < s.size) (hb : (128 ≤ s[i].toNat ∧ s[i].toNat < 192) ∨ 248 ≤ s[i].toNat) : Utf8.decode s i = (65533, 1) := by
  rw [Lib.decode_at, get_at s i h]; unfold Lib.decodeN
  rw [if_neg (by omega), if_neg (by omega), if_neg (by omega), if_neg (by omega)]
theorem decB_short (s : ByteArray) (i : Nat) (h : i < s.size) (h0 : 192 ≤ s[i].toNat) (h1 : s[i].toNat < 224) (hz : s.size < i + 2) : Utf8.decode s i = (65533, 1) := by
  rw [Lib.decode_at, get_at s i h]; unfold Lib.decodeN
  rw [if_neg (by omega), if_neg (by omega), if_neg (by omega), if_neg (by omega)]
set_option maxRecDepth 100000 in
theorem decB (s : ByteArray) (i : Nat) (h : i + 1 < s.size) (h0 : 192 ≤ s[i].toNat) (h1 : s[i].toNat < 224) (hb : 128 ≤ s[i + 1].toNat ∧ s[i + 1].toNat < 192) :
    Utf8.decode s i = if 64 * (s[i].toNat - 192) + s[i + 1].toNat - 128 < 128 then (65533, 1) else (64 * (s[i].toNat - 192) + s[i + 1].toNat - 128, 2) := by
  rw [Lib.decode_at, get_at s i (by omega), get_at s (i + 1) h]; unfold Lib.decodeN
  rw [if_neg (by omega), if_pos (by omega)]
  by_cases e : 64 * (s[i].toNat - 192) + s[i + 1].toNat - 128 < 128
  · rw [if_pos e, if_neg (by omega)]
  · rw [if_neg e, if_pos (by omega)]; congr 1; omega
theorem decB_bad (s : ByteArray) (i : Nat) (h : i + 1 < s.size) (h0 : 192 ≤ s[i].toNat) (h1 : s[i].toNat < 224) (hb : s[i + 1].toNat < 128 ∨ 192 ≤ s[i + 1].toNat) : Utf8.decode s i = (65533, 1) := by
  have := s[i + 1].toNat_lt
  rw [Lib.decode_at, get_at s i (by omega), get_at s (i + 1) h]; unfold Lib.decodeN
  rw [if_neg (by omega), if_neg (by omega), if_neg (by omega), if_neg (by omega)]
theorem decC_short (s : ByteArray) (i : Nat) (h : i < s.size) (h0 : 224 ≤ s[i].toNat) (h1 : s[i].toNat < 240) (hz : s.size < i + 3) : Utf8.decode s i = (65533, 1) := by
  rw [Lib.decode_at, get_at s i h]; unfold Lib.decodeN
  rw [if_neg (by omega), if_neg (by omega), if_neg (by omega), if_neg (by omega)]
theorem decC_bad (s : ByteArray) (i : Nat) (h : i + 2 < s.size) (h0 : 224 ≤ s[i].toNat) (h1 : s[i].toNat < 240) (hb : (s[i + 1].toNat < 128 ∨ 192 ≤ s[i + 1].toNat) ∨ (s[i + 2].toNat < 128 ∨ 192 ≤ s[i + 2].toNat)) : Utf8.decode s i = (65533, 1) := by
  have := s[i + 1].toNat_lt
  have := s[i + 2].toNat_lt
  rw [Lib.decode_at, get_at s i (by omega), get_at s (i + 1) (by omega), get_at s (i + 2) h]; unfold Lib.decodeN
  rw [if_neg (by omega), if_neg (by omega), if_neg (by omega), if_neg (by omega)]
set_option maxRecDepth 100000 in
theorem decC (s : ByteArray) (i : Nat) (h : i + 2 < s.size) (h0 : 224 ≤ s[i].toNat) (h1 : s[i].toNat < 240) (hb : 128 ≤ s[i + 1].toNat ∧ s[i + 1].toNat < 192) (hb2 : 128 ≤ s[i + 2].toNat ∧ s[i + 2].toNat < 192) (y : Nat)
    (hy : y = 64 * (64 * (s[i].toNat - 224) + s[i + 1].toNat - 128) + s[i + 2].toNat - 128) :
    Utf8.decode s i = if y < 2048 ∨ (55296 ≤ y ∧ y ≤ 57343) then (65533, 1) else (y, 3) := by
  rw [Lib.decode_at, get_at s i (by omega), get_at s (i + 1) (by omega), get_at s (i + 2) h]; unfold Lib.decodeN
  rw [if_neg (by omega), if_neg (by omega), if_pos (by omega)]
  by_cases e : y < 2048 ∨ (55296 ≤ y ∧ y ≤ 57343)
  · rw [if_pos e, if_neg (by omega)]
  · rw [if_neg e, if_pos (by omega)]; congr 1; omega
theorem decD_short (s : ByteArray) (i : Nat) (h : i < s.size) (h0 : 240 ≤ s[i].toNat) (h1 : s[i].toNat < 248) (hz : s.size < i + 4) : Utf8.decode s i = (65533, 1) := by
  rw [Lib.decode_at, get_at s i h]; unfold Lib.decodeN
  rw [if_neg (by omega), if_neg (by omega), if_neg (by omega), if_neg (by omega)]
theorem decD_bad (s : ByteArray) (i : Nat) (h : i + 3 < s.size) (h0 : 240 ≤ s[i].toNat) (h1 : s[i].toNat < 248) (hb : (s[i + 1].toNat < 128 ∨ 192 ≤ s[i + 1].toNat) ∨ (s[i + 2].toNat < 128 ∨ 192 ≤ s[i + 2].toNat) ∨ (s[i + 3].toNat < 128 ∨ 192 ≤ s[i + 3].toNat)) : Utf8.decode s i = (65533, 1) := by
  have := s[i + 1].toNat_lt
  have := s[i + 2].toNat_lt
  have := s[i + 3].toNat_lt
  rw [Lib.decode_at, get_at s i (by omega), get_at s (i + 1) (by omega), get_at s (i + 2) (by omega), get_at s (i + 3) h]; unfold Lib.decodeN
  rw [if_neg (by omega), if_neg (by omega), if_neg (by omega), if_neg (by omega)]
set_option maxRecDepth 100000 in
theorem decD (s : ByteArray) (i : Nat) (h : i + 3 < s.size) (h0 : 240 ≤ s[i].toNat) (h1 : s[i].toNat < 248) (hb : 128 ≤ s[i + 1].toNat ∧ s[i + 1].toNat < 192) (hb2 : 128 ≤ s[i + 2].toNat ∧ s[i + 2].toNat < 192) (hb3 : 128 ≤ s[i + 3].toNat ∧ s[i + 3].toNat < 192) (y : Nat)
    (hy : y = 64 * (64 * (64 * (s[i].toNat - 240) + s[i + 1].toNat - 128) + s[i + 2].toNat - 128) + s[i + 3].toNat - 128) :
    Utf8.decode s i = if y < 65536 ∨ 1114111 < y then (65533, 1) else (y, 4) := by
  rw [Lib.decode_at, get_at s i (by omega), get_at s (i + 1) (by omega), get_at s (i + 2) (by omega), get_at s (i + 3) h]; unfold Lib.decodeN
  rw [if_neg (by omega), if_neg (by omega), if_neg (by omega), if_pos (by omega)]
  by_cases e : y < 65536 ∨ 1114111 < y
  · rw [if_pos e, if_neg (by omega)]
  · rw [if_neg e, if_pos (by omega)]; congr 1; omega

theorem appS (base : Nat) (v : Value) (D : List Nat) (x : Nat) (w w0 : World) (hown : w.ownsRow base 3 1 v D.length (D.map iv)) (hD : D.length ≤ 1000000) (hb : base ≤ w.heap.size) (hB : Below base w0 w) :
    ∃ v' w1, (Builtin.append_ #[31, 31] 31 #[v, .slice (some ⟨w.heap.size, 0, none⟩) 1 1]).run Tryd.prog (w.alloc (.cells #[.int .i64 (x : Int)] 3)) = .ok v' w1 ∧ w1.ownsRow base 3 1 v' (D ++ [x]).length ((D ++ [x]).map iv) ∧ Below base w0 w1 := by
  obtain ⟨i0, hi, hz0, hz1, hz2⟩ := info_parts infoI
  obtain ⟨v', w1, hrun, hown', hgrow, _⟩ := run_append_own (P := Tryd.prog) (w.alloc (.cells #[.int .i64 (x : Int)] 3)) base 31 31 3 i0 (.int .i64 0) 1 8 Tryd.underlying31 hi hz0 hz1 hz2 rfl (by decide)
    v D.length (D.map iv) (hown.alloc _) ⟨w.heap.size, 0, none⟩ 1 1 [.int .i64 (x : Int)] (by simp) (World.news_of_block (cs := #[.int .i64 (x : Int)]) (t := 3) (fr := (0, 0)) (heap_alloc_new w _)) (by simp [Value.oneCell']) (by unfold maxLen; omega) (by omega) (by simp; omega)
  refine ⟨v', w1, hrun, ?_, (hB.alloc hb _).grown hgrow (by simp; omega) (fun q hq => (hown.lt q hq).1)⟩
  have e2 : (D ++ [x]).map iv = D.map iv ++ [.int .i64 (x : Int)] := by simp [iv]
  rw [List.length_append, List.length_singleton, e2]; exact hown'

/-- What Signs answers. -/
def SgP (w : World) (T : Option (List Nat)) (e : Ending) (w' : World) : Prop :=
  (∃ l v, T = some l ∧ e = .returned (.tuple #[v, .bool true]) ∧ w'.ownsRow w.heap.size 3 1 v l.length (l.map iv) ∧ Below w.heap.size w w') ∨ (T = none ∧ e = .returned (.tuple #[.slice none 0 0, .bool false]) ∧ Below w.heap.size w w')


end Go.Proofs.YtgmjfnddeogfdaaDoor
