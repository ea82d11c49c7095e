/-
  Contract: the document's Bytes: the text of signs.
-/
import Derived.Test.YtcphokaamkalfaaGreatDoorMpC
namespace Go.Proofs.YtcphokaamkalfaaGreatDoor
open Go.RowKit

def iv (n : Nat) : Value := .int .i64 (n : Int)
def bv (c : UInt8) : Value := .int .u8 (c.toNat : Int)
/-- The bytes of a sign. -/
def encN (x : Nat) : List UInt8 := (Utf8.encode (Int.ofNat x)).data.toList
theorem utf_nil : (utf []).data.toList = [] := rfl
theorem runesBytes_snoc (l : List Int) (x : Int) : runesBytes (l ++ [x]) = runesBytes l ++ Utf8.encode x := by
 unfold runesBytes
 rw [List.foldl_append]
 rfl
set_option maxRecDepth 100000 in
theorem utf_snoc (l : List Nat) (x : Nat) : (utf (l ++ [x])).data.toList = (utf l).data.toList ++ encN x := by
 unfold utf encN
 rw [List.map_append, List.map_cons, List.map_nil, runesBytes_snoc, ByteArray.data_append, Array.toList_append]
set_option maxRecDepth 100000 in
theorem valid_of {x : Nat} (h : badS x = false) : Utf8.valid (Int.ofNat x) = true := by
 rw [badS_false] at h
 unfold Utf8.valid
 have e : Int.ofNat x = (x : Int) := rfl
 rw [e]
 simp; omega
theorem enc_eq {x : Nat} (h : badS x = false) : Utf8.encode (Int.ofNat x) = (if x < 0x80 then ⟨#[UInt8.ofNat x]⟩
  else if x < 0x800 then ⟨#[UInt8.ofNat (0xC0 + x / 64), UInt8.ofNat (0x80 + x % 64)]⟩
  else if x < 0x10000 then ⟨#[UInt8.ofNat (0xE0 + x / 4096), UInt8.ofNat (0x80 + x / 64 % 64), UInt8.ofNat (0x80 + x % 64)]⟩
  else ⟨#[UInt8.ofNat (0xF0 + x / 262144), UInt8.ofNat (0x80 + x / 4096 % 64), UInt8.ofNat (0x80 + x / 64 % 64), UInt8.ofNat (0x80 + x % 64)]⟩ : ByteArray) := by
 unfold Utf8.encode
 rw [valid_of h]
 rfl
theorem enc1 {x : Nat} (h : x < 128) : encN x = [UInt8.ofNat x] := by
 rw [encN, enc_eq (badS_false.2 (by omega)), if_pos h]
theorem enc2 {x : Nat} (h0 : 128 ≤ x) (h : x < 2048) : encN x = [UInt8.ofNat (192 + x / 64), UInt8.ofNat (128 + x % 64)] := by
 rw [encN, enc_eq (badS_false.2 (by omega)), if_neg (by omega), if_pos h]
theorem enc3 {x : Nat} (hb : badS x = false) (h0 : 2048 ≤ x) (h : x < 65536) : encN x = [UInt8.ofNat (224 + x / 4096), UInt8.ofNat (128 + x / 64 % 64), UInt8.ofNat (128 + x % 64)] := by
 rw [encN, enc_eq hb, if_neg (by omega), if_neg (by omega), if_pos h]
theorem enc4 {x : Nat} (hb : badS x = false) (h0 : 65536 ≤ x) : encN x = [UInt8.ofNat (240 + x / 262144), UInt8.ofNat (128 + x / 4096 % 64), UInt8.ofNat (128 + x / 64 % 64), UInt8.ofNat (128 + x % 64)] := by
 rw [encN, enc_eq hb, if_neg (by omega), if_neg (by omega), if_neg (by omega)]
set_option maxRecDepth 100000 in
theorem encN_len (x : Nat) : (encN x).length ≤ 4 := by
 have := encode_size_le (Int.ofNat x)
 unfold encN
 rw [dLen]; exact this
theorem bvN {n : Nat} (h : n < 256) : bv (UInt8.ofNat n) = .int .u8 (n : Int) := by
 simp [bv, Nat.mod_eq_of_lt h]
theorem utf_len (l : List Nat) : (utf l).data.toList.length ≤ 4 * l.length := by
 refine snocInd (P := fun l => (utf l).data.toList.length ≤ 4 * l.length) (by simp [utf_nil]) (fun l c ih => ?_) l
 rw [utf_snoc, List.length_append, List.length_append, List.length_singleton]
 have := encN_len c
 omega

theorem infoB : (Tryz.prog.info? 5).map (fun i => (i.zero, i.size, i.bytes)) = some (some (.int .u8 0), 1, 1) := by kernel_rfl
theorem infoI : (Tryz.prog.info? 3).map (fun i => (i.zero, i.size, i.bytes)) = some (some (.int .i64 0), 1, 8) := by kernel_rfl

theorem bytes_back (base : Nat) (v : Value) (l : List UInt8) (w : World) (hown : w.ownsRow base 5 1 v l.length (l.map bv)) : (convert 81 9 v).run Tryz.prog w = .ok (.string ⟨l.toArray⟩) w := by
 rcases hown.2 with ⟨rfl, hn⟩ | ⟨g, cap, cur, rfl, hgb, hg, hnc, hcm, hcs, hct⟩
 ·obtain rfl : l = [] := List.eq_nil_of_length_eq_zero hn
  simp [convert, run_underlying Tryz.underlying81, run_underlying Tryz.underlying9, run_underlying Tryz.underlying5]
  rfl
 ·refine run_convert_bytes_back (P := Tryz.prog) w 81 9 5 ⟨g, 0, none⟩ cap l Tryz.underlying81 Tryz.underlying5 Tryz.underlying9 (fun j hj => ?_)
  have h := hown.cellAt j (by omega)
  rw [Addr.add_lit, Nat.zero_add, h, List.getElem?_map, List.getElem?_eq_getElem hj]; rfl

end Go.Proofs.YtcphokaamkalfaaGreatDoor
