/-
  Contract: strconv.FormatInt at base 16.
  Contract: joined.
  Contracts: numbersOf at four bytes, and at sixteen by two.
  Contract: longestRun.
  Contract: Text.
  Contract: Text of sixteen bytes. NOT CLEAN YET: the last region (NOTES.md).
  Text of any address: the program's; addresses cell by cell.
-/
import Derived.Test.YtcphokaamkalfaaGreatDoorMaC
import Derived.Test.YtcphokaamkalfaaGreatDoorMaA
import Derived.Test.YtcphokaamkalfaaGreatDoorShelfZ
import Derived.Test.YtcphokaamkalfaaGreatDoorShelfT
import Derived.Lib.AppendIntMem
import Derived.Deep.RegionHeld3
namespace Go.Proofs.YtcphokaamkalfaaGreatDoor
open Go.RowKit

/-- A digit's sign; a number by a base. -/
def hd (d : Nat) : UInt8 := UInt8.ofNat (if d < 10 then 48 + d else 87 + d)
def numF (b : Nat) : Nat → Nat → List UInt8
 | 0, _ => []
 | f + 1, n => if n < b then [hd n] else numF b f (n / b) ++ [hd (n % b)]

set_option maxHeartbeats 400000 in
theorem pow2_16 (w : World) : Calls Tryz.prog 132 #[.int .i64 16] w fun e w' => e = .returned (.bool true) ∧ w = w' := by
 go_enter Tryz.func132, Tryz.ntmps132
 go_wp2
 go_ret
 exact ⟨rfl, rfl⟩
theorem ctz16 : Lib.ctz 64 16 = 4 := by decide

theorem slice65 (g q : Nat) (h : q < 65) (w : World) : (Instr.sliceAt 140 (.pointer (some ⟨g, 0, none⟩)) (some (.int .i64 (q : Int))) none none).run Tryz.prog w = .ok (.slice (some ⟨g, q, none⟩) (65 - q) (65 - q)) w := by
 have hl : Tryz.prog.arrayLen 140 = 65 := by kernel_rfl
 have he : Tryz.prog.elem 140 = 5 := by kernel_rfl
 have h := run_sliceAt_array_l (P := Tryz.prog) w 140 ⟨g, 0, none⟩ (by rw [hl, he]; exact Tryz.underlying140) .i64 (q : Int) (by omega) (by rw [hl]; omega)
 rw [h, he, hl]
 have hs : (sizeOf 5).run Tryz.prog w = .ok 1 w := by go_simp
 rw [hs]
 show Result.ok (slicedAt ⟨g, 0, none⟩ (q : Int).toNat 65 65 1) w = _
 unfold slicedAt
 rw [Int.toNat_natCast, if_neg (by omega), Nat.mul_one, Addr.add_lit, Nat.zero_add]
/-- The signs of digits, as the library holds them. -/
abbrev DIG : ByteArray := ⟨#[48, 49, 50, 51, 52, 53, 54, 55, 56, 57, 97, 98, 99, 100, 101, 102, 103, 104, 105, 106, 107, 108, 109, 110, 111, 112, 113, 114, 115, 116, 117, 118, 119, 120, 121, 122]⟩
theorem dig_hd (d : Nat) (h : d < 16) : (DIG[d]'(Nat.lt_trans h (by decide))) = hd d := by
 have : ∀ n : Fin 16, (DIG[n.1]'(Nat.lt_trans n.2 (by decide))) = hd n.1 := by decide +kernel
 exact this ⟨d, h⟩
theorem and_15 (u : Nat) (h : u < 65536) : bits .and .u64 (u : Int) 15 = ((u % 16 : Nat) : Int) := by
 have h1 : (BitVec.ofInt 64 (u : Int)).toNat = u := by
  rw [BitVec.ofInt_natCast, BitVec.toNat_ofNat]; exact Nat.mod_eq_of_lt (by omega)
 have h2 : (BitVec.ofInt 64 15).toNat = 15 := by decide
 have h3 : u &&& 15 = u % 16 := by
  have := Nat.and_two_pow_sub_one_eq_mod u 4
  simpa using this
 show IntKind.u64.wrap ((BitVec.ofInt 64 (u : Int) &&& BitVec.ofInt 64 15).toNat : Int) = _
 rw [BitVec.toNat_and, h1, h2, h3]
 simp [IntKind.wrap, IntKind.signed, IntKind.bits]
 omega
/-- While digits are written: those behind q. -/
def WrS (n q m : Nat) (D : List UInt8) (C : Array Value) : Prop :=
 q + m = 65 ∧ m ≤ 3 ∧ D.length = m ∧ numF 16 4 n = numF 16 (4 - m) (n / 16 ^ m) ++ D ∧ C.size = 65 ∧ ∀ j (hj : j < D.length), C[q + j]? = some (.int .u8 (D[j].toNat : Int))
theorem wrS_put {n q m : Nat} {D : List UInt8} {C : Array Value} {x : UInt8} {v : Value} (h : WrS n (q + 1) m D C) (hv : v = .int .u8 (x.toNat : Int)) : ∀ j (hj : j < (x :: D).length), (C.setIfInBounds q v)[q + j]? = some (.int .u8 ((x :: D)[j].toNat : Int)) := by
 obtain ⟨h1, _, h3, _, h5, h6⟩ := h
 intro j hj
 rw [Array.getElem?_setIfInBounds]
 cases j with
 | zero => rw [if_pos (by omega), if_pos (by omega), hv]; rfl
 | succ j =>
  rw [if_neg (by omega)]
  have := h6 j (by simpa using hj)
  rw [show q + (j + 1) = q + 1 + j by omega]
  exact this

set_option maxRecDepth 100000 in
set_option maxHeartbeats 1000000 in
theorem formatBits_any (n : Nat) (w : World) (hn : n < 65536) (hT : TabAt (Tryz.lays27_ren.g 1) Lib.deBruijn64tab w) :
  Calls Tryz.prog 91 #[.slice none 0 0, .int .u64 n, .int .i64 16, .bool false, .bool false] w fun e w' => e = .returned (.tuple #[.slice none 0 0, .string (asB (numF 16 4 n))]) ∧ Below w.heap.size w w' := by
 have HT := Lib.hid hT
 clear hT
 go_enter Tryz.func91, Tryz.ntmps91
 go_wp2_with fail
 refine (pow2_16 _).mono ?_
 rintro e w1 ⟨rfl, rfl⟩
 have HTz : Hid (∀ o, Calls Tryz.prog 133 #[.int .u64 16] (w.alloc o) fun e w' => e = .returned (.int .i64 4) ∧ w.alloc o = w') := Lib.hid (fun o => (Tryz.bits_TrailingZeros 16 (by omega) (w.alloc o) (fun _ j hj => by
  have := HT.out j hj
  rw [World.cell?_alloc_lt w o _ (block_lt_of_cell this)]; exact this)).mono fun e w' ⟨he, hw⟩ => ⟨by rw [he, ctz16]; rfl, hw.symm⟩)
 go_wp2_with (go_at_call 133; refine (HTz.out _).mono ?_; rintro e w' ⟨rfl, rfl⟩)
 obtain ⟨Z, HZ⟩ : ∃ Z, Hid (Tryz.zeroCells140 = Z) := ⟨_, Lib.hid rfl⟩
 have HZs : Hid (Z.size = 65) := Lib.hid (by rw [← HZ.out]; rfl)
 rw [HZ.out]
 have HG0 := Lib.hid (heap_alloc_new w (.cells Z 140))
 have HB0 : Hid (Below w.heap.size w (w.alloc (.cells Z 140))) := Lib.hid ((Below.refl _ _).alloc (Nat.le_refl _) _)
 go_loopw [1, 13] (fun u i wr => ∃ (q m : Nat) (D : List UInt8) (C : Array Value), i = .int .i64 q ∧ u = .int .u64 ((n / 16 ^ m : Nat) : Int) ∧ Hid (WrS n q m D C) ∧ Hid (wr.heap[w.heap.size]? = some (.cells C 140 (0, 0))) ∧ Hid (Below w.heap.size w wr)) (fun _ i _ => (intOf i).toNat)
 case atStart => exact ⟨65, 0, [], Z, rfl, by simp, Lib.hid ⟨rfl, by omega, rfl, by simp, HZs.out, fun j hj => absurd hj (by simp)⟩, HG0, HB0⟩
 case round =>
  obtain ⟨q, m, D, C, rfl, rfl, HS, HG, HB⟩ := hrel
  obtain ⟨u, HU⟩ : ∃ u, Hid (n / 16 ^ m = u) := ⟨_, Lib.hid rfl⟩
  rw [HU.out]
  have hub : u < 65536 := by rw [← HU.out]; exact Nat.lt_of_le_of_lt (Nat.div_le_self _ _) hn
  obtain ⟨q, rfl⟩ : ∃ q', q = q' + 1 := ⟨q - 1, by have := HS.out.1; have := HS.out.2.1; omega⟩
  have hq : q < 65 := by have := HS.out.1; omega
  have hCz : C.size = 65 := HS.out.2.2.2.2.1
  obtain ⟨v0, hv0⟩ : ∃ v, C[q]? = some v := ⟨_, Array.getElem?_eq_getElem (by omega)⟩
  have hcl : wr.cell? ⟨w.heap.size, q, none⟩ = some v0 := (cell_of_row wr _ _ C _ _ HG.out).trans hv0
  have hfr := frozen_of_row wr w.heap.size q C _ HG.out
  clear hv0 hCz
  by_cases h16 : 16 ≤ u
  ·have h16I : (16 : Int) ≤ (u : Int) := by omega
   obtain ⟨d, HD⟩ : ∃ d, Hid (u % 16 = d) := ⟨_, Lib.hid rfl⟩
   have hd16 : d < 16 := by rw [← HD.out]; exact Nat.mod_lt _ (by omega)
   have hand : bits .and .u64 (u : Int) 15 = (d : Int) := by rw [and_15 u hub, HD.out]
   have HG1 := Lib.hid (heap_setCell_same wr w.heap.size q C _ (.int .u8 ((DIG[d]'(Nat.lt_trans hd16 (by decide))).toNat : Int)) HG.out)
   have HB1 : Hid (Below w.heap.size w (wr.setCell ⟨w.heap.size, q, none⟩ (.int .u8 ((DIG[d]'(Nat.lt_trans hd16 (by decide))).toNat : Int)))) := Lib.hid (HB.out.setCell (Nat.le_refl _) _)
   have HS1 : Hid (WrS n q (m + 1) (hd d :: D) (C.setIfInBounds q (.int .u8 ((DIG[d]'(Nat.lt_trans hd16 (by decide))).toNat : Int)))) := Lib.hid (by
    have hp := wrS_put HS.out (congrArg (fun z : UInt8 => Value.int .u8 (z.toNat : Int)) (dig_hd d hd16))
    obtain ⟨h1, h2, h3, h4, h5, _⟩ := HS.out
    have hm3 : m + 1 ≤ 3 := by
     by_cases e : m = 3
     ·subst e
      have := HU.out
      have hlt : n / 16 ^ 3 < 16 := Nat.div_lt_of_lt_mul (by omega)
      omega
     ·omega
    refine ⟨by omega, hm3, by simp [h3], ?_, by simpa using h5, hp⟩
    rw [h4, HU.out, show 4 - m = (4 - (m + 1)) + 1 by omega, numF, if_neg (by omega), HD.out, Nat.pow_succ, ← Nat.div_div_eq_div_mul, HU.out]
    simp)
   go_wp2
   exact ⟨⟨q, m + 1, hd d :: D, _, rfl, by rw [Nat.pow_succ, ← Nat.div_div_eq_div_mul, HU.out]; rfl, HS1, HG1, HB1⟩, by simp [intOf]⟩
  ·have h16I : ¬ (16 : Int) ≤ (u : Int) := by omega
   have hu16 : u < 16 := by omega
   have HG1 := Lib.hid (heap_setCell_same wr w.heap.size q C _ (.int .u8 ((DIG[u]'(Nat.lt_trans hu16 (by decide))).toNat : Int)) HG.out)
   have HB1 : Hid (Below w.heap.size w (wr.setCell ⟨w.heap.size, q, none⟩ (.int .u8 ((DIG[u]'(Nat.lt_trans hu16 (by decide))).toNat : Int)))) := Lib.hid (HB.out.setCell (Nat.le_refl _) _)
   have HEnd : Hid (numF 16 4 n = hd u :: D ∧ (hd u :: D).length = 65 - q) := Lib.hid (by
    obtain ⟨h1, h2, h3, h4, h5, _⟩ := HS.out
    refine ⟨?_, by simp [h3]; omega⟩
    rw [h4, HU.out, show 4 - m = (4 - (m + 1)) + 1 by omega, numF, if_pos hu16]; rfl)
   have HCells : Hid (∀ j (hj : j < (hd u :: D).length), (C.setIfInBounds q (.int .u8 ((DIG[u]'(Nat.lt_trans hu16 (by decide))).toNat : Int)))[q + j]? = some (.int .u8 ((hd u :: D)[j].toNat : Int))) := Lib.hid (wrS_put HS.out (congrArg (fun z : UInt8 => Value.int .u8 (z.toNat : Int)) (dig_hd u hu16)))
   have hsl := slice65 w.heap.size q hq
   have hcv : ∀ cap, (convert 81 9 (.slice (some ⟨w.heap.size, q, none⟩) (65 - q) cap)).run Tryz.prog (wr.setCell ⟨w.heap.size, q, none⟩ (.int .u8 ((DIG[u]'(Nat.lt_trans hu16 (by decide))).toNat : Int))) = .ok (.string (asB (numF 16 4 n))) (wr.setCell ⟨w.heap.size, q, none⟩ (.int .u8 ((DIG[u]'(Nat.lt_trans hu16 (by decide))).toNat : Int))) := fun cap => by
    rw [HEnd.out.1, ← HEnd.out.2]
    exact run_convert_bytes_back (P := Tryz.prog) _ 81 9 5 ⟨w.heap.size, q, none⟩ cap (hd u :: D) Tryz.underlying81 Tryz.underlying5 Tryz.underlying9 (fun j hj => by
     rw [Addr.add_lit, cell_of_row _ _ _ _ _ _ HG1.out]
     exact HCells.out j hj)
   go_wp2
   go_ret2
   exact ⟨rfl, HB1.out⟩

set_option maxRecDepth 100000 in
set_option maxHeartbeats 1000000 in
theorem format16_in (n : Nat) (w : World) (hn : n < 65536) (hT : TabAt (Tryz.lays27_ren.g 1) Lib.deBruijn64tab w) :
  Calls Tryz.prog 56 #[.int .i64 n, .int .i64 16] w fun e w' => e = .returned (.string (asB (numF 16 4 n))) ∧ Below w.heap.size w w' := by
 have HF := Lib.hid (formatBits_any n w hn hT)
 clear hT
 go_enter Tryz.func56, Tryz.ntmps56
 go_wp2_with (go_at_call 91; refine HF.out.mono ?_; rintro e w' ⟨rfl, b1⟩)
 go_ret
 exact ⟨rfl, b1⟩
set_option maxHeartbeats 1000000 in
theorem format16 (n : Nat) (w : World) (hn : n < 65536) (hT : TabAt (Tryz.lays27_ren.g 1) Lib.deBruijn64tab w) :
  Calls Tryz.prog 99 #[.int .i64 n, .int .i64 16] w fun e w' => e = .returned (.string (asB (numF 16 4 n))) ∧ Below w.heap.size w w' := by
 have HF := Lib.hid (format16_in n w hn hT)
 clear hT
 go_enter Tryz.func99, Tryz.ntmps99
 go_wp2_with (go_at_call 56; refine HF.out.mono ?_; rintro e w' ⟨rfl, b1⟩)
 go_ret
 exact ⟨rfl, b1⟩

end Go.Proofs.YtcphokaamkalfaaGreatDoor
namespace Go.Proofs.YtcphokaamkalfaaGreatDoor
open Go.RowKit

/-- Numbers below B are told by a base, whatever lies behind. -/
def Fmt (b B : Nat) (w : World) : Prop := ∀ w', Below w.heap.size w w' → ∀ n, n < B → Calls Tryz.prog 99 #[.int .i64 n, .int .i64 b] w' fun e w'' => e = .returned (.string (asB (numF b 4 n))) ∧ Below w'.heap.size w' w''
theorem fmt16 (w : World) (hT : TabAt (Tryz.lays27_ren.g 1) Lib.deBruijn64tab w) : Fmt 16 65536 w := fun w' hb n hn =>
 format16 n w' hn (fun j hj => (hb.cell (p := ⟨Tryz.lays27_ren.g 1, j, none⟩) (block_lt_of_cell (hT j hj))).trans (hT j hj))
theorem itoa_numF : ∀ n : Fin 256, Lib.itoa (n.1 : Int) = numF 10 4 n.1 := by decide +kernel
theorem fmt10 (w : World) (hT : Lib.TabIs Tryz.prog w "internal/strconv.uint64pow10" .u64 Lib.pow10Tab) : Fmt 10 256 w := fun w' hb n hn =>
 (Tryz.strconv_FormatInt_10 (n : Int) (by omega) (by omega) w' (Lib.tabBelow_of_tabIs hT w' hb)).mono fun e w'' ⟨he, k, os, hw⟩ => ⟨by
  rw [he, itoa_numF ⟨n, hn⟩]; rfl, by rw [hw]; exact Lib.below_grow _ _ (Nat.le_refl _) _ _⟩
theorem Fmt.later {b B : Nat} {w w' : World} (h : Fmt b B w) (hb : Below w.heap.size w w') : Fmt b B w' := fun w'' hb' n hn => h w'' (hb.trans (hb'.mono hb.size)) n hn

theorem numF_len (b : Nat) : ∀ f n, (numF b f n).length ≤ f
 | 0, _ => Nat.le_refl _
 | f + 1, n => by
  rw [numF]
  split
  ·simp
  ·have := numF_len b f (n / b)
   rw [List.length_append, List.length_singleton]; omega
theorem lens_le4 : ∀ xs : List (List UInt8), (∀ x ∈ xs, x.length ≤ 4) → Lib.lens xs ≤ 4 * xs.length
 | [], _ => by simp [Lib.lens]
 | x :: r, h => by
  have h1 := h x List.mem_cons_self
  have h2 := lens_le4 r (fun y hy => h y (List.mem_cons_of_mem _ hy))
  have e : Lib.lens (x :: r) = x.length + Lib.lens r := by simp [Lib.lens]
  rw [e, List.length_cons]; omega
theorem join_le (xs : List (List UInt8)) (sep : List UInt8) (h : ∀ x ∈ xs, x.length ≤ 4) (hs : sep.length ≤ 1) : (Lib.join xs sep).length ≤ 5 * xs.length := by
 cases xs with
 | nil => simp [Lib.join_nil]
 | cons x r =>
  have h1 := lens_le4 _ h
  have h2 := Nat.mul_le_mul_right r.length hs
  rw [Lib.join_length]
  rw [List.length_cons] at h1 ⊢
  omega
theorem infoTx : (Tryz.prog.info? 9).map (fun i => (i.zero, i.size, i.bytes)) = some (some (.string ⟨#[]⟩), 1, 16) := by kernel_rfl
theorem make_texts (n : Nat) (w : World) (hn : n ≤ 10000000) : (Instr.makeSlice 45 (.int .i64 (n : Int)) (.int .i64 (n : Int))).run Tryz.prog w = .ok (.slice (some ⟨w.heap.size, 0, none⟩) n n) (w.alloc (.cells (madeCells (Value.string ⟨#[]⟩).cells n) 9)) := by
 obtain ⟨i0, hi, hz0, hz1, hz2⟩ := info_parts infoTx
 have h := run_makeSlice (P := Tryz.prog) w 45 9 i0 _ Tryz.underlying45 hi hz0 .i64 .i64 (n : Int) (n : Int) (by omega) (by omega) (by rw [hz1]; simp; omega) (by rw [hz2]; omega) (by omega)
 rw [hz1] at h
 simpa using h

set_option maxRecDepth 100000 in
set_option maxHeartbeats 1000000 in
theorem joined_any (b B g o cap : Nat) (P : List Nat) (sep : ByteArray) (w : World) (hF : Fmt b B w) (hP : ∀ n ∈ P, n < B) (h8 : P.length ≤ 8) (hs : sep.size ≤ 1)
  (hc : ∀ j (hj : j < P.length), w.cell? ⟨g, o + j, none⟩ = some (.int .i64 (P[j] : Int))) :
  Calls Tryz.prog 61 #[.slice (some ⟨g, o, none⟩) P.length cap, .string sep, .int .i64 b] w fun e w' => e = .returned (.string (asB (Lib.join (P.map (numF b 4)) sep.data.toList))) ∧ Below w.heap.size w w' := by
 have HF := Lib.hid hF; have HP := Lib.hid hP; have HC := Lib.hid hc
 clear hF hP hc
 go_enter Tryz.func61, Tryz.ntmps61
 have hmk := fun w => make_texts P.length w (by omega)
 have HG0 := Lib.hid (heap_alloc_new w (.cells (madeCells (Value.string ⟨#[]⟩).cells P.length) 9))
 have HB0 : Hid (Below w.heap.size w (w.alloc (.cells (madeCells (Value.string ⟨#[]⟩).cells P.length) 9))) := Lib.hid ((Below.refl _ _).alloc (Nat.le_refl _) _)
 have HZ0 : Hid ((madeCells (Value.string ⟨#[]⟩).cells P.length).size = P.length) := Lib.hid (size_madeCells _ _)
 go_wp2
 go_loopw [8, 9, 15] (fun _ _ i wr => ∃ (k : Nat) (C : Array Value), k ≤ P.length ∧ i = .int .i64 k ∧ Hid (C.size = P.length) ∧ Hid (∀ j, j < k → C[j]? = (P[j]?).map fun n => Value.string (asB (numF b 4 n))) ∧ Hid (wr.heap[w.heap.size]? = some (.cells C 9 (0, 0))) ∧ Hid (Below w.heap.size w wr)) (fun _ _ i _ => P.length - (intOf i).toNat)
 case atStart => exact ⟨0, _, Nat.zero_le _, rfl, HZ0, Lib.hid (fun j h => absurd h (Nat.not_lt_zero _)), HG0, HB0⟩
 case round =>
  obtain ⟨k, C, hk, rfl, HCs, HCc, HG, HB⟩ := hrel
  by_cases hlt : k < P.length
  ·obtain ⟨x, HX⟩ : ∃ x, Hid (P[k] = x) := ⟨_, Lib.hid rfl⟩
   have hcell : wr.cell? ⟨g, o + k, none⟩ = some (.int .i64 (x : Int)) := by
    have := HC.out k hlt
    rw [HB.out.cell (p := ⟨g, o + k, none⟩) (block_lt_of_cell this), this, HX.out]
   have HCall := Lib.hid (HF.out wr HB.out x (by rw [← HX.out]; exact HP.out _ (List.getElem_mem _)))
   go_wp2_with fail
   refine HCall.out.mono ?_
   rintro e w2 ⟨rfl, b2⟩
   have HG2 : Hid (w2.heap[w.heap.size]? = some (.cells C 9 (0, 0))) := Lib.hid ((b2.block _ (lt_of_block HG.out)).trans HG.out)
   obtain ⟨v0, hv0⟩ : ∃ v, C[k]? = some v := ⟨_, Array.getElem?_eq_getElem (by rw [HCs.out]; exact hlt)⟩
   have hcl : w2.cell? ⟨w.heap.size, k, none⟩ = some v0 := (cell_of_row w2 _ _ C _ _ HG2.out).trans hv0
   have hfr := frozen_of_row w2 w.heap.size k C _ HG2.out
   have HG3 := Lib.hid (heap_setCell_same w2 w.heap.size k C _ (.string (asB (numF b 4 x))) HG2.out)
   have HB3 : Hid (Below w.heap.size w (w2.setCell ⟨w.heap.size, k, none⟩ (.string (asB (numF b 4 x))))) := Lib.hid ((HB.out.trans (b2.mono HB.out.size)).setCell (Nat.le_refl _) _)
   have HC3 : Hid (∀ j, j < k + 1 → (C.setIfInBounds k (.string (asB (numF b 4 x))))[j]? = (P[j]?).map fun n => Value.string (asB (numF b 4 n))) := Lib.hid (fun j hj => by
    rw [Array.getElem?_setIfInBounds]
    by_cases e : k = j
    ·subst e
     rw [if_pos rfl, if_pos (by rw [HCs.out]; exact hlt), List.getElem?_eq_getElem hlt, HX.out]; rfl
    ·rw [if_neg e]; exact HCc.out j (by omega))
   clear b2 hv0
   go_wp2
   exact ⟨⟨k + 1, _, by omega, by go_num, Lib.hid (by simpa using HCs.out), HC3, HG3, HB3⟩, by simp [intOf]; omega⟩
  ·obtain rfl : k = P.length := by omega
   have HJ := Lib.hid (Tryz.strings_Join w.heap.size 0 P.length (P.map fun n => asB (numF b 4 n)) sep wr (fun j x hx => by
    rw [Nat.zero_add, cell_of_row wr _ _ C _ _ HG.out]
    rw [List.getElem?_map] at hx
    cases hp : P[j]? with
    | none => rw [hp] at hx; cases hx
    | some n =>
     rw [hp] at hx
     have hj : j < P.length := (List.getElem?_eq_some_iff.1 hp).1
     rw [HCc.out j hj, hp]
     exact congrArg some (congrArg Value.string (Option.some.inj hx))) (lt_of_block HG.out) (by rw [List.length_map]; omega) (by rw [List.length_map]; omega) (by
    have h1 : ∀ x ∈ (P.map fun n => asB (numF b 4 n)).map (·.data.toList), x.length ≤ 4 := by
     intro x hx
     rw [List.map_map] at hx
     obtain ⟨n, _, rfl⟩ := List.mem_map.1 hx
     exact numF_len b 4 n
    have h2 := join_le _ sep.data.toList h1 (by rw [lenB]; exact hs)
    rw [List.length_map, List.length_map] at h2
    omega))
   rw [List.length_map, List.map_map] at HJ
   go_wp2_with fail
   refine HJ.out.mono ?_
   rintro e w2 ⟨rfl, b2⟩
   have HB2 := Lib.hid (HB.out.trans (b2.mono HB.out.size))
   clear b2
   go_wp2
   go_ret
   exact ⟨rfl, HB2.out⟩

end Go.Proofs.YtcphokaamkalfaaGreatDoor
namespace Go.Proofs.YtcphokaamkalfaaGreatDoor
open Go.RowKit

theorem make_ints (n : Nat) (w : World) (hn : n ≤ 10000000) : (Instr.makeSlice 79 (.int .i64 (n : Int)) (.int .i64 (n : Int))).run Tryz.prog w = .ok (.slice (some ⟨w.heap.size, 0, none⟩) n n) (w.alloc (.cells (madeCells (Value.int .i64 0).cells n) 3)) := by
 obtain ⟨i0, hi, hz0, hz1, hz2⟩ := info_parts k_infoI
 have h := run_makeSlice (P := Tryz.prog) w 79 3 i0 _ Tryz.underlying79 hi hz0 .i64 .i64 (n : Int) (n : Int) (by omega) (by omega) (by rw [hz1]; simp; omega) (by rw [hz2]; omega) (by omega)
 rw [hz1] at h
 simpa using h

theorem made_at (n j : Nat) (h : j < n) : (madeCells (Value.int .i64 0).cells n)[j]? = some (.int .i64 0) := by
 simp [madeCells, Value.cells]
 exact ⟨j, by rw [Array.getElem?_eq_getElem (by simpa using h)]; simp, by rw [Nat.mod_one]; rfl⟩

set_option maxRecDepth 100000 in
set_option maxHeartbeats 1000000 in
theorem numbers4 (g cap : Nat) (l : List Nat) (w : World) (hl : l.length = 4) (hb : ∀ x ∈ l, x < 256) (hc : ∀ j (hj : j < l.length), w.cell? ⟨g, 1 + j, none⟩ = some (.int .u8 (l[j] : Int))) :
  Calls Tryz.prog 62 #[.slice (some ⟨g, 1, none⟩) 4 cap, .int .i64 1] w fun e w' => e = .returned (.slice (some ⟨w.heap.size, 0, none⟩) 4 4) ∧ (∀ j (hj : j < l.length), w'.cell? ⟨w.heap.size, j, none⟩ = some (.int .i64 (l[j] : Int))) ∧ Below w.heap.size w w' := by
 have HC := Lib.hid hc; have HBd := Lib.hid hb
 clear hc hb
 obtain ⟨Z, HZ⟩ : ∃ Z, Hid (madeCells (Value.int .i64 0).cells 4 = Z) := ⟨_, Lib.hid rfl⟩
 have HZs : Hid (Z.size = 4) := Lib.hid (by rw [← HZ.out, size_madeCells])
 have HZa : Hid (∀ j, j < 4 → Z[j]? = some (.int .i64 0)) := Lib.hid (fun j hj => by rw [← HZ.out]; exact made_at 4 j hj)
 have hmk : ∀ w, (Instr.makeSlice 79 (.int .i64 4) (.int .i64 4)).run Tryz.prog w = .ok (.slice (some ⟨w.heap.size, 0, none⟩) 4 4) (w.alloc (.cells Z 3)) := fun w => by
  rw [← HZ.out]; exact make_ints 4 w (by omega)
 have HG0 := Lib.hid (heap_alloc_new w (.cells Z 3))
 have HB0 : Hid (Below w.heap.size w (w.alloc (.cells Z 3))) := Lib.hid ((Below.refl _ _).alloc (Nat.le_refl _) _)
 go_enter Tryz.func62, Tryz.ntmps62
 go_wp2
 go_loopw [6, 7, 15] (fun _ _ i wr => ∃ (k : Nat) (C : Array Value), k ≤ 4 ∧ i = .int .i64 k ∧ Hid (C.size = 4) ∧ Hid (∀ j, j < k → C[j]? = (l[j]?).map k_iv) ∧ Hid (∀ j, k ≤ j → j < 4 → C[j]? = some (.int .i64 0)) ∧ Hid (wr.heap[w.heap.size]? = some (.cells C 3 (0, 0))) ∧ Hid (Below w.heap.size w wr)) (fun _ _ i _ => 4 - (intOf i).toNat)
 case atStart => exact ⟨0, Z, Nat.zero_le _, rfl, HZs, Lib.hid (fun j h => absurd h (Nat.not_lt_zero _)), Lib.hid (fun j _ h => HZa.out j h), HG0, HB0⟩
 case round =>
  obtain ⟨k, C, hk, rfl, HCs, HCa, HCz, HG, HB⟩ := hrel
  by_cases hlt : k < 4
  ·have hkl : k < l.length := by omega
   obtain ⟨x, HX⟩ : ∃ x, Hid (l[k] = x) := ⟨_, Lib.hid rfl⟩
   have hx : x < 256 := by rw [← HX.out]; exact HBd.out _ (List.getElem_mem _)
   have hcell : wr.cell? ⟨g, 1 + k, none⟩ = some (.int .u8 (x : Int)) := by
    have := HC.out k hkl
    rw [HB.out.cell (p := ⟨g, 1 + k, none⟩) (block_lt_of_cell this), this, HX.out]
   have hcl : wr.cell? ⟨w.heap.size, k, none⟩ = some (.int .i64 0) := (cell_of_row wr _ _ C _ _ HG.out).trans (HCz.out k (Nat.le_refl _) hlt)
   have hfr := frozen_of_row wr w.heap.size k C _ HG.out
   have hor : bits .or .i64 0 (x : Int) = (x : Int) := by
    have := or_byte 0 x (by omega) hx
    simpa using this
   have HG1 := Lib.hid (heap_setCell_same wr w.heap.size k C _ (.int .i64 (x : Int)) HG.out)
   have HB1 : Hid (Below w.heap.size w (wr.setCell ⟨w.heap.size, k, none⟩ (.int .i64 (x : Int)))) := Lib.hid (HB.out.setCell (Nat.le_refl _) _)
   have HC1 : Hid (∀ j, j < k + 1 → (C.setIfInBounds k (.int .i64 (x : Int)))[j]? = (l[j]?).map k_iv) := Lib.hid (fun j hj => by
    rw [Array.getElem?_setIfInBounds]
    by_cases e : k = j
    ·subst e
     rw [if_pos rfl, if_pos (by rw [HCs.out]; exact hlt), List.getElem?_eq_getElem hkl, HX.out]; rfl
    ·rw [if_neg e]; exact HCa.out j (by omega))
   have HC2 : Hid (∀ j, k + 1 ≤ j → j < 4 → (C.setIfInBounds k (.int .i64 (x : Int)))[j]? = some (.int .i64 0)) := Lib.hid (fun j hj h4 => by
    rw [Array.getElem?_setIfInBounds, if_neg (by omega)]; exact HCz.out j (by omega) h4)
   go_wp2
   go_region
   all_goals
    go_wp2
    exact ⟨⟨k + 1, _, by omega, by go_num, Lib.hid (by simpa using HCs.out), HC1, HC2, Lib.hid HG1.out, Lib.hid HB1.out.drew⟩, by simp [intOf]; omega⟩
  ·obtain rfl : k = 4 := by omega
   go_wp2
   go_ret
   refine ⟨rfl, fun j hj => ?_, HB.out⟩
   rw [cell_of_row wr _ _ C _ _ HG.out, HCa.out j (by omega), List.getElem?_eq_getElem hj]; rfl
/-- Sixteen bytes by two, while k of them are read. -/
def by2 (l : List Nat) (k j : Nat) : Nat := if 2 * j + 1 < k then 256 * l.getD (2 * j) 0 + l.getD (2 * j + 1) 0 else if 2 * j < k then l.getD (2 * j) 0 else 0

set_option maxRecDepth 100000 in
set_option maxHeartbeats 1000000 in
theorem numbers16 (g cap : Nat) (l : List Nat) (w : World) (hl : l.length = 16) (hb : ∀ x ∈ l, x < 256) (hc : ∀ j (hj : j < l.length), w.cell? ⟨g, 1 + j, none⟩ = some (.int .u8 (l[j] : Int))) :
  Calls Tryz.prog 62 #[.slice (some ⟨g, 1, none⟩) 16 cap, .int .i64 2] w fun e w' => e = .returned (.slice (some ⟨w.heap.size, 0, none⟩) 8 8) ∧ (∀ j, j < 8 → w'.cell? ⟨w.heap.size, j, none⟩ = some (k_iv (by2 l 16 j))) ∧ Below w.heap.size w w' := by
 have HC := Lib.hid hc; have HBd := Lib.hid hb
 clear hc hb
 obtain ⟨Z, HZ⟩ : ∃ Z, Hid (madeCells (Value.int .i64 0).cells 8 = Z) := ⟨_, Lib.hid rfl⟩
 have HZs : Hid (Z.size = 8) := Lib.hid (by rw [← HZ.out, size_madeCells])
 have HZa : Hid (∀ j, j < 8 → Z[j]? = some (.int .i64 0)) := Lib.hid (fun j hj => by rw [← HZ.out]; exact made_at 8 j hj)
 have hmk : ∀ w, (Instr.makeSlice 79 (.int .i64 8) (.int .i64 8)).run Tryz.prog w = .ok (.slice (some ⟨w.heap.size, 0, none⟩) 8 8) (w.alloc (.cells Z 3)) := fun w => by
  rw [← HZ.out]; exact make_ints 8 w (by omega)
 have HG0 := Lib.hid (heap_alloc_new w (.cells Z 3))
 have HB0 : Hid (Below w.heap.size w (w.alloc (.cells Z 3))) := Lib.hid ((Below.refl _ _).alloc (Nat.le_refl _) _)
 go_enter Tryz.func62, Tryz.ntmps62
 go_wp2
 go_loopw [6, 7, 15] (fun _ _ i wr => ∃ (k : Nat) (C : Array Value), k ≤ 16 ∧ i = .int .i64 k ∧ Hid (C.size = 8) ∧ Hid (∀ j, j < 8 → C[j]? = some (k_iv (by2 l k j))) ∧ Hid (wr.heap[w.heap.size]? = some (.cells C 3 (0, 0))) ∧ Hid (Below w.heap.size w wr)) (fun _ _ i _ => 16 - (intOf i).toNat)
 case atStart => exact ⟨0, Z, Nat.zero_le _, rfl, HZs, Lib.hid (fun j h => by rw [HZa.out j h, by2, if_neg (by omega), if_neg (by omega)]; rfl), HG0, HB0⟩
 case round =>
  obtain ⟨k, C, hk, rfl, HCs, HCa, HG, HB⟩ := hrel
  by_cases hlt : k < 16
  ·have hkl : k < l.length := by omega
   obtain ⟨x, HX⟩ : ∃ x, Hid (l[k] = x) := ⟨_, Lib.hid rfl⟩
   have hx : x < 256 := by rw [← HX.out]; exact HBd.out _ (List.getElem_mem _)
   have HXd : Hid (l.getD k 0 = x) := Lib.hid (by rw [List.getD_eq_getElem?_getD, List.getElem?_eq_getElem hkl, HX.out]; rfl)
   have hcell : wr.cell? ⟨g, 1 + k, none⟩ = some (.int .u8 (x : Int)) := by
    have := HC.out k hkl
    rw [HB.out.cell (p := ⟨g, 1 + k, none⟩) (block_lt_of_cell this), this, HX.out]
   obtain ⟨j, hj⟩ : ∃ j, k = 2 * j ∨ k = 2 * j + 1 := ⟨k / 2, by omega⟩
   have hj8 : j < 8 := by omega
   have hq : (k : Int) / 2 = (j : Int) := by omega
   obtain ⟨y, HY⟩ : ∃ y, Hid (by2 l k j = y) := ⟨_, Lib.hid rfl⟩
   have hy : y < 256 := by
    rw [← HY.out, by2, if_neg (by omega)]
    split
    ·rw [List.getD_eq_getElem?_getD, List.getElem?_eq_getElem (by omega)]
     exact HBd.out _ (List.getElem_mem _)
    ·omega
   have HJ := Lib.hid hj
   have hcl : wr.cell? ⟨w.heap.size, j, none⟩ = some (.int .i64 (y : Int)) := (cell_of_row wr _ _ C _ _ HG.out).trans (by rw [HCa.out j hj8, HY.out]; rfl)
   have hfr := frozen_of_row wr w.heap.size j C _ HG.out
   obtain ⟨z, HZz⟩ : ∃ z, Hid (256 * y + x = z) := ⟨_, Lib.hid rfl⟩
   have hor : bits .or .i64 ((y : Int) * 256) (x : Int) = (z : Int) := by rw [or_byte y x (by omega) hx, HZz.out]
   have HG1 := Lib.hid (heap_setCell_same wr w.heap.size j C _ (.int .i64 (z : Int)) HG.out)
   have HB1 : Hid (Below w.heap.size w (wr.setCell ⟨w.heap.size, j, none⟩ (.int .i64 (z : Int)))) := Lib.hid (HB.out.setCell (Nat.le_refl _) _)
   have HC1 : Hid (∀ i, i < 8 → (C.setIfInBounds j (.int .i64 (z : Int)))[i]? = some (k_iv (by2 l (k + 1) i))) := Lib.hid (fun i hi => by
    rw [Array.getElem?_setIfInBounds]
    by_cases e : j = i
    ·subst e
     rw [if_pos rfl, if_pos (by rw [HCs.out]; exact hi)]
     have : by2 l (k + 1) j = z := by
      rw [← HZz.out, ← HY.out, ← HXd.out]
      rcases HJ.out with rfl | rfl
      ·unfold by2
       rw [if_neg (by omega), if_pos (by omega), if_neg (by omega), if_neg (by omega), Nat.mul_zero, Nat.zero_add]
      ·simp [by2]
     rw [this]; rfl
    ·rw [if_neg e, HCa.out i hi]
     have : by2 l (k + 1) i = by2 l k i := by
      unfold by2
      rcases HJ.out with rfl | rfl
      ·by_cases h : i < j
       ·rw [if_pos (by omega), if_pos (by omega)]
       ·rw [if_neg (by omega), if_neg (by omega), if_neg (by omega), if_neg (by omega)]
      ·by_cases h : i < j
       ·rw [if_pos (by omega), if_pos (by omega)]
       ·rw [if_neg (by omega), if_neg (by omega), if_neg (by omega), if_neg (by omega)]
     rw [this])
   clear hj
   go_wp2
   go_region
   all_goals
    go_wp2
    exact ⟨⟨k + 1, _, by omega, by go_num, Lib.hid (by simpa using HCs.out), HC1, Lib.hid HG1.out, Lib.hid HB1.out.drew⟩, by simp [intOf]; omega⟩
  ·obtain rfl : k = 16 := by omega
   go_wp2
   go_ret
   refine ⟨rfl, fun j hj => ?_, HB.out⟩
   rw [cell_of_row wr _ _ C _ _ HG.out, HCa.out j hj]
end Go.Proofs.YtcphokaamkalfaaGreatDoor
namespace Go.Proofs.YtcphokaamkalfaaGreatDoor
open Go.RowKit

/-- The longest run of noughts, while k pieces are looked at: where the last run begins, from, to. -/
def lrS (P : List Nat) : Nat → Nat × Nat × Nat
 | 0 => (0, 0, 0)
 | k + 1 => if P.getD k 0 ≠ 0 then (k + 1, (lrS P k).2) else if (lrS P k).2.2 - (lrS P k).2.1 < k + 1 - (lrS P k).1 then ((lrS P k).1, (lrS P k).1, k + 1) else lrS P k
theorem lrS_ok (P : List Nat) : ∀ k, (lrS P k).1 ≤ k ∧ (lrS P k).2.1 ≤ (lrS P k).2.2 ∧ (lrS P k).2.2 ≤ k
 | 0 => ⟨Nat.le_refl _, Nat.le_refl _, Nat.le_refl _⟩
 | k + 1 => by
  obtain ⟨h1, h2, h3⟩ := lrS_ok P k
  rw [lrS]
  split
  ·exact ⟨Nat.le_refl _, h2, Nat.le_succ_of_le h3⟩
  ·split
   ·exact ⟨by simp only; omega, by simp only; omega, by simp only; omega⟩
   ·exact ⟨by omega, h2, by omega⟩

set_option maxRecDepth 100000 in
set_option maxHeartbeats 1000000 in
theorem longest_any (g cap : Nat) (P : List Nat) (w : World) (h8 : P.length = 8) (hc : ∀ j (hj : j < P.length), w.cell? ⟨g, j, none⟩ = some (.int .i64 (P[j] : Int))) :
  Calls Tryz.prog 63 #[.slice (some ⟨g, 0, none⟩) 8 cap] w fun e w' => e = .returned (.tuple #[.int .i64 ((lrS P 8).2.1 : Int), .int .i64 ((lrS P 8).2.2 : Int)]) ∧ w = w' := by
 have HC := Lib.hid hc
 clear hc
 go_enter Tryz.func63, Tryz.ntmps63
 go_wp2
 go_loop [2, 3, 4, 5, 6, 9] (fun f t b _ _ i => ∃ (k b' f' t' : Nat), k ≤ 8 ∧ i = .int .i64 k ∧ b = .int .i64 b' ∧ f = .int .i64 f' ∧ t = .int .i64 t' ∧ Hid (lrS P k = (b', f', t'))) (fun _ _ _ _ _ i => 8 - (intOf i).toNat)
 case atStart => exact ⟨0, 0, 0, 0, Nat.zero_le _, rfl, rfl, rfl, rfl, Lib.hid rfl⟩
 case round =>
  obtain ⟨k, b, f, t, hk, rfl, rfl, rfl, rfl, HS⟩ := hrel
  have hok := lrS_ok P k
  rw [HS.out] at hok
  obtain ⟨hb, hft, htk⟩ := hok
  simp only at hb hft htk
  by_cases hlt : k < 8
  ·have hkl : k < P.length := by omega
   obtain ⟨x, HX⟩ : ∃ x, Hid (P[k] = x) := ⟨_, Lib.hid rfl⟩
   have HXd : Hid (P.getD k 0 = x) := Lib.hid (by rw [List.getD_eq_getElem?_getD, List.getElem?_eq_getElem hkl, HX.out]; rfl)
   have hcell : w.cell? ⟨g, k, none⟩ = some (.int .i64 (x : Int)) := by rw [HC.out k hkl, HX.out]
   by_cases hx : x = 0
   ·have hxI : ((x : Int) != 0) = false := by simp [hx]
    by_cases hl : t - f < k + 1 - b
    ·have hlI : (t : Int) - (f : Int) < (k : Int) + 1 - (b : Int) := by omega
     have HS1 : Hid (lrS P (k + 1) = (b, b, k + 1)) := Lib.hid (by rw [lrS, HXd.out, if_neg (by simp [hx]), HS.out, if_pos hl])
     clear hx hl
     go_wp2
     exact ⟨⟨k + 1, b, b, k + 1, by omega, by go_num, rfl, rfl, by go_num, HS1⟩, by simp [intOf]; omega⟩
    ·have hlI : ¬ (t : Int) - (f : Int) < (k : Int) + 1 - (b : Int) := by omega
     have HS1 : Hid (lrS P (k + 1) = (b, f, t)) := Lib.hid (by rw [lrS, HXd.out, if_neg (by simp [hx]), HS.out, if_neg hl])
     clear hx hl
     go_wp2
     exact ⟨⟨k + 1, b, f, t, by omega, by go_num, rfl, rfl, rfl, HS1⟩, by simp [intOf]; omega⟩
   ·have hxI : ((x : Int) != 0) = true := by simp; omega
    have HS1 : Hid (lrS P (k + 1) = (k + 1, f, t)) := Lib.hid (by rw [lrS, HXd.out, if_pos (by simpa using hx), HS.out])
    clear hx
    go_wp2
    exact ⟨⟨k + 1, k + 1, f, t, by omega, by go_num, by go_num, rfl, rfl, HS1⟩, by simp [intOf]; omega⟩
  ·obtain rfl : k = 8 := by omega
   go_wp2
   go_ret2
   exact ⟨by rw [HS.out]; rfl, rfl⟩
end Go.Proofs.YtcphokaamkalfaaGreatDoor
namespace Go.Proofs.YtcphokaamkalfaaGreatDoor
open Go.RowKit

/-- The pieces of sixteen bytes. -/
def pcs (l : List Nat) : List Nat := (List.range 8).map (by2 l 16)
/-- The text of an address: the four bytes', the sixteen's. -/
def four1T (l : List Nat) : List UInt8 := Lib.join ((l.take 4).map (numF 10 4)) [46]
def sixT (l : List Nat) : List UInt8 :=
 if (lrS (pcs l) 8).2.2 - (lrS (pcs l) 8).2.1 < 2 then Lib.join ((pcs l).map (numF 16 4)) [58]
 else Lib.join (((pcs l).take (lrS (pcs l) 8).2.1).map (numF 16 4)) [58] ++ [58, 58] ++ Lib.join (((pcs l).drop (lrS (pcs l) 8).2.2).map (numF 16 4)) [58]

set_option maxRecDepth 100000 in
set_option maxHeartbeats 1000000 in
theorem Text4_any (l : List Nat) (w : World) (hl : l.length = 16) (hb : ∀ x ∈ l, x < 256) (hF : Fmt 10 256 w) :
  Calls Tryz.prog 36 #[.agg (cellsA false l)] w fun e w' => e = .returned (.string (asB (four1T l))) ∧ Below w.heap.size w w' := by
 obtain ⟨C, HC⟩ : ∃ C, Hid (cellsA false l = C) := ⟨_, Lib.hid rfl⟩
 rw [HC.out]
 have hC0 : C[0]? = some (.bool false) := by rw [← HC.out]; rfl
 have hW0 : (w.alloc (.cells C 54)).cell? ⟨w.heap.size, 0, none⟩ = some (.bool false) := (cell_of_row _ _ _ C _ _ (heap_alloc_new w _)).trans hC0
 have HB0 : Hid (Below w.heap.size w (w.alloc (.cells C 54))) := Lib.hid ((Below.refl _ _).alloc (Nat.le_refl _) _)
 have HNum := Lib.hid (numbers4 w.heap.size 16 (l.take 4) (w.alloc (.cells C 54)) (by rw [List.length_take]; omega) (fun x hx => hb x (List.mem_of_mem_take hx)) (fun j hj => by
  rw [cell_of_row _ _ _ C _ _ (heap_alloc_new w _), ← HC.out, Nat.add_comm 1 j, cellsA_at]
  rw [List.getElem_take, List.getElem?_eq_getElem (by rw [List.length_take] at hj; omega)]; rfl))
 have HF := Lib.hid hF
 clear hF
 go_enter Tryz.func36, Tryz.ntmps36
 go_wp2_with fail
 refine HNum.out.mono ?_
 rintro e w2 ⟨rfl, c2, b2⟩
 have HB2 : Hid (Below w.heap.size w w2) := Lib.hid (HB0.out.trans (b2.mono (by simp)))
 have hl4 : (l.take 4).length = 4 := by rw [List.length_take]; omega
 have HJ : Hid (Calls Tryz.prog 61 #[.slice (some ⟨w.heap.size + 1, 0, none⟩) 4 4, .string ⟨#[46]⟩, .int .i64 10] w2 fun e w' => e = .returned (.string (asB (four1T l))) ∧ Below w2.heap.size w2 w') := Lib.hid (by
  have h := joined_any 10 256 (w.heap.size + 1) 0 4 (l.take 4) ⟨#[46]⟩ w2 (HF.out.later HB2.out) (fun x hx => hb x (List.mem_of_mem_take hx)) (by omega) (by decide) (fun j hj => by rw [Nat.zero_add]; have := c2 j hj; rwa [World.size_alloc] at this)
  rw [hl4] at h
  exact h)
 clear b2 c2
 simp only [World.size_alloc]
 go_wp2_with fail
 refine HJ.out.mono ?_
 rintro e w3 ⟨rfl, b3⟩
 have HB3 := Lib.hid (HB2.out.trans (b3.mono HB2.out.size))
 clear b3
 go_wp2
 go_ret
 exact ⟨rfl, HB3.out⟩

end Go.Proofs.YtcphokaamkalfaaGreatDoor
namespace Go.Proofs.YtcphokaamkalfaaGreatDoor
open Go.RowKit

theorem pcs_len (l : List Nat) : (pcs l).length = 8 := by simp [pcs]
theorem pcs_at (l : List Nat) (j : Nat) (h : j < (pcs l).length) : (pcs l)[j] = by2 l 16 j := by simp [pcs]
theorem by2_lt {l : List Nat} (hb : ∀ x ∈ l, x < 256) (k j : Nat) : by2 l k j < 65536 := by
 have hg : ∀ i, l.getD i 0 < 256 := fun i => by
  rw [List.getD_eq_getElem?_getD]
  cases h : l[i]? with
  | none => decide
  | some x => exact hb x (List.mem_of_getElem? h)
 have h1 := hg (2 * j)
 have h2 := hg (2 * j + 1)
 unfold by2
 split
 ·omega
 ·split <;> omega
theorem asB_cat (a b : List UInt8) : asB a ++ asB b = asB (a ++ b) := by
 apply ByteArray.ext; simp [asB]

theorem keepB {w w' w'' : World} (h : Below w.heap.size w w') (k : Below w'.heap.size w' w'') : Below w.heap.size w w'' := h.trans (k.mono h.size)

set_option maxRecDepth 100000 in
set_option maxHeartbeats 1000000 in
theorem Text6_any (l : List Nat) (w : World) (hl : l.length = 16) (hb : ∀ x ∈ l, x < 256) (hF : Fmt 16 65536 w) :
  Calls Tryz.prog 36 #[.agg (cellsA true l)] w fun e w' => e = .returned (.string (asB (sixT l))) ∧ Below w.heap.size w w' := by
 obtain ⟨C, HC⟩ : ∃ C, Hid (cellsA true l = C) := ⟨_, Lib.hid rfl⟩
 rw [HC.out]
 have hC0 : C[0]? = some (.bool true) := by rw [← HC.out]; rfl
 have hW0 : (w.alloc (.cells C 54)).cell? ⟨w.heap.size, 0, none⟩ = some (.bool true) := (cell_of_row _ _ _ C _ _ (heap_alloc_new w _)).trans hC0
 have HB0 : Hid (Below w.heap.size w (w.alloc (.cells C 54))) := Lib.hid ((Below.refl _ _).alloc (Nat.le_refl _) _)
 have HNum := Lib.hid (numbers16 w.heap.size 16 l (w.alloc (.cells C 54)) hl hb (fun j hj => by
  rw [cell_of_row _ _ _ C _ _ (heap_alloc_new w _), ← HC.out, Nat.add_comm 1 j, cellsA_at]
  rw [List.getElem?_eq_getElem hj]; rfl))
 have HPb : Hid (∀ x ∈ pcs l, x < 65536) := Lib.hid (fun x hx => by
  obtain ⟨j, hj, rfl⟩ := List.mem_iff_getElem.1 hx
  rw [pcs_at]; exact by2_lt hb 16 j)
 have HF := Lib.hid hF
 obtain ⟨P, HP⟩ : ∃ P, Hid (pcs l = P) := ⟨_, Lib.hid rfl⟩
 have hP8 : P.length = 8 := by rw [← HP.out, pcs_len]
 rw [HP.out] at HPb
 obtain ⟨b0, F, T, hlr⟩ : ∃ b F T, lrS P 8 = (b, F, T) := ⟨_, _, _, rfl⟩
 have hok := lrS_ok P 8
 rw [hlr] at hok
 obtain ⟨_, hFT, hT8⟩ := hok
 simp only at hFT hT8
 have HLr := Lib.hid hlr
 obtain ⟨R, HR⟩ : ∃ R, Hid (sixT l = R) := ⟨_, Lib.hid rfl⟩
 have HRe : Hid (R = if T - F < 2 then Lib.join (P.map (numF 16 4)) [58] else Lib.join ((P.take F).map (numF 16 4)) [58] ++ [58, 58] ++ Lib.join ((P.drop T).map (numF 16 4)) [58]) := Lib.hid (by
  rw [← HR.out, sixT, HP.out, hlr])
 rw [HR.out]
 clear hF hlr
 go_enter Tryz.func36, Tryz.ntmps36
 go_wp2_with fail
 refine HNum.out.mono ?_
 rintro e w2 ⟨rfl, c2, b2⟩
 have HB2 : Hid (Below w.heap.size w w2) := Lib.hid (HB0.out.trans (b2.mono (by simp)))
 have HC2 : Hid (∀ j, (hj : j < P.length) → w2.cell? ⟨w.heap.size + 1, j, none⟩ = some (.int .i64 (P[j] : Int))) := Lib.hid (fun j hj => by
  have := c2 j (by omega)
  rw [World.size_alloc] at this
  rw [this]
  have e : (pcs l)[j]? = P[j]? := by rw [HP.out]
  rw [List.getElem?_eq_getElem hj, List.getElem?_eq_getElem (by rw [pcs_len]; omega)] at e
  rw [← Option.some.inj e, pcs_at]; rfl)
 have HLong := Lib.hid (longest_any (w.heap.size + 1) 8 P w2 hP8 HC2.out)
 rw [HLr.out] at HLong
 clear b2 c2
 simp only [World.size_alloc]
 go_wp2_with fail
 refine HLong.out.mono ?_
 rintro e w3 ⟨rfl, rfl⟩
 by_cases h2 : T - F < 2
 ·have h2I : (T : Int) - (F : Int) < 2 := by omega
  have HJ : Hid (Calls Tryz.prog 61 #[.slice (some ⟨w.heap.size + 1, 0, none⟩) 8 8, .string ⟨#[58]⟩, .int .i64 16] w2 fun e w' => e = .returned (.string (asB R)) ∧ Below w2.heap.size w2 w') := Lib.hid (by
   have h := joined_any 16 65536 (w.heap.size + 1) 0 8 P ⟨#[58]⟩ w2 (HF.out.later HB2.out) HPb.out (by omega) (by decide) (fun j hj => by rw [Nat.zero_add]; exact HC2.out j hj)
   rw [hP8] at h
   rw [HRe.out, if_pos h2]
   exact h)
  clear h2
  go_wp2_with fail
  refine HJ.out.mono ?_
  rintro e w3 ⟨rfl, b3⟩
  have HB3 := Lib.hid (HB2.out.trans (b3.mono HB2.out.size))
  clear b3
  go_wp2
  go_ret
  exact ⟨rfl, HB3.out⟩
 ·have h2I : ¬ (T : Int) - (F : Int) < 2 := by omega
  obtain ⟨S1, HS1⟩ : ∃ S, Hid (asB (Lib.join ((P.take F).map (numF 16 4)) [58]) = S) := ⟨_, Lib.hid rfl⟩
  obtain ⟨S2, HS2⟩ : ∃ S, Hid (asB (Lib.join ((P.drop T).map (numF 16 4)) [58]) = S) := ⟨_, Lib.hid rfl⟩
  have HRs : Hid (asB R = S1 ++ ⟨#[58, 58]⟩ ++ S2) := Lib.hid (by
   rw [HRe.out, if_neg h2, ← HS1.out, ← HS2.out]
   show _ = asB _ ++ asB [58, 58] ++ asB _
   rw [asB_cat, asB_cat])
  have hF8 : F ≤ 8 := by omega
  have HJ1 : Hid (∀ w', Below w2.heap.size w2 w' → Calls Tryz.prog 61 #[.slice (some ⟨w.heap.size + 1, 0, none⟩) F 8, .string ⟨#[58]⟩, .int .i64 16] w' fun e w'' => e = .returned (.string S1) ∧ Below w'.heap.size w' w'') := Lib.hid (fun w' hb' => by
   have hlF : (P.take F).length = F := by rw [List.length_take]; omega
   have h := joined_any 16 65536 (w.heap.size + 1) 0 8 (P.take F) ⟨#[58]⟩ w' ((HF.out.later HB2.out).later hb') (fun x hx => HPb.out x (List.mem_of_mem_take hx)) (by omega) (by decide) (fun j hj => by
    have h3 := HC2.out j (by omega)
    rw [Nat.zero_add, hb'.cell (p := ⟨w.heap.size + 1, j, none⟩) (block_lt_of_cell h3), h3, List.getElem_take])
   rw [hlF] at h
   rw [← HS1.out]; exact h)
  have HJ2 : Hid (∀ w', Below w2.heap.size w2 w' → ∀ cap o, (T < 8 → o = T) → Calls Tryz.prog 61 #[.slice (some ⟨w.heap.size + 1, o, none⟩) (8 - T) cap, .string ⟨#[58]⟩, .int .i64 16] w' fun e w'' => e = .returned (.string S2) ∧ Below w'.heap.size w' w'') := Lib.hid (fun w' hb' cap o ho => by
   have hlT : (P.drop T).length = 8 - T := by rw [List.length_drop]; omega
   have h := joined_any 16 65536 (w.heap.size + 1) o cap (P.drop T) ⟨#[58]⟩ w' ((HF.out.later HB2.out).later hb') (fun x hx => HPb.out x (List.mem_of_mem_drop hx)) (by omega) (by decide) (fun j hj => by
    have h3 := HC2.out (T + j) (by omega)
    rw [ho (by omega), hb'.cell (p := ⟨w.heap.size + 1, T + j, none⟩) (block_lt_of_cell h3), h3, List.getElem_drop])
   rw [hlT] at h
   rw [← HS2.out]; exact h)
  clear h2
  have h4 : ∀ Q : List Nat, ∀ x ∈ Q.map (numF 16 4), x.length ≤ 4 := fun Q x hx => by
   obtain ⟨n, _, rfl⟩ := List.mem_map.1 hx
   exact numF_len 16 4 n
  have hS1 : S1.size ≤ 40 := by
   rw [← HS1.out, asB_size]
   have := join_le _ [58] (h4 (P.take F)) (by decide)
   rw [List.length_map, List.length_take] at this; omega
  have hS2 : S2.size ≤ 40 := by
   rw [← HS2.out, asB_size]
   have := join_le _ [58] (h4 (P.drop T)) (by decide)
   rw [List.length_map, List.length_drop] at this; omega
  have hF0I : (0 : Int) ≤ (F : Int) := by omega
  have hF8I : (F : Int) ≤ 8 := by omega
  have hT0I : (0 : Int) ≤ (T : Int) := by omega
  have hT8I : (T : Int) ≤ 8 := by omega
  clear h4
  have hz1 : ¬ 9223372036854775807 < S1.size + 2 := by omega
  have hz2 : ¬ 9223372036854775807 < S1.size + 2 + S2.size := by omega
  clear hS1 hS2
  have hbb : Below w2.heap.size w2 w2.drew := (Below.refl w2.heap.size w2).drew
  by_cases hT : T < 8
  ·have hne : ¬ (8 = T) := by omega
   go_wp2_with fail
   go_region_held3 (fun w' => Below w2.heap.size w2 w') (first | assumption | exact keepB (by assumption) (by assumption) | go_keep)
    (first | (go_at_call 61; (with_reducible refine (HJ1.out _ ?_).mono ?_); (first | assumption | fail); rintro e w' ⟨rfl, bT⟩) | (go_at_call 61; (with_reducible refine (HJ2.out _ ?_ _ _ ?_).mono ?_); assumption; (exact fun _ => rfl); rintro e w' ⟨rfl, bT⟩))
   all_goals
    go_wp2
    go_ret
    refine ⟨congrArg (fun z => Ending.returned (Value.string z)) HRs.out.symm, HB2.out.trans (Below.mono (by assumption) HB2.out.size)⟩
  ·obtain rfl : T = 8 := by omega
   rw [show 8 - 8 = 0 from rfl] at HJ2
   clear hT hT0I hT8I
   go_wp2_with fail
   go_region_held3 (fun w' => Below w2.heap.size w2 w') (first | assumption | exact keepB (by assumption) (by assumption) | go_keep)
    (first | (go_at_call 61; (with_reducible refine (HJ1.out _ ?_).mono ?_); (first | assumption | fail); rintro e w' ⟨rfl, bT⟩) | (go_at_call 61; (with_reducible refine (HJ2.out _ ?_ _ _ ?_).mono ?_); assumption; (exact fun h => absurd h (by omega)); rintro e w' ⟨rfl, bT⟩))
   all_goals
    go_wp2
    go_ret
    refine ⟨congrArg (fun z => Ending.returned (Value.string z)) HRs.out.symm, HB2.out.trans (Below.mono (by assumption) HB2.out.size)⟩

end Go.Proofs.YtcphokaamkalfaaGreatDoor
namespace Go.Proofs.YtcphokaamkalfaaGreatDoor
open Go.RowKit

/-- The text of an address. -/
def textD (six : Bool) (l : List Nat) : List UInt8 := if six then sixT l else four1T l
theorem Text_any (six : Bool) (l : List Nat) (w : World) (hl : l.length = 16) (hb : ∀ x ∈ l, x < 256) (h10 : Fmt 10 256 w) (h16 : Fmt 16 65536 w) :
  Calls Tryz.prog 36 #[.agg (cellsA six l)] w fun e w' => e = .returned (.string (asB (textD six l))) ∧ Below w.heap.size w w' := by
 cases six
 ·exact Text4_any l w hl hb h10
 ·exact Text6_any l w hl hb h16
end Go.Proofs.YtcphokaamkalfaaGreatDoor
