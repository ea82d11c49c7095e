/-
  Contract: strconv.FormatInt at base 16.
-/
import Derived.Test.YtgmjfnddeogfdabDoorAdV
import Derived.Test.YtgmjfnddeogfdabDoorAdB
import Derived.Test.YtgmjfnddeogfdabDoorShelfZ
namespace Go.Proofs.YtgmjfnddeogfdabDoor
open Go.RowKit

/-- A digit's sign; a number by a base. -/
def hd (d : Nat) : UInt8 := UInt8.ofNat (if d < 10 then 48 + d else 87 + d)
def numF (b : Nat) : Nat → Nat → List UInt8
  | 0, _ => []
  | f + 1, n => if n < b then [hd n] else numF b f (n / b) ++ [hd (n % b)]

set_option maxHeartbeats 400000 in
theorem pow2_16 (w : World) : Calls Tryd.prog 70 #[.int .i64 16] w fun e w' => e = .returned (.bool true) ∧ w = w' := by
  go_enter Tryd.func70, Tryd.ntmps70
  go_wp2
  go_ret
  exact ⟨rfl, rfl⟩
theorem ctz16 : Lib.ctz 64 16 = 4 := by decide

theorem slice65 (g q : Nat) (h : q < 65) (w : World) : (Instr.sliceAt 103 (.pointer (some ⟨g, 0, none⟩)) (some (.int .i64 (q : Int))) none none).run Tryd.prog w = .ok (.slice (some ⟨g, q, none⟩) (65 - q) (65 - q)) w := by
  have hl : Tryd.prog.arrayLen 103 = 65 := by kernel_rfl
  have he : Tryd.prog.elem 103 = 5 := by kernel_rfl
  have h := run_sliceAt_array_l (P := Tryd.prog) w 103 ⟨g, 0, none⟩ (by rw [hl, he]; exact Tryd.underlying103) .i64 (q : Int) (by omega) (by rw [hl]; omega)
  rw [h, he, hl]
  have hs : (sizeOf 5).run Tryd.prog w = .ok 1 w := by go_simp
  rw [hs]
  show Result.ok (slicedAt ⟨g, 0, none⟩ (q : Int).toNat 65 65 1) w = _
  unfold slicedAt
  rw [Int.toNat_natCast, if_neg (by omega), Nat.mul_one, Addr.add_lit, Nat.zero_add]
/-- The signs of digits, as the library holds them. -/
abbrev DIG : ByteArray := ⟨#[48, 49, 50, 51, 52, 53, 54, 55, 56, 57, 97, 98, 99, 100, 101, 102, 103, 104, 105, 106, 107, 108, 109, 110, 111, 112, 113, 114, 115, 116, 117, 118, 119, 120, 121, 122]⟩
theorem dig_hd (d : Nat) (h : d < 16) : (DIG[d]'(Nat.lt_trans h (by decide))) = hd d := by
  have : ∀ n : Fin 16, (DIG[n.1]'(Nat.lt_trans n.2 (by decide))) = hd n.1 := by decide +kernel
  exact this ⟨d, h⟩
theorem and_15 (u : Nat) (h : u < 65536) : bits .and .u64 (u : Int) 15 = ((u % 16 : Nat) : Int) := by
  have h1 : (BitVec.ofInt 64 (u : Int)).toNat = u := by
    rw [BitVec.ofInt_natCast, BitVec.toNat_ofNat]; exact Nat.mod_eq_of_lt (by omega)
  have h2 : (BitVec.ofInt 64 15).toNat = 15 := by decide
  have h3 : u &&& 15 = u % 16 := by
    have := Nat.and_two_pow_sub_one_eq_mod u 4
    simpa using this
  show IntKind.u64.wrap ((BitVec.ofInt 64 (u : Int) &&& BitVec.ofInt 64 15).toNat : Int) = _
  rw [BitVec.toNat_and, h1, h2, h3]
  simp [IntKind.wrap, IntKind.signed, IntKind.bits]
  omega
/-- While digits are written: those behind q. -/
def WrS (n q m : Nat) (D : List UInt8) (C : Array Value) : Prop :=
  q + m = 65 ∧ m ≤ 3 ∧ D.length = m ∧ numF 16 4 n = numF 16 (4 - m) (n / 16 ^ m) ++ D ∧ C.size = 65 ∧ ∀ j (hj : j < D.length), C[q + j]? = some (.int .u8 (D[j].toNat : Int))
theorem wrS_put {n q m : Nat} {D : List UInt8} {C : Array Value} {x : UInt8} {v : Value} (h : WrS n (q + 1) m D C) (hv : v = .int .u8 (x.toNat : Int)) : ∀ j (hj : j < (x :: D).length), (C.setIfInBounds q v)[q + j]? = some (.int .u8 ((x :: D)[j].toNat : Int)) := by
  obtain ⟨h1, _, h3, _, h5, h6⟩ := h
  intro j hj
  rw [Array.getElem?_setIfInBounds]
  cases j with
  | zero => rw [if_pos (by omega), if_pos (by omega), hv]; rfl
  | succ j =>
    rw [if_neg (by omega)]
    have := h6 j (by simpa using hj)
    rw [show q + (j + 1) = q + 1 + j by omega]
    exact this

set_option maxRecDepth 100000 in
set_option maxHeartbeats 1000000 in
theorem formatBits_any (n : Nat) (w : World) (hn : n < 65536) (hT : TabAt (Tryd.lays27_ren.g 1) Lib.deBruijn64tab w) :
    Calls Tryd.prog 59 #[.slice none 0 0, .int .u64 n, .int .i64 16, .bool false, .bool false] w fun e w' => e = .returned (.tuple #[.slice none 0 0, .string (asB (numF 16 4 n))]) ∧ Below w.heap.size w w' := by
  have HT := Lib.hid hT
  clear hT
  go_enter Tryd.func59, Tryd.ntmps59
  go_wp2_with fail
  refine (pow2_16 _).mono ?_
  rintro e w1 ⟨rfl, rfl⟩
  have HTz : Hid (∀ o, Calls Tryd.prog 71 #[.int .u64 16] (w.alloc o) fun e w' => e = .returned (.int .i64 4) ∧ w.alloc o = w') := Lib.hid (fun o => (Tryd.bits_TrailingZeros 16 (by omega) (w.alloc o) (fun _ j hj => by
    have := HT.out j hj
    rw [World.cell?_alloc_lt w o _ (block_lt_of_cell this)]; exact this)).mono fun e w' ⟨he, hw⟩ => ⟨by rw [he, ctz16]; rfl, hw.symm⟩)
  go_wp2_with (go_at_call 71; refine (HTz.out _).mono ?_; rintro e w' ⟨rfl, rfl⟩)
  obtain ⟨Z, HZ⟩ : ∃ Z, Hid (Tryd.zeroCells103 = Z) := ⟨_, Lib.hid rfl⟩
  have HZs : Hid (Z.size = 65) := Lib.hid (by rw [← HZ.out]; rfl)
  rw [HZ.out]
  have HG0 := Lib.hid (heap_alloc_new w (.cells Z 103))
  have HB0 : Hid (Below w.heap.size w (w.alloc (.cells Z 103))) := Lib.hid ((Below.refl _ _).alloc (Nat.le_refl _) _)
  go_loopw [1, 13] (fun u i wr => ∃ (q m : Nat) (D : List UInt8) (C : Array Value), i = .int .i64 q ∧ u = .int .u64 ((n / 16 ^ m : Nat) : Int) ∧ Hid (WrS n q m D C) ∧ Hid (wr.heap[w.heap.size]? = some (.cells C 103 (0, 0))) ∧ Hid (Below w.heap.size w wr)) (fun _ i _ => (intOf i).toNat)
  case atStart => exact ⟨65, 0, [], Z, rfl, by simp, Lib.hid ⟨rfl, by omega, rfl, by simp, HZs.out, fun j hj => absurd hj (by simp)⟩, HG0, HB0⟩
  case round =>
    obtain ⟨q, m, D, C, rfl, rfl, HS, HG, HB⟩ := hrel
    obtain ⟨u, HU⟩ : ∃ u, Hid (n / 16 ^ m = u) := ⟨_, Lib.hid rfl⟩
    rw [HU.out]
    have hub : u < 65536 := by rw [← HU.out]; exact Nat.lt_of_le_of_lt (Nat.div_le_self _ _) hn
    obtain ⟨q, rfl⟩ : ∃ q', q = q' + 1 := ⟨q - 1, by have := HS.out.1; have := HS.out.2.1; omega⟩
    have hq : q < 65 := by have := HS.out.1; omega
    have hCz : C.size = 65 := HS.out.2.2.2.2.1
    obtain ⟨v0, hv0⟩ : ∃ v, C[q]? = some v := ⟨_, Array.getElem?_eq_getElem (by omega)⟩
    have hcl : wr.cell? ⟨w.heap.size, q, none⟩ = some v0 := (cell_of_row wr _ _ C _ _ HG.out).trans hv0
    have hfr := frozen_of_row wr w.heap.size q C _ HG.out
    clear hv0 hCz
    by_cases h16 : 16 ≤ u
    · have h16I : (16 : Int) ≤ (u : Int) := by omega
      obtain ⟨d, HD⟩ : ∃ d, Hid (u % 16 = d) := ⟨_, Lib.hid rfl⟩
      have hd16 : d < 16 := by rw [← HD.out]; exact Nat.mod_lt _ (by omega)
      have hand : bits .and .u64 (u : Int) 15 = (d : Int) := by rw [and_15 u hub, HD.out]
      have HG1 := Lib.hid (heap_setCell_same wr w.heap.size q C _ (.int .u8 ((DIG[d]'(Nat.lt_trans hd16 (by decide))).toNat : Int)) HG.out)
      have HB1 : Hid (Below w.heap.size w (wr.setCell ⟨w.heap.size, q, none⟩ (.int .u8 ((DIG[d]'(Nat.lt_trans hd16 (by decide))).toNat : Int)))) := Lib.hid (HB.out.setCell (Nat.le_refl _) _)
      have HS1 : Hid (WrS n q (m + 1) (hd d :: D) (C.setIfInBounds q (.int .u8 ((DIG[d]'(Nat.lt_trans hd16 (by decide))).toNat : Int)))) := Lib.hid (by
        have hp := wrS_put HS.out (congrArg (fun z : UInt8 => Value.int .u8 (z.toNat : Int)) (dig_hd d hd16))
        obtain ⟨h1, h2, h3, h4, h5, _⟩ := HS.out
        have hm3 : m + 1 ≤ 3 := by
          by_cases e : m = 3
          · subst e
            have := HU.out
            have hlt : n / 16 ^ 3 < 16 := Nat.div_lt_of_lt_mul (by omega)
            omega
          · omega
        refine ⟨by omega, hm3, by simp [h3], ?_, by simpa using h5, hp⟩
        rw [h4, HU.out, show 4 - m = (4 - (m + 1)) + 1 by omega, numF, if_neg (by omega), HD.out, Nat.pow_succ, ← Nat.div_div_eq_div_mul, HU.out]
        simp)
      go_wp2
      exact ⟨⟨q, m + 1, hd d :: D, _, rfl, by rw [Nat.pow_succ, ← Nat.div_div_eq_div_mul, HU.out]; rfl, HS1, HG1, HB1⟩, by simp [intOf]⟩
    · have h16I : ¬ (16 : Int) ≤ (u : Int) := by omega
      have hu16 : u < 16 := by omega
      have HG1 := Lib.hid (heap_setCell_same wr w.heap.size q C _ (.int .u8 ((DIG[u]'(Nat.lt_trans hu16 (by decide))).toNat : Int)) HG.out)
      have HB1 : Hid (Below w.heap.size w (wr.setCell ⟨w.heap.size, q, none⟩ (.int .u8 ((DIG[u]'(Nat.lt_trans hu16 (by decide))).toNat : Int)))) := Lib.hid (HB.out.setCell (Nat.le_refl _) _)
      have HEnd : Hid (numF 16 4 n = hd u :: D ∧ (hd u :: D).length = 65 - q) := Lib.hid (by
        obtain ⟨h1, h2, h3, h4, h5, _⟩ := HS.out
        refine ⟨?_, by simp [h3]; omega⟩
        rw [h4, HU.out, show 4 - m = (4 - (m + 1)) + 1 by omega, numF, if_pos hu16]; rfl)
      have HCells : Hid (∀ j (hj : j < (hd u :: D).length), (C.setIfInBounds q (.int .u8 ((DIG[u]'(Nat.lt_trans hu16 (by decide))).toNat : Int)))[q + j]? = some (.int .u8 ((hd u :: D)[j].toNat : Int))) := Lib.hid (wrS_put HS.out (congrArg (fun z : UInt8 => Value.int .u8 (z.toNat : Int)) (dig_hd u hu16)))
      have hsl := slice65 w.heap.size q hq
      have hcv : ∀ cap, (convert 40 9 (.slice (some ⟨w.heap.size, q, none⟩) (65 - q) cap)).run Tryd.prog (wr.setCell ⟨w.heap.size, q, none⟩ (.int .u8 ((DIG[u]'(Nat.lt_trans hu16 (by decide))).toNat : Int))) = .ok (.string (asB (numF 16 4 n))) (wr.setCell ⟨w.heap.size, q, none⟩ (.int .u8 ((DIG[u]'(Nat.lt_trans hu16 (by decide))).toNat : Int))) := fun cap => by
        rw [HEnd.out.1, ← HEnd.out.2]
        exact run_convert_bytes_back (P := Tryd.prog) _ 40 9 5 ⟨w.heap.size, q, none⟩ cap (hd u :: D) Tryd.underlying40 Tryd.underlying5 Tryd.underlying9 (fun j hj => by
          rw [Addr.add_lit, cell_of_row _ _ _ _ _ _ HG1.out]
          exact HCells.out j hj)
      go_wp2
      go_ret2
      exact ⟨rfl, HB1.out⟩

set_option maxRecDepth 100000 in
set_option maxHeartbeats 1000000 in
theorem format16_in (n : Nat) (w : World) (hn : n < 65536) (hT : TabAt (Tryd.lays27_ren.g 1) Lib.deBruijn64tab w) :
    Calls Tryd.prog 43 #[.int .i64 n, .int .i64 16] w fun e w' => e = .returned (.string (asB (numF 16 4 n))) ∧ Below w.heap.size w w' := by
  have HF := Lib.hid (formatBits_any n w hn hT)
  clear hT
  go_enter Tryd.func43, Tryd.ntmps43
  go_wp2_with (go_at_call 59; refine HF.out.mono ?_; rintro e w' ⟨rfl, b1⟩)
  go_ret
  exact ⟨rfl, b1⟩
set_option maxHeartbeats 1000000 in
theorem format16 (n : Nat) (w : World) (hn : n < 65536) (hT : TabAt (Tryd.lays27_ren.g 1) Lib.deBruijn64tab w) :
    Calls Tryd.prog 30 #[.int .i64 n, .int .i64 16] w fun e w' => e = .returned (.string (asB (numF 16 4 n))) ∧ Below w.heap.size w w' := by
  have HF := Lib.hid (format16_in n w hn hT)
  clear hT
  go_enter Tryd.func30, Tryd.ntmps30
  go_wp2_with (go_at_call 43; refine HF.out.mono ?_; rintro e w' ⟨rfl, b1⟩)
  go_ret
  exact ⟨rfl, b1⟩

end Go.Proofs.YtgmjfnddeogfdabDoor
