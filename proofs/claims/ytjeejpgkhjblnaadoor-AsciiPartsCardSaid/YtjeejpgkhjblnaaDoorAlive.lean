/-
  The contract of alive: it returns true.
-/
import Derived.Test.YtjeejpgkhjblnaaDoorSplA
import Derived.Test.YtjeejpgkhjblnaaDoorTokA
import Derived.Test.YtjeejpgkhjblnaaDoorLowB
import Derived.Test.YtjeejpgkhjblnaaDoorBeyond
namespace Go.Proofs.YtjeejpgkhjblnaaDoor
open Go.RowKit

theorem kept_cell {B : Nat} {w w' : World} {a : Addr} {v : Value} (hb : Below B w w') (h : w.cell? a = some v) (hB : w.heap.size ≤ B) : w'.cell? a = some v :=
  (hb.cell (p := a) (Nat.lt_of_lt_of_le (block_lt_of_cell h) hB)).trans h
theorem below_drewN {B : Nat} {a w : World} (h : Below B a w) (n : Nat) : Below B a (w.drewN n) := ⟨h.os, h.tape, h.output, h.size, h.block⟩
theorem row_cells {w : World} {g : Nat} {t : TypeId} {fr : Nat × Nat} {L : List ByteArray} (h : w.heap[g]? = some (.cells (L.map Value.string).toArray t fr)) : ∀ j (hj : j < L.length), w.cell? ⟨g, 0 + j, none⟩ = some (.string L[j]) := by
  intro j hj
  rw [cell_of_row w g _ _ _ _ h, List.getElem?_toArray, List.getElem?_map, Nat.zero_add, List.getElem?_eq_getElem hj]; rfl
theorem num_007 : numV [48, 48, 55] 9 = 7 ∧ numB [48, 48, 55] 9 = true := by decide +kernel
theorem num_10 : numV [49, 48] 9 = 0 ∧ numB [49, 48] 9 = false := by decide +kernel
theorem low_abc : lowS ⟨#[65, 98, 67, 45]⟩ = ⟨#[97, 98, 99, 45]⟩ := by decide +kernel
theorem low_host : lowS ⟨#[72, 111, 115, 116]⟩ = lowS ⟨#[104, 79, 83, 84]⟩ := by decide +kernel
theorem same_host : sameS ⟨#[72, 111, 115, 116]⟩ ⟨#[104, 79, 83, 84]⟩ = true := by rw [sameS, low_host]; simp
theorem same_ab : sameS ⟨#[97]⟩ ⟨#[98]⟩ = false := by decide +kernel
theorem tok_set : tokS [83, 101, 116, 45, 67, 111, 111, 107, 105, 101] = true := by decide +kernel
theorem tok_ab : tokS [97, 32, 98] = false := by decide +kernel
theorem trim_ab : trimA ⟨#[32, 97, 32, 98, 9]⟩ = ⟨#[97, 32, 98]⟩ := by decide +kernel
theorem parts_ab : partsA 59 ⟨#[97, 59, 32, 98, 32, 59, 59]⟩ = [⟨#[97]⟩, ⟨#[98]⟩, ⟨#[]⟩, ⟨#[]⟩] := by decide +kernel

theorem Number_007 (w : World) : Calls Tryd.prog 22 #[.string ⟨#[48, 48, 55]⟩, .int .i64 9] w fun e w' => e = .returned (.tuple #[.int .i64 7, .bool true]) ∧ Below w.heap.size w w' :=
  (Number_any ⟨#[48, 48, 55]⟩ 9 w (by decide)).mono fun e w' ⟨he, hb⟩ => ⟨he.trans (ret_pair num_007.1 num_007.2), hb⟩
theorem Number_10 (w : World) : Calls Tryd.prog 22 #[.string ⟨#[49, 48]⟩, .int .i64 9] w fun e w' => e = .returned (.tuple #[.int .i64 0, .bool false]) ∧ Below w.heap.size w w' :=
  (Number_any ⟨#[49, 48]⟩ 9 w (by decide)).mono fun e w' ⟨he, hb⟩ => ⟨he.trans (ret_pair num_10.1 num_10.2), hb⟩
theorem ret_string {a b : ByteArray} (h : a = b) : Ending.returned (.string a) = .returned (.string b) := by rw [h]
theorem Lower_abc (w : World) : Calls Tryd.prog 19 #[.string ⟨#[65, 98, 67, 45]⟩] w fun e w' => e = .returned (.string ⟨#[97, 98, 99, 45]⟩) ∧ Below w.heap.size w w' :=
  (Lower_any ⟨#[65, 98, 67, 45]⟩ w (by decide)).mono fun e w' ⟨he, hb⟩ => ⟨he.trans (ret_string low_abc), hb⟩
theorem Same_host (w : World) : Calls Tryd.prog 20 #[.string ⟨#[72, 111, 115, 116]⟩, .string ⟨#[104, 79, 83, 84]⟩] w fun e w' => e = .returned (.bool true) ∧ Below w.heap.size w w' :=
  (Same_any ⟨#[72, 111, 115, 116]⟩ ⟨#[104, 79, 83, 84]⟩ w (by decide) (by decide)).mono fun e w' ⟨he, hb⟩ => ⟨he.trans (ret_bool same_host), hb⟩
theorem Same_ab (w : World) : Calls Tryd.prog 20 #[.string ⟨#[97]⟩, .string ⟨#[98]⟩] w fun e w' => e = .returned (.bool false) ∧ Below w.heap.size w w' :=
  (Same_any ⟨#[97]⟩ ⟨#[98]⟩ w (by decide) (by decide)).mono fun e w' ⟨he, hb⟩ => ⟨he.trans (ret_bool same_ab), hb⟩
theorem Token_set (w : World) : Calls Tryd.prog 23 #[.string ⟨#[83, 101, 116, 45, 67, 111, 111, 107, 105, 101]⟩] w fun e w' => e = .returned (.bool true) ∧ Below w.heap.size w w' :=
  (Token_any ⟨#[83, 101, 116, 45, 67, 111, 111, 107, 105, 101]⟩ w (by decide)).mono fun e w' ⟨he, hb⟩ => ⟨he.trans (ret_bool tok_set), hb⟩
theorem Token_ab (w : World) : Calls Tryd.prog 23 #[.string ⟨#[97, 32, 98]⟩] w fun e w' => e = .returned (.bool false) ∧ Below w.heap.size w w' :=
  (Token_any ⟨#[97, 32, 98]⟩ w (by decide)).mono fun e w' ⟨he, hb⟩ => ⟨he.trans (ret_bool tok_ab), hb⟩
theorem Trim_ab (w : World) : Calls Tryd.prog 11 #[.string ⟨#[32, 97, 32, 98, 9]⟩] w fun e w' => e = .returned (.string ⟨#[97, 32, 98]⟩) ∧ Below w.heap.size w w' :=
  (Trim_any ⟨#[32, 97, 32, 98, 9]⟩ w (by decide)).mono fun e w' ⟨he, hb⟩ => ⟨he.trans (ret_string trim_ab), hb⟩
theorem Split_ab (m : Int) (w : World) (hm : w.cell? ⟨2, 0, none⟩ = some (.int .i64 m)) : Calls Tryd.prog 13 #[.string ⟨#[97, 59, 32, 98, 32, 59, 59]⟩, .int .u8 59] w (Parted w [⟨#[97]⟩, ⟨#[98]⟩, ⟨#[]⟩, ⟨#[]⟩]) := by
  have h := Split_any ⟨#[97, 59, 32, 98, 32, 59, 59]⟩ 59 m w (by decide) hm
  rw [parts_ab] at h
  exact h

set_option maxHeartbeats 1000000 in
set_option maxRecDepth 100000 in
theorem alive_any (m : Int) (w : World) (hm : w.cell? ⟨2, 0, none⟩ = some (.int .i64 m)) :
    Calls Tryd.prog 18 #[] w fun e w' => e = .returned (.bool true) ∧ Below w.heap.size w w' := by
  have HM := Lib.hid hm; clear hm
  go_enter Tryd.func18, Tryd.ntmps18
  go_wp2_with fail
  refine (Number_007 _).mono ?_
  rintro e w1 ⟨rfl, b1⟩
  go_wp2_with fail
  refine (Number_10 _).mono ?_
  rintro e w2 ⟨rfl, b2⟩
  go_wp2_with fail
  refine (Lower_abc _).mono ?_
  rintro e w3 ⟨rfl, b3⟩
  go_wp2_with fail
  refine (Same_host _).mono ?_
  rintro e w4 ⟨rfl, b4⟩
  go_wp2_with fail
  refine (Same_ab _).mono ?_
  rintro e w5 ⟨rfl, b5⟩
  go_wp2_with fail
  refine (Token_set _).mono ?_
  rintro e w6 ⟨rfl, b6⟩
  go_wp2_with fail
  refine (Token_ab _).mono ?_
  rintro e w7 ⟨rfl, b7⟩
  go_wp2_with fail
  refine (Trim_ab _).mono ?_
  rintro e w8 ⟨rfl, b8⟩
  have B8 : Below w.heap.size w w8 := by
    have s1 := b1.size
    have s2 := b2.size
    have s3 := b3.size
    have s4 := b4.size
    have s5 := b5.size
    have s6 := b6.size
    have s7 := b7.size
    exact ((((((b1.trans (b2.mono (by omega))).trans (b3.mono (by omega))).trans (b4.mono (by omega))).trans (b5.mono (by omega))).trans (b6.mono (by omega))).trans (b7.mono (by omega))).trans (b8.mono (by omega))
  have HB8 := Lib.hid B8
  clear b1 b2 b3 b4 b5 b6 b7 b8 B8
  go_wp2_with fail
  refine (Split_ab m _ (kept_cell HB8.out HM.out (Nat.le_refl _))).mono ?_
  rintro e w9 ⟨g, rfl, hg, hrow, b9⟩
  have HRow := Lib.hid hrow; clear hrow
  have HB9 := Lib.hid b9; clear b9
  go_wp2_with fail
  have hlast : (w9.alloc (.cells #[.string ⟨#[97]⟩, .string ⟨#[98]⟩, .string ⟨#[]⟩, .string ⟨#[]⟩] 9)).heap[w9.heap.size]? = some (.cells (([⟨#[97]⟩, ⟨#[98]⟩, ⟨#[]⟩, ⟨#[]⟩] : List ByteArray).map Value.string).toArray 9 (0, 0)) := heap_alloc_new _ _
  have hfirst : (w9.alloc (.cells #[.string ⟨#[97]⟩, .string ⟨#[98]⟩, .string ⟨#[]⟩, .string ⟨#[]⟩] 9)).heap[g]? = some (.cells (([⟨#[97]⟩, ⟨#[98]⟩, ⟨#[]⟩, ⟨#[]⟩] : List ByteArray).map Value.string).toArray 9 (0, 0)) := by
    rw [Below.heap_alloc _ _ _ (lt_of_block HRow.out)]; exact HRow.out
  refine (SameTexts_eq g 0 4 w9.heap.size 0 4 [⟨#[97]⟩, ⟨#[98]⟩, ⟨#[]⟩, ⟨#[]⟩] _ (by decide) (row_cells hfirst) (row_cells hlast)).mono ?_
  rintro e w10 ⟨rfl, n, rfl⟩
  clear hlast hfirst
  go_wp2
  go_ret
  refine ⟨rfl, (HB8.out.trans (HB9.out.mono HB8.out.size)).trans ?_⟩
  have h1 : Below w9.heap.size w9 (w9.alloc (.cells #[.string ⟨#[97]⟩, .string ⟨#[98]⟩, .string ⟨#[]⟩, .string ⟨#[]⟩] 9)) := (Below.refl _ _).alloc (Nat.le_refl _) _
  have h2 := HB8.out.size
  have h3 := HB9.out.size
  exact below_drewN (h1.mono (by omega)) n

end Go.Proofs.YtjeejpgkhjblnaaDoor
