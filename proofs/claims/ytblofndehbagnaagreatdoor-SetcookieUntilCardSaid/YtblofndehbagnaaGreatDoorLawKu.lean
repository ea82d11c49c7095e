/-
  The walk of SetcookieUntil.
-/
import Derived.Test.YtblofndehbagnaaGreatDoorScI
namespace Go.Proofs.YtblofndehbagnaaGreatDoor
open Go.RowKit

/-- What the law says of two ends. -/
theorem unt_bd (ex ag : Int) (hx ha : Bool) (n k : Nat) (hn : n < 4294967296) (hk : k < 4294967296) :
    -1 ≤ untP ex hx ag ha n ∧ ((untP ex hx ag ha n = -1) ↔ (ha = false ∧ hx = false)) ∧ untP ex hx ag ha n ≤ n + 34560000 ∧ (0 < untP ex hx ag ha n → (n : Int) < untP ex hx ag ha n) ∧
    (ha = true → untP 7 true ag ha n = untP ex hx ag ha n) ∧
    (untP ex hx ag ha ((n : Int) + (k : Int)) = untP ex hx ag ha n ∨ (untP ex hx ag ha ((n : Int) + (k : Int)) = 0 ∧ ha = false) ∨ (untP ex hx ag ha n < untP ex hx ag ha ((n : Int) + (k : Int)) ∧ 0 < untP ex hx ag ha n)) := by
  have e1 : nowP n = n := by unfold nowP; split <;> (try split) <;> omega
  have e2 : nowP ((n : Int) + (k : Int)) = (n : Int) + (k : Int) := by unfold nowP; split <;> (try split) <;> omega
  unfold untP
  rw [e1, e2]
  cases ha <;> cases hx <;> simp <;> (repeat' split) <;> omega

set_option maxHeartbeats 4000000 in
set_option maxRecDepth 100000 in
theorem kuntil_ff (nm vl dm pa : ByteArray) (ex ag si : Int) (se hi : Bool) (n k : Nat) (hn : n < 4294967296) (hk : k < 4294967296)  (m : Int) (w : World) (hw : DtG m w)
    (hU : untP ex false ag false n = (-1)) (hV : untP ex false ag false ((n : Int) + (k : Int)) = (-1))  :
    Calls Tryz.prog 9 #[.agg #[.string nm, .string vl, .string dm, .string pa, .int .i64 ex, .bool false, .int .i64 ag, .bool false, .bool se, .bool hi, .int .u8 si], .int .u32 (n : Int), .int .u32 (k : Int)] w fun e w' => e = .returned (.bool true) ∧ Below w.heap.size w w' := by
  have HG := Lib.hid hw
  have HU := Lib.hid fun w => Until_any nm vl dm pa ex ag si false false se hi (n : Int) w
  have HV := Lib.hid fun w => Until_any nm vl dm pa ex ag si false false se hi ((n : Int) + (k : Int)) w
  rw [hU] at HU
  rw [hV] at HV
  have HAl := Lib.hid fun w hw => alive10_any m w hw
  have HA0 : Hid (∀ C : Array Value, (w.alloc (.cells C 24)).heap[w.heap.size]? = some (.cells C 24 (0, 0))) := Lib.hid fun C => heap_alloc_new w _
  have HB0 : Hid (∀ C : Array Value, Below w.heap.size w (w.alloc (.cells C 24))) := Lib.hid fun C => (Below.refl _ _).alloc (Nat.le_refl _) _
  have hnI : (n : Int) < 4294967296 := by omega
  have hkI : (k : Int) < 4294967296 := by omega
  obtain ⟨S, hS, hS1, hS2, hS3⟩ : ∃ S : Int, (n : Int) + 34560000 = S ∧ 34560000 ≤ S ∧ S ≤ 4329527296 ∧ (0:Int) ≤ S := ⟨_, rfl, by omega, by omega, by omega⟩
  clear hw hU hV
  go_enter Tryz.func9, Tryz.ntmps9
  go_wp2_with fail
  refine (HU.out _).mono ?_
  rintro e w1 ⟨rfl, b1⟩
  have HB1 := Lib.hid ((HB0.out _).trans (b1.mono (HB0.out _).size))
  have HA1 : Hid (w1.heap[w.heap.size]? = some (.cells #[.string nm, .string vl, .string dm, .string pa, .int .i64 ex, .bool false, .int .i64 ag, .bool false, .bool se, .bool hi, .int .u8 si] 24 (0, 0))) := Lib.hid ((b1.block _ (lt_of_block (HA0.out _))).trans (HA0.out _))
  clear b1
  go_wp2_with (refine scW_load rfl 24 _ rfl w.heap.size ?_ 24 #[.string nm, .string vl, .string dm, .string pa, .int .i64 ex, .bool false, .int .i64 ag, .bool false, .bool se, .bool hi, .int .u8 si] (0, 0) _ ?_ Tryz.underlying24 rfl ?_ ?_; (exact rfl); (exact HA1.out); (exact infoTo))
  refine (HV.out _).mono ?_
  rintro e w2 ⟨rfl, b2⟩
  have HB2 := Lib.hid (HB1.out.trans (b2.mono HB1.out.size))
  have HA2 : Hid (w2.heap[w.heap.size]? = some (.cells #[.string nm, .string vl, .string dm, .string pa, .int .i64 ex, .bool false, .int .i64 ag, .bool false, .bool se, .bool hi, .int .u8 si] 24 (0, 0))) := Lib.hid ((b2.block _ (lt_of_block HA1.out)).trans HA1.out)
  clear b2
  have c7 : w2.cell? ⟨w.heap.size, 7, none⟩ = some (.bool false) := by rw [cell_of_row w2 _ 7 _ _ _ HA2.out]; rfl
  have c5 : w2.cell? ⟨w.heap.size, 5, none⟩ = some (.bool false) := by rw [cell_of_row w2 _ 5 _ _ _ HA2.out]; rfl
  clear hnI hkI
  go_upto_region 7 with (refine scW_load rfl 24 _ rfl w.heap.size ?_ 24 #[.string nm, .string vl, .string dm, .string pa, .int .i64 ex, .bool false, .int .i64 ag, .bool false, .bool se, .bool hi, .int .u8 si] (0, 0) _ ?_ Tryz.underlying24 rfl ?_ ?_; (exact rfl); (exact HA2.out); (exact infoTo))
  go_upto_region 9 with (fail)
  have hlt : w.heap.size < w2.heap.size := lt_of_block HA2.out
  obtain ⟨W5, HW5⟩ : ∃ W, Hid (w2.alloc (.cells #[.string nm, .string vl, .string dm, .string pa, .int .i64 7, .bool true, .int .i64 ag, .bool false, .bool se, .bool hi, .int .u8 si] 24) = W) := ⟨_, Lib.hid rfl⟩
  have HX5 : Hid (W5.heap[w2.heap.size]? = some (.cells #[.string nm, .string vl, .string dm, .string pa, .int .i64 7, .bool true, .int .i64 ag, .bool false, .bool se, .bool hi, .int .u8 si] 24 (0, 0))) := Lib.hid (by rw [← HW5.out]; exact heap_alloc_new w2 _)
  have HA5 : Hid (W5.heap[w.heap.size]? = some (.cells #[.string nm, .string vl, .string dm, .string pa, .int .i64 ex, .bool false, .int .i64 ag, .bool false, .bool se, .bool hi, .int .u8 si] 24 (0, 0))) := Lib.hid (by rw [← HW5.out]; exact (Below.heap_alloc _ _ _ hlt).trans HA2.out)
  have HB5 : Hid (Below w.heap.size w W5) := Lib.hid (by rw [← HW5.out]; exact HB2.out.alloc HB2.out.size _)
  rw [HW5.out]
  clear c7 c5 hlt
  have c7 : W5.cell? ⟨w.heap.size, 7, none⟩ = some (.bool false) := by rw [cell_of_row W5 _ 7 _ _ _ HA5.out]; rfl
  have HB6 := HB5
  have HA6 := HA5
  go_wp2_with fail
  refine (HAl.out _ (HG.out.below HB6.out)).mono ?_
  rintro e w7 ⟨rfl, b7⟩
  have HB7 := Lib.hid (HB6.out.trans (b7.mono HB6.out.size))
  have HA7 : Hid (w7.heap[w.heap.size]? = some (.cells #[.string nm, .string vl, .string dm, .string pa, .int .i64 ex, .bool false, .int .i64 ag, .bool false, .bool se, .bool hi, .int .u8 si] 24 (0, 0))) := Lib.hid ((b7.block _ (lt_of_block HA6.out)).trans HA6.out)
  clear b7 c7
  have c7 : w7.cell? ⟨w.heap.size, 7, none⟩ = some (.bool false) := by rw [cell_of_row w7 _ 7 _ _ _ HA7.out]; rfl
  go_wp2
  go_ret
  exact ⟨rfl, HB7.out⟩

set_option maxHeartbeats 4000000 in
set_option maxRecDepth 100000 in
theorem kuntil_ftA (nm vl dm pa : ByteArray) (ex ag si : Int) (se hi : Bool) (n k : Nat) (hn : n < 4294967296) (hk : k < 4294967296) (u : Int) (g3 : u ≤ (n : Int) + 34560000) (g4 : 0 < u) (g5 : (n : Int) < u) (m : Int) (w : World) (hw : DtG m w)
    (hU : untP ex true ag false n = u) (hV : untP ex true ag false ((n : Int) + (k : Int)) = u)  :
    Calls Tryz.prog 9 #[.agg #[.string nm, .string vl, .string dm, .string pa, .int .i64 ex, .bool true, .int .i64 ag, .bool false, .bool se, .bool hi, .int .u8 si], .int .u32 (n : Int), .int .u32 (k : Int)] w fun e w' => e = .returned (.bool true) ∧ Below w.heap.size w w' := by
  have HG := Lib.hid hw
  have HU := Lib.hid fun w => Until_any nm vl dm pa ex ag si true false se hi (n : Int) w
  have HV := Lib.hid fun w => Until_any nm vl dm pa ex ag si true false se hi ((n : Int) + (k : Int)) w
  rw [hU] at HU
  rw [hV] at HV
  have HAl := Lib.hid fun w hw => alive10_any m w hw
  have HA0 : Hid (∀ C : Array Value, (w.alloc (.cells C 24)).heap[w.heap.size]? = some (.cells C 24 (0, 0))) := Lib.hid fun C => heap_alloc_new w _
  have HB0 : Hid (∀ C : Array Value, Below w.heap.size w (w.alloc (.cells C 24))) := Lib.hid fun C => (Below.refl _ _).alloc (Nat.le_refl _) _
  have hnI : (n : Int) < 4294967296 := by omega
  have hkI : (k : Int) < 4294967296 := by omega
  obtain ⟨S, hS, hS1, hS2, hS3⟩ : ∃ S : Int, (n : Int) + 34560000 = S ∧ 34560000 ≤ S ∧ S ≤ 4329527296 ∧ u ≤ S := ⟨_, rfl, by omega, by omega, by omega⟩
  have e1 : (u == -1) = false := beq_eq_false_iff_ne.2 (by omega)
  clear hw hU hV
  go_enter Tryz.func9, Tryz.ntmps9
  go_wp2_with fail
  refine (HU.out _).mono ?_
  rintro e w1 ⟨rfl, b1⟩
  have HB1 := Lib.hid ((HB0.out _).trans (b1.mono (HB0.out _).size))
  have HA1 : Hid (w1.heap[w.heap.size]? = some (.cells #[.string nm, .string vl, .string dm, .string pa, .int .i64 ex, .bool true, .int .i64 ag, .bool false, .bool se, .bool hi, .int .u8 si] 24 (0, 0))) := Lib.hid ((b1.block _ (lt_of_block (HA0.out _))).trans (HA0.out _))
  clear b1
  go_wp2_with (refine scW_load rfl 24 _ rfl w.heap.size ?_ 24 #[.string nm, .string vl, .string dm, .string pa, .int .i64 ex, .bool true, .int .i64 ag, .bool false, .bool se, .bool hi, .int .u8 si] (0, 0) _ ?_ Tryz.underlying24 rfl ?_ ?_; (exact rfl); (exact HA1.out); (exact infoTo))
  refine (HV.out _).mono ?_
  rintro e w2 ⟨rfl, b2⟩
  have HB2 := Lib.hid (HB1.out.trans (b2.mono HB1.out.size))
  have HA2 : Hid (w2.heap[w.heap.size]? = some (.cells #[.string nm, .string vl, .string dm, .string pa, .int .i64 ex, .bool true, .int .i64 ag, .bool false, .bool se, .bool hi, .int .u8 si] 24 (0, 0))) := Lib.hid ((b2.block _ (lt_of_block HA1.out)).trans HA1.out)
  clear b2
  have c7 : w2.cell? ⟨w.heap.size, 7, none⟩ = some (.bool false) := by rw [cell_of_row w2 _ 7 _ _ _ HA2.out]; rfl
  have c5 : w2.cell? ⟨w.heap.size, 5, none⟩ = some (.bool true) := by rw [cell_of_row w2 _ 5 _ _ _ HA2.out]; rfl
  clear hnI hkI
  go_upto_region 7 with (refine scW_load rfl 24 _ rfl w.heap.size ?_ 24 #[.string nm, .string vl, .string dm, .string pa, .int .i64 ex, .bool true, .int .i64 ag, .bool false, .bool se, .bool hi, .int .u8 si] (0, 0) _ ?_ Tryz.underlying24 rfl ?_ ?_; (exact rfl); (exact HA2.out); (exact infoTo))
  go_upto_region 9 with (fail)
  have hlt : w.heap.size < w2.heap.size := lt_of_block HA2.out
  obtain ⟨W5, HW5⟩ : ∃ W, Hid (w2.alloc (.cells #[.string nm, .string vl, .string dm, .string pa, .int .i64 7, .bool true, .int .i64 ag, .bool false, .bool se, .bool hi, .int .u8 si] 24) = W) := ⟨_, Lib.hid rfl⟩
  have HX5 : Hid (W5.heap[w2.heap.size]? = some (.cells #[.string nm, .string vl, .string dm, .string pa, .int .i64 7, .bool true, .int .i64 ag, .bool false, .bool se, .bool hi, .int .u8 si] 24 (0, 0))) := Lib.hid (by rw [← HW5.out]; exact heap_alloc_new w2 _)
  have HA5 : Hid (W5.heap[w.heap.size]? = some (.cells #[.string nm, .string vl, .string dm, .string pa, .int .i64 ex, .bool true, .int .i64 ag, .bool false, .bool se, .bool hi, .int .u8 si] 24 (0, 0))) := Lib.hid (by rw [← HW5.out]; exact (Below.heap_alloc _ _ _ hlt).trans HA2.out)
  have HB5 : Hid (Below w.heap.size w W5) := Lib.hid (by rw [← HW5.out]; exact HB2.out.alloc HB2.out.size _)
  rw [HW5.out]
  clear c7 c5 hlt
  have c7 : W5.cell? ⟨w.heap.size, 7, none⟩ = some (.bool false) := by rw [cell_of_row W5 _ 7 _ _ _ HA5.out]; rfl
  have HB6 := HB5
  have HA6 := HA5
  go_wp2_with fail
  refine (HAl.out _ (HG.out.below HB6.out)).mono ?_
  rintro e w7 ⟨rfl, b7⟩
  have HB7 := Lib.hid (HB6.out.trans (b7.mono HB6.out.size))
  have HA7 : Hid (w7.heap[w.heap.size]? = some (.cells #[.string nm, .string vl, .string dm, .string pa, .int .i64 ex, .bool true, .int .i64 ag, .bool false, .bool se, .bool hi, .int .u8 si] 24 (0, 0))) := Lib.hid ((b7.block _ (lt_of_block HA6.out)).trans HA6.out)
  clear b7 c7
  have c7 : w7.cell? ⟨w.heap.size, 7, none⟩ = some (.bool false) := by rw [cell_of_row w7 _ 7 _ _ _ HA7.out]; rfl
  go_wp2
  go_ret
  exact ⟨rfl, HB7.out⟩

set_option maxHeartbeats 4000000 in
set_option maxRecDepth 100000 in
theorem kuntil_ftC (nm vl dm pa : ByteArray) (ex ag si : Int) (se hi : Bool) (n k : Nat) (hn : n < 4294967296) (hk : k < 4294967296) (u v : Int) (g3 : u ≤ (n : Int) + 34560000) (g4 : 0 < u) (g5 : (n : Int) < u) (g6 : u < v) (m : Int) (w : World) (hw : DtG m w)
    (hU : untP ex true ag false n = u) (hV : untP ex true ag false ((n : Int) + (k : Int)) = v)  :
    Calls Tryz.prog 9 #[.agg #[.string nm, .string vl, .string dm, .string pa, .int .i64 ex, .bool true, .int .i64 ag, .bool false, .bool se, .bool hi, .int .u8 si], .int .u32 (n : Int), .int .u32 (k : Int)] w fun e w' => e = .returned (.bool true) ∧ Below w.heap.size w w' := by
  have HG := Lib.hid hw
  have HU := Lib.hid fun w => Until_any nm vl dm pa ex ag si true false se hi (n : Int) w
  have HV := Lib.hid fun w => Until_any nm vl dm pa ex ag si true false se hi ((n : Int) + (k : Int)) w
  rw [hU] at HU
  rw [hV] at HV
  have HAl := Lib.hid fun w hw => alive10_any m w hw
  have HA0 : Hid (∀ C : Array Value, (w.alloc (.cells C 24)).heap[w.heap.size]? = some (.cells C 24 (0, 0))) := Lib.hid fun C => heap_alloc_new w _
  have HB0 : Hid (∀ C : Array Value, Below w.heap.size w (w.alloc (.cells C 24))) := Lib.hid fun C => (Below.refl _ _).alloc (Nat.le_refl _) _
  have hnI : (n : Int) < 4294967296 := by omega
  have hkI : (k : Int) < 4294967296 := by omega
  obtain ⟨S, hS, hS1, hS2, hS3⟩ : ∃ S : Int, (n : Int) + 34560000 = S ∧ 34560000 ≤ S ∧ S ≤ 4329527296 ∧ u ≤ S := ⟨_, rfl, by omega, by omega, by omega⟩
  have e1 : (u == -1) = false := beq_eq_false_iff_ne.2 (by omega)
  have e2 : (v == u) = false := beq_eq_false_iff_ne.2 (by omega)
  have e3 : (v == 0) = false := beq_eq_false_iff_ne.2 (by omega)
  clear hw hU hV
  go_enter Tryz.func9, Tryz.ntmps9
  go_wp2_with fail
  refine (HU.out _).mono ?_
  rintro e w1 ⟨rfl, b1⟩
  have HB1 := Lib.hid ((HB0.out _).trans (b1.mono (HB0.out _).size))
  have HA1 : Hid (w1.heap[w.heap.size]? = some (.cells #[.string nm, .string vl, .string dm, .string pa, .int .i64 ex, .bool true, .int .i64 ag, .bool false, .bool se, .bool hi, .int .u8 si] 24 (0, 0))) := Lib.hid ((b1.block _ (lt_of_block (HA0.out _))).trans (HA0.out _))
  clear b1
  go_wp2_with (refine scW_load rfl 24 _ rfl w.heap.size ?_ 24 #[.string nm, .string vl, .string dm, .string pa, .int .i64 ex, .bool true, .int .i64 ag, .bool false, .bool se, .bool hi, .int .u8 si] (0, 0) _ ?_ Tryz.underlying24 rfl ?_ ?_; (exact rfl); (exact HA1.out); (exact infoTo))
  refine (HV.out _).mono ?_
  rintro e w2 ⟨rfl, b2⟩
  have HB2 := Lib.hid (HB1.out.trans (b2.mono HB1.out.size))
  have HA2 : Hid (w2.heap[w.heap.size]? = some (.cells #[.string nm, .string vl, .string dm, .string pa, .int .i64 ex, .bool true, .int .i64 ag, .bool false, .bool se, .bool hi, .int .u8 si] 24 (0, 0))) := Lib.hid ((b2.block _ (lt_of_block HA1.out)).trans HA1.out)
  clear b2
  have c7 : w2.cell? ⟨w.heap.size, 7, none⟩ = some (.bool false) := by rw [cell_of_row w2 _ 7 _ _ _ HA2.out]; rfl
  have c5 : w2.cell? ⟨w.heap.size, 5, none⟩ = some (.bool true) := by rw [cell_of_row w2 _ 5 _ _ _ HA2.out]; rfl
  clear hnI hkI
  go_upto_region 7 with (refine scW_load rfl 24 _ rfl w.heap.size ?_ 24 #[.string nm, .string vl, .string dm, .string pa, .int .i64 ex, .bool true, .int .i64 ag, .bool false, .bool se, .bool hi, .int .u8 si] (0, 0) _ ?_ Tryz.underlying24 rfl ?_ ?_; (exact rfl); (exact HA2.out); (exact infoTo))
  go_upto_region 9 with (fail)
  have hlt : w.heap.size < w2.heap.size := lt_of_block HA2.out
  obtain ⟨W5, HW5⟩ : ∃ W, Hid (w2.alloc (.cells #[.string nm, .string vl, .string dm, .string pa, .int .i64 7, .bool true, .int .i64 ag, .bool false, .bool se, .bool hi, .int .u8 si] 24) = W) := ⟨_, Lib.hid rfl⟩
  have HX5 : Hid (W5.heap[w2.heap.size]? = some (.cells #[.string nm, .string vl, .string dm, .string pa, .int .i64 7, .bool true, .int .i64 ag, .bool false, .bool se, .bool hi, .int .u8 si] 24 (0, 0))) := Lib.hid (by rw [← HW5.out]; exact heap_alloc_new w2 _)
  have HA5 : Hid (W5.heap[w.heap.size]? = some (.cells #[.string nm, .string vl, .string dm, .string pa, .int .i64 ex, .bool true, .int .i64 ag, .bool false, .bool se, .bool hi, .int .u8 si] 24 (0, 0))) := Lib.hid (by rw [← HW5.out]; exact (Below.heap_alloc _ _ _ hlt).trans HA2.out)
  have HB5 : Hid (Below w.heap.size w W5) := Lib.hid (by rw [← HW5.out]; exact HB2.out.alloc HB2.out.size _)
  rw [HW5.out]
  clear c7 c5 hlt
  have c7 : W5.cell? ⟨w.heap.size, 7, none⟩ = some (.bool false) := by rw [cell_of_row W5 _ 7 _ _ _ HA5.out]; rfl
  have HB6 := HB5
  have HA6 := HA5
  go_wp2_with fail
  refine (HAl.out _ (HG.out.below HB6.out)).mono ?_
  rintro e w7 ⟨rfl, b7⟩
  have HB7 := Lib.hid (HB6.out.trans (b7.mono HB6.out.size))
  have HA7 : Hid (w7.heap[w.heap.size]? = some (.cells #[.string nm, .string vl, .string dm, .string pa, .int .i64 ex, .bool true, .int .i64 ag, .bool false, .bool se, .bool hi, .int .u8 si] 24 (0, 0))) := Lib.hid ((b7.block _ (lt_of_block HA6.out)).trans HA6.out)
  clear b7 c7
  have c7 : w7.cell? ⟨w.heap.size, 7, none⟩ = some (.bool false) := by rw [cell_of_row w7 _ 7 _ _ _ HA7.out]; rfl
  go_wp2
  go_ret
  exact ⟨rfl, HB7.out⟩

set_option maxHeartbeats 4000000 in
set_option maxRecDepth 100000 in
theorem kuntil_ftB (nm vl dm pa : ByteArray) (ex ag si : Int) (se hi : Bool) (n k : Nat) (hn : n < 4294967296) (hk : k < 4294967296) (u : Int) (g3 : u ≤ (n : Int) + 34560000) (g4 : 0 < u) (g5 : (n : Int) < u) (m : Int) (w : World) (hw : DtG m w)
    (hU : untP ex true ag false n = u) (hV : untP ex true ag false ((n : Int) + (k : Int)) = 0)  :
    Calls Tryz.prog 9 #[.agg #[.string nm, .string vl, .string dm, .string pa, .int .i64 ex, .bool true, .int .i64 ag, .bool false, .bool se, .bool hi, .int .u8 si], .int .u32 (n : Int), .int .u32 (k : Int)] w fun e w' => e = .returned (.bool true) ∧ Below w.heap.size w w' := by
  have HG := Lib.hid hw
  have HU := Lib.hid fun w => Until_any nm vl dm pa ex ag si true false se hi (n : Int) w
  have HV := Lib.hid fun w => Until_any nm vl dm pa ex ag si true false se hi ((n : Int) + (k : Int)) w
  rw [hU] at HU
  rw [hV] at HV
  have HAl := Lib.hid fun w hw => alive10_any m w hw
  have HA0 : Hid (∀ C : Array Value, (w.alloc (.cells C 24)).heap[w.heap.size]? = some (.cells C 24 (0, 0))) := Lib.hid fun C => heap_alloc_new w _
  have HB0 : Hid (∀ C : Array Value, Below w.heap.size w (w.alloc (.cells C 24))) := Lib.hid fun C => (Below.refl _ _).alloc (Nat.le_refl _) _
  have hnI : (n : Int) < 4294967296 := by omega
  have hkI : (k : Int) < 4294967296 := by omega
  obtain ⟨S, hS, hS1, hS2, hS3⟩ : ∃ S : Int, (n : Int) + 34560000 = S ∧ 34560000 ≤ S ∧ S ≤ 4329527296 ∧ u ≤ S := ⟨_, rfl, by omega, by omega, by omega⟩
  have e1 : (u == -1) = false := beq_eq_false_iff_ne.2 (by omega)
  have e2 : ((0 : Int) == u) = false := beq_eq_false_iff_ne.2 (by omega)
  clear hw hU hV
  go_enter Tryz.func9, Tryz.ntmps9
  go_wp2_with fail
  refine (HU.out _).mono ?_
  rintro e w1 ⟨rfl, b1⟩
  have HB1 := Lib.hid ((HB0.out _).trans (b1.mono (HB0.out _).size))
  have HA1 : Hid (w1.heap[w.heap.size]? = some (.cells #[.string nm, .string vl, .string dm, .string pa, .int .i64 ex, .bool true, .int .i64 ag, .bool false, .bool se, .bool hi, .int .u8 si] 24 (0, 0))) := Lib.hid ((b1.block _ (lt_of_block (HA0.out _))).trans (HA0.out _))
  clear b1
  go_wp2_with (refine scW_load rfl 24 _ rfl w.heap.size ?_ 24 #[.string nm, .string vl, .string dm, .string pa, .int .i64 ex, .bool true, .int .i64 ag, .bool false, .bool se, .bool hi, .int .u8 si] (0, 0) _ ?_ Tryz.underlying24 rfl ?_ ?_; (exact rfl); (exact HA1.out); (exact infoTo))
  refine (HV.out _).mono ?_
  rintro e w2 ⟨rfl, b2⟩
  have HB2 := Lib.hid (HB1.out.trans (b2.mono HB1.out.size))
  have HA2 : Hid (w2.heap[w.heap.size]? = some (.cells #[.string nm, .string vl, .string dm, .string pa, .int .i64 ex, .bool true, .int .i64 ag, .bool false, .bool se, .bool hi, .int .u8 si] 24 (0, 0))) := Lib.hid ((b2.block _ (lt_of_block HA1.out)).trans HA1.out)
  clear b2
  have c7 : w2.cell? ⟨w.heap.size, 7, none⟩ = some (.bool false) := by rw [cell_of_row w2 _ 7 _ _ _ HA2.out]; rfl
  have c5 : w2.cell? ⟨w.heap.size, 5, none⟩ = some (.bool true) := by rw [cell_of_row w2 _ 5 _ _ _ HA2.out]; rfl
  clear hnI hkI
  go_upto_region 7 with (refine scW_load rfl 24 _ rfl w.heap.size ?_ 24 #[.string nm, .string vl, .string dm, .string pa, .int .i64 ex, .bool true, .int .i64 ag, .bool false, .bool se, .bool hi, .int .u8 si] (0, 0) _ ?_ Tryz.underlying24 rfl ?_ ?_; (exact rfl); (exact HA2.out); (exact infoTo))
  go_upto_region 9 with (fail)
  have hlt : w.heap.size < w2.heap.size := lt_of_block HA2.out
  obtain ⟨W5, HW5⟩ : ∃ W, Hid (w2.alloc (.cells #[.string nm, .string vl, .string dm, .string pa, .int .i64 7, .bool true, .int .i64 ag, .bool false, .bool se, .bool hi, .int .u8 si] 24) = W) := ⟨_, Lib.hid rfl⟩
  have HX5 : Hid (W5.heap[w2.heap.size]? = some (.cells #[.string nm, .string vl, .string dm, .string pa, .int .i64 7, .bool true, .int .i64 ag, .bool false, .bool se, .bool hi, .int .u8 si] 24 (0, 0))) := Lib.hid (by rw [← HW5.out]; exact heap_alloc_new w2 _)
  have HA5 : Hid (W5.heap[w.heap.size]? = some (.cells #[.string nm, .string vl, .string dm, .string pa, .int .i64 ex, .bool true, .int .i64 ag, .bool false, .bool se, .bool hi, .int .u8 si] 24 (0, 0))) := Lib.hid (by rw [← HW5.out]; exact (Below.heap_alloc _ _ _ hlt).trans HA2.out)
  have HB5 : Hid (Below w.heap.size w W5) := Lib.hid (by rw [← HW5.out]; exact HB2.out.alloc HB2.out.size _)
  rw [HW5.out]
  clear c7 c5 hlt
  have c7 : W5.cell? ⟨w.heap.size, 7, none⟩ = some (.bool false) := by rw [cell_of_row W5 _ 7 _ _ _ HA5.out]; rfl
  have HB6 := HB5
  have HA6 := HA5
  go_wp2_with fail
  refine (HAl.out _ (HG.out.below HB6.out)).mono ?_
  rintro e w7 ⟨rfl, b7⟩
  have HB7 := Lib.hid (HB6.out.trans (b7.mono HB6.out.size))
  have HA7 : Hid (w7.heap[w.heap.size]? = some (.cells #[.string nm, .string vl, .string dm, .string pa, .int .i64 ex, .bool true, .int .i64 ag, .bool false, .bool se, .bool hi, .int .u8 si] 24 (0, 0))) := Lib.hid ((b7.block _ (lt_of_block HA6.out)).trans HA6.out)
  clear b7 c7
  have c7 : w7.cell? ⟨w.heap.size, 7, none⟩ = some (.bool false) := by rw [cell_of_row w7 _ 7 _ _ _ HA7.out]; rfl
  go_wp2
  go_ret
  exact ⟨rfl, HB7.out⟩

set_option maxHeartbeats 4000000 in
set_option maxRecDepth 100000 in
theorem kuntil_ftZ (nm vl dm pa : ByteArray) (ex ag si : Int) (se hi : Bool) (n k : Nat) (hn : n < 4294967296) (hk : k < 4294967296)  (m : Int) (w : World) (hw : DtG m w)
    (hU : untP ex true ag false n = 0) (hV : untP ex true ag false ((n : Int) + (k : Int)) = 0)  :
    Calls Tryz.prog 9 #[.agg #[.string nm, .string vl, .string dm, .string pa, .int .i64 ex, .bool true, .int .i64 ag, .bool false, .bool se, .bool hi, .int .u8 si], .int .u32 (n : Int), .int .u32 (k : Int)] w fun e w' => e = .returned (.bool true) ∧ Below w.heap.size w w' := by
  have HG := Lib.hid hw
  have HU := Lib.hid fun w => Until_any nm vl dm pa ex ag si true false se hi (n : Int) w
  have HV := Lib.hid fun w => Until_any nm vl dm pa ex ag si true false se hi ((n : Int) + (k : Int)) w
  rw [hU] at HU
  rw [hV] at HV
  have HAl := Lib.hid fun w hw => alive10_any m w hw
  have HA0 : Hid (∀ C : Array Value, (w.alloc (.cells C 24)).heap[w.heap.size]? = some (.cells C 24 (0, 0))) := Lib.hid fun C => heap_alloc_new w _
  have HB0 : Hid (∀ C : Array Value, Below w.heap.size w (w.alloc (.cells C 24))) := Lib.hid fun C => (Below.refl _ _).alloc (Nat.le_refl _) _
  have hnI : (n : Int) < 4294967296 := by omega
  have hkI : (k : Int) < 4294967296 := by omega
  obtain ⟨S, hS, hS1, hS2, hS3⟩ : ∃ S : Int, (n : Int) + 34560000 = S ∧ 34560000 ≤ S ∧ S ≤ 4329527296 ∧ (0:Int) ≤ S := ⟨_, rfl, by omega, by omega, by omega⟩
  clear hw hU hV
  go_enter Tryz.func9, Tryz.ntmps9
  go_wp2_with fail
  refine (HU.out _).mono ?_
  rintro e w1 ⟨rfl, b1⟩
  have HB1 := Lib.hid ((HB0.out _).trans (b1.mono (HB0.out _).size))
  have HA1 : Hid (w1.heap[w.heap.size]? = some (.cells #[.string nm, .string vl, .string dm, .string pa, .int .i64 ex, .bool true, .int .i64 ag, .bool false, .bool se, .bool hi, .int .u8 si] 24 (0, 0))) := Lib.hid ((b1.block _ (lt_of_block (HA0.out _))).trans (HA0.out _))
  clear b1
  go_wp2_with (refine scW_load rfl 24 _ rfl w.heap.size ?_ 24 #[.string nm, .string vl, .string dm, .string pa, .int .i64 ex, .bool true, .int .i64 ag, .bool false, .bool se, .bool hi, .int .u8 si] (0, 0) _ ?_ Tryz.underlying24 rfl ?_ ?_; (exact rfl); (exact HA1.out); (exact infoTo))
  refine (HV.out _).mono ?_
  rintro e w2 ⟨rfl, b2⟩
  have HB2 := Lib.hid (HB1.out.trans (b2.mono HB1.out.size))
  have HA2 : Hid (w2.heap[w.heap.size]? = some (.cells #[.string nm, .string vl, .string dm, .string pa, .int .i64 ex, .bool true, .int .i64 ag, .bool false, .bool se, .bool hi, .int .u8 si] 24 (0, 0))) := Lib.hid ((b2.block _ (lt_of_block HA1.out)).trans HA1.out)
  clear b2
  have c7 : w2.cell? ⟨w.heap.size, 7, none⟩ = some (.bool false) := by rw [cell_of_row w2 _ 7 _ _ _ HA2.out]; rfl
  have c5 : w2.cell? ⟨w.heap.size, 5, none⟩ = some (.bool true) := by rw [cell_of_row w2 _ 5 _ _ _ HA2.out]; rfl
  clear hnI hkI
  go_upto_region 7 with (refine scW_load rfl 24 _ rfl w.heap.size ?_ 24 #[.string nm, .string vl, .string dm, .string pa, .int .i64 ex, .bool true, .int .i64 ag, .bool false, .bool se, .bool hi, .int .u8 si] (0, 0) _ ?_ Tryz.underlying24 rfl ?_ ?_; (exact rfl); (exact HA2.out); (exact infoTo))
  go_upto_region 9 with (fail)
  have hlt : w.heap.size < w2.heap.size := lt_of_block HA2.out
  obtain ⟨W5, HW5⟩ : ∃ W, Hid (w2.alloc (.cells #[.string nm, .string vl, .string dm, .string pa, .int .i64 7, .bool true, .int .i64 ag, .bool false, .bool se, .bool hi, .int .u8 si] 24) = W) := ⟨_, Lib.hid rfl⟩
  have HX5 : Hid (W5.heap[w2.heap.size]? = some (.cells #[.string nm, .string vl, .string dm, .string pa, .int .i64 7, .bool true, .int .i64 ag, .bool false, .bool se, .bool hi, .int .u8 si] 24 (0, 0))) := Lib.hid (by rw [← HW5.out]; exact heap_alloc_new w2 _)
  have HA5 : Hid (W5.heap[w.heap.size]? = some (.cells #[.string nm, .string vl, .string dm, .string pa, .int .i64 ex, .bool true, .int .i64 ag, .bool false, .bool se, .bool hi, .int .u8 si] 24 (0, 0))) := Lib.hid (by rw [← HW5.out]; exact (Below.heap_alloc _ _ _ hlt).trans HA2.out)
  have HB5 : Hid (Below w.heap.size w W5) := Lib.hid (by rw [← HW5.out]; exact HB2.out.alloc HB2.out.size _)
  rw [HW5.out]
  clear c7 c5 hlt
  have c7 : W5.cell? ⟨w.heap.size, 7, none⟩ = some (.bool false) := by rw [cell_of_row W5 _ 7 _ _ _ HA5.out]; rfl
  have HB6 := HB5
  have HA6 := HA5
  go_wp2_with fail
  refine (HAl.out _ (HG.out.below HB6.out)).mono ?_
  rintro e w7 ⟨rfl, b7⟩
  have HB7 := Lib.hid (HB6.out.trans (b7.mono HB6.out.size))
  have HA7 : Hid (w7.heap[w.heap.size]? = some (.cells #[.string nm, .string vl, .string dm, .string pa, .int .i64 ex, .bool true, .int .i64 ag, .bool false, .bool se, .bool hi, .int .u8 si] 24 (0, 0))) := Lib.hid ((b7.block _ (lt_of_block HA6.out)).trans HA6.out)
  clear b7 c7
  have c7 : w7.cell? ⟨w.heap.size, 7, none⟩ = some (.bool false) := by rw [cell_of_row w7 _ 7 _ _ _ HA7.out]; rfl
  go_wp2
  go_ret
  exact ⟨rfl, HB7.out⟩

set_option maxHeartbeats 4000000 in
set_option maxRecDepth 100000 in
theorem kuntil_tfA (nm vl dm pa : ByteArray) (ex ag si : Int) (se hi : Bool) (n k : Nat) (hn : n < 4294967296) (hk : k < 4294967296) (u : Int) (g3 : u ≤ (n : Int) + 34560000) (g4 : 0 < u) (g5 : (n : Int) < u) (m : Int) (w : World) (hw : DtG m w)
    (hU : untP ex false ag true n = u) (hV : untP ex false ag true ((n : Int) + (k : Int)) = u) (hX : untP 7 true ag true n = u) :
    Calls Tryz.prog 9 #[.agg #[.string nm, .string vl, .string dm, .string pa, .int .i64 ex, .bool false, .int .i64 ag, .bool true, .bool se, .bool hi, .int .u8 si], .int .u32 (n : Int), .int .u32 (k : Int)] w fun e w' => e = .returned (.bool true) ∧ Below w.heap.size w w' := by
  have HG := Lib.hid hw
  have HU := Lib.hid fun w => Until_any nm vl dm pa ex ag si false true se hi (n : Int) w
  have HV := Lib.hid fun w => Until_any nm vl dm pa ex ag si false true se hi ((n : Int) + (k : Int)) w
  rw [hU] at HU
  rw [hV] at HV
  have HX := Lib.hid fun w => Until_any nm vl dm pa 7 ag si true true se hi (n : Int) w
  rw [hX] at HX
  clear hX
  have HAl := Lib.hid fun w hw => alive10_any m w hw
  have HA0 : Hid (∀ C : Array Value, (w.alloc (.cells C 24)).heap[w.heap.size]? = some (.cells C 24 (0, 0))) := Lib.hid fun C => heap_alloc_new w _
  have HB0 : Hid (∀ C : Array Value, Below w.heap.size w (w.alloc (.cells C 24))) := Lib.hid fun C => (Below.refl _ _).alloc (Nat.le_refl _) _
  have hnI : (n : Int) < 4294967296 := by omega
  have hkI : (k : Int) < 4294967296 := by omega
  obtain ⟨S, hS, hS1, hS2, hS3⟩ : ∃ S : Int, (n : Int) + 34560000 = S ∧ 34560000 ≤ S ∧ S ≤ 4329527296 ∧ u ≤ S := ⟨_, rfl, by omega, by omega, by omega⟩
  have e1 : (u == -1) = false := beq_eq_false_iff_ne.2 (by omega)
  clear hw hU hV
  go_enter Tryz.func9, Tryz.ntmps9
  go_wp2_with fail
  refine (HU.out _).mono ?_
  rintro e w1 ⟨rfl, b1⟩
  have HB1 := Lib.hid ((HB0.out _).trans (b1.mono (HB0.out _).size))
  have HA1 : Hid (w1.heap[w.heap.size]? = some (.cells #[.string nm, .string vl, .string dm, .string pa, .int .i64 ex, .bool false, .int .i64 ag, .bool true, .bool se, .bool hi, .int .u8 si] 24 (0, 0))) := Lib.hid ((b1.block _ (lt_of_block (HA0.out _))).trans (HA0.out _))
  clear b1
  go_wp2_with (refine scW_load rfl 24 _ rfl w.heap.size ?_ 24 #[.string nm, .string vl, .string dm, .string pa, .int .i64 ex, .bool false, .int .i64 ag, .bool true, .bool se, .bool hi, .int .u8 si] (0, 0) _ ?_ Tryz.underlying24 rfl ?_ ?_; (exact rfl); (exact HA1.out); (exact infoTo))
  refine (HV.out _).mono ?_
  rintro e w2 ⟨rfl, b2⟩
  have HB2 := Lib.hid (HB1.out.trans (b2.mono HB1.out.size))
  have HA2 : Hid (w2.heap[w.heap.size]? = some (.cells #[.string nm, .string vl, .string dm, .string pa, .int .i64 ex, .bool false, .int .i64 ag, .bool true, .bool se, .bool hi, .int .u8 si] 24 (0, 0))) := Lib.hid ((b2.block _ (lt_of_block HA1.out)).trans HA1.out)
  clear b2
  have c7 : w2.cell? ⟨w.heap.size, 7, none⟩ = some (.bool true) := by rw [cell_of_row w2 _ 7 _ _ _ HA2.out]; rfl
  have c5 : w2.cell? ⟨w.heap.size, 5, none⟩ = some (.bool false) := by rw [cell_of_row w2 _ 5 _ _ _ HA2.out]; rfl
  clear hnI hkI
  go_upto_region 7 with (refine scW_load rfl 24 _ rfl w.heap.size ?_ 24 #[.string nm, .string vl, .string dm, .string pa, .int .i64 ex, .bool false, .int .i64 ag, .bool true, .bool se, .bool hi, .int .u8 si] (0, 0) _ ?_ Tryz.underlying24 rfl ?_ ?_; (exact rfl); (exact HA2.out); (exact infoTo))
  go_upto_region 9 with (fail)
  have hlt : w.heap.size < w2.heap.size := lt_of_block HA2.out
  obtain ⟨W5, HW5⟩ : ∃ W, Hid (w2.alloc (.cells #[.string nm, .string vl, .string dm, .string pa, .int .i64 7, .bool true, .int .i64 ag, .bool true, .bool se, .bool hi, .int .u8 si] 24) = W) := ⟨_, Lib.hid rfl⟩
  have HX5 : Hid (W5.heap[w2.heap.size]? = some (.cells #[.string nm, .string vl, .string dm, .string pa, .int .i64 7, .bool true, .int .i64 ag, .bool true, .bool se, .bool hi, .int .u8 si] 24 (0, 0))) := Lib.hid (by rw [← HW5.out]; exact heap_alloc_new w2 _)
  have HA5 : Hid (W5.heap[w.heap.size]? = some (.cells #[.string nm, .string vl, .string dm, .string pa, .int .i64 ex, .bool false, .int .i64 ag, .bool true, .bool se, .bool hi, .int .u8 si] 24 (0, 0))) := Lib.hid (by rw [← HW5.out]; exact (Below.heap_alloc _ _ _ hlt).trans HA2.out)
  have HB5 : Hid (Below w.heap.size w W5) := Lib.hid (by rw [← HW5.out]; exact HB2.out.alloc HB2.out.size _)
  rw [HW5.out]
  clear c7 c5 hlt
  have c7 : W5.cell? ⟨w.heap.size, 7, none⟩ = some (.bool true) := by rw [cell_of_row W5 _ 7 _ _ _ HA5.out]; rfl
  go_wp2_with (refine scW_load rfl 24 _ rfl w2.heap.size ?_ 24 #[.string nm, .string vl, .string dm, .string pa, .int .i64 7, .bool true, .int .i64 ag, .bool true, .bool se, .bool hi, .int .u8 si] (0, 0) _ ?_ Tryz.underlying24 rfl ?_ ?_; (exact rfl); (exact HX5.out); (exact infoTo))
  refine (HX.out _).mono ?_
  rintro e w6 ⟨rfl, b6⟩
  have HB6 := Lib.hid (HB5.out.trans (b6.mono HB5.out.size))
  have HA6 : Hid (w6.heap[w.heap.size]? = some (.cells #[.string nm, .string vl, .string dm, .string pa, .int .i64 ex, .bool false, .int .i64 ag, .bool true, .bool se, .bool hi, .int .u8 si] 24 (0, 0))) := Lib.hid ((b6.block _ (lt_of_block HA5.out)).trans HA5.out)
  clear b6 c7
  have c7 : w6.cell? ⟨w.heap.size, 7, none⟩ = some (.bool true) := by rw [cell_of_row w6 _ 7 _ _ _ HA6.out]; rfl
  go_wp2_with fail
  refine (HAl.out _ (HG.out.below HB6.out)).mono ?_
  rintro e w7 ⟨rfl, b7⟩
  have HB7 := Lib.hid (HB6.out.trans (b7.mono HB6.out.size))
  have HA7 : Hid (w7.heap[w.heap.size]? = some (.cells #[.string nm, .string vl, .string dm, .string pa, .int .i64 ex, .bool false, .int .i64 ag, .bool true, .bool se, .bool hi, .int .u8 si] 24 (0, 0))) := Lib.hid ((b7.block _ (lt_of_block HA6.out)).trans HA6.out)
  clear b7 c7
  have c7 : w7.cell? ⟨w.heap.size, 7, none⟩ = some (.bool true) := by rw [cell_of_row w7 _ 7 _ _ _ HA7.out]; rfl
  go_wp2
  go_ret
  exact ⟨rfl, HB7.out⟩

set_option maxHeartbeats 4000000 in
set_option maxRecDepth 100000 in
theorem kuntil_tfC (nm vl dm pa : ByteArray) (ex ag si : Int) (se hi : Bool) (n k : Nat) (hn : n < 4294967296) (hk : k < 4294967296) (u v : Int) (g3 : u ≤ (n : Int) + 34560000) (g4 : 0 < u) (g5 : (n : Int) < u) (g6 : u < v) (m : Int) (w : World) (hw : DtG m w)
    (hU : untP ex false ag true n = u) (hV : untP ex false ag true ((n : Int) + (k : Int)) = v) (hX : untP 7 true ag true n = u) :
    Calls Tryz.prog 9 #[.agg #[.string nm, .string vl, .string dm, .string pa, .int .i64 ex, .bool false, .int .i64 ag, .bool true, .bool se, .bool hi, .int .u8 si], .int .u32 (n : Int), .int .u32 (k : Int)] w fun e w' => e = .returned (.bool true) ∧ Below w.heap.size w w' := by
  have HG := Lib.hid hw
  have HU := Lib.hid fun w => Until_any nm vl dm pa ex ag si false true se hi (n : Int) w
  have HV := Lib.hid fun w => Until_any nm vl dm pa ex ag si false true se hi ((n : Int) + (k : Int)) w
  rw [hU] at HU
  rw [hV] at HV
  have HX := Lib.hid fun w => Until_any nm vl dm pa 7 ag si true true se hi (n : Int) w
  rw [hX] at HX
  clear hX
  have HAl := Lib.hid fun w hw => alive10_any m w hw
  have HA0 : Hid (∀ C : Array Value, (w.alloc (.cells C 24)).heap[w.heap.size]? = some (.cells C 24 (0, 0))) := Lib.hid fun C => heap_alloc_new w _
  have HB0 : Hid (∀ C : Array Value, Below w.heap.size w (w.alloc (.cells C 24))) := Lib.hid fun C => (Below.refl _ _).alloc (Nat.le_refl _) _
  have hnI : (n : Int) < 4294967296 := by omega
  have hkI : (k : Int) < 4294967296 := by omega
  obtain ⟨S, hS, hS1, hS2, hS3⟩ : ∃ S : Int, (n : Int) + 34560000 = S ∧ 34560000 ≤ S ∧ S ≤ 4329527296 ∧ u ≤ S := ⟨_, rfl, by omega, by omega, by omega⟩
  have e1 : (u == -1) = false := beq_eq_false_iff_ne.2 (by omega)
  have e2 : (v == u) = false := beq_eq_false_iff_ne.2 (by omega)
  have e3 : (v == 0) = false := beq_eq_false_iff_ne.2 (by omega)
  clear hw hU hV
  go_enter Tryz.func9, Tryz.ntmps9
  go_wp2_with fail
  refine (HU.out _).mono ?_
  rintro e w1 ⟨rfl, b1⟩
  have HB1 := Lib.hid ((HB0.out _).trans (b1.mono (HB0.out _).size))
  have HA1 : Hid (w1.heap[w.heap.size]? = some (.cells #[.string nm, .string vl, .string dm, .string pa, .int .i64 ex, .bool false, .int .i64 ag, .bool true, .bool se, .bool hi, .int .u8 si] 24 (0, 0))) := Lib.hid ((b1.block _ (lt_of_block (HA0.out _))).trans (HA0.out _))
  clear b1
  go_wp2_with (refine scW_load rfl 24 _ rfl w.heap.size ?_ 24 #[.string nm, .string vl, .string dm, .string pa, .int .i64 ex, .bool false, .int .i64 ag, .bool true, .bool se, .bool hi, .int .u8 si] (0, 0) _ ?_ Tryz.underlying24 rfl ?_ ?_; (exact rfl); (exact HA1.out); (exact infoTo))
  refine (HV.out _).mono ?_
  rintro e w2 ⟨rfl, b2⟩
  have HB2 := Lib.hid (HB1.out.trans (b2.mono HB1.out.size))
  have HA2 : Hid (w2.heap[w.heap.size]? = some (.cells #[.string nm, .string vl, .string dm, .string pa, .int .i64 ex, .bool false, .int .i64 ag, .bool true, .bool se, .bool hi, .int .u8 si] 24 (0, 0))) := Lib.hid ((b2.block _ (lt_of_block HA1.out)).trans HA1.out)
  clear b2
  have c7 : w2.cell? ⟨w.heap.size, 7, none⟩ = some (.bool true) := by rw [cell_of_row w2 _ 7 _ _ _ HA2.out]; rfl
  have c5 : w2.cell? ⟨w.heap.size, 5, none⟩ = some (.bool false) := by rw [cell_of_row w2 _ 5 _ _ _ HA2.out]; rfl
  clear hnI hkI
  go_upto_region 7 with (refine scW_load rfl 24 _ rfl w.heap.size ?_ 24 #[.string nm, .string vl, .string dm, .string pa, .int .i64 ex, .bool false, .int .i64 ag, .bool true, .bool se, .bool hi, .int .u8 si] (0, 0) _ ?_ Tryz.underlying24 rfl ?_ ?_; (exact rfl); (exact HA2.out); (exact infoTo))
  go_upto_region 9 with (fail)
  have hlt : w.heap.size < w2.heap.size := lt_of_block HA2.out
  obtain ⟨W5, HW5⟩ : ∃ W, Hid (w2.alloc (.cells #[.string nm, .string vl, .string dm, .string pa, .int .i64 7, .bool true, .int .i64 ag, .bool true, .bool se, .bool hi, .int .u8 si] 24) = W) := ⟨_, Lib.hid rfl⟩
  have HX5 : Hid (W5.heap[w2.heap.size]? = some (.cells #[.string nm, .string vl, .string dm, .string pa, .int .i64 7, .bool true, .int .i64 ag, .bool true, .bool se, .bool hi, .int .u8 si] 24 (0, 0))) := Lib.hid (by rw [← HW5.out]; exact heap_alloc_new w2 _)
  have HA5 : Hid (W5.heap[w.heap.size]? = some (.cells #[.string nm, .string vl, .string dm, .string pa, .int .i64 ex, .bool false, .int .i64 ag, .bool true, .bool se, .bool hi, .int .u8 si] 24 (0, 0))) := Lib.hid (by rw [← HW5.out]; exact (Below.heap_alloc _ _ _ hlt).trans HA2.out)
  have HB5 : Hid (Below w.heap.size w W5) := Lib.hid (by rw [← HW5.out]; exact HB2.out.alloc HB2.out.size _)
  rw [HW5.out]
  clear c7 c5 hlt
  have c7 : W5.cell? ⟨w.heap.size, 7, none⟩ = some (.bool true) := by rw [cell_of_row W5 _ 7 _ _ _ HA5.out]; rfl
  go_wp2_with (refine scW_load rfl 24 _ rfl w2.heap.size ?_ 24 #[.string nm, .string vl, .string dm, .string pa, .int .i64 7, .bool true, .int .i64 ag, .bool true, .bool se, .bool hi, .int .u8 si] (0, 0) _ ?_ Tryz.underlying24 rfl ?_ ?_; (exact rfl); (exact HX5.out); (exact infoTo))
  refine (HX.out _).mono ?_
  rintro e w6 ⟨rfl, b6⟩
  have HB6 := Lib.hid (HB5.out.trans (b6.mono HB5.out.size))
  have HA6 : Hid (w6.heap[w.heap.size]? = some (.cells #[.string nm, .string vl, .string dm, .string pa, .int .i64 ex, .bool false, .int .i64 ag, .bool true, .bool se, .bool hi, .int .u8 si] 24 (0, 0))) := Lib.hid ((b6.block _ (lt_of_block HA5.out)).trans HA5.out)
  clear b6 c7
  have c7 : w6.cell? ⟨w.heap.size, 7, none⟩ = some (.bool true) := by rw [cell_of_row w6 _ 7 _ _ _ HA6.out]; rfl
  go_wp2_with fail
  refine (HAl.out _ (HG.out.below HB6.out)).mono ?_
  rintro e w7 ⟨rfl, b7⟩
  have HB7 := Lib.hid (HB6.out.trans (b7.mono HB6.out.size))
  have HA7 : Hid (w7.heap[w.heap.size]? = some (.cells #[.string nm, .string vl, .string dm, .string pa, .int .i64 ex, .bool false, .int .i64 ag, .bool true, .bool se, .bool hi, .int .u8 si] 24 (0, 0))) := Lib.hid ((b7.block _ (lt_of_block HA6.out)).trans HA6.out)
  clear b7 c7
  have c7 : w7.cell? ⟨w.heap.size, 7, none⟩ = some (.bool true) := by rw [cell_of_row w7 _ 7 _ _ _ HA7.out]; rfl
  go_wp2
  go_ret
  exact ⟨rfl, HB7.out⟩

set_option maxHeartbeats 4000000 in
set_option maxRecDepth 100000 in
theorem kuntil_tfZ (nm vl dm pa : ByteArray) (ex ag si : Int) (se hi : Bool) (n k : Nat) (hn : n < 4294967296) (hk : k < 4294967296)  (m : Int) (w : World) (hw : DtG m w)
    (hU : untP ex false ag true n = 0) (hV : untP ex false ag true ((n : Int) + (k : Int)) = 0) (hX : untP 7 true ag true n = 0) :
    Calls Tryz.prog 9 #[.agg #[.string nm, .string vl, .string dm, .string pa, .int .i64 ex, .bool false, .int .i64 ag, .bool true, .bool se, .bool hi, .int .u8 si], .int .u32 (n : Int), .int .u32 (k : Int)] w fun e w' => e = .returned (.bool true) ∧ Below w.heap.size w w' := by
  have HG := Lib.hid hw
  have HU := Lib.hid fun w => Until_any nm vl dm pa ex ag si false true se hi (n : Int) w
  have HV := Lib.hid fun w => Until_any nm vl dm pa ex ag si false true se hi ((n : Int) + (k : Int)) w
  rw [hU] at HU
  rw [hV] at HV
  have HX := Lib.hid fun w => Until_any nm vl dm pa 7 ag si true true se hi (n : Int) w
  rw [hX] at HX
  clear hX
  have HAl := Lib.hid fun w hw => alive10_any m w hw
  have HA0 : Hid (∀ C : Array Value, (w.alloc (.cells C 24)).heap[w.heap.size]? = some (.cells C 24 (0, 0))) := Lib.hid fun C => heap_alloc_new w _
  have HB0 : Hid (∀ C : Array Value, Below w.heap.size w (w.alloc (.cells C 24))) := Lib.hid fun C => (Below.refl _ _).alloc (Nat.le_refl _) _
  have hnI : (n : Int) < 4294967296 := by omega
  have hkI : (k : Int) < 4294967296 := by omega
  obtain ⟨S, hS, hS1, hS2, hS3⟩ : ∃ S : Int, (n : Int) + 34560000 = S ∧ 34560000 ≤ S ∧ S ≤ 4329527296 ∧ (0:Int) ≤ S := ⟨_, rfl, by omega, by omega, by omega⟩
  clear hw hU hV
  go_enter Tryz.func9, Tryz.ntmps9
  go_wp2_with fail
  refine (HU.out _).mono ?_
  rintro e w1 ⟨rfl, b1⟩
  have HB1 := Lib.hid ((HB0.out _).trans (b1.mono (HB0.out _).size))
  have HA1 : Hid (w1.heap[w.heap.size]? = some (.cells #[.string nm, .string vl, .string dm, .string pa, .int .i64 ex, .bool false, .int .i64 ag, .bool true, .bool se, .bool hi, .int .u8 si] 24 (0, 0))) := Lib.hid ((b1.block _ (lt_of_block (HA0.out _))).trans (HA0.out _))
  clear b1
  go_wp2_with (refine scW_load rfl 24 _ rfl w.heap.size ?_ 24 #[.string nm, .string vl, .string dm, .string pa, .int .i64 ex, .bool false, .int .i64 ag, .bool true, .bool se, .bool hi, .int .u8 si] (0, 0) _ ?_ Tryz.underlying24 rfl ?_ ?_; (exact rfl); (exact HA1.out); (exact infoTo))
  refine (HV.out _).mono ?_
  rintro e w2 ⟨rfl, b2⟩
  have HB2 := Lib.hid (HB1.out.trans (b2.mono HB1.out.size))
  have HA2 : Hid (w2.heap[w.heap.size]? = some (.cells #[.string nm, .string vl, .string dm, .string pa, .int .i64 ex, .bool false, .int .i64 ag, .bool true, .bool se, .bool hi, .int .u8 si] 24 (0, 0))) := Lib.hid ((b2.block _ (lt_of_block HA1.out)).trans HA1.out)
  clear b2
  have c7 : w2.cell? ⟨w.heap.size, 7, none⟩ = some (.bool true) := by rw [cell_of_row w2 _ 7 _ _ _ HA2.out]; rfl
  have c5 : w2.cell? ⟨w.heap.size, 5, none⟩ = some (.bool false) := by rw [cell_of_row w2 _ 5 _ _ _ HA2.out]; rfl
  clear hnI hkI
  go_upto_region 7 with (refine scW_load rfl 24 _ rfl w.heap.size ?_ 24 #[.string nm, .string vl, .string dm, .string pa, .int .i64 ex, .bool false, .int .i64 ag, .bool true, .bool se, .bool hi, .int .u8 si] (0, 0) _ ?_ Tryz.underlying24 rfl ?_ ?_; (exact rfl); (exact HA2.out); (exact infoTo))
  go_upto_region 9 with (fail)
  have hlt : w.heap.size < w2.heap.size := lt_of_block HA2.out
  obtain ⟨W5, HW5⟩ : ∃ W, Hid (w2.alloc (.cells #[.string nm, .string vl, .string dm, .string pa, .int .i64 7, .bool true, .int .i64 ag, .bool true, .bool se, .bool hi, .int .u8 si] 24) = W) := ⟨_, Lib.hid rfl⟩
  have HX5 : Hid (W5.heap[w2.heap.size]? = some (.cells #[.string nm, .string vl, .string dm, .string pa, .int .i64 7, .bool true, .int .i64 ag, .bool true, .bool se, .bool hi, .int .u8 si] 24 (0, 0))) := Lib.hid (by rw [← HW5.out]; exact heap_alloc_new w2 _)
  have HA5 : Hid (W5.heap[w.heap.size]? = some (.cells #[.string nm, .string vl, .string dm, .string pa, .int .i64 ex, .bool false, .int .i64 ag, .bool true, .bool se, .bool hi, .int .u8 si] 24 (0, 0))) := Lib.hid (by rw [← HW5.out]; exact (Below.heap_alloc _ _ _ hlt).trans HA2.out)
  have HB5 : Hid (Below w.heap.size w W5) := Lib.hid (by rw [← HW5.out]; exact HB2.out.alloc HB2.out.size _)
  rw [HW5.out]
  clear c7 c5 hlt
  have c7 : W5.cell? ⟨w.heap.size, 7, none⟩ = some (.bool true) := by rw [cell_of_row W5 _ 7 _ _ _ HA5.out]; rfl
  go_wp2_with (refine scW_load rfl 24 _ rfl w2.heap.size ?_ 24 #[.string nm, .string vl, .string dm, .string pa, .int .i64 7, .bool true, .int .i64 ag, .bool true, .bool se, .bool hi, .int .u8 si] (0, 0) _ ?_ Tryz.underlying24 rfl ?_ ?_; (exact rfl); (exact HX5.out); (exact infoTo))
  refine (HX.out _).mono ?_
  rintro e w6 ⟨rfl, b6⟩
  have HB6 := Lib.hid (HB5.out.trans (b6.mono HB5.out.size))
  have HA6 : Hid (w6.heap[w.heap.size]? = some (.cells #[.string nm, .string vl, .string dm, .string pa, .int .i64 ex, .bool false, .int .i64 ag, .bool true, .bool se, .bool hi, .int .u8 si] 24 (0, 0))) := Lib.hid ((b6.block _ (lt_of_block HA5.out)).trans HA5.out)
  clear b6 c7
  have c7 : w6.cell? ⟨w.heap.size, 7, none⟩ = some (.bool true) := by rw [cell_of_row w6 _ 7 _ _ _ HA6.out]; rfl
  go_wp2_with fail
  refine (HAl.out _ (HG.out.below HB6.out)).mono ?_
  rintro e w7 ⟨rfl, b7⟩
  have HB7 := Lib.hid (HB6.out.trans (b7.mono HB6.out.size))
  have HA7 : Hid (w7.heap[w.heap.size]? = some (.cells #[.string nm, .string vl, .string dm, .string pa, .int .i64 ex, .bool false, .int .i64 ag, .bool true, .bool se, .bool hi, .int .u8 si] 24 (0, 0))) := Lib.hid ((b7.block _ (lt_of_block HA6.out)).trans HA6.out)
  clear b7 c7
  have c7 : w7.cell? ⟨w.heap.size, 7, none⟩ = some (.bool true) := by rw [cell_of_row w7 _ 7 _ _ _ HA7.out]; rfl
  go_wp2
  go_ret
  exact ⟨rfl, HB7.out⟩

set_option maxHeartbeats 4000000 in
set_option maxRecDepth 100000 in
theorem kuntil_ttA (nm vl dm pa : ByteArray) (ex ag si : Int) (se hi : Bool) (n k : Nat) (hn : n < 4294967296) (hk : k < 4294967296) (u : Int) (g3 : u ≤ (n : Int) + 34560000) (g4 : 0 < u) (g5 : (n : Int) < u) (m : Int) (w : World) (hw : DtG m w)
    (hU : untP ex true ag true n = u) (hV : untP ex true ag true ((n : Int) + (k : Int)) = u) (hX : untP 7 true ag true n = u) :
    Calls Tryz.prog 9 #[.agg #[.string nm, .string vl, .string dm, .string pa, .int .i64 ex, .bool true, .int .i64 ag, .bool true, .bool se, .bool hi, .int .u8 si], .int .u32 (n : Int), .int .u32 (k : Int)] w fun e w' => e = .returned (.bool true) ∧ Below w.heap.size w w' := by
  have HG := Lib.hid hw
  have HU := Lib.hid fun w => Until_any nm vl dm pa ex ag si true true se hi (n : Int) w
  have HV := Lib.hid fun w => Until_any nm vl dm pa ex ag si true true se hi ((n : Int) + (k : Int)) w
  rw [hU] at HU
  rw [hV] at HV
  have HX := Lib.hid fun w => Until_any nm vl dm pa 7 ag si true true se hi (n : Int) w
  rw [hX] at HX
  clear hX
  have HAl := Lib.hid fun w hw => alive10_any m w hw
  have HA0 : Hid (∀ C : Array Value, (w.alloc (.cells C 24)).heap[w.heap.size]? = some (.cells C 24 (0, 0))) := Lib.hid fun C => heap_alloc_new w _
  have HB0 : Hid (∀ C : Array Value, Below w.heap.size w (w.alloc (.cells C 24))) := Lib.hid fun C => (Below.refl _ _).alloc (Nat.le_refl _) _
  have hnI : (n : Int) < 4294967296 := by omega
  have hkI : (k : Int) < 4294967296 := by omega
  obtain ⟨S, hS, hS1, hS2, hS3⟩ : ∃ S : Int, (n : Int) + 34560000 = S ∧ 34560000 ≤ S ∧ S ≤ 4329527296 ∧ u ≤ S := ⟨_, rfl, by omega, by omega, by omega⟩
  have e1 : (u == -1) = false := beq_eq_false_iff_ne.2 (by omega)
  clear hw hU hV
  go_enter Tryz.func9, Tryz.ntmps9
  go_wp2_with fail
  refine (HU.out _).mono ?_
  rintro e w1 ⟨rfl, b1⟩
  have HB1 := Lib.hid ((HB0.out _).trans (b1.mono (HB0.out _).size))
  have HA1 : Hid (w1.heap[w.heap.size]? = some (.cells #[.string nm, .string vl, .string dm, .string pa, .int .i64 ex, .bool true, .int .i64 ag, .bool true, .bool se, .bool hi, .int .u8 si] 24 (0, 0))) := Lib.hid ((b1.block _ (lt_of_block (HA0.out _))).trans (HA0.out _))
  clear b1
  go_wp2_with (refine scW_load rfl 24 _ rfl w.heap.size ?_ 24 #[.string nm, .string vl, .string dm, .string pa, .int .i64 ex, .bool true, .int .i64 ag, .bool true, .bool se, .bool hi, .int .u8 si] (0, 0) _ ?_ Tryz.underlying24 rfl ?_ ?_; (exact rfl); (exact HA1.out); (exact infoTo))
  refine (HV.out _).mono ?_
  rintro e w2 ⟨rfl, b2⟩
  have HB2 := Lib.hid (HB1.out.trans (b2.mono HB1.out.size))
  have HA2 : Hid (w2.heap[w.heap.size]? = some (.cells #[.string nm, .string vl, .string dm, .string pa, .int .i64 ex, .bool true, .int .i64 ag, .bool true, .bool se, .bool hi, .int .u8 si] 24 (0, 0))) := Lib.hid ((b2.block _ (lt_of_block HA1.out)).trans HA1.out)
  clear b2
  have c7 : w2.cell? ⟨w.heap.size, 7, none⟩ = some (.bool true) := by rw [cell_of_row w2 _ 7 _ _ _ HA2.out]; rfl
  have c5 : w2.cell? ⟨w.heap.size, 5, none⟩ = some (.bool true) := by rw [cell_of_row w2 _ 5 _ _ _ HA2.out]; rfl
  clear hnI hkI
  go_upto_region 7 with (refine scW_load rfl 24 _ rfl w.heap.size ?_ 24 #[.string nm, .string vl, .string dm, .string pa, .int .i64 ex, .bool true, .int .i64 ag, .bool true, .bool se, .bool hi, .int .u8 si] (0, 0) _ ?_ Tryz.underlying24 rfl ?_ ?_; (exact rfl); (exact HA2.out); (exact infoTo))
  go_upto_region 9 with (fail)
  have hlt : w.heap.size < w2.heap.size := lt_of_block HA2.out
  obtain ⟨W5, HW5⟩ : ∃ W, Hid (w2.alloc (.cells #[.string nm, .string vl, .string dm, .string pa, .int .i64 7, .bool true, .int .i64 ag, .bool true, .bool se, .bool hi, .int .u8 si] 24) = W) := ⟨_, Lib.hid rfl⟩
  have HX5 : Hid (W5.heap[w2.heap.size]? = some (.cells #[.string nm, .string vl, .string dm, .string pa, .int .i64 7, .bool true, .int .i64 ag, .bool true, .bool se, .bool hi, .int .u8 si] 24 (0, 0))) := Lib.hid (by rw [← HW5.out]; exact heap_alloc_new w2 _)
  have HA5 : Hid (W5.heap[w.heap.size]? = some (.cells #[.string nm, .string vl, .string dm, .string pa, .int .i64 ex, .bool true, .int .i64 ag, .bool true, .bool se, .bool hi, .int .u8 si] 24 (0, 0))) := Lib.hid (by rw [← HW5.out]; exact (Below.heap_alloc _ _ _ hlt).trans HA2.out)
  have HB5 : Hid (Below w.heap.size w W5) := Lib.hid (by rw [← HW5.out]; exact HB2.out.alloc HB2.out.size _)
  rw [HW5.out]
  clear c7 c5 hlt
  have c7 : W5.cell? ⟨w.heap.size, 7, none⟩ = some (.bool true) := by rw [cell_of_row W5 _ 7 _ _ _ HA5.out]; rfl
  go_wp2_with (refine scW_load rfl 24 _ rfl w2.heap.size ?_ 24 #[.string nm, .string vl, .string dm, .string pa, .int .i64 7, .bool true, .int .i64 ag, .bool true, .bool se, .bool hi, .int .u8 si] (0, 0) _ ?_ Tryz.underlying24 rfl ?_ ?_; (exact rfl); (exact HX5.out); (exact infoTo))
  refine (HX.out _).mono ?_
  rintro e w6 ⟨rfl, b6⟩
  have HB6 := Lib.hid (HB5.out.trans (b6.mono HB5.out.size))
  have HA6 : Hid (w6.heap[w.heap.size]? = some (.cells #[.string nm, .string vl, .string dm, .string pa, .int .i64 ex, .bool true, .int .i64 ag, .bool true, .bool se, .bool hi, .int .u8 si] 24 (0, 0))) := Lib.hid ((b6.block _ (lt_of_block HA5.out)).trans HA5.out)
  clear b6 c7
  have c7 : w6.cell? ⟨w.heap.size, 7, none⟩ = some (.bool true) := by rw [cell_of_row w6 _ 7 _ _ _ HA6.out]; rfl
  go_wp2_with fail
  refine (HAl.out _ (HG.out.below HB6.out)).mono ?_
  rintro e w7 ⟨rfl, b7⟩
  have HB7 := Lib.hid (HB6.out.trans (b7.mono HB6.out.size))
  have HA7 : Hid (w7.heap[w.heap.size]? = some (.cells #[.string nm, .string vl, .string dm, .string pa, .int .i64 ex, .bool true, .int .i64 ag, .bool true, .bool se, .bool hi, .int .u8 si] 24 (0, 0))) := Lib.hid ((b7.block _ (lt_of_block HA6.out)).trans HA6.out)
  clear b7 c7
  have c7 : w7.cell? ⟨w.heap.size, 7, none⟩ = some (.bool true) := by rw [cell_of_row w7 _ 7 _ _ _ HA7.out]; rfl
  go_wp2
  go_ret
  exact ⟨rfl, HB7.out⟩

set_option maxHeartbeats 4000000 in
set_option maxRecDepth 100000 in
theorem kuntil_ttC (nm vl dm pa : ByteArray) (ex ag si : Int) (se hi : Bool) (n k : Nat) (hn : n < 4294967296) (hk : k < 4294967296) (u v : Int) (g3 : u ≤ (n : Int) + 34560000) (g4 : 0 < u) (g5 : (n : Int) < u) (g6 : u < v) (m : Int) (w : World) (hw : DtG m w)
    (hU : untP ex true ag true n = u) (hV : untP ex true ag true ((n : Int) + (k : Int)) = v) (hX : untP 7 true ag true n = u) :
    Calls Tryz.prog 9 #[.agg #[.string nm, .string vl, .string dm, .string pa, .int .i64 ex, .bool true, .int .i64 ag, .bool true, .bool se, .bool hi, .int .u8 si], .int .u32 (n : Int), .int .u32 (k : Int)] w fun e w' => e = .returned (.bool true) ∧ Below w.heap.size w w' := by
  have HG := Lib.hid hw
  have HU := Lib.hid fun w => Until_any nm vl dm pa ex ag si true true se hi (n : Int) w
  have HV := Lib.hid fun w => Until_any nm vl dm pa ex ag si true true se hi ((n : Int) + (k : Int)) w
  rw [hU] at HU
  rw [hV] at HV
  have HX := Lib.hid fun w => Until_any nm vl dm pa 7 ag si true true se hi (n : Int) w
  rw [hX] at HX
  clear hX
  have HAl := Lib.hid fun w hw => alive10_any m w hw
  have HA0 : Hid (∀ C : Array Value, (w.alloc (.cells C 24)).heap[w.heap.size]? = some (.cells C 24 (0, 0))) := Lib.hid fun C => heap_alloc_new w _
  have HB0 : Hid (∀ C : Array Value, Below w.heap.size w (w.alloc (.cells C 24))) := Lib.hid fun C => (Below.refl _ _).alloc (Nat.le_refl _) _
  have hnI : (n : Int) < 4294967296 := by omega
  have hkI : (k : Int) < 4294967296 := by omega
  obtain ⟨S, hS, hS1, hS2, hS3⟩ : ∃ S : Int, (n : Int) + 34560000 = S ∧ 34560000 ≤ S ∧ S ≤ 4329527296 ∧ u ≤ S := ⟨_, rfl, by omega, by omega, by omega⟩
  have e1 : (u == -1) = false := beq_eq_false_iff_ne.2 (by omega)
  have e2 : (v == u) = false := beq_eq_false_iff_ne.2 (by omega)
  have e3 : (v == 0) = false := beq_eq_false_iff_ne.2 (by omega)
  clear hw hU hV
  go_enter Tryz.func9, Tryz.ntmps9
  go_wp2_with fail
  refine (HU.out _).mono ?_
  rintro e w1 ⟨rfl, b1⟩
  have HB1 := Lib.hid ((HB0.out _).trans (b1.mono (HB0.out _).size))
  have HA1 : Hid (w1.heap[w.heap.size]? = some (.cells #[.string nm, .string vl, .string dm, .string pa, .int .i64 ex, .bool true, .int .i64 ag, .bool true, .bool se, .bool hi, .int .u8 si] 24 (0, 0))) := Lib.hid ((b1.block _ (lt_of_block (HA0.out _))).trans (HA0.out _))
  clear b1
  go_wp2_with (refine scW_load rfl 24 _ rfl w.heap.size ?_ 24 #[.string nm, .string vl, .string dm, .string pa, .int .i64 ex, .bool true, .int .i64 ag, .bool true, .bool se, .bool hi, .int .u8 si] (0, 0) _ ?_ Tryz.underlying24 rfl ?_ ?_; (exact rfl); (exact HA1.out); (exact infoTo))
  refine (HV.out _).mono ?_
  rintro e w2 ⟨rfl, b2⟩
  have HB2 := Lib.hid (HB1.out.trans (b2.mono HB1.out.size))
  have HA2 : Hid (w2.heap[w.heap.size]? = some (.cells #[.string nm, .string vl, .string dm, .string pa, .int .i64 ex, .bool true, .int .i64 ag, .bool true, .bool se, .bool hi, .int .u8 si] 24 (0, 0))) := Lib.hid ((b2.block _ (lt_of_block HA1.out)).trans HA1.out)
  clear b2
  have c7 : w2.cell? ⟨w.heap.size, 7, none⟩ = some (.bool true) := by rw [cell_of_row w2 _ 7 _ _ _ HA2.out]; rfl
  have c5 : w2.cell? ⟨w.heap.size, 5, none⟩ = some (.bool true) := by rw [cell_of_row w2 _ 5 _ _ _ HA2.out]; rfl
  clear hnI hkI
  go_upto_region 7 with (refine scW_load rfl 24 _ rfl w.heap.size ?_ 24 #[.string nm, .string vl, .string dm, .string pa, .int .i64 ex, .bool true, .int .i64 ag, .bool true, .bool se, .bool hi, .int .u8 si] (0, 0) _ ?_ Tryz.underlying24 rfl ?_ ?_; (exact rfl); (exact HA2.out); (exact infoTo))
  go_upto_region 9 with (fail)
  have hlt : w.heap.size < w2.heap.size := lt_of_block HA2.out
  obtain ⟨W5, HW5⟩ : ∃ W, Hid (w2.alloc (.cells #[.string nm, .string vl, .string dm, .string pa, .int .i64 7, .bool true, .int .i64 ag, .bool true, .bool se, .bool hi, .int .u8 si] 24) = W) := ⟨_, Lib.hid rfl⟩
  have HX5 : Hid (W5.heap[w2.heap.size]? = some (.cells #[.string nm, .string vl, .string dm, .string pa, .int .i64 7, .bool true, .int .i64 ag, .bool true, .bool se, .bool hi, .int .u8 si] 24 (0, 0))) := Lib.hid (by rw [← HW5.out]; exact heap_alloc_new w2 _)
  have HA5 : Hid (W5.heap[w.heap.size]? = some (.cells #[.string nm, .string vl, .string dm, .string pa, .int .i64 ex, .bool true, .int .i64 ag, .bool true, .bool se, .bool hi, .int .u8 si] 24 (0, 0))) := Lib.hid (by rw [← HW5.out]; exact (Below.heap_alloc _ _ _ hlt).trans HA2.out)
  have HB5 : Hid (Below w.heap.size w W5) := Lib.hid (by rw [← HW5.out]; exact HB2.out.alloc HB2.out.size _)
  rw [HW5.out]
  clear c7 c5 hlt
  have c7 : W5.cell? ⟨w.heap.size, 7, none⟩ = some (.bool true) := by rw [cell_of_row W5 _ 7 _ _ _ HA5.out]; rfl
  go_wp2_with (refine scW_load rfl 24 _ rfl w2.heap.size ?_ 24 #[.string nm, .string vl, .string dm, .string pa, .int .i64 7, .bool true, .int .i64 ag, .bool true, .bool se, .bool hi, .int .u8 si] (0, 0) _ ?_ Tryz.underlying24 rfl ?_ ?_; (exact rfl); (exact HX5.out); (exact infoTo))
  refine (HX.out _).mono ?_
  rintro e w6 ⟨rfl, b6⟩
  have HB6 := Lib.hid (HB5.out.trans (b6.mono HB5.out.size))
  have HA6 : Hid (w6.heap[w.heap.size]? = some (.cells #[.string nm, .string vl, .string dm, .string pa, .int .i64 ex, .bool true, .int .i64 ag, .bool true, .bool se, .bool hi, .int .u8 si] 24 (0, 0))) := Lib.hid ((b6.block _ (lt_of_block HA5.out)).trans HA5.out)
  clear b6 c7
  have c7 : w6.cell? ⟨w.heap.size, 7, none⟩ = some (.bool true) := by rw [cell_of_row w6 _ 7 _ _ _ HA6.out]; rfl
  go_wp2_with fail
  refine (HAl.out _ (HG.out.below HB6.out)).mono ?_
  rintro e w7 ⟨rfl, b7⟩
  have HB7 := Lib.hid (HB6.out.trans (b7.mono HB6.out.size))
  have HA7 : Hid (w7.heap[w.heap.size]? = some (.cells #[.string nm, .string vl, .string dm, .string pa, .int .i64 ex, .bool true, .int .i64 ag, .bool true, .bool se, .bool hi, .int .u8 si] 24 (0, 0))) := Lib.hid ((b7.block _ (lt_of_block HA6.out)).trans HA6.out)
  clear b7 c7
  have c7 : w7.cell? ⟨w.heap.size, 7, none⟩ = some (.bool true) := by rw [cell_of_row w7 _ 7 _ _ _ HA7.out]; rfl
  go_wp2
  go_ret
  exact ⟨rfl, HB7.out⟩

set_option maxHeartbeats 4000000 in
set_option maxRecDepth 100000 in
theorem kuntil_ttZ (nm vl dm pa : ByteArray) (ex ag si : Int) (se hi : Bool) (n k : Nat) (hn : n < 4294967296) (hk : k < 4294967296)  (m : Int) (w : World) (hw : DtG m w)
    (hU : untP ex true ag true n = 0) (hV : untP ex true ag true ((n : Int) + (k : Int)) = 0) (hX : untP 7 true ag true n = 0) :
    Calls Tryz.prog 9 #[.agg #[.string nm, .string vl, .string dm, .string pa, .int .i64 ex, .bool true, .int .i64 ag, .bool true, .bool se, .bool hi, .int .u8 si], .int .u32 (n : Int), .int .u32 (k : Int)] w fun e w' => e = .returned (.bool true) ∧ Below w.heap.size w w' := by
  have HG := Lib.hid hw
  have HU := Lib.hid fun w => Until_any nm vl dm pa ex ag si true true se hi (n : Int) w
  have HV := Lib.hid fun w => Until_any nm vl dm pa ex ag si true true se hi ((n : Int) + (k : Int)) w
  rw [hU] at HU
  rw [hV] at HV
  have HX := Lib.hid fun w => Until_any nm vl dm pa 7 ag si true true se hi (n : Int) w
  rw [hX] at HX
  clear hX
  have HAl := Lib.hid fun w hw => alive10_any m w hw
  have HA0 : Hid (∀ C : Array Value, (w.alloc (.cells C 24)).heap[w.heap.size]? = some (.cells C 24 (0, 0))) := Lib.hid fun C => heap_alloc_new w _
  have HB0 : Hid (∀ C : Array Value, Below w.heap.size w (w.alloc (.cells C 24))) := Lib.hid fun C => (Below.refl _ _).alloc (Nat.le_refl _) _
  have hnI : (n : Int) < 4294967296 := by omega
  have hkI : (k : Int) < 4294967296 := by omega
  obtain ⟨S, hS, hS1, hS2, hS3⟩ : ∃ S : Int, (n : Int) + 34560000 = S ∧ 34560000 ≤ S ∧ S ≤ 4329527296 ∧ (0:Int) ≤ S := ⟨_, rfl, by omega, by omega, by omega⟩
  clear hw hU hV
  go_enter Tryz.func9, Tryz.ntmps9
  go_wp2_with fail
  refine (HU.out _).mono ?_
  rintro e w1 ⟨rfl, b1⟩
  have HB1 := Lib.hid ((HB0.out _).trans (b1.mono (HB0.out _).size))
  have HA1 : Hid (w1.heap[w.heap.size]? = some (.cells #[.string nm, .string vl, .string dm, .string pa, .int .i64 ex, .bool true, .int .i64 ag, .bool true, .bool se, .bool hi, .int .u8 si] 24 (0, 0))) := Lib.hid ((b1.block _ (lt_of_block (HA0.out _))).trans (HA0.out _))
  clear b1
  go_wp2_with (refine scW_load rfl 24 _ rfl w.heap.size ?_ 24 #[.string nm, .string vl, .string dm, .string pa, .int .i64 ex, .bool true, .int .i64 ag, .bool true, .bool se, .bool hi, .int .u8 si] (0, 0) _ ?_ Tryz.underlying24 rfl ?_ ?_; (exact rfl); (exact HA1.out); (exact infoTo))
  refine (HV.out _).mono ?_
  rintro e w2 ⟨rfl, b2⟩
  have HB2 := Lib.hid (HB1.out.trans (b2.mono HB1.out.size))
  have HA2 : Hid (w2.heap[w.heap.size]? = some (.cells #[.string nm, .string vl, .string dm, .string pa, .int .i64 ex, .bool true, .int .i64 ag, .bool true, .bool se, .bool hi, .int .u8 si] 24 (0, 0))) := Lib.hid ((b2.block _ (lt_of_block HA1.out)).trans HA1.out)
  clear b2
  have c7 : w2.cell? ⟨w.heap.size, 7, none⟩ = some (.bool true) := by rw [cell_of_row w2 _ 7 _ _ _ HA2.out]; rfl
  have c5 : w2.cell? ⟨w.heap.size, 5, none⟩ = some (.bool true) := by rw [cell_of_row w2 _ 5 _ _ _ HA2.out]; rfl
  clear hnI hkI
  go_upto_region 7 with (refine scW_load rfl 24 _ rfl w.heap.size ?_ 24 #[.string nm, .string vl, .string dm, .string pa, .int .i64 ex, .bool true, .int .i64 ag, .bool true, .bool se, .bool hi, .int .u8 si] (0, 0) _ ?_ Tryz.underlying24 rfl ?_ ?_; (exact rfl); (exact HA2.out); (exact infoTo))
  go_upto_region 9 with (fail)
  have hlt : w.heap.size < w2.heap.size := lt_of_block HA2.out
  obtain ⟨W5, HW5⟩ : ∃ W, Hid (w2.alloc (.cells #[.string nm, .string vl, .string dm, .string pa, .int .i64 7, .bool true, .int .i64 ag, .bool true, .bool se, .bool hi, .int .u8 si] 24) = W) := ⟨_, Lib.hid rfl⟩
  have HX5 : Hid (W5.heap[w2.heap.size]? = some (.cells #[.string nm, .string vl, .string dm, .string pa, .int .i64 7, .bool true, .int .i64 ag, .bool true, .bool se, .bool hi, .int .u8 si] 24 (0, 0))) := Lib.hid (by rw [← HW5.out]; exact heap_alloc_new w2 _)
  have HA5 : Hid (W5.heap[w.heap.size]? = some (.cells #[.string nm, .string vl, .string dm, .string pa, .int .i64 ex, .bool true, .int .i64 ag, .bool true, .bool se, .bool hi, .int .u8 si] 24 (0, 0))) := Lib.hid (by rw [← HW5.out]; exact (Below.heap_alloc _ _ _ hlt).trans HA2.out)
  have HB5 : Hid (Below w.heap.size w W5) := Lib.hid (by rw [← HW5.out]; exact HB2.out.alloc HB2.out.size _)
  rw [HW5.out]
  clear c7 c5 hlt
  have c7 : W5.cell? ⟨w.heap.size, 7, none⟩ = some (.bool true) := by rw [cell_of_row W5 _ 7 _ _ _ HA5.out]; rfl
  go_wp2_with (refine scW_load rfl 24 _ rfl w2.heap.size ?_ 24 #[.string nm, .string vl, .string dm, .string pa, .int .i64 7, .bool true, .int .i64 ag, .bool true, .bool se, .bool hi, .int .u8 si] (0, 0) _ ?_ Tryz.underlying24 rfl ?_ ?_; (exact rfl); (exact HX5.out); (exact infoTo))
  refine (HX.out _).mono ?_
  rintro e w6 ⟨rfl, b6⟩
  have HB6 := Lib.hid (HB5.out.trans (b6.mono HB5.out.size))
  have HA6 : Hid (w6.heap[w.heap.size]? = some (.cells #[.string nm, .string vl, .string dm, .string pa, .int .i64 ex, .bool true, .int .i64 ag, .bool true, .bool se, .bool hi, .int .u8 si] 24 (0, 0))) := Lib.hid ((b6.block _ (lt_of_block HA5.out)).trans HA5.out)
  clear b6 c7
  have c7 : w6.cell? ⟨w.heap.size, 7, none⟩ = some (.bool true) := by rw [cell_of_row w6 _ 7 _ _ _ HA6.out]; rfl
  go_wp2_with fail
  refine (HAl.out _ (HG.out.below HB6.out)).mono ?_
  rintro e w7 ⟨rfl, b7⟩
  have HB7 := Lib.hid (HB6.out.trans (b7.mono HB6.out.size))
  have HA7 : Hid (w7.heap[w.heap.size]? = some (.cells #[.string nm, .string vl, .string dm, .string pa, .int .i64 ex, .bool true, .int .i64 ag, .bool true, .bool se, .bool hi, .int .u8 si] 24 (0, 0))) := Lib.hid ((b7.block _ (lt_of_block HA6.out)).trans HA6.out)
  clear b7 c7
  have c7 : w7.cell? ⟨w.heap.size, 7, none⟩ = some (.bool true) := by rw [cell_of_row w7 _ 7 _ _ _ HA7.out]; rfl
  go_wp2
  go_ret
  exact ⟨rfl, HB7.out⟩

theorem kuntil_walk (t : Cki) (n k : Nat) (hn : n < 4294967296) (hk : k < 4294967296) (m : Int) (w : World) (hw : DtG m w) :
    Calls Tryz.prog 9 #[.agg (ckR t), .int .u32 (n : Int), .int .u32 (k : Int)] w fun e w' => e = .returned (.bool true) ∧ Below w.heap.size w w' := by
  obtain ⟨nm, vl, dm, pa, ex, hx, ag, ha, se, hi, si⟩ := t
  obtain ⟨h1, h2, h3, h4, h5, h6⟩ := unt_bd ex ag hx ha n k hn hk
  cases ha with
  | false =>
    cases hx with
    | false => exact kuntil_ff nm vl dm pa ex ag si se hi n k hn hk m w hw (h2.2 ⟨rfl, rfl⟩) (by rfl)
    | true =>
      have hne : untP ex true ag false n ≠ -1 := fun e => by have := (h2.1 e).2; cases this
      by_cases g : 0 < untP ex true ag false n
      · rcases h6 with h6 | ⟨h6, _⟩ | ⟨h6, _⟩
        · exact kuntil_ftA nm vl dm pa ex ag si se hi n k hn hk _ h3 g (h4 g) m w hw rfl h6
        · exact kuntil_ftB nm vl dm pa ex ag si se hi n k hn hk _ h3 g (h4 g) m w hw rfl h6
        · exact kuntil_ftC nm vl dm pa ex ag si se hi n k hn hk _ _ h3 g (h4 g) h6 m w hw rfl rfl
      · have e0 : untP ex true ag false n = 0 := by omega
        exact kuntil_ftZ nm vl dm pa ex ag si se hi n k hn hk m w hw e0 (by rcases h6 with h6 | ⟨h6, _⟩ | ⟨_, h6⟩ <;> omega)
  | true =>
    have hne : untP ex hx ag true n ≠ -1 := fun e => by have := (h2.1 e).1; cases this
    cases hx with
    | false =>
      by_cases g : 0 < untP ex false ag true n
      · rcases h6 with h6 | ⟨_, h6⟩ | ⟨h6, _⟩
        · exact kuntil_tfA nm vl dm pa ex ag si se hi n k hn hk _ h3 g (h4 g) m w hw rfl h6 (h5 rfl)
        · cases h6
        · exact kuntil_tfC nm vl dm pa ex ag si se hi n k hn hk _ _ h3 g (h4 g) h6 m w hw rfl rfl (h5 rfl)
      · have e0 : untP ex false ag true n = 0 := by omega
        exact kuntil_tfZ nm vl dm pa ex ag si se hi n k hn hk m w hw e0 (by rcases h6 with h6 | ⟨_, h6⟩ | ⟨_, h6⟩; omega; cases h6; omega) ((h5 rfl).trans e0)
    | true =>
      by_cases g : 0 < untP ex true ag true n
      · rcases h6 with h6 | ⟨_, h6⟩ | ⟨h6, _⟩
        · exact kuntil_ttA nm vl dm pa ex ag si se hi n k hn hk _ h3 g (h4 g) m w hw rfl h6 (h5 rfl)
        · cases h6
        · exact kuntil_ttC nm vl dm pa ex ag si se hi n k hn hk _ _ h3 g (h4 g) h6 m w hw rfl rfl (h5 rfl)
      · have e0 : untP ex true ag true n = 0 := by omega
        exact kuntil_ttZ nm vl dm pa ex ag si se hi n k hn hk m w hw e0 (by rcases h6 with h6 | ⟨_, h6⟩ | ⟨_, h6⟩; omega; cases h6; omega) ((h5 rfl).trans e0)

end Go.Proofs.YtblofndehbagnaaGreatDoor
