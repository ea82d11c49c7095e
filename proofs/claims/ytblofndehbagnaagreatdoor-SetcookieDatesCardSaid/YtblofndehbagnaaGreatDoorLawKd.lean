/-
  The walk of SetcookieDates.
-/
import Derived.Test.YtblofndehbagnaaGreatDoorScI
import Derived.Test.YtblofndehbagnaaGreatDoorScT
namespace Go.Proofs.YtblofndehbagnaaGreatDoor
open Go.RowKit

def datH : List UInt8 := [97, 61, 98, 59, 32, 101, 120, 112, 105, 114, 101, 115, 61]
def datT (n : Int) : Cki := ⟨bs [97], bs [98], noB, noB, n, true, 0, false, false, false, 0⟩
/-- What the law's text tells. -/
theorem dat_prs (D : List UInt8) (n : Int) (hD : IsTxt n D) : prsC (asB (datH ++ D)) = (datT n, 0) := by
  obtain ⟨h1, h2, h3⟩ := txt_ok hD
  obtain ⟨c1, c2⟩ := cook_txt hD
  have e : datH ++ D = Lib.join (([97] ++ 61 :: [98]) :: [[101, 120, 112, 105, 114, 101, 115] ++ 61 :: D]) [59, 32] := by
    rw [Lib.join_cons]; simp [Lib.joinTail, datH]
  rw [prsC_eq, asB_data, e, prs_join (fun x hx c hc => ?_) (by rw [← e, List.length_append, h3]; decide)]
  · rw [List.map_cons, List.map_cons, List.map_nil]
    unfold prsF
    simp only
    obtain ⟨f1, f2⟩ := first_at [97] [98] (by decide)
    rw [f1, f2, if_neg (by decide), if_neg (by decide), List.foldl_cons, List.foldl_nil, heard_at _ _ _ (by decide), h2, if_pos (by omega)]
    show (sayEx _ (asB D), _) = _
    unfold sayEx
    rw [c1, c2, if_pos rfl]
    rfl
  · simp only [List.mem_cons, List.not_mem_nil, or_false] at hx
    rcases hx with rfl | rfl
    · revert c; decide
    · rcases List.mem_append.1 hc with hc | hc
      · have h : ∀ c ∈ ([101, 120, 112, 105, 114, 101, 115] : List UInt8), okB c = true := by decide
        exact h c hc
      · rcases List.mem_cons.1 hc with rfl | hc
        · decide
        · exact h1 c hc

set_option maxHeartbeats 4000000 in
set_option maxRecDepth 100000 in
theorem kdates_a (n k : Nat) (hn : n < 4294967296) (hk : k < 4294967296) (hc : n ≤ k) (m : Int) (w : World) (hw : DtG m w) :
    Calls Tryz.prog 10 #[.int .u32 (n : Int), .int .u32 (k : Int)] w fun e w' => e = .returned (.bool true) ∧ Below w.heap.size w w' := by
  obtain ⟨D, hD⟩ := txt_some (n : Int) (by omega) (by omega)
  have HG := Lib.hid hw
  have HTx := Lib.hid fun w hw => Text_yes hD m w hw
  have hds : (asB D).size = 29 := by rw [asB_size]; exact (txt_ok hD).2.2
  have HP : Hid (∀ w', DtG m w' → Calls Tryz.prog 11 #[.string (({ data := #[97, 61, 98, 59, 32, 101, 120, 112, 105, 114, 101, 115, 61] } : ByteArray) ++ asB D)] w' fun e w'' => e = .returned (.tuple #[.agg (ckR (datT n)), .int .i64 0]) ∧ Below w'.heap.size w' w'') := Lib.hid fun w' h => by
    have := Parse_any (asB (datH ++ D)) m w' h.c0
    rw [dat_prs D n hD] at this
    rw [show (({ data := #[97, 61, 98, 59, 32, 101, 120, 112, 105, 114, 101, 115, 61] } : ByteArray) ++ asB D) = asB (datH ++ D) from asB_app datH D]
    exact this
  have HU : Hid (∀ w', Calls Tryz.prog 20 #[.agg (ckR (datT n)), .int .i64 (k : Int)] w' fun e w'' => e = .returned (.int .i64 0) ∧ Below w'.heap.size w' w'') := Lib.hid fun w' => by
    have := Until_any (bs [97]) (bs [98]) noB noB n 0 0 true false false false k w'
    rw [show untP n true 0 false k = 0 by
      have e1 : nowP k = k := by unfold nowP; split <;> (try split) <;> omega
      unfold untP; rw [e1]; simp <;> (repeat' split) <;> omega] at this
    exact this
  have HAl := Lib.hid fun w hw => alive10_any m w hw
  have HEq : Hid (∀ w', (binOp .eql 24 (.agg (ckR (datT n))) (.agg (ckR (datT n)))).run Tryz.prog w' = .ok (.bool true) w') := Lib.hid fun w' => by
    rw [eqT, (ckEq_iff _ _).2 rfl]
  have HEq2 : Hid (∀ w', (binOp .eql 24 (.agg (ckR (datT n))) (.agg #[.string ⟨#[97]⟩, .string ⟨#[98]⟩, .string ⟨#[]⟩, .string ⟨#[]⟩, .int .i64 (n : Int), .bool true, .int .i64 0, .bool false, .bool false, .bool false, .int .u8 0])).run Tryz.prog w' = .ok (.bool true) w') := HEq
  have HGd : Hid (∀ x y w', (eqGuard .eql 24 x y (.agg (ckR (datT n))) (.agg #[.string ⟨#[97]⟩, .string ⟨#[98]⟩, .string ⟨#[]⟩, .string ⟨#[]⟩, .int .i64 (n : Int), .bool true, .int .i64 0, .bool false, .bool false, .bool false, .int .u8 0])).run Tryz.prog w' = .ok () w') := Lib.hid fun x y w' => gd_T _ _ _ _ _ _
  obtain ⟨C, HC, HCs, HC1⟩ : ∃ C, Hid (ckR (datT n) = C) ∧ Hid (C.size = 11) ∧ Hid (C.all (·.oneCell') = true) := ⟨_, Lib.hid rfl, Lib.hid rfl, Lib.hid (ckR_one _)⟩
  rw [HC.out] at HP HU HEq2 HGd
  clear HEq
  obtain ⟨DB, HDB⟩ : ∃ DB, Hid (asB D = DB) := ⟨_, Lib.hid rfl⟩
  rw [HDB.out] at HTx HP hds
  have hds2 : DB.size ≤ 29 := by omega
  have hnI : (n : Int) ≤ 4294967295 := by omega
  have hkI : (k : Int) ≤ 4294967295 := by omega
  obtain ⟨S, hS, hS1, hS2⟩ : ∃ S : Int, (k : Int) + 34560000 = S ∧ 34560000 ≤ S ∧ S ≤ 4329527296 := ⟨_, rfl, by omega, by omega⟩
  have f1 : (n : Int) ≤ (k : Int) := by omega
  clear hw hD hds
  go_enter Tryz.func10, Tryz.ntmps10
  go_wp2_with fail
  refine (HTx.out _ HG.out).mono ?_
  rintro e w1 ⟨rfl, b1⟩
  have HB1 := Lib.hid b1
  clear b1
  go_wp2_with fail
  refine (HP.out _ (HG.out.below HB1.out)).mono ?_
  rintro e w2 ⟨rfl, b2⟩
  have HB2 := Lib.hid (HB1.out.trans (b2.mono HB1.out.size))
  clear b2
  have HA3 : Hid ((w2.alloc (.cells (ckR ck0) 24)).heap[w2.heap.size]? = some (.cells (ckR ck0) 24 (0, 0))) := Lib.hid (heap_alloc_new w2 _)
  obtain ⟨W4, HW4⟩ : ∃ W, Hid ((w2.alloc (.cells #[.string ⟨#[]⟩, .string ⟨#[]⟩, .string ⟨#[]⟩, .string ⟨#[]⟩, .int .i64 0, .bool false, .int .i64 0, .bool false, .bool false, .bool false, .int .u8 0] 24)).setRow w2.heap.size C = W) := ⟨_, Lib.hid rfl⟩
  have HA4 : Hid (W4.heap[w2.heap.size]? = some (.cells C 24 (0, 0))) := Lib.hid (by rw [← HW4.out]; exact setRow_heap _ _ _ _ _ _ HA3.out)
  have HB4 : Hid (Below w.heap.size w W4) := Lib.hid (by rw [← HW4.out]; exact sc_below (HB2.out.alloc HB2.out.size _) _ _ (HB2.out.size))
  go_wp2_with (refine wpL_store_row rfl 24 _ _ rfl w2.heap.size C ?_ ?_ 24 (ckR ck0) ?_ ?_ ?_ ?_ ?_; exact rfl; exact rfl; (exact HA3.out); (rw [HCs.out]; exact infoTo); (rw [HCs.out]; rfl); exact HC1.out; rw [HW4.out])
  refine (HAl.out _ (HG.out.below HB4.out)).mono ?_
  rintro e w5 ⟨rfl, b5⟩
  have HB5 := Lib.hid (HB4.out.trans (b5.mono HB4.out.size))
  have HA5 : Hid (w5.heap[w2.heap.size]? = some (.cells C 24 (0, 0))) := Lib.hid ((b5.block _ (lt_of_block HA4.out)).trans HA4.out)
  clear b5
  obtain ⟨X, HX⟩ : ∃ X, Hid (Value.agg C = X) := ⟨_, Lib.hid rfl⟩
  rw [HX.out] at HU HEq2 HGd
  go_wp2_with (first
    | (refine scW_load rfl 24 _ rfl w2.heap.size ?_ 24 C (0, 0) _ ?_ Tryz.underlying24 rfl ?_ ?_; (exact rfl); (exact HA5.out); (rw [HCs.out]; exact infoTo); rw [HX.out])
    | (refine scW_bin rfl .eql 24 24 (.tmp 40) (.tmp 43) rfl (.bool true) ?_ ?_ ?_; exact HGd.out _ _ _; exact HEq2.out _)
    | ((with_reducible refine (HU.out _).mono ?_); rintro e w6 ⟨rfl, b6⟩; have HB6 := Lib.hid (HB5.out.trans (b6.mono HB5.out.size)); clear b6))
  go_ret
  exact ⟨rfl, HB6.out⟩

set_option maxHeartbeats 4000000 in
set_option maxRecDepth 100000 in
theorem kdates_b (n k : Nat) (hn : n < 4294967296) (hk : k < 4294967296) (hc : k < n) (hd : n ≤ k + 34560000) (m : Int) (w : World) (hw : DtG m w) :
    Calls Tryz.prog 10 #[.int .u32 (n : Int), .int .u32 (k : Int)] w fun e w' => e = .returned (.bool true) ∧ Below w.heap.size w w' := by
  obtain ⟨D, hD⟩ := txt_some (n : Int) (by omega) (by omega)
  have HG := Lib.hid hw
  have HTx := Lib.hid fun w hw => Text_yes hD m w hw
  have hds : (asB D).size = 29 := by rw [asB_size]; exact (txt_ok hD).2.2
  have HP : Hid (∀ w', DtG m w' → Calls Tryz.prog 11 #[.string (({ data := #[97, 61, 98, 59, 32, 101, 120, 112, 105, 114, 101, 115, 61] } : ByteArray) ++ asB D)] w' fun e w'' => e = .returned (.tuple #[.agg (ckR (datT n)), .int .i64 0]) ∧ Below w'.heap.size w' w'') := Lib.hid fun w' h => by
    have := Parse_any (asB (datH ++ D)) m w' h.c0
    rw [dat_prs D n hD] at this
    rw [show (({ data := #[97, 61, 98, 59, 32, 101, 120, 112, 105, 114, 101, 115, 61] } : ByteArray) ++ asB D) = asB (datH ++ D) from asB_app datH D]
    exact this
  have HU : Hid (∀ w', Calls Tryz.prog 20 #[.agg (ckR (datT n)), .int .i64 (k : Int)] w' fun e w'' => e = .returned (.int .i64 (n : Int)) ∧ Below w'.heap.size w' w'') := Lib.hid fun w' => by
    have := Until_any (bs [97]) (bs [98]) noB noB n 0 0 true false false false k w'
    rw [show untP n true 0 false k = (n : Int) by
      have e1 : nowP k = k := by unfold nowP; split <;> (try split) <;> omega
      unfold untP; rw [e1]; simp <;> (repeat' split) <;> omega] at this
    exact this
  have HAl := Lib.hid fun w hw => alive10_any m w hw
  have HEq : Hid (∀ w', (binOp .eql 24 (.agg (ckR (datT n))) (.agg (ckR (datT n)))).run Tryz.prog w' = .ok (.bool true) w') := Lib.hid fun w' => by
    rw [eqT, (ckEq_iff _ _).2 rfl]
  have HEq2 : Hid (∀ w', (binOp .eql 24 (.agg (ckR (datT n))) (.agg #[.string ⟨#[97]⟩, .string ⟨#[98]⟩, .string ⟨#[]⟩, .string ⟨#[]⟩, .int .i64 (n : Int), .bool true, .int .i64 0, .bool false, .bool false, .bool false, .int .u8 0])).run Tryz.prog w' = .ok (.bool true) w') := HEq
  have HGd : Hid (∀ x y w', (eqGuard .eql 24 x y (.agg (ckR (datT n))) (.agg #[.string ⟨#[97]⟩, .string ⟨#[98]⟩, .string ⟨#[]⟩, .string ⟨#[]⟩, .int .i64 (n : Int), .bool true, .int .i64 0, .bool false, .bool false, .bool false, .int .u8 0])).run Tryz.prog w' = .ok () w') := Lib.hid fun x y w' => gd_T _ _ _ _ _ _
  obtain ⟨C, HC, HCs, HC1⟩ : ∃ C, Hid (ckR (datT n) = C) ∧ Hid (C.size = 11) ∧ Hid (C.all (·.oneCell') = true) := ⟨_, Lib.hid rfl, Lib.hid rfl, Lib.hid (ckR_one _)⟩
  rw [HC.out] at HP HU HEq2 HGd
  clear HEq
  obtain ⟨DB, HDB⟩ : ∃ DB, Hid (asB D = DB) := ⟨_, Lib.hid rfl⟩
  rw [HDB.out] at HTx HP hds
  have hds2 : DB.size ≤ 29 := by omega
  have hnI : (n : Int) ≤ 4294967295 := by omega
  have hkI : (k : Int) ≤ 4294967295 := by omega
  obtain ⟨S, hS, hS1, hS2⟩ : ∃ S : Int, (k : Int) + 34560000 = S ∧ 34560000 ≤ S ∧ S ≤ 4329527296 := ⟨_, rfl, by omega, by omega⟩
  have f1 : (k : Int) < (n : Int) := by omega
  have f2 : min (n : Int) S = (n : Int) := by omega
  clear hw hD hds
  go_enter Tryz.func10, Tryz.ntmps10
  go_wp2_with fail
  refine (HTx.out _ HG.out).mono ?_
  rintro e w1 ⟨rfl, b1⟩
  have HB1 := Lib.hid b1
  clear b1
  go_wp2_with fail
  refine (HP.out _ (HG.out.below HB1.out)).mono ?_
  rintro e w2 ⟨rfl, b2⟩
  have HB2 := Lib.hid (HB1.out.trans (b2.mono HB1.out.size))
  clear b2
  have HA3 : Hid ((w2.alloc (.cells (ckR ck0) 24)).heap[w2.heap.size]? = some (.cells (ckR ck0) 24 (0, 0))) := Lib.hid (heap_alloc_new w2 _)
  obtain ⟨W4, HW4⟩ : ∃ W, Hid ((w2.alloc (.cells #[.string ⟨#[]⟩, .string ⟨#[]⟩, .string ⟨#[]⟩, .string ⟨#[]⟩, .int .i64 0, .bool false, .int .i64 0, .bool false, .bool false, .bool false, .int .u8 0] 24)).setRow w2.heap.size C = W) := ⟨_, Lib.hid rfl⟩
  have HA4 : Hid (W4.heap[w2.heap.size]? = some (.cells C 24 (0, 0))) := Lib.hid (by rw [← HW4.out]; exact setRow_heap _ _ _ _ _ _ HA3.out)
  have HB4 : Hid (Below w.heap.size w W4) := Lib.hid (by rw [← HW4.out]; exact sc_below (HB2.out.alloc HB2.out.size _) _ _ (HB2.out.size))
  go_wp2_with (refine wpL_store_row rfl 24 _ _ rfl w2.heap.size C ?_ ?_ 24 (ckR ck0) ?_ ?_ ?_ ?_ ?_; exact rfl; exact rfl; (exact HA3.out); (rw [HCs.out]; exact infoTo); (rw [HCs.out]; rfl); exact HC1.out; rw [HW4.out])
  refine (HAl.out _ (HG.out.below HB4.out)).mono ?_
  rintro e w5 ⟨rfl, b5⟩
  have HB5 := Lib.hid (HB4.out.trans (b5.mono HB4.out.size))
  have HA5 : Hid (w5.heap[w2.heap.size]? = some (.cells C 24 (0, 0))) := Lib.hid ((b5.block _ (lt_of_block HA4.out)).trans HA4.out)
  clear b5
  obtain ⟨X, HX⟩ : ∃ X, Hid (Value.agg C = X) := ⟨_, Lib.hid rfl⟩
  rw [HX.out] at HU HEq2 HGd
  go_wp2_with (first
    | (refine scW_load rfl 24 _ rfl w2.heap.size ?_ 24 C (0, 0) _ ?_ Tryz.underlying24 rfl ?_ ?_; (exact rfl); (exact HA5.out); (rw [HCs.out]; exact infoTo); rw [HX.out])
    | (refine scW_bin rfl .eql 24 24 (.tmp 40) (.tmp 43) rfl (.bool true) ?_ ?_ ?_; exact HGd.out _ _ _; exact HEq2.out _)
    | ((with_reducible refine (HU.out _).mono ?_); rintro e w6 ⟨rfl, b6⟩; have HB6 := Lib.hid (HB5.out.trans (b6.mono HB5.out.size)); clear b6))
  go_ret
  exact ⟨rfl, HB6.out⟩

set_option maxHeartbeats 4000000 in
set_option maxRecDepth 100000 in
theorem kdates_c (n k : Nat) (hn : n < 4294967296) (hk : k < 4294967296) (_hc : k < n) (hd : k + 34560000 < n) (m : Int) (w : World) (hw : DtG m w) :
    Calls Tryz.prog 10 #[.int .u32 (n : Int), .int .u32 (k : Int)] w fun e w' => e = .returned (.bool true) ∧ Below w.heap.size w w' := by
  obtain ⟨D, hD⟩ := txt_some (n : Int) (by omega) (by omega)
  have HG := Lib.hid hw
  have HTx := Lib.hid fun w hw => Text_yes hD m w hw
  have hds : (asB D).size = 29 := by rw [asB_size]; exact (txt_ok hD).2.2
  have HP : Hid (∀ w', DtG m w' → Calls Tryz.prog 11 #[.string (({ data := #[97, 61, 98, 59, 32, 101, 120, 112, 105, 114, 101, 115, 61] } : ByteArray) ++ asB D)] w' fun e w'' => e = .returned (.tuple #[.agg (ckR (datT n)), .int .i64 0]) ∧ Below w'.heap.size w' w'') := Lib.hid fun w' h => by
    have := Parse_any (asB (datH ++ D)) m w' h.c0
    rw [dat_prs D n hD] at this
    rw [show (({ data := #[97, 61, 98, 59, 32, 101, 120, 112, 105, 114, 101, 115, 61] } : ByteArray) ++ asB D) = asB (datH ++ D) from asB_app datH D]
    exact this
  have HU : Hid (∀ w', Calls Tryz.prog 20 #[.agg (ckR (datT n)), .int .i64 (k : Int)] w' fun e w'' => e = .returned (.int .i64 ((k : Int) + 34560000)) ∧ Below w'.heap.size w' w'') := Lib.hid fun w' => by
    have := Until_any (bs [97]) (bs [98]) noB noB n 0 0 true false false false k w'
    rw [show untP n true 0 false k = ((k : Int) + 34560000) by
      have e1 : nowP k = k := by unfold nowP; split <;> (try split) <;> omega
      unfold untP; rw [e1]; simp <;> (repeat' split) <;> omega] at this
    exact this
  have HAl := Lib.hid fun w hw => alive10_any m w hw
  have HEq : Hid (∀ w', (binOp .eql 24 (.agg (ckR (datT n))) (.agg (ckR (datT n)))).run Tryz.prog w' = .ok (.bool true) w') := Lib.hid fun w' => by
    rw [eqT, (ckEq_iff _ _).2 rfl]
  have HEq2 : Hid (∀ w', (binOp .eql 24 (.agg (ckR (datT n))) (.agg #[.string ⟨#[97]⟩, .string ⟨#[98]⟩, .string ⟨#[]⟩, .string ⟨#[]⟩, .int .i64 (n : Int), .bool true, .int .i64 0, .bool false, .bool false, .bool false, .int .u8 0])).run Tryz.prog w' = .ok (.bool true) w') := HEq
  have HGd : Hid (∀ x y w', (eqGuard .eql 24 x y (.agg (ckR (datT n))) (.agg #[.string ⟨#[97]⟩, .string ⟨#[98]⟩, .string ⟨#[]⟩, .string ⟨#[]⟩, .int .i64 (n : Int), .bool true, .int .i64 0, .bool false, .bool false, .bool false, .int .u8 0])).run Tryz.prog w' = .ok () w') := Lib.hid fun x y w' => gd_T _ _ _ _ _ _
  obtain ⟨C, HC, HCs, HC1⟩ : ∃ C, Hid (ckR (datT n) = C) ∧ Hid (C.size = 11) ∧ Hid (C.all (·.oneCell') = true) := ⟨_, Lib.hid rfl, Lib.hid rfl, Lib.hid (ckR_one _)⟩
  rw [HC.out] at HP HU HEq2 HGd
  clear HEq
  obtain ⟨DB, HDB⟩ : ∃ DB, Hid (asB D = DB) := ⟨_, Lib.hid rfl⟩
  rw [HDB.out] at HTx HP hds
  have hds2 : DB.size ≤ 29 := by omega
  have hnI : (n : Int) ≤ 4294967295 := by omega
  have hkI : (k : Int) ≤ 4294967295 := by omega
  obtain ⟨S, hS, hS1, hS2⟩ : ∃ S : Int, (k : Int) + 34560000 = S ∧ 34560000 ≤ S ∧ S ≤ 4329527296 := ⟨_, rfl, by omega, by omega⟩
  have f1 : (k : Int) < (n : Int) := by omega
  have f2 : min (n : Int) S = S := by omega
  clear hw hD hds
  go_enter Tryz.func10, Tryz.ntmps10
  go_wp2_with fail
  refine (HTx.out _ HG.out).mono ?_
  rintro e w1 ⟨rfl, b1⟩
  have HB1 := Lib.hid b1
  clear b1
  go_wp2_with fail
  refine (HP.out _ (HG.out.below HB1.out)).mono ?_
  rintro e w2 ⟨rfl, b2⟩
  have HB2 := Lib.hid (HB1.out.trans (b2.mono HB1.out.size))
  clear b2
  have HA3 : Hid ((w2.alloc (.cells (ckR ck0) 24)).heap[w2.heap.size]? = some (.cells (ckR ck0) 24 (0, 0))) := Lib.hid (heap_alloc_new w2 _)
  obtain ⟨W4, HW4⟩ : ∃ W, Hid ((w2.alloc (.cells #[.string ⟨#[]⟩, .string ⟨#[]⟩, .string ⟨#[]⟩, .string ⟨#[]⟩, .int .i64 0, .bool false, .int .i64 0, .bool false, .bool false, .bool false, .int .u8 0] 24)).setRow w2.heap.size C = W) := ⟨_, Lib.hid rfl⟩
  have HA4 : Hid (W4.heap[w2.heap.size]? = some (.cells C 24 (0, 0))) := Lib.hid (by rw [← HW4.out]; exact setRow_heap _ _ _ _ _ _ HA3.out)
  have HB4 : Hid (Below w.heap.size w W4) := Lib.hid (by rw [← HW4.out]; exact sc_below (HB2.out.alloc HB2.out.size _) _ _ (HB2.out.size))
  go_wp2_with (refine wpL_store_row rfl 24 _ _ rfl w2.heap.size C ?_ ?_ 24 (ckR ck0) ?_ ?_ ?_ ?_ ?_; exact rfl; exact rfl; (exact HA3.out); (rw [HCs.out]; exact infoTo); (rw [HCs.out]; rfl); exact HC1.out; rw [HW4.out])
  refine (HAl.out _ (HG.out.below HB4.out)).mono ?_
  rintro e w5 ⟨rfl, b5⟩
  have HB5 := Lib.hid (HB4.out.trans (b5.mono HB4.out.size))
  have HA5 : Hid (w5.heap[w2.heap.size]? = some (.cells C 24 (0, 0))) := Lib.hid ((b5.block _ (lt_of_block HA4.out)).trans HA4.out)
  clear b5
  obtain ⟨X, HX⟩ : ∃ X, Hid (Value.agg C = X) := ⟨_, Lib.hid rfl⟩
  rw [HX.out] at HU HEq2 HGd
  go_wp2_with (first
    | (refine scW_load rfl 24 _ rfl w2.heap.size ?_ 24 C (0, 0) _ ?_ Tryz.underlying24 rfl ?_ ?_; (exact rfl); (exact HA5.out); (rw [HCs.out]; exact infoTo); rw [HX.out])
    | (refine scW_bin rfl .eql 24 24 (.tmp 40) (.tmp 43) rfl (.bool true) ?_ ?_ ?_; exact HGd.out _ _ _; exact HEq2.out _)
    | ((with_reducible refine (HU.out _).mono ?_); rintro e w6 ⟨rfl, b6⟩; have HB6 := Lib.hid (HB5.out.trans (b6.mono HB5.out.size)); clear b6))
  go_ret
  exact ⟨rfl, HB6.out⟩

theorem kdates_walk (n k : Nat) (hn : n < 4294967296) (hk : k < 4294967296) (m : Int) (w : World) (hw : DtG m w) :
    Calls Tryz.prog 10 #[.int .u32 (n : Int), .int .u32 (k : Int)] w fun e w' => e = .returned (.bool true) ∧ Below w.heap.size w w' := by
  by_cases h1 : n ≤ k
  · exact kdates_a n k hn hk h1 m w hw
  · by_cases h2 : n ≤ k + 34560000
    · exact kdates_b n k hn hk (by omega) h2 m w hw
    · exact kdates_c n k hn hk (by omega) (by omega) m w hw

end Go.Proofs.YtblofndehbagnaaGreatDoor
