/-
  alive of stage 12.
-/
import Derived.Test.YtbfnbjffobhllaaDoorHdW
namespace Go.Proofs.YtbfnbjffobhllaaDoor
open Go.RowKit

/-- What alive puts and reads. -/
def alF : List BF := [(⟨#[72, 111, 115, 116]⟩, ⟨#[104]⟩)]
def alG : List BF := [(⟨#[65]⟩, ⟨#[49]⟩), (⟨#[98]⟩, ⟨#[50]⟩), (⟨#[97]⟩, ⟨#[51]⟩)]
def alH : List BF := [(⟨#[65]⟩, ⟨#[98]⟩), (⟨#[97]⟩, ⟨#[]⟩)]
def alP : List UInt8 := [71, 69, 84, 32, 47, 97, 63, 98, 32, 72, 84, 84, 80, 47, 49, 46, 49, 13, 10, 72, 111, 115, 116, 58, 32, 104, 13, 10, 13, 10]
def alB : List UInt8 := [72, 84, 84, 80, 47, 49, 46, 49, 32, 50, 48, 48, 32, 79, 75, 13, 10, 65, 58, 32, 98, 13, 10, 97, 58, 13, 10, 13, 10, 120]
theorem al_putE : putE [71, 69, 84] [47, 97, 63, 98] (flL alF) = 0 := by decide +kernel
theorem al_putT : putT [71, 69, 84] [47, 97, 63, 98] (flL alF) = alP := by decide +kernel
theorem al_notE : putE [71, 32, 84] [47] (flL []) = 1 := by decide +kernel
theorem al_notT : putT [71, 32, 84] [47] (flL []) = [] := by decide +kernel
theorem al_find : findD (flL alG) [65] = [[49], [51]] := by decide +kernel
theorem al_read : readD resD alB = ((([], [], 200), flL alH), 29, 0) := by decide +kernel
theorem al_bad1 : readD resD [72, 84, 84, 80, 47, 49, 46, 49, 32, 50, 48, 48, 13, 10] = (msg0, 0, 7) := by decide +kernel
theorem al_bad2 : readD resD [72, 84, 84, 80, 47, 50, 32, 50, 48, 48, 13, 10, 13, 10] = (msg0, 0, 8) := by decide +kernel
theorem al_bad3 : readD resD [72, 84, 84, 80, 47, 49, 46, 49, 32, 50, 48, 48, 13, 10, 32, 97, 58, 32, 98, 13, 10, 13, 10] = (msg0, 0, 8) := by decide +kernel

theorem flL_nil12 : flL [] = [] := rfl
theorem fxAt_new (F : List BF) (w w' : World) (t : TypeId) (hw : w' = w.alloc (.cells (fcells F).toArray t (0, 0))) : FxAt F (some ⟨w.heap.size, 0, none⟩) w.heap.size 0 w' := by
  subst hw
  have hg := heap_alloc_new w (.cells (fcells F).toArray t (0, 0))
  refine ⟨fun _ => rfl, fun i hi => ?_, fun i hi => ?_⟩
  · rw [cell_of_row _ _ _ _ _ _ hg]
    have := (fcells_at F i hi).1
    simpa using this
  · rw [cell_of_row _ _ _ _ _ _ hg]
    have := (fcells_at F i hi).2
    simpa using this
set_option maxHeartbeats 4000000 in
set_option maxRecDepth 100000 in
theorem alive12_any (m : Int) (w : World) (hw : MxAt m w) :
    Calls Tryd.prog 20 #[] w fun e w' => e = .returned (.bool true) ∧ Below w.heap.size w w' := by
  have HM := Lib.hid hw
  clear hw
  have HW1 : Hid (FxAt alF (some ⟨w.heap.size, 0, none⟩) w.heap.size 0 (w.alloc (.cells #[.string ⟨#[72, 111, 115, 116]⟩, .string ⟨#[104]⟩] 57))) := Lib.hid (fxAt_new alF w _ _ rfl)
  obtain ⟨W1, HWe1⟩ : ∃ W, Hid (w.alloc (.cells #[.string ⟨#[72, 111, 115, 116]⟩, .string ⟨#[104]⟩] 57) = W) := ⟨_, Lib.hid rfl⟩
  rw [HWe1.out] at HW1
  have HB1 : Hid (Below w.heap.size w W1) := Lib.hid (by rw [← HWe1.out]; exact (Below.refl _ _).alloc (Nat.le_refl _) _)
  have HP1 : Hid (Calls Tryd.prog 21 #[.agg #[.string ⟨#[71, 69, 84]⟩, .string ⟨#[47, 97, 63, 98]⟩, .int .i64 0, .slice (some ⟨w.heap.size, 0, none⟩) 1 1, .slice none 0 0]] W1 (PutR W1 alP 0)) := Lib.hid (by
    have := Put_any ⟨#[71, 69, 84]⟩ ⟨#[47, 97, 63, 98]⟩ 0 _ 1 _ _ alF (.slice none 0 0) W1 HW1.out (by decide) (by decide) (by decide) (by decide)
    rw [show putT (⟨#[71, 69, 84]⟩ : ByteArray).data.toList (⟨#[47, 97, 63, 98]⟩ : ByteArray).data.toList (flL alF) = alP from al_putT, show putE (⟨#[71, 69, 84]⟩ : ByteArray).data.toList (⟨#[47, 97, 63, 98]⟩ : ByteArray).data.toList (flL alF) = 0 from al_putE] at this
    exact this)
  have HP3 : Hid (∀ w', Calls Tryd.prog 21 #[.agg #[.string ⟨#[71, 32, 84]⟩, .string ⟨#[47]⟩, .int .i64 0, .slice none 0 0, .slice none 0 0]] w' (PutR w' [] 1)) := Lib.hid (fun w' => by
    have := Put_any ⟨#[71, 32, 84]⟩ ⟨#[47]⟩ 0 none 0 0 0 [] (.slice none 0 0) w' ⟨fun h => absurd h (Nat.lt_irrefl _), fun i h => absurd h (Nat.not_lt_zero _), fun i h => absurd h (Nat.not_lt_zero _)⟩ (by decide) (by decide) (by decide) (by decide)
    rw [show putT (⟨#[71, 32, 84]⟩ : ByteArray).data.toList (⟨#[47]⟩ : ByteArray).data.toList (flL []) = [] from al_notT, show putE (⟨#[71, 32, 84]⟩ : ByteArray).data.toList (⟨#[47]⟩ : ByteArray).data.toList (flL []) = 1 from al_notE] at this
    exact this)
  have HBd1 : Hid (∀ w', MxAt m w' → Calls Tryd.prog 26 #[.string ⟨#[72, 84, 84, 80, 47, 49, 46, 49, 32, 50, 48, 48, 13, 10]⟩, .int .i64 7] w' fun e w2 => e = .returned (.bool true) ∧ Below w'.heap.size w' w2) := Lib.hid fun w' h => bad12_yes _ _ m w' (by decide) h al_bad1
  have HBd2 : Hid (∀ w', MxAt m w' → Calls Tryd.prog 26 #[.string ⟨#[72, 84, 84, 80, 47, 50, 32, 50, 48, 48, 13, 10, 13, 10]⟩, .int .i64 8] w' fun e w2 => e = .returned (.bool true) ∧ Below w'.heap.size w' w2) := Lib.hid fun w' h => bad12_yes _ _ m w' (by decide) h al_bad2
  have HBd3 : Hid (∀ w', MxAt m w' → Calls Tryd.prog 26 #[.string ⟨#[72, 84, 84, 80, 47, 49, 46, 49, 32, 50, 48, 48, 13, 10, 32, 97, 58, 32, 98, 13, 10, 13, 10]⟩, .int .i64 8] w' fun e w2 => e = .returned (.bool true) ∧ Below w'.heap.size w' w2) := Lib.hid fun w' h => bad12_yes _ _ m w' (by decide) h al_bad3
  go_enter Tryd.func20, Tryd.ntmps20
  go_wp2_with fail
  rw [HWe1.out]
  refine HP1.out.mono ?_
  rintro e w2 ⟨vP, rfl, hP, b2⟩
  have HO2 := Lib.hid hP
  have HB2 := Lib.hid (HB1.out.trans (b2.mono HB1.out.size))
  obtain ⟨pP, nP, cP, rfl⟩ := ownB_shape hP
  have HM2 := Lib.hid (HM.out.later HB2.out)
  clear hP b2
  obtain ⟨W3, HWe3⟩ : ∃ W, Hid (w2.alloc (.cells (alB.map fun c => Value.int .u8 c.toNat).toArray 5 (30, 31)) = W) := ⟨_, Lib.hid rfl⟩
  have hcc : (convert 24 24 (.slice (some ⟨w2.heap.size, 0, none⟩) 30 30)).run Tryd.prog (w2.alloc (.cells #[.int .u8 72, .int .u8 84, .int .u8 84, .int .u8 80, .int .u8 47, .int .u8 49, .int .u8 46, .int .u8 49, .int .u8 32, .int .u8 50, .int .u8 48, .int .u8 48, .int .u8 32, .int .u8 79, .int .u8 75, .int .u8 13, .int .u8 10, .int .u8 65, .int .u8 58, .int .u8 32, .int .u8 98, .int .u8 13, .int .u8 10, .int .u8 97, .int .u8 58, .int .u8 13, .int .u8 10, .int .u8 13, .int .u8 10, .int .u8 120] 5)) = .ok (.slice (some ⟨w2.heap.size, 0, none⟩) 30 30) W3 := by
    rw [← HWe3.out]; exact Lib.run_convert_bytes_const (P := Tryd.prog) w2 24 5 #[.int .u8 72, .int .u8 84, .int .u8 84, .int .u8 80, .int .u8 47, .int .u8 49, .int .u8 46, .int .u8 49, .int .u8 32, .int .u8 50, .int .u8 48, .int .u8 48, .int .u8 32, .int .u8 79, .int .u8 75, .int .u8 13, .int .u8 10, .int .u8 65, .int .u8 58, .int .u8 32, .int .u8 98, .int .u8 13, .int .u8 10, .int .u8 97, .int .u8 58, .int .u8 13, .int .u8 10, .int .u8 13, .int .u8 10, .int .u8 120] 30 30 Tryd.underlying24 Tryd.underlying5
  have HBl3 : Hid (Below w2.heap.size w2 W3) := Lib.hid (by rw [← HWe3.out]; exact (Below.refl _ _).alloc (Nat.le_refl _) _)
  have HB3 := Lib.hid (HB2.out.trans (HBl3.out.mono HB2.out.size))
  have HBx3 : Hid (BxAt alB (some ⟨w2.heap.size, 0, none⟩) 30 w2.heap.size 0 W3) := Lib.hid (by
    have hg : W3.heap[w2.heap.size]? = some (.cells (alB.map fun c => Value.int .u8 c.toNat).toArray 5 (30, 31)) := by rw [← HWe3.out]; exact heap_alloc_new w2 _
    exact ⟨fun _ => rfl, fun i hi => by rw [Nat.zero_add, cell_of_row W3 _ i _ _ _ hg]; simp [hi], by decide, fun h => by cases h⟩)
  have HG3 := Lib.hid (Get_any alB (some ⟨w2.heap.size, 0, none⟩) 30 w2.heap.size 0 m W3 HBx3.out (by decide) (HM2.out.later HBl3.out))
  rw [al_read] at HG3
  have hG3 : Calls Tryd.prog 24 #[.slice (some ⟨w2.heap.size, 0, none⟩) 30 30] W3 (ReadR W3 ((([], [], 200), flL alH), 29, 0)) := HG3.out
  have HG3' := Lib.hid hG3
  have HO3 := Lib.hid (HO2.out.later HBl3.out)
  clear hG3
  go_wp2_with fail
  refine HG3'.out.mono ?_
  rintro e w4 ⟨v, F, hF, rfl, ho, b4⟩
  obtain rfl : F = alH := flL_inj hF
  obtain ⟨aF, cF, gF, rfl, hx4, -⟩ := ownF_at ho
  obtain rfl := hx4.at0 (by decide)
  have HB4 := Lib.hid (HB3.out.trans (b4.mono HB3.out.size))
  have HO4 := Lib.hid (HO3.out.later (b4.mono (Nat.le_refl _)))
  have HX4 := Lib.hid hx4
  clear hF ho b4 hcc hx4
  obtain ⟨W5, HWe5⟩ : ∃ W, Hid (w4.alloc (.cells (msC ([], [], 200) (.slice (some ⟨gF, 0, none⟩) 2 cF)) 26) = W) := ⟨_, Lib.hid rfl⟩
  have HBl5 : Hid (Below w4.heap.size w4 W5) := Lib.hid (by rw [← HWe5.out]; exact (Below.refl _ _).alloc (Nat.le_refl _) _)
  have HB5 := Lib.hid (HB4.out.trans (HBl5.out.mono HB4.out.size))
  have HN5 : Hid (W5.heap[w4.heap.size]? = some (.cells (msC ([], [], 200) (.slice (some ⟨gF, 0, none⟩) 2 cF)) 26 (0, 0))) := Lib.hid (by rw [← HWe5.out]; exact heap_alloc_new w4 _)
  have HX5 := Lib.hid (HX4.out.later HBl5.out)
  have HO5 := Lib.hid (HO4.out.later HBl5.out)
  go_wp2_with (refine wpL_store_row rfl 26 _ _ rfl w4.heap.size (msC ([], [], 200) (.slice (some ⟨gF, 0, none⟩) 2 cF)) ?_ ?_ 26 (msC fst0 (.slice none 0 0)) (heap_alloc_new _ _) infoMs rfl (msC_one _ _ rfl) ?_; (exact rfl); (exact rfl); (rw [World.setRow_alloc_new, HWe5.out]))
  refine (HP3.out W5).mono ?_
  rintro e w6 ⟨v6, rfl, ho6, b6⟩
  obtain ⟨p6, n6, c6, rfl⟩ := ownB_shape ho6
  have HB6 := Lib.hid (HB5.out.trans (b6.mono HB5.out.size))
  have HN6 := Lib.hid ((b6.block _ (lt_of_block HN5.out)).trans HN5.out)
  have HX6 := Lib.hid (HX5.out.later b6)
  have HO6 := Lib.hid (HO5.out.later b6)
  clear ho6 b6
  obtain ⟨W7, HWe7⟩ : ∃ W, Hid (w6.alloc (.cells #[.string ⟨#[65]⟩, .string ⟨#[49]⟩, .string ⟨#[98]⟩, .string ⟨#[50]⟩, .string ⟨#[97]⟩, .string ⟨#[51]⟩] 57) = W) := ⟨_, Lib.hid rfl⟩
  have HXF7 : Hid (FxAt alG (some ⟨w6.heap.size, 0, none⟩) w6.heap.size 0 W7) := Lib.hid (fxAt_new alG w6 _ _ HWe7.out.symm)
  have HBl7 : Hid (Below w6.heap.size w6 W7) := Lib.hid (by rw [← HWe7.out]; exact (Below.refl _ _).alloc (Nat.le_refl _) _)
  have HB7 := Lib.hid (HB6.out.trans (HBl7.out.mono HB6.out.size))
  have HN7 := Lib.hid ((HBl7.out.block _ (lt_of_block HN6.out)).trans HN6.out)
  have HX7 := Lib.hid (HX6.out.later HBl7.out)
  have HO7 := Lib.hid (HO6.out.later HBl7.out)
  have HFi : Hid (Calls Tryd.prog 13 #[.slice (some ⟨w6.heap.size, 0, none⟩) 3 3, .string ⟨#[65]⟩] W7 (FindR W7 [[49], [51]])) := Lib.hid (by
    have := Find_any (some ⟨w6.heap.size, 0, none⟩) 3 w6.heap.size 0 alG ⟨#[65]⟩ W7 HXF7.out (by decide) (by decide) (by decide)
    rw [show findD (flL alG) (⟨#[65]⟩ : ByteArray).data.toList = [[49], [51]] from al_find] at this
    exact this)
  go_wp2_with fail
  rw [HWe7.out]
  refine HFi.out.mono ?_
  rintro e w8 ⟨v8, rfl, ho8, b8⟩
  obtain ⟨a8, c8, g8, rfl, ha8, hs8, -⟩ := ownS_at ho8
  obtain rfl := ha8 (by decide)
  have HB8 := Lib.hid (HB7.out.trans (b8.mono HB7.out.size))
  have HN8 := Lib.hid ((b8.block _ (lt_of_block HN7.out)).trans HN7.out)
  have HX8 := Lib.hid (HX7.out.later b8)
  have HO8 := Lib.hid (HO7.out.later b8)
  have HS8 : Hid (w8.cell? ⟨g8, 0, none⟩ = some (.string ⟨#[49]⟩) ∧ w8.cell? ⟨g8, 1, none⟩ = some (.string ⟨#[51]⟩)) := Lib.hid ⟨hs8 0 (by decide), hs8 1 (by decide)⟩
  have HM8 := Lib.hid (HM.out.later HB8.out)
  clear ho8 b8 ha8 hs8
  have c2 : w8.cell? ⟨w4.heap.size, 2, none⟩ = some (.int .i64 200) := by rw [cell_of_row w8 _ 2 _ _ _ HN8.out]; rfl
  have c3 : w8.cell? ⟨w4.heap.size, 3, none⟩ = some (.slice (some ⟨gF, 0, none⟩) 2 cF) := by rw [cell_of_row w8 _ 3 _ _ _ HN8.out]; rfl
  have hbk : (convert 24 9 (.slice pP nP cP)).run Tryd.prog w8 = .ok (.string ⟨#[71, 69, 84, 32, 47, 97, 63, 98, 32, 72, 84, 84, 80, 47, 49, 46, 49, 13, 10, 72, 111, 115, 116, 58, 32, 104, 13, 10, 13, 10]⟩) w8 := ownB_back HO8.out
  have HR0 : Hid (w8.rangeAt gF 0 [.string ⟨#[65]⟩, .string ⟨#[98]⟩]) := Lib.hid (HX8.out.range 0 (by decide))
  have HR1 : Hid (w8.rangeAt gF 2 [.string ⟨#[97]⟩, .string ⟨#[]⟩]) := Lib.hid (HX8.out.range 1 (by decide))
  have HGd := Lib.hid gd_Fd
  have HE0 := Lib.hid fun w => eqFd ⟨#[65]⟩ ⟨#[98]⟩ ⟨#[65]⟩ ⟨#[98]⟩ w
  have HE1 := Lib.hid fun w => eqFd ⟨#[97]⟩ ⟨#[]⟩ ⟨#[97]⟩ ⟨#[]⟩ w
  go_wp2_with (first
    | (refine hdW_load_mid rfl 57 _ rfl gF 0 ?_ [.string ⟨#[65]⟩, .string ⟨#[98]⟩] _ HR0.out Tryd.underlying57 rfl (infoFd2 _ _) ?_; (exact rfl))
    | (refine hdW_load_mid rfl 57 _ rfl gF 2 ?_ [.string ⟨#[97]⟩, .string ⟨#[]⟩] _ HR1.out Tryd.underlying57 rfl (infoFd2 _ _) ?_; (exact rfl))
    | (refine hdW_bin rfl .eql 57 57 (.tmp 67) (.tmp 68) rfl (.bool true) (HGd.out _ _ _ _ _ _) (HE0.out _) ?_)
    | (refine hdW_bin rfl .eql 57 57 (.tmp 75) (.tmp 76) rfl (.bool true) (HGd.out _ _ _ _ _ _) (HE1.out _) ?_))
  clear hbk
  obtain ⟨W9, HWe9⟩ : ∃ W, Hid (w8.alloc (.cells #[.string ⟨#[49]⟩, .string ⟨#[51]⟩] 9) = W) := ⟨_, Lib.hid rfl⟩
  have HBl9 : Hid (Below w8.heap.size w8 W9) := Lib.hid (by rw [← HWe9.out]; exact (Below.refl _ _).alloc (Nat.le_refl _) _)
  have HB9 := Lib.hid (HB8.out.trans (HBl9.out.mono HB8.out.size))
  have HST : Hid (Calls Tryd.prog 14 #[.slice (some ⟨g8, 0, none⟩) 2 c8, .slice (some ⟨w8.heap.size, 0, none⟩) 2 2] W9 fun e w' => e = .returned (.bool true) ∧ Below W9.heap.size W9 w') := Lib.hid (by
    have hg : W9.heap[w8.heap.size]? = some (.cells #[.string ⟨#[49]⟩, .string ⟨#[51]⟩] 9 (0, 0)) := by rw [← HWe9.out]; exact heap_alloc_new w8 _
    refine SameTexts12_eq g8 0 c8 w8.heap.size 0 2 [⟨#[49]⟩, ⟨#[51]⟩] W9 (by decide) (fun j hj => ?_) (fun j hj => ?_)
    · have h2 : j = 0 ∨ j = 1 := by simp at hj; omega
      rcases h2 with rfl | rfl
      · exact (HBl9.out.cell (p := ⟨g8, 0, none⟩) (block_lt_of_cell HS8.out.1)).trans HS8.out.1
      · exact (HBl9.out.cell (p := ⟨g8, 1, none⟩) (block_lt_of_cell HS8.out.2)).trans HS8.out.2
    · have h2 : j = 0 ∨ j = 1 := by simp at hj; omega
      rcases h2 with rfl | rfl
      · rw [cell_of_row W9 _ _ _ _ _ hg]; rfl
      · rw [cell_of_row W9 _ _ _ _ _ hg]; rfl)
  rw [HWe9.out]
  refine HST.out.mono ?_
  rintro e w10 ⟨rfl, b10⟩
  have HB10 := Lib.hid (HB9.out.trans (b10.mono HB9.out.size))
  clear b10
  go_wp2_with fail
  refine (HBd1.out _ (HM.out.later HB10.out)).mono ?_
  rintro e w11 ⟨rfl, b11⟩
  have HB11 := Lib.hid (HB10.out.trans (b11.mono HB10.out.size))
  clear b11
  go_wp2_with fail
  refine (HBd2.out _ (HM.out.later HB11.out)).mono ?_
  rintro e w12 ⟨rfl, b12⟩
  have HB12 := Lib.hid (HB11.out.trans (b12.mono HB11.out.size))
  clear b12
  go_wp2_with fail
  refine (HBd3.out _ (HM.out.later HB12.out)).mono ?_
  rintro e w13 ⟨rfl, b13⟩
  have HB13 := Lib.hid (HB12.out.trans (b13.mono HB12.out.size))
  clear b13
  go_wp2_with fail
  go_ret
  exact ⟨rfl, HB13.out⟩

end Go.Proofs.YtbfnbjffobhllaaDoor
