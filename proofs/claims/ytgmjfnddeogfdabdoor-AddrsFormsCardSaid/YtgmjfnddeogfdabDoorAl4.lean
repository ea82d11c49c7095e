/-
  alive: some answers that the document fixes; all of them hold.
-/
import Derived.Test.YtgmjfnddeogfdabDoorBw
namespace Go.Proofs.YtgmjfnddeogfdabDoor
open Go.RowKit

theorem on_one {w w' : World} {g : Nat} {o q : Obj} (h : w.heap[g]? = some q) (hb : Below (w.alloc o).heap.size (w.alloc o) w') : w'.heap[g]? = some q := by
  have hl := lt_of_block h
  rw [hb.block g (by simp; omega), Below.heap_alloc _ _ _ hl]; exact h
theorem on_two {w w' : World} {o : Obj} (hb : Below (w.alloc o).heap.size (w.alloc o) w') : w'.heap[w.heap.size]? = some o := (hb.block _ (by simp)).trans (heap_alloc_new w _)
theorem on_size {w0 w w' : World} {o : Obj} (h : Below w0.heap.size w0 w) (hb : Below (w.alloc o).heap.size (w.alloc o) w') : Below w0.heap.size w0 w' :=
  (h.alloc h.size _).trans (hb.mono (by have := h.size; simp; omega))
theorem four_lit (w : World) : Calls Tryd.prog 11 #[.int .u8 127, .int .u8 0, .int .u8 0, .int .u8 1] w fun e w' => e = .returned (.agg #[.bool false, .int .u8 127, .int .u8 0, .int .u8 0, .int .u8 1, .int .u8 0, .int .u8 0, .int .u8 0, .int .u8 0, .int .u8 0, .int .u8 0, .int .u8 0, .int .u8 0, .int .u8 0, .int .u8 0, .int .u8 0, .int .u8 0]) ∧ Below w.heap.size w w' := four_any2 127 0 0 1 w
set_option maxRecDepth 100000 in
set_option maxHeartbeats 4000000 in
theorem alive4_any (w : World) (h10 : Fmt 10 256 w) (h16 : Fmt 16 65536 w) :
    Calls Tryd.prog 12 #[] w fun e w' => e = .returned (.bool true) ∧ Below w.heap.size w w' := by
  have HF10 := Lib.hid h10; have HF16 := Lib.hid h16
  clear h10 h16
  obtain ⟨hz, hi⟩ := zero_of_info infoA
  have HI := Lib.hid hi; clear hi
  have HZs : Hid (zeroA.size = 17) := Lib.hid zeroA_size
  obtain ⟨CA, HCA⟩ : ∃ C, Hid ((#[.bool false, .int .u8 127, .int .u8 0, .int .u8 0, .int .u8 1, .int .u8 0, .int .u8 0, .int .u8 0, .int .u8 0, .int .u8 0, .int .u8 0, .int .u8 0, .int .u8 0, .int .u8 0, .int .u8 0, .int .u8 0, .int .u8 0] : Array Value) = C) := ⟨_, Lib.hid rfl⟩
  have HSA : Hid (CA.size = 17) := Lib.hid (by rw [← HCA.out]; rfl)
  have HOA : Hid (CA.all (·.oneCell') = true) := Lib.hid (by rw [← HCA.out]; exact cellsA_one false [127, 0, 0, 1, 0, 0, 0, 0, 0, 0, 0, 0, 0, 0, 0, 0])
  have HDA : Hid ((Tryd.prog.info? 24).map (·.size) = some CA.size) := Lib.hid (by rw [HI.out, HSA.out])
  have HYA : Hid (zeroA.size = CA.size) := Lib.hid (by rw [HSA.out]; exact zeroA_size)
  obtain ⟨CZ, HCZ⟩ : ∃ C, Hid ((#[.bool false, .int .u8 0, .int .u8 0, .int .u8 0, .int .u8 0, .int .u8 0, .int .u8 0, .int .u8 0, .int .u8 0, .int .u8 0, .int .u8 0, .int .u8 0, .int .u8 0, .int .u8 0, .int .u8 0, .int .u8 0, .int .u8 0] : Array Value) = C) := ⟨_, Lib.hid rfl⟩
  have HSZ : Hid (CZ.size = 17) := Lib.hid (by rw [← HCZ.out]; rfl)
  have HOZ : Hid (CZ.all (·.oneCell') = true) := Lib.hid (by rw [← HCZ.out]; exact cellsA_one false [0, 0, 0, 0, 0, 0, 0, 0, 0, 0, 0, 0, 0, 0, 0, 0])
  have HDZ : Hid ((Tryd.prog.info? 24).map (·.size) = some CZ.size) := Lib.hid (by rw [HI.out, HSZ.out])
  have HYZ : Hid (zeroA.size = CZ.size) := Lib.hid (by rw [HSZ.out]; exact zeroA_size)
  obtain ⟨CB, HCB⟩ : ∃ C, Hid ((#[.bool true, .int .u8 32, .int .u8 1, .int .u8 13, .int .u8 184, .int .u8 0, .int .u8 0, .int .u8 0, .int .u8 0, .int .u8 0, .int .u8 0, .int .u8 0, .int .u8 0, .int .u8 0, .int .u8 0, .int .u8 0, .int .u8 1] : Array Value) = C) := ⟨_, Lib.hid rfl⟩
  have HSB : Hid (CB.size = 17) := Lib.hid (by rw [← HCB.out]; rfl)
  have HOB : Hid (CB.all (·.oneCell') = true) := Lib.hid (by rw [← HCB.out]; exact cellsA_one true [32, 1, 13, 184, 0, 0, 0, 0, 0, 0, 0, 0, 0, 0, 0, 1])
  have HDB : Hid ((Tryd.prog.info? 24).map (·.size) = some CB.size) := Lib.hid (by rw [HI.out, HSB.out])
  have HYB : Hid (zeroA.size = CB.size) := Lib.hid (by rw [HSB.out]; exact zeroA_size)
  obtain ⟨CC, HCC⟩ : ∃ C, Hid ((#[.bool true, .int .u8 0, .int .u8 1, .int .u8 0, .int .u8 0, .int .u8 0, .int .u8 0, .int .u8 0, .int .u8 2, .int .u8 0, .int .u8 0, .int .u8 0, .int .u8 0, .int .u8 0, .int .u8 0, .int .u8 0, .int .u8 3] : Array Value) = C) := ⟨_, Lib.hid rfl⟩
  have HSC : Hid (CC.size = 17) := Lib.hid (by rw [← HCC.out]; rfl)
  have HOC : Hid (CC.all (·.oneCell') = true) := Lib.hid (by rw [← HCC.out]; exact cellsA_one true [0, 1, 0, 0, 0, 0, 0, 2, 0, 0, 0, 0, 0, 0, 0, 3])
  have HDC : Hid ((Tryd.prog.info? 24).map (·.size) = some CC.size) := Lib.hid (by rw [HI.out, HSC.out])
  have HYC : Hid (zeroA.size = CC.size) := Lib.hid (by rw [HSC.out]; exact zeroA_size)
  have heq : ∀ w, (binOp .eql 24 (.agg CA) (.agg CA)).run Tryd.prog w = .ok (.bool true) w := fun w => by rw [← HCA.out]; exact eqA_self false [127, 0, 0, 1, 0, 0, 0, 0, 0, 0, 0, 0, 0, 0, 0, 0] rfl w
  have HFour : Hid (∀ w, Calls Tryd.prog 11 #[.int .u8 127, .int .u8 0, .int .u8 0, .int .u8 1] w fun e w' => e = .returned (.agg CA) ∧ Below w.heap.size w w') := Lib.hid (fun w => by have := four_lit w; rwa [HCA.out] at this)
  have F0 : Hid (∀ w, Calls Tryd.prog 10 #[.string ⟨#[48, 120, 55, 102, 46, 49]⟩] w fun e w' => e = .returned (.tuple #[.agg CA, .bool true, .int .i64 0]) ∧ Below w.heap.size w w') := Lib.hid (fun w => by have := al_0 w; rwa [HCA.out] at this)
  have F1 : Hid (∀ w, Calls Tryd.prog 10 #[.string ⟨#[97, 46, 98]⟩] w fun e w' => e = .returned (.tuple #[.agg CZ, .bool false, .int .i64 0]) ∧ Below w.heap.size w w') := Lib.hid (fun w => by have := al_1 w; rwa [HCZ.out] at this)
  have F2 : Hid (∀ w, Calls Tryd.prog 10 #[.string ⟨#[50, 53, 54, 46, 49]⟩] w fun e w' => e = .returned (.tuple #[.agg CZ, .bool true, .int .i64 5]) ∧ Below w.heap.size w w') := Lib.hid (fun w => by have := al_2 w; rwa [HCZ.out] at this)
  have F3 : Hid (∀ w, Calls Tryd.prog 8 #[.string ⟨#[50, 48, 48, 49, 58, 68, 66, 56, 58, 58, 48, 58, 49]⟩] w fun e w' => e = .returned (.tuple #[.agg CB, .int .i64 0]) ∧ Below w.heap.size w w') := Lib.hid (fun w => by have := al_3 w; rwa [HCB.out] at this)
  have F4 : Hid (∀ w, Calls Tryd.prog 8 #[.string ⟨#[49, 58, 58, 50, 58, 58, 51]⟩] w fun e w' => e = .returned (.tuple #[.agg CZ, .int .i64 5]) ∧ Below w.heap.size w w') := Lib.hid (fun w => by have := al_4 w; rwa [HCZ.out] at this)
  have F5 : Hid (∀ w, Calls Tryd.prog 8 #[.string ⟨#[49, 58, 48, 58, 48, 58, 50, 58, 48, 58, 48, 58, 48, 58, 51]⟩] w fun e w' => e = .returned (.tuple #[.agg CC, .int .i64 0]) ∧ Below w.heap.size w w') := Lib.hid (fun w => by have := al_5 w; rwa [HCC.out] at this)
  go_enter Tryd.func12, Tryd.ntmps12
  go_wp2_with fail
  refine (F0.out _).mono ?_
  rintro e w1 ⟨rfl, b1⟩
  have B1 := Lib.hid b1; clear b1
  go_wp2_with (refine wpL_store_row rfl 24 _ _ rfl w1.heap.size CA ?_ ?_ 24 zeroA ?_ ?_ ?_ ?_ ?_; exact rfl; exact rfl; exact heap_alloc_new w1 _; exact HDA.out; exact HYA.out; exact HOA.out; rw [World.setRow_alloc_new])
  refine (F1.out _).mono ?_
  rintro e w2 ⟨rfl, b2⟩
  have B2 := Lib.hid b2; clear b2
  go_wp2_with (refine wpL_store_row rfl 24 _ _ rfl w2.heap.size CZ ?_ ?_ 24 zeroA ?_ ?_ ?_ ?_ ?_; exact rfl; exact rfl; exact heap_alloc_new w2 _; exact HDZ.out; exact HYZ.out; exact HOZ.out; rw [World.setRow_alloc_new])
  refine (F2.out _).mono ?_
  rintro e w3 ⟨rfl, b3⟩
  have B3 := Lib.hid b3; clear b3
  go_wp2_with (refine wpL_store_row rfl 24 _ _ rfl w3.heap.size CZ ?_ ?_ 24 zeroA ?_ ?_ ?_ ?_ ?_; exact rfl; exact rfl; exact heap_alloc_new w3 _; exact HDZ.out; exact HYZ.out; exact HOZ.out; rw [World.setRow_alloc_new])
  refine (F3.out _).mono ?_
  rintro e w4 ⟨rfl, b4⟩
  have B4 := Lib.hid b4; clear b4
  go_wp2_with (refine wpL_store_row rfl 24 _ _ rfl w4.heap.size CB ?_ ?_ 24 zeroA ?_ ?_ ?_ ?_ ?_; exact rfl; exact rfl; exact heap_alloc_new w4 _; exact HDB.out; exact HYB.out; exact HOB.out; rw [World.setRow_alloc_new])
  refine (F4.out _).mono ?_
  rintro e w5 ⟨rfl, b5⟩
  have B5 := Lib.hid b5; clear b5
  go_wp2_with (refine wpL_store_row rfl 24 _ _ rfl w5.heap.size CZ ?_ ?_ 24 zeroA ?_ ?_ ?_ ?_ ?_; exact rfl; exact rfl; exact heap_alloc_new w5 _; exact HDZ.out; exact HYZ.out; exact HOZ.out; rw [World.setRow_alloc_new])
  refine (F5.out _).mono ?_
  rintro e w6 ⟨rfl, b6⟩
  have B6 := Lib.hid b6; clear b6
  go_wp2_with (refine wpL_store_row rfl 24 _ _ rfl w6.heap.size CC ?_ ?_ 24 zeroA ?_ ?_ ?_ ?_ ?_; exact rfl; exact rfl; exact heap_alloc_new w6 _; exact HDC.out; exact HYC.out; exact HOC.out; rw [World.setRow_alloc_new])
  obtain ⟨W, HW⟩ : ∃ W, Hid (w6.alloc (.cells CC 24) = W) := ⟨_, Lib.hid rfl⟩
  have HB0 : Hid (Below w.heap.size w W) := Lib.hid (by
    rw [← HW.out]
    have z1 : Below w.heap.size w w1 := B1.out
    have z6 := on_size (on_size (on_size (on_size (on_size z1 B2.out) B3.out) B4.out) B5.out) B6.out
    exact z6.alloc z6.size _)
  have GA : Hid (W.heap[w1.heap.size]? = some (.cells CA 24 (0, 0))) := Lib.hid (by
    rw [← HW.out, Below.heap_alloc _ _ _ (lt_of_block (on_one (on_one (on_one (on_one (on_two B2.out) B3.out) B4.out) B5.out) B6.out))]; exact on_one (on_one (on_one (on_one (on_two B2.out) B3.out) B4.out) B5.out) B6.out)
  have GB : Hid (W.heap[w4.heap.size]? = some (.cells CB 24 (0, 0))) := Lib.hid (by
    rw [← HW.out, Below.heap_alloc _ _ _ (lt_of_block (on_one (on_two B5.out) B6.out))]; exact on_one (on_two B5.out) B6.out)
  have GC : Hid (W.heap[w6.heap.size]? = some (.cells CC 24 (0, 0))) := Lib.hid (by rw [← HW.out]; exact heap_alloc_new w6 _)
  have TA : Hid (∀ p : BW W, Calls Tryd.prog 9 #[.agg CA] p.w fun e w'' => e = .returned (.string ⟨#[49, 50, 55, 46, 48, 46, 48, 46, 49]⟩) ∧ Below p.w.heap.size p.w w'') := Lib.hid (fun p => by
    have := al_text0 p.w (HF10.out.later (HB0.out.trans (p.h.mono HB0.out.size))) (HF16.out.later (HB0.out.trans (p.h.mono HB0.out.size)))
    rwa [HCA.out] at this)
  have TB : Hid (∀ p : BW W, Calls Tryd.prog 9 #[.agg CB] p.w fun e w'' => e = .returned (.string ⟨#[50, 48, 48, 49, 58, 100, 98, 56, 58, 58, 49]⟩) ∧ Below p.w.heap.size p.w w'') := Lib.hid (fun p => by
    have := al_text3 p.w (HF10.out.later (HB0.out.trans (p.h.mono HB0.out.size))) (HF16.out.later (HB0.out.trans (p.h.mono HB0.out.size)))
    rwa [HCB.out] at this)
  have TC : Hid (∀ p : BW W, Calls Tryd.prog 9 #[.agg CC] p.w fun e w'' => e = .returned (.string ⟨#[49, 58, 48, 58, 48, 58, 50, 58, 58, 51]⟩) ∧ Below p.w.heap.size p.w w'') := Lib.hid (fun p => by
    have := al_text5 p.w (HF10.out.later (HB0.out.trans (p.h.mono HB0.out.size))) (HF16.out.later (HB0.out.trans (p.h.mono HB0.out.size)))
    rwa [HCC.out] at this)
  rw [HW.out]
  clear B1 B2 B3 B4 B5 B6
  refine bw_region (by kernel_rfl) (by kernel_rfl) ?_
  repeat (first
    | (refine bw_load rfl 24 _ rfl w1.heap.size CA ?_ 24 (0, 0) _ ?_ Tryd.underlying24 rfl HDA.out ?_; (exact rfl); (intro w hw; obtain ⟨p, rfl⟩ := hw; exact BW.at GA.out p))
    | (refine bw_load rfl 24 _ rfl w4.heap.size CB ?_ 24 (0, 0) _ ?_ Tryd.underlying24 rfl HDB.out ?_; (exact rfl); (intro w hw; obtain ⟨p, rfl⟩ := hw; exact BW.at GB.out p))
    | (refine bw_load rfl 24 _ rfl w6.heap.size CC ?_ 24 (0, 0) _ ?_ Tryd.underlying24 rfl HDC.out ?_; (exact rfl); (intro w hw; obtain ⟨p, rfl⟩ := hw; exact BW.at GC.out p))
    | (quiet_step ((first
      | (go_at_call 11; exact Calls.bw_of (HFour.out _))
      | (with_reducible exact Calls.bw_of (TA.out _))
      | (with_reducible exact Calls.bw_of (TB.out _))
      | (with_reducible exact Calls.bw_of (TC.out _))))))
  refine wpQuiet_nil ?_
  intro _ hw'
  obtain ⟨⟨wq, hwq⟩, rfl⟩ := hw'
  go_wp2_with fail
  go_ret
  exact ⟨rfl, HB0.out.trans (Below.mono hwq HB0.out.size)⟩

end Go.Proofs.YtgmjfnddeogfdabDoor
