/-
  The walk of AddrsFours.
-/
import Derived.Test.YtgcebachahodgaaRdL
import Derived.Test.YtgcebachahodgaaRfD
import Derived.Test.YtgcebachahodgaaBey
import Derived.Test.YtgcebachahodgaaAdE
namespace Go.Proofs.Ytgcebachahodgaa
open Go.RowKit

set_option maxHeartbeats 1000000 in
theorem fours_walk (s : ByteArray) (w : World) (hs : s.size ≤ 140737488351232) :
    Calls Try.prog 3 #[.string s] w fun e w' => e = .returned (.bool true) ∧ Below w.heap.size w w' := by
  by_cases hb : 1048576 < s.size
  · go_enter Try.func3, Try.ntmps3
    go_wp2_with fail
    refine (Beyond1_yes w.heap.size s.size _ (by unfold maxLen; omega) (by simp) hb).mono ?_
    rintro e w1 ⟨rfl, rfl⟩
    go_wp2
    go_ret
    exact ⟨rfl, (Below.refl _ _).alloc (Nat.le_refl _) _⟩
  · go_enter Try.func3, Try.ntmps3
    go_wp2_with fail
    refine (Beyond1_no w.heap.size s.size _ (by simp) (by omega)).mono ?_
    rintro e w1 ⟨rfl, rfl⟩
    obtain ⟨hz, hi⟩ := zero_of_info infoA
    have HI := Lib.hid hi; clear hi
    obtain ⟨m, k, x, hV, hm⟩ := fourV_form s.data.toList
    have HV := Lib.hid hV
    obtain ⟨C, HC⟩ : ∃ C, Hid (cellsA false m = C) := ⟨_, Lib.hid rfl⟩
    have HCs : Hid (C.size = 17) := Lib.hid (by rw [← HC.out, cellsA_size, hm])
    have HOne : Hid (C.all (·.oneCell') = true) := Lib.hid (by rw [← HC.out]; exact cellsA_one _ _)
    have HID : Hid ((Try.prog.info? 25).map (·.size) = some C.size) := Lib.hid (by rw [HI.out, HCs.out])
    have HZD : Hid (zeroA.size = C.size) := Lib.hid (by rw [HCs.out, zeroA_size])
    have heq : ∀ w, (binOp .eql 25 (.agg C) (.agg C)).run Try.prog w = .ok (.bool true) w := fun w => by rw [← HC.out]; exact eqA_self false m hm w
    have H1 : Hid (∀ w, Calls Try.prog 6 #[.string s] w fun e w' => e = .returned (.tuple #[.agg C, .bool k, .int .i64 x]) ∧ Below w.heap.size w w') := Lib.hid (fun w => by
      have := Four_any s w (by omega)
      rwa [HV.out, HC.out] at this)
    have H2 : Hid (∀ w, Calls Try.prog 7 #[.string s] w fun e w' => e = .returned (.tuple #[.agg C, .bool k, .int .i64 x]) ∧ Below w.heap.size w w') := Lib.hid (fun w => by
      have := RefFour_any s w (by omega)
      rwa [HV.out, HC.out] at this)
    clear hV hm
    go_wp2_with fail
    refine (H1.out _).mono ?_
    rintro e w1 ⟨rfl, b1⟩
    have B1 := Lib.hid b1; clear b1
    go_wp2_with (refine wpL_store_row rfl _ _ _ rfl w1.heap.size C rfl rfl _ zeroA (heap_alloc_new w1 _) HID.out HZD.out HOne.out ?_; rw [World.setRow_alloc_new])
    refine (H2.out _).mono ?_
    rintro e w2 ⟨rfl, b2⟩
    have B2 := Lib.hid b2
    have HG2 : Hid (w2.heap[w1.heap.size]? = some (.cells C 25 (0, 0))) := Lib.hid ((b2.block _ (by simp)).trans (heap_alloc_new w1 _))
    clear b2
    have HG3 : ∀ o, Hid ((w2.alloc o).heap[w1.heap.size]? = some (.cells C 25 (0, 0))) := fun o => Lib.hid (by rw [Below.heap_alloc _ _ _ (lt_of_block HG2.out)]; exact HG2.out)
    go_wp2_with (first | (refine wpL_store_row rfl _ _ _ rfl w2.heap.size C rfl rfl _ zeroA (heap_alloc_new w2 _) HID.out HZD.out HOne.out ?_; rw [World.setRow_alloc_new]) | refine wpList_load_row rfl 25 _ rfl w1.heap.size rfl 25 C (0, 0) _ (HG3 _).out Try.underlying25 rfl HID.out ?_ | refine wpList_load_row rfl 25 _ rfl w2.heap.size rfl 25 C (0, 0) _ (heap_alloc_new w2 _) Try.underlying25 rfl HID.out ?_)
    go_ret
    have z0 : Below w.heap.size w w1 := ((Below.refl _ _).alloc (Nat.le_refl _) _).trans (B1.out.mono (by simp))
    have z1 : Below w.heap.size w w2 := (z0.alloc z0.size _).trans (B2.out.mono (by have := z0.size; simp; omega))
    exact ⟨rfl, z1.alloc z1.size _⟩

end Go.Proofs.Ytgcebachahodgaa
