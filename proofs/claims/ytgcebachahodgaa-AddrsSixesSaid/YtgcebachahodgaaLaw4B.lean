/-
  The walk of AddrsSixes.
-/
import Derived.Test.YtgcebachahodgaaRfG
import Derived.Test.YtgcebachahodgaaBey
import Derived.Test.YtgcebachahodgaaAdE
namespace Go.Proofs.Ytgcebachahodgaa
open Go.RowKit

theorem sixD_len {l : List UInt8} {ps : List Nat} (h : sixD l = some ps) : ps.length = 8 := by
  unfold sixD at h
  split at h
  · split at h
    · split at h
      · rename_i h8; injection h with h; rw [← h]; exact h8
      · cases h
    · cases h
  · split at h
    · cases h
    · split at h
      · cases h
      · split at h
        · injection h with h; rw [← h, List.length_append, List.length_append, List.length_replicate]; omega
        · cases h
/-- What sixteen bytes' answer looks like. -/
theorem sixV_form (l : List UInt8) : ∃ (sx : Bool) (m : List Nat) (e : Int), sixV (sixD l) = .tuple #[.agg (cellsA sx m), .int .i64 e] ∧ m.length = 16 := by
  cases h : sixD l with
  | none => exact ⟨false, List.replicate 16 0, 5, rfl, by simp⟩
  | some ps => exact ⟨true, pb ps, 0, rfl, by rw [pb_len, sixD_len h]⟩

set_option maxHeartbeats 1000000 in
theorem sixes_walk (s : ByteArray) (w : World) (hs : s.size ≤ 140737488351232) :
    Calls Try.prog 4 #[.string s] w fun e w' => e = .returned (.bool true) ∧ Below w.heap.size w w' := by
  by_cases hb : 1048576 < s.size
  · go_enter Try.func4, Try.ntmps4
    go_wp2_with fail
    refine (Beyond1_yes w.heap.size s.size _ (by unfold maxLen; omega) (by simp) hb).mono ?_
    rintro e w1 ⟨rfl, rfl⟩
    go_wp2
    go_ret
    exact ⟨rfl, (Below.refl _ _).alloc (Nat.le_refl _) _⟩
  · go_enter Try.func4, Try.ntmps4
    go_wp2_with fail
    refine (Beyond1_no w.heap.size s.size _ (by simp) (by omega)).mono ?_
    rintro e w1 ⟨rfl, rfl⟩
    obtain ⟨hz, hi⟩ := zero_of_info infoA
    have HI := Lib.hid hi; clear hi
    obtain ⟨sx, m, x, hV, hm⟩ := sixV_form s.data.toList
    have HV := Lib.hid hV
    obtain ⟨C, HC⟩ : ∃ C, Hid (cellsA sx m = C) := ⟨_, Lib.hid rfl⟩
    have HCs : Hid (C.size = 17) := Lib.hid (by rw [← HC.out, cellsA_size, hm])
    have HOne : Hid (C.all (·.oneCell') = true) := Lib.hid (by rw [← HC.out]; exact cellsA_one _ _)
    have HID : Hid ((Try.prog.info? 25).map (·.size) = some C.size) := Lib.hid (by rw [HI.out, HCs.out])
    have HZD : Hid (zeroA.size = C.size) := Lib.hid (by rw [HCs.out, zeroA_size])
    have heq : ∀ w, (binOp .eql 25 (.agg C) (.agg C)).run Try.prog w = .ok (.bool true) w := fun w => by rw [← HC.out]; exact eqA_self sx m hm w
    have H1 : Hid (∀ w, Calls Try.prog 8 #[.string s] w fun e w' => e = .returned (.tuple #[.agg C, .int .i64 x]) ∧ Below w.heap.size w w') := Lib.hid (fun w => by
      have := Six_any s w (by omega)
      rwa [HV.out, HC.out] at this)
    have H2 : Hid (∀ w, Calls Try.prog 9 #[.string s] w fun e w' => e = .returned (.tuple #[.agg C, .int .i64 x]) ∧ Below w.heap.size w w') := Lib.hid (fun w => by
      have := RefSix_any s w (by omega)
      rwa [HV.out, HC.out] at this)
    clear hV hm
    go_wp2_with fail
    refine (H1.out _).mono ?_
    rintro e w1 ⟨rfl, b1⟩
    have B1 := Lib.hid b1; clear b1
    go_wp2_with (refine wpL_store_row rfl _ _ _ rfl w1.heap.size C rfl rfl _ zeroA (heap_alloc_new w1 _) HID.out HZD.out HOne.out ?_; rw [World.setRow_alloc_new])
    refine (H2.out _).mono ?_
    rintro e w2 ⟨rfl, b2⟩
    have B2 := Lib.hid b2
    have HG2 : Hid (w2.heap[w1.heap.size]? = some (.cells C 25 (0, 0))) := Lib.hid ((b2.block _ (by simp)).trans (heap_alloc_new w1 _))
    clear b2
    have HG3 : ∀ o, Hid ((w2.alloc o).heap[w1.heap.size]? = some (.cells C 25 (0, 0))) := fun o => Lib.hid (by rw [Below.heap_alloc _ _ _ (lt_of_block HG2.out)]; exact HG2.out)
    go_wp2_with (first | (refine wpL_store_row rfl _ _ _ rfl w2.heap.size C rfl rfl _ zeroA (heap_alloc_new w2 _) HID.out HZD.out HOne.out ?_; rw [World.setRow_alloc_new]) | refine wpList_load_row rfl 25 _ rfl w1.heap.size rfl 25 C (0, 0) _ (HG3 _).out Try.underlying25 rfl HID.out ?_ | refine wpList_load_row rfl 25 _ rfl w2.heap.size rfl 25 C (0, 0) _ (heap_alloc_new w2 _) Try.underlying25 rfl HID.out ?_)
    go_ret
    have z0 : Below w.heap.size w w1 := ((Below.refl _ _).alloc (Nat.le_refl _) _).trans (B1.out.mono (by simp))
    have z1 : Below w.heap.size w w2 := (z0.alloc z0.size _).trans (B2.out.mono (by have := z0.size; simp; omega))
    exact ⟨rfl, z1.alloc z1.size _⟩

end Go.Proofs.Ytgcebachahodgaa
