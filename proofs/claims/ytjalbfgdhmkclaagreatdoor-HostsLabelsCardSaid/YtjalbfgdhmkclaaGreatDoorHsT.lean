/-
  Contracts: hosts.Below, hosts.Labels, is, alive.
-/
import Derived.Test.YtjalbfgdhmkclaaGreatDoorHsC
import Derived.Test.YtjalbfgdhmkclaaGreatDoorHsP
namespace Go.Proofs.YtjalbfgdhmkclaaGreatDoor
open Go.RowKit


set_option maxRecDepth 100000 in
set_option maxHeartbeats 1000000 in
theorem Labels_some (s : ByteArray) (m : Int) (w : World) (hs : s.size ≤ 1048600) (h0 : 0 < s.size) (hm : w.cell? ⟨2, 0, none⟩ = some (.int .i64 m)) :
    Calls Tryz.prog 13 #[.string s] w fun e w' => ∃ g, e = .returned (.slice (some ⟨g, 0, none⟩) (labelsL s).length (labelsL s).length) ∧ w.heap.size ≤ g ∧ w'.heap[g]? = some (.cells ((labelsL s).map Value.string).toArray 9 (0, 0)) ∧ Below w.heap.size w w' := by
  have HM := Lib.hid hm; clear hm
  have hem := emF h0
  obtain ⟨M, HMM⟩ : ∃ M, Hid (machB s = M) := ⟨_, Lib.hid rfl⟩
  have CM : Hid (∀ w, Calls Tryz.prog 16 #[.string s] w fun e w' => e = .returned (.bool M) ∧ Below w.heap.size w w') := Lib.hid (fun w => by rw [← HMM.out]; exact Machine_any s w hs)
  obtain ⟨L, HL⟩ : ∃ L, Hid (labelsL s = L) := ⟨_, Lib.hid rfl⟩
  rw [HL.out]
  have hs0 : ¬ s.size = 0 := by omega
  cases M
  · have HLr : Hid (rawB 46 s = L) := Lib.hid (by rw [← HL.out, labelsL, if_neg hs0, HMM.out]; rfl)
    obtain ⟨n, HN⟩ : ∃ n, Hid (L.length = n) := ⟨_, Lib.hid rfl⟩
    have CS : Hid (∀ w, w.cell? ⟨2, 0, none⟩ = some (.int .i64 m) → Calls Tryz.prog 38 #[.string s, .string ⟨#[46]⟩] w fun e w' => e = .returned (.slice (some ⟨w.heap.size, 0, none⟩) n n) ∧ w.alloc (.cells (L.map Value.string).toArray 9) = w') := Lib.hid (fun w hm => by
      have := Tryz.strings_Split s ⟨#[46]⟩ m w (by omega) hm (Nat.le_refl 1)
      rw [show Lib.splitB ⟨#[46]⟩ 0 (Lib.countB s ⟨#[46]⟩) s = L from HLr.out, show Lib.countB s ⟨#[46]⟩ + 1 = n by rw [← rawB_len, HLr.out, HN.out]] at this
      exact this.mono fun _ _ ⟨h1, h2⟩ => ⟨h1, h2.symm⟩)
    rw [HN.out]
    clear hs0
    go_enter Tryz.func13, Tryz.ntmps13
    go_wp2_with fail
    refine (CM.out _).mono ?_
    rintro e w1 ⟨rfl, b1⟩
    have B1 := Lib.hid b1
    have HM1 : Hid (w1.cell? ⟨2, 0, none⟩ = some (.int .i64 m)) := Lib.hid ((b1.cell (block_lt_of_cell HM.out)).trans HM.out)
    clear b1
    go_wp2_with fail
    refine (CS.out _ HM1.out).mono ?_
    rintro e w2 ⟨rfl, rfl⟩
    go_wp2
    go_ret
    exact ⟨w1.heap.size, rfl, B1.out.size, heap_alloc_new w1 _, B1.out.alloc B1.out.size _⟩
  · have HLr : Hid (L = [s]) := Lib.hid (by rw [← HL.out, labelsL, if_neg hs0, HMM.out]; rfl)
    rw [HLr.out]
    clear hs0
    go_enter Tryz.func13, Tryz.ntmps13
    go_wp2_with fail
    refine (CM.out _).mono ?_
    rintro e w1 ⟨rfl, b1⟩
    have B1 := Lib.hid b1
    clear b1
    go_wp2
    go_ret
    exact ⟨w1.heap.size, rfl, B1.out.size, heap_alloc_new w1 _, B1.out.alloc B1.out.size _⟩
theorem Parse_some {s x : ByteArray} (w : World) (hs : s.size ≤ 1000) (h : hostO s = some x) (hW : Hw w) : Calls Tryz.prog 10 #[.string s] w fun e w' => e = .returned (.tuple #[.string x, .int .i64 0]) ∧ Below w.heap.size w w' := by
  have := HostsParse_any s w (by unfold maxLen; omega) (.inl hs) hW
  rwa [show hostT s = (x, 0) by rw [hostT, if_neg (by omega), h]] at this
theorem Parse_none {s : ByteArray} (w : World) (hs : s.size ≤ 1000) (h : hostO s = none) (hW : Hw w) : Calls Tryz.prog 10 #[.string s] w fun e w' => e = .returned (.tuple #[.string ⟨#[]⟩, .int .i64 5]) ∧ Below w.heap.size w w' := by
  have := HostsParse_any s w (by unfold maxLen; omega) (.inl hs) hW
  rwa [show hostT s = (⟨#[]⟩, 5) by rw [hostT, if_neg (by omega), h]] at this
set_option maxRecDepth 100000 in
set_option maxHeartbeats 1000000 in
theorem is5_yes (s x : ByteArray) (w : World) (hs : s.size ≤ 1000) (h : hostO s = some x) (hW : Hw w) :
    Calls Tryz.prog 21 #[.string s, .string x] w fun e w' => e = .returned (.bool true) ∧ Below w.heap.size w w' := by
  have C1 := Lib.hid (Parse_some w hs h hW)
  clear h hW
  go_enter Tryz.func21, Tryz.ntmps21
  go_wp2_with fail
  refine C1.out.mono ?_
  rintro e w1 ⟨rfl, b1⟩
  have B1 := Lib.hid b1; clear b1
  go_wp2
  go_ret
  exact ⟨rfl, B1.out⟩

/- Some answers that the document fixes. -/
theorem h5_bad0 : hostO ⟨#[97, 46, 46, 98]⟩ = none := by decide +kernel
theorem h5_bad1 : hostO ⟨#[49, 46, 50, 46, 51, 46, 52, 46, 53]⟩ = none := by decide +kernel
theorem h5_is0 : hostO ⟨#[69, 120, 65, 109, 112, 108, 101, 46, 67, 79, 77]⟩ = some ⟨#[101, 120, 97, 109, 112, 108, 101, 46, 99, 111, 109]⟩ := by decide +kernel
theorem h5_is1 : hostO ⟨#[101, 120, 97, 109, 112, 108, 101, 46, 99, 111, 109, 46]⟩ = some ⟨#[101, 120, 97, 109, 112, 108, 101, 46, 99, 111, 109]⟩ := by decide +kernel
theorem h5_is2 : hostO ⟨#[98, 37, 67, 51, 37, 66, 67, 99, 104, 101, 114, 46, 100, 101]⟩ = some ⟨#[120, 110, 45, 45, 98, 99, 104, 101, 114, 45, 107, 118, 97, 46, 100, 101]⟩ := by decide +kernel
theorem h5_is3 : hostO ⟨#[48, 120, 55, 102, 46, 49]⟩ = some ⟨#[49, 50, 55, 46, 48, 46, 48, 46, 49]⟩ := by decide +kernel
theorem h5_is4 : hostO ⟨#[91, 58, 58, 48, 58, 49, 93]⟩ = some ⟨#[91, 58, 58, 49, 93]⟩ := by decide +kernel
theorem h5_m0 : machB ⟨#[49, 46, 50, 46, 51, 46, 52]⟩ = true := by decide +kernel
theorem h5_m1 : machB ⟨#[97, 46, 49]⟩ = false := by decide +kernel
theorem h5_b0 : belowB ⟨#[97, 46, 98, 46, 99]⟩ ⟨#[98, 46, 99]⟩ = true := by decide +kernel
theorem h5_b1 : belowB ⟨#[97, 98, 46, 99]⟩ ⟨#[98, 46, 99]⟩ = false := by decide +kernel
theorem h5_l : labelsL ⟨#[97, 46, 98, 46, 99]⟩ = [⟨#[97]⟩, ⟨#[98]⟩, ⟨#[99]⟩] := by decide +kernel
theorem H5bad0 (w : World) (hW : Hw w) : Calls Tryz.prog 10 #[.string ⟨#[97, 46, 46, 98]⟩] w fun e w' => e = .returned (.tuple #[.string ⟨#[]⟩, .int .i64 5]) ∧ Below w.heap.size w w' := Parse_none w (by decide) h5_bad0 hW
theorem H5bad1 (w : World) (hW : Hw w) : Calls Tryz.prog 10 #[.string ⟨#[49, 46, 50, 46, 51, 46, 52, 46, 53]⟩] w fun e w' => e = .returned (.tuple #[.string ⟨#[]⟩, .int .i64 5]) ∧ Below w.heap.size w w' := Parse_none w (by decide) h5_bad1 hW
theorem H5is0 (w : World) (hW : Hw w) : Calls Tryz.prog 21 #[.string ⟨#[69, 120, 65, 109, 112, 108, 101, 46, 67, 79, 77]⟩, .string ⟨#[101, 120, 97, 109, 112, 108, 101, 46, 99, 111, 109]⟩] w fun e w' => e = .returned (.bool true) ∧ Below w.heap.size w w' := is5_yes _ _ w (by decide) h5_is0 hW
theorem H5is1 (w : World) (hW : Hw w) : Calls Tryz.prog 21 #[.string ⟨#[101, 120, 97, 109, 112, 108, 101, 46, 99, 111, 109, 46]⟩, .string ⟨#[101, 120, 97, 109, 112, 108, 101, 46, 99, 111, 109]⟩] w fun e w' => e = .returned (.bool true) ∧ Below w.heap.size w w' := is5_yes _ _ w (by decide) h5_is1 hW
theorem H5is2 (w : World) (hW : Hw w) : Calls Tryz.prog 21 #[.string ⟨#[98, 37, 67, 51, 37, 66, 67, 99, 104, 101, 114, 46, 100, 101]⟩, .string ⟨#[120, 110, 45, 45, 98, 99, 104, 101, 114, 45, 107, 118, 97, 46, 100, 101]⟩] w fun e w' => e = .returned (.bool true) ∧ Below w.heap.size w w' := is5_yes _ _ w (by decide) h5_is2 hW
theorem H5is3 (w : World) (hW : Hw w) : Calls Tryz.prog 21 #[.string ⟨#[48, 120, 55, 102, 46, 49]⟩, .string ⟨#[49, 50, 55, 46, 48, 46, 48, 46, 49]⟩] w fun e w' => e = .returned (.bool true) ∧ Below w.heap.size w w' := is5_yes _ _ w (by decide) h5_is3 hW
theorem H5is4 (w : World) (hW : Hw w) : Calls Tryz.prog 21 #[.string ⟨#[91, 58, 58, 48, 58, 49, 93]⟩, .string ⟨#[91, 58, 58, 49, 93]⟩] w fun e w' => e = .returned (.bool true) ∧ Below w.heap.size w w' := is5_yes _ _ w (by decide) h5_is4 hW
theorem H5m0 (w : World) (_hW : Hw w) : Calls Tryz.prog 16 #[.string ⟨#[49, 46, 50, 46, 51, 46, 52]⟩] w fun e w' => e = .returned (.bool true) ∧ Below w.heap.size w w' := by
  have := Machine_any ⟨#[49, 46, 50, 46, 51, 46, 52]⟩ w (by decide)
  rwa [h5_m0] at this
theorem H5m1 (w : World) (_hW : Hw w) : Calls Tryz.prog 16 #[.string ⟨#[97, 46, 49]⟩] w fun e w' => e = .returned (.bool false) ∧ Below w.heap.size w w' := by
  have := Machine_any ⟨#[97, 46, 49]⟩ w (by decide)
  rwa [h5_m1] at this
theorem H5b0 (w : World) (_hW : Hw w) : Calls Tryz.prog 23 #[.string ⟨#[97, 46, 98, 46, 99]⟩, .string ⟨#[98, 46, 99]⟩] w fun e w' => e = .returned (.bool true) ∧ Below w.heap.size w w' := by
  have := Below5_any ⟨#[97, 46, 98, 46, 99]⟩ ⟨#[98, 46, 99]⟩ w (by decide) (by decide)
  rwa [h5_b0] at this
theorem H5b1 (w : World) (_hW : Hw w) : Calls Tryz.prog 23 #[.string ⟨#[97, 98, 46, 99]⟩, .string ⟨#[98, 46, 99]⟩] w fun e w' => e = .returned (.bool false) ∧ Below w.heap.size w w' := by
  have := Below5_any ⟨#[97, 98, 46, 99]⟩ ⟨#[98, 46, 99]⟩ w (by decide) (by decide)
  rwa [h5_b1] at this
theorem H5l (w : World) (hW : Hw w) : Calls Tryz.prog 13 #[.string ⟨#[97, 46, 98, 46, 99]⟩] w fun e w' => (∃ g, e = .returned (.slice (some ⟨g, 0, none⟩) 3 3)) ∧ Below w.heap.size w w' := by
  obtain ⟨m, hm⟩ := hW.ml
  have := Labels_some ⟨#[97, 46, 98, 46, 99]⟩ m w (by decide) (by decide) hm
  rw [h5_l] at this
  exact this.mono fun e w' ⟨g, he, _, _, hb⟩ => ⟨⟨g, he⟩, hb⟩
set_option maxRecDepth 100000 in
set_option maxHeartbeats 4000000 in
theorem alive5_any (w : World) (hW : Hw w) : Calls Tryz.prog 20 #[] w fun e w' => e = .returned (.bool true) ∧ Below w.heap.size w w' := by
  have HW := Lib.hid hW; clear hW
  go_enter Tryz.func20, Tryz.ntmps20
  go_wp2_with fail
  refine (H5bad0 _ HW.out).mono ?_
  rintro e w1 ⟨rfl, b1⟩
  have Z1 : Hid (Below w.heap.size w w1) := Lib.hid (b1)
  clear b1
  go_wp2_with fail
  refine (H5bad1 _ (HW.out.later Z1.out)).mono ?_
  rintro e w2 ⟨rfl, b2⟩
  have Z2 : Hid (Below w.heap.size w w2) := Lib.hid (keepW Z1.out b2)
  clear b2
  go_wp2_with fail
  refine (H5is0 _ (HW.out.later Z2.out)).mono ?_
  rintro e w3 ⟨rfl, b3⟩
  have Z3 : Hid (Below w.heap.size w w3) := Lib.hid (keepW Z2.out b3)
  clear b3
  go_wp2_with fail
  refine (H5is1 _ (HW.out.later Z3.out)).mono ?_
  rintro e w4 ⟨rfl, b4⟩
  have Z4 : Hid (Below w.heap.size w w4) := Lib.hid (keepW Z3.out b4)
  clear b4
  go_wp2_with fail
  refine (H5is2 _ (HW.out.later Z4.out)).mono ?_
  rintro e w5 ⟨rfl, b5⟩
  have Z5 : Hid (Below w.heap.size w w5) := Lib.hid (keepW Z4.out b5)
  clear b5
  go_wp2_with fail
  refine (H5is3 _ (HW.out.later Z5.out)).mono ?_
  rintro e w6 ⟨rfl, b6⟩
  have Z6 : Hid (Below w.heap.size w w6) := Lib.hid (keepW Z5.out b6)
  clear b6
  go_wp2_with fail
  refine (H5is4 _ (HW.out.later Z6.out)).mono ?_
  rintro e w7 ⟨rfl, b7⟩
  have Z7 : Hid (Below w.heap.size w w7) := Lib.hid (keepW Z6.out b7)
  clear b7
  go_wp2_with fail
  refine (H5m0 _ (HW.out.later Z7.out)).mono ?_
  rintro e w8 ⟨rfl, b8⟩
  have Z8 : Hid (Below w.heap.size w w8) := Lib.hid (keepW Z7.out b8)
  clear b8
  go_wp2_with fail
  refine (H5m1 _ (HW.out.later Z8.out)).mono ?_
  rintro e w9 ⟨rfl, b9⟩
  have Z9 : Hid (Below w.heap.size w w9) := Lib.hid (keepW Z8.out b9)
  clear b9
  go_wp2_with fail
  refine (H5b0 _ (HW.out.later Z9.out)).mono ?_
  rintro e w10 ⟨rfl, b10⟩
  have Z10 : Hid (Below w.heap.size w w10) := Lib.hid (keepW Z9.out b10)
  clear b10
  go_wp2_with fail
  refine (H5b1 _ (HW.out.later Z10.out)).mono ?_
  rintro e w11 ⟨rfl, b11⟩
  have Z11 : Hid (Below w.heap.size w w11) := Lib.hid (keepW Z10.out b11)
  clear b11
  go_wp2_with fail
  refine (H5l _ (HW.out.later Z11.out)).mono ?_
  rintro e w12 ⟨⟨g, rfl⟩, b12⟩
  have Z12 : Hid (Below w.heap.size w w12) := Lib.hid (keepW Z11.out b12)
  clear b12
  go_wp2
  go_ret
  exact ⟨rfl, Z12.out⟩

end Go.Proofs.YtjalbfgdhmkclaaGreatDoor
