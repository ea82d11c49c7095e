/-
  Contracts: hosts.Labels, hosts.Parse in two cases.
-/
import Derived.Test.YtdifdikfgkiocaaGreatDoorHsC
import Derived.Test.YtdifdikfgkiocaaGreatDoorHsP
import Derived.Test.YtdifdikfgkiocaaGreatDoorHsK
namespace Go.Proofs.YtdifdikfgkiocaaGreatDoor
open Go.RowKit


set_option maxRecDepth 100000 in
set_option maxHeartbeats 1000000 in
theorem Labels_some (s : ByteArray) (m : Int) (w : World) (hs : s.size ≤ 1048600) (h0 : 0 < s.size) (hm : w.cell? ⟨0, 0, none⟩ = some (.int .i64 m)) :
    Calls Tryz.prog 19 #[.string s] w fun e w' => ∃ g, e = .returned (.slice (some ⟨g, 0, none⟩) (labelsL s).length (labelsL s).length) ∧ w.heap.size ≤ g ∧ w'.heap[g]? = some (.cells ((labelsL s).map Value.string).toArray 9 (0, 0)) ∧ Below w.heap.size w w' := by
  have HM := Lib.hid hm; clear hm
  have hem := emF h0
  obtain ⟨M, HMM⟩ : ∃ M, Hid (machB s = M) := ⟨_, Lib.hid rfl⟩
  have CM : Hid (∀ w, Calls Tryz.prog 21 #[.string s] w fun e w' => e = .returned (.bool M) ∧ Below w.heap.size w w') := Lib.hid (fun w => by rw [← HMM.out]; exact Machine_any s w hs)
  obtain ⟨L, HL⟩ : ∃ L, Hid (labelsL s = L) := ⟨_, Lib.hid rfl⟩
  rw [HL.out]
  have hs0 : ¬ s.size = 0 := by omega
  cases M
  · have HLr : Hid (rawB 46 s = L) := Lib.hid (by rw [← HL.out, labelsL, if_neg hs0, HMM.out]; rfl)
    obtain ⟨n, HN⟩ : ∃ n, Hid (L.length = n) := ⟨_, Lib.hid rfl⟩
    have CS : Hid (∀ w, w.cell? ⟨0, 0, none⟩ = some (.int .i64 m) → Calls Tryz.prog 33 #[.string s, .string ⟨#[46]⟩] w fun e w' => e = .returned (.slice (some ⟨w.heap.size, 0, none⟩) n n) ∧ w.alloc (.cells (L.map Value.string).toArray 9) = w') := Lib.hid (fun w hm => by
      have := Tryz.strings_Split s ⟨#[46]⟩ m w (by omega) hm (Nat.le_refl 1)
      rw [show Lib.splitB ⟨#[46]⟩ 0 (Lib.countB s ⟨#[46]⟩) s = L from HLr.out, show Lib.countB s ⟨#[46]⟩ + 1 = n by rw [← rawB_len, HLr.out, HN.out]] at this
      exact this.mono fun _ _ ⟨h1, h2⟩ => ⟨h1, h2.symm⟩)
    rw [HN.out]
    clear hs0
    go_enter Tryz.func19, Tryz.ntmps19
    go_wp2_with fail
    refine (CM.out _).mono ?_
    rintro e w1 ⟨rfl, b1⟩
    have B1 := Lib.hid b1
    have HM1 : Hid (w1.cell? ⟨0, 0, none⟩ = some (.int .i64 m)) := Lib.hid ((b1.cell (block_lt_of_cell HM.out)).trans HM.out)
    clear b1
    go_wp2_with fail
    refine (CS.out _ HM1.out).mono ?_
    rintro e w2 ⟨rfl, rfl⟩
    go_wp2
    go_ret
    exact ⟨w1.heap.size, rfl, B1.out.size, heap_alloc_new w1 _, B1.out.alloc B1.out.size _⟩
  · have HLr : Hid (L = [s]) := Lib.hid (by rw [← HL.out, labelsL, if_neg hs0, HMM.out]; rfl)
    rw [HLr.out]
    clear hs0
    go_enter Tryz.func19, Tryz.ntmps19
    go_wp2_with fail
    refine (CM.out _).mono ?_
    rintro e w1 ⟨rfl, b1⟩
    have B1 := Lib.hid b1
    clear b1
    go_wp2
    go_ret
    exact ⟨w1.heap.size, rfl, B1.out.size, heap_alloc_new w1 _, B1.out.alloc B1.out.size _⟩
theorem Parse_some {s x : ByteArray} (w : World) (hs : s.size ≤ 1000) (h : hostO s = some x) (hW : Hw w) : Calls Tryz.prog 20 #[.string s] w fun e w' => e = .returned (.tuple #[.string x, .int .i64 0]) ∧ Below w.heap.size w w' := by
  have := HostsParse_any s w (by unfold maxLen; omega) (.inl hs) hW
  rwa [show hostT s = (x, 0) by rw [hostT, if_neg (by omega), h]] at this
theorem Parse_none {s : ByteArray} (w : World) (hs : s.size ≤ 1000) (h : hostO s = none) (hW : Hw w) : Calls Tryz.prog 20 #[.string s] w fun e w' => e = .returned (.tuple #[.string ⟨#[]⟩, .int .i64 5]) ∧ Below w.heap.size w w' := by
  have := HostsParse_any s w (by unfold maxLen; omega) (.inl hs) hW
  rwa [show hostT s = (⟨#[]⟩, 5) by rw [hostT, if_neg (by omega), h]] at this

end Go.Proofs.YtdifdikfgkiocaaGreatDoor
