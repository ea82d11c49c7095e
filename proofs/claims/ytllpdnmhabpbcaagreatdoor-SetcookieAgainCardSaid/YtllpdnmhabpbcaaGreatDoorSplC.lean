/-
  Contracts: Split, SameTexts at two slices of the same texts.
-/
import Derived.Test.YtllpdnmhabpbcaaGreatDoorSplM
import Derived.Test.YtllpdnmhabpbcaaGreatDoorLowA
import Derived.Laws.IdiomStrings
import Derived.RegionTactic
namespace Go.Proofs.YtllpdnmhabpbcaaGreatDoor
open Go.RowKit

/-- A slice in new memory that holds these texts, and nothing that was there has turned. -/
def Parted (w : World) (l : List ByteArray) (e : Ending) (w' : World) : Prop :=
  ∃ g, e = .returned (.slice (some ⟨g, 0, none⟩) l.length l.length) ∧ w.heap.size ≤ g ∧ w'.heap[g]? = some (.cells (l.map Value.string).toArray 9 (0, 0)) ∧ Below w.heap.size w w'

set_option maxHeartbeats 400000 in
theorem Split_any (s : ByteArray) (a : UInt8) (m : Int) (w : World) (hs : s.size < 4294967281) (hm : w.cell? ⟨2, 0, none⟩ = some (.int .i64 m)) :
    Calls Tryz.prog 11 #[.string s, .int .u8 a.toNat] w (Parted w (partsA a s)) := by
  have hcv : (convert 44 9 (.slice (some ⟨w.heap.size, 0, none⟩) 1 1)).run Tryz.prog (w.alloc (.cells #[.int .u8 a.toNat] 5)) = .ok (.string ⟨#[a]⟩) (w.alloc (.cells #[.int .u8 a.toNat] 5)) :=
    run_convert_bytes_back (P := Tryz.prog) _ 44 9 5 ⟨w.heap.size, 0, none⟩ 1 [a] Tryz.underlying44 Tryz.underlying5 Tryz.underlying9 (fun j hj => by
      have : j = 0 := by simpa using hj
      subst this
      simp [Addr.add])
  obtain ⟨R, HR⟩ : ∃ R, Hid (R = ((rawP a s).map Value.string).toArray) := ⟨_, rfl⟩
  obtain ⟨n, HN⟩ : ∃ n, Hid (n = (rawP a s).length) := ⟨_, rfl⟩
  have hnb : n ≤ 4294967281 := by
    rw [HN.out, rawP_len]
    have := Lib.countB_le ⟨#[a]⟩ (Nat.le_refl 1) s.size s (Nat.le_refl _)
    omega
  have HC : Hid (Calls Tryz.prog 15 #[.string s, .string ⟨#[a]⟩] (w.alloc (.cells #[.int .u8 a.toNat] 5)) fun e w' =>
      e = .returned (.slice (some ⟨w.heap.size + 1, 0, none⟩) n n) ∧ (w.alloc (.cells #[.int .u8 a.toNat] 5)).alloc (.cells R 9) = w') := by
    refine Lib.hid ((Tryz.strings_Split s ⟨#[a]⟩ m _ hs (cell_old _ hm) (Nat.le_refl 1)).mono ?_)
    rintro e w' ⟨rfl, rfl⟩
    rw [HR.out, HN.out, rawP_len]
    exact ⟨by simp, rfl⟩
  go_enter Tryz.func11, Tryz.ntmps11
  go_wp2_with fail
  refine HC.out.mono ?_
  rintro e w1 ⟨rfl, rfl⟩
  clear hcv
  go_wp2
  go_loopw [6, 7, 15] (fun _ _ i wr => ∃ k : Nat, k ≤ n ∧ i = .int .i64 k ∧ wr.heap[w.heap.size + 1]? = some (.cells ((rowTo a s k).map Value.string).toArray 9 (0, 0)) ∧ Below w.heap.size w wr ∧ w.heap.size + 1 < wr.heap.size) (fun _ _ i _ => n - (intOf i).toNat)
  case atStart => exact ⟨0, Nat.zero_le _, rfl, by rw [rowTo_zero, ← HR.out]; exact heap_alloc2_new _ _ _, ((Below.refl _ _).alloc (Nat.le_refl _) _).alloc (by simp) _, by simp⟩
  case round =>
    obtain ⟨k, hk, rfl, hrow, hbel, hlarge⟩ := hrel
    have HRow := Lib.hid hrow
    have HBel := Lib.hid hbel
    clear hrow hbel
    by_cases hlt : k < n
    · have hkl : k < (rawP a s).length := by rw [← HN.out]; exact hlt
      obtain ⟨t, HT⟩ : ∃ t, Hid (t = (rawP a s)[k]) := ⟨(rawP a s)[k], Lib.hid rfl⟩
      have hts : t.size ≤ s.size := by rw [HT.out]; exact rawP_size a s _ (List.getElem_mem hkl)
      have hc : wr.cell? ⟨w.heap.size + 1, k, none⟩ = some (.string t) := by
        rw [cell_of_row wr _ _ _ _ _ HRow.out, List.getElem?_toArray, List.getElem?_map, rowTo_at a s k k hkl (by omega), if_neg (by omega), ← HT.out]; rfl
      go_wp2_with fail
      refine (Trim_any t wr (by unfold maxLen; omega)).mono ?_
      rintro e w1 ⟨rfl, hb1⟩
      have hrow1 : w1.heap[w.heap.size + 1]? = some (.cells ((rowTo a s k).map Value.string).toArray 9 (0, 0)) := (hb1.block _ hlarge).trans HRow.out
      have hc1 : w1.cell? ⟨w.heap.size + 1, k, none⟩ = some (.string t) := (hb1.cell (p := ⟨w.heap.size + 1, k, none⟩) hlarge).trans hc
      have hf1 : w1.frozen? ⟨w.heap.size + 1, k, none⟩ = false := frozen_of_row w1 _ _ _ _ hrow1
      have HRow1 := Lib.hid hrow1
      have HB1 := Lib.hid hb1
      clear hrow1 hb1 hc
      go_wp2
      refine ⟨⟨k + 1, by omega, by go_num, ?_, ?_, ?_⟩, by simp [intOf]; omega⟩
      · rw [heap_setCell_same _ _ _ _ _ _ HRow1.out, HT.out, rowTo_set a s k hkl]
      · exact (HBel.out.trans (HB1.out.mono HBel.out.size)).setCell (by simp) _
      · have := HB1.out.size
        simp [World.setCell]; omega
    · obtain rfl : k = n := by omega
      go_wp2
      go_ret
      refine ⟨w.heap.size + 1, ?_, by omega, ?_, HBel.out⟩
      · have : (partsA a s).length = k := by rw [HN.out, partsA, List.length_map]
        rw [this]; rfl
      · rw [HRow.out, HN.out, rowTo_all]

end Go.Proofs.YtllpdnmhabpbcaaGreatDoor
