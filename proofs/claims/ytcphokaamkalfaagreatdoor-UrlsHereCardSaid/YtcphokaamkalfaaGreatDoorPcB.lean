/-
  Contracts: Encode.
-/
import Derived.Test.YtcphokaamkalfaaGreatDoorPcA
namespace Go.Proofs.YtcphokaamkalfaaGreatDoor
open Go.RowKit

theorem bits_low4 : ∀ c : Fin 256, bits BinOp.and IntKind.u8 (c.1 : Int) 15 = ((c.1 % 16 : Nat) : Int) := by decide +kernel
theorem hexD_eq' : ∀ n : Fin 16, (({ data := #[48, 49, 50, 51, 52, 53, 54, 55, 56, 57, 65, 66, 67, 68, 69, 70] } : ByteArray)[n.1]'n.2) = hexD n.1 := by decide +kernel
theorem hexD_eq (n m : Nat) (h : n < 16) (e : n = m) : (({ data := #[48, 49, 50, 51, 52, 53, 54, 55, 56, 57, 65, 66, 67, 68, 69, 70] } : ByteArray)[n]'h) = hexD m := by rw [← e]; exact hexD_eq' ⟨n, h⟩
/-- A text with the bytes of a set as three signs. -/
def encS (set : Nat) (s : ByteArray) : ByteArray := ⟨(encL set s.data.toList).toArray⟩

set_option maxRecDepth 100000 in
set_option maxHeartbeats 1000000 in
theorem Encode_any (s : ByteArray) (set : Nat) (w : World) (hs : s.size ≤ 3200000) (hset : set < 256) :
  Calls Tryz.prog 45 #[.string s, .int .u8 set] w fun e w' => e = .returned (.string (encS set s)) ∧ Below w.heap.size w w' := by
 obtain ⟨i0, hi, hz0, hz1, hz2⟩ := info_parts pc_infoB
 have HI0 := Lib.hid hi
 have HI1 := Lib.hid hz0
 have HI2 := Lib.hid hz1
 have HI3 := Lib.hid hz2
 clear hi hz0 hz1 hz2
 go_enter Tryz.func45, Tryz.ntmps45
 go_wp2_with fail
 refine (members_any set _ hset).mono ?_
 rintro e w1 ⟨rfl, rfl⟩
 unfold setF
 obtain ⟨W, HW⟩ : ∃ W, Hid (W = w.alloc (.cells (pc_tabOf (setL set)) 92)) := ⟨_, Lib.hid rfl⟩
 obtain ⟨g, HG⟩ : ∃ g, Hid (g = w.heap.size) := ⟨_, Lib.hid rfl⟩
 rw [← HW.out, ← HG.out]
 obtain ⟨w2, hrun, hown, hgrow⟩ := run_make_own (P := Tryz.prog) W W.heap.size 81 5 i0 (.int .u8 0) 1 Tryz.underlying81 HI0.out HI1.out HI2.out .i64 .i64 s.size (by rw [HI3.out]; omega) (by unfold maxLen; omega) (Nat.le_refl _)
 have HOwn := Lib.hid hown
 have HGrow := Lib.hid hgrow
 clear hown hgrow
 go_wp2
 clear hrun
 go_loopw [6, 7, 8, 16] (fun b _ _ i wr => ∃ k : Nat, k ≤ s.size ∧ i = .int .i64 k ∧ Hid (wr.ownsRow W.heap.size 5 1 b (encL set (s.data.toList.take k)).length ((encL set (s.data.toList.take k)).map pc_bv)) ∧ Hid (Below W.heap.size W wr)) (fun _ _ _ i _ => s.size - (intOf i).toNat)
 case atStart => exact ⟨0, Nat.zero_le _, rfl, Lib.hid (by rw [List.take_zero]; exact HOwn.out), Lib.hid ((Below.refl _ _).grown HGrow.out (Nat.le_refl _) (fun q hq => by cases hq))⟩
 case round =>
  obtain ⟨k, hk, rfl, HR, HB⟩ := hrel
  by_cases hlt : k < s.size
  ·have HGt : Hid (wr.heap[g]? = some (.cells (pc_tabOf (setL set)) 92 (0, 0))) := Lib.hid (by
    rw [HG.out, HB.out.block _ (by rw [HW.out]; simp), HW.out]; exact heap_alloc_new _ _)
   have hby := byte_lt s[k]
   have hby' : s[k].toNat < 256 := by omega
   have HTk : Hid (encL set (s.data.toList.take (k + 1)) = encL set (s.data.toList.take k) ++ encB set s[k]) := Lib.hid (by rw [take_snoc s k hlt, encL_snoc])
   have hlen := encL_len set (s.data.toList.take k)
   rw [List.length_take] at hlen
   have HLen := Lib.hid hlen
   clear hlen
   have HStep : Hid (∀ cs : Array Value, cs.toList = (encB set s[k]).map pc_bv → ∃ v' w1, (Builtin.append_ #[81, 81] 81 #[u6, .slice (some ⟨wr.heap.size, 0, none⟩) cs.size cs.size]).run Tryz.prog (wr.alloc (.cells cs 5)) = .ok v' w1 ∧
     Hid (w1.ownsRow W.heap.size 5 1 v' (encL set (s.data.toList.take (k + 1))).length ((encL set (s.data.toList.take (k + 1))).map pc_bv)) ∧ Hid (Below W.heap.size W w1)) := Lib.hid (fun cs hcs => by
    have hl2 := encB_len set s[k]
    have hz : cs.size = (encB set s[k]).length := by rw [← Array.length_toList, hcs, List.length_map]
    obtain ⟨v', w1, h1, h2, h3⟩ := pc_appB W.heap.size u6 ((encL set (s.data.toList.take k)).map pc_bv) cs wr W (by rw [List.length_map]; exact HR.out) (by rw [List.length_map]; have := HLen.out; omega) (by
     rw [hcs]; intro u hu; obtain ⟨c, _, rfl⟩ := List.mem_map.1 hu; rfl) HB.out.size HB.out
    refine ⟨v', w1, h1, Lib.hid ?_, Lib.hid h3⟩
    rw [HTk.out, List.map_append, ← hcs]
    simpa [hcs] using h2)
   have HStepD : Hid (∀ cs : Array Value, cs.toList = (encB set s[k]).map pc_bv → ∃ v' w1, (Builtin.append_ #[81, 81] 81 #[u6, .slice (some ⟨wr.heap.size, 0, none⟩) cs.size cs.size]).run Tryz.prog (wr.drew.alloc (.cells cs 5)) = .ok v' w1 ∧
     Hid (w1.ownsRow W.heap.size 5 1 v' (encL set (s.data.toList.take (k + 1))).length ((encL set (s.data.toList.take (k + 1))).map pc_bv)) ∧ Hid (Below W.heap.size W w1)) := Lib.hid (fun cs hcs => by
    have hl2 := encB_len set s[k]
    have hz : cs.size = (encB set s[k]).length := by rw [← Array.length_toList, hcs, List.length_map]
    obtain ⟨v', w1, h1, h2, h3⟩ := pc_appB W.heap.size u6 ((encL set (s.data.toList.take k)).map pc_bv) cs wr.drew W (by rw [List.length_map]; exact HR.out.drew) (by rw [List.length_map]; have := HLen.out; omega) (by
     rw [hcs]; intro u hu; obtain ⟨c, _, rfl⟩ := List.mem_map.1 hu; rfl) HB.out.size HB.out.drew
    refine ⟨v', w1, h1, Lib.hid ?_, Lib.hid h3⟩
    rw [HTk.out, List.map_append, ← hcs]
    simpa [hcs] using h2)
   cases hh : hasB set s[k].toNat
   ·have HH := Lib.hid hh
    clear hh
    obtain ⟨v', w1, hrun, H1, H2⟩ := HStep.out #[.int .u8 (s[k].toNat : Int)] (by rw [encB_no HH.out]; rfl)
    have HRun := Lib.hid hrun
    clear hrun
    go_wp2_with fail
    refine (setC_any set _ g _ hby' HGt.out).mono ?_
    rw [HH.out]
    rintro e w3 ⟨rfl, rfl⟩
    go_wp2_with (at_builtin; refine Lib.wpList_append_run _ rfl _ _ _ _ rfl _ _ rfl rfl _ _ HRun.out ?_)
    exact ⟨⟨k + 1, by omega, by go_num, H1, H2⟩, by simp [intOf]; omega⟩
   ·have HH := Lib.hid hh
    clear hh
    go_wp2_with fail
    refine (setC_any set _ g _ hby' HGt.out).mono ?_
    rw [HH.out]
    rintro e w3 ⟨rfl, rfl⟩
    go_wp2
    obtain ⟨A, HA⟩ : ∃ A : Nat, Hid (A = s[k].toNat / 16) := ⟨_, Lib.hid rfl⟩
    obtain ⟨B, HB'⟩ : ∃ B : Nat, Hid (B = s[k].toNat % 16) := ⟨_, Lib.hid rfl⟩
    have hA16 : A < 16 := by rw [HA.out]; omega
    have hB16 : B < 16 := by rw [HB'.out]; omega
    obtain ⟨v', w1, hrun, H1, H2⟩ := HStepD.out #[.int .u8 37, .int .u8 (({ data := #[48, 49, 50, 51, 52, 53, 54, 55, 56, 57, 65, 66, 67, 68, 69, 70] } : ByteArray)[A]'hA16).toNat, .int .u8 (({ data := #[48, 49, 50, 51, 52, 53, 54, 55, 56, 57, 65, 66, 67, 68, 69, 70] } : ByteArray)[B]'hB16).toNat] (by
     rw [encB_yes HH.out, hexD_eq A _ hA16 HA.out, hexD_eq B _ hB16 HB'.out]; rfl)
    have HRun := Lib.hid hrun
    clear hrun
    have hA : (s[k].toNat : Int) / 16 = (A : Int) := by rw [HA.out]; omega
    have hB : bits BinOp.and IntKind.u8 (s[k].toNat : Int) 15 = (B : Int) := by rw [HB'.out]; exact bits_low4 ⟨s[k].toNat, hby'⟩
    have hA16' : (A : Int) < 16 := by omega
    have hB16' : (B : Int) < 16 := by omega
    go_region_law (refine step_append_run _ rfl _ _ _ _ rfl _ _ rfl rfl _ _ HRun.out ?_)
    all_goals
     go_wp2
     exact ⟨⟨k + 1, by omega, by go_num, H1, H2⟩, by simp [intOf]; omega⟩
  ·have HE : Hid (s.data.toList.take k = s.data.toList) := Lib.hid (List.take_of_length_le (by simp; omega))
   rw [HE.out] at HR
   have hcv := pc_bytes_back _ _ _ _ HR.out
   go_wp2
   go_ret
   have hB := HB.out
   rw [HW.out] at hB
   exact ⟨rfl, ((Below.refl _ _).alloc (Nat.le_refl _) _).trans (hB.mono (by simp))⟩

end Go.Proofs.YtcphokaamkalfaaGreatDoor
