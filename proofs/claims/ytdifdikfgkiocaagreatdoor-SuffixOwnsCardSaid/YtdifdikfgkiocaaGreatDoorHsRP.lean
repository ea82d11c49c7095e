/-
  Contract: the document's Parts of hosts.
-/
import Derived.Test.YtdifdikfgkiocaaGreatDoorMhC
import Derived.Test.YtdifdikfgkiocaaGreatDoorMhA
import Derived.Test.YtdifdikfgkiocaaGreatDoorMaF
import Derived.Test.YtdifdikfgkiocaaGreatDoorMrF
namespace Go.Proofs.YtdifdikfgkiocaaGreatDoor
open Go.RowKit

/- The parts at the points. -/
set_option maxRecDepth 100000 in
set_option maxHeartbeats 1000000 in
theorem RefParts5_any (s : ByteArray) (w : World) (hs : s.size ≤ 1048600) :
  Calls Tryz.prog 27 #[.string s] w fun e w' => ∃ (v : Value), e = .returned v ∧ w'.ownsRow w.heap.size 9 1 v (rawB 46 s).length ((rawB 46 s).map Value.string) ∧ Below w.heap.size w w' := by
 have hl := lenB s
 have HL := Lib.hid hl
 go_enter Tryz.func27, Tryz.ntmps27
 go_wp2
 go_loopw [3, 4, 5] (fun v f i wr => ∃ (F k : Nat) (D : List ByteArray), k ≤ s.size + 1 ∧ F ≤ k ∧ i = .int .i64 k ∧ f = .int .i64 F ∧ D.length ≤ k ∧ Hid (CutP 46 s.data.toList F k D) ∧ Hid (wr.ownsRow w.heap.size 9 1 v D.length (D.map Value.string)) ∧ Hid (Below w.heap.size w wr)) (fun _ _ i _ => s.size + 1 - (intOf i).toNat)
 case atStart => exact ⟨0, 0, [], Nat.zero_le _, Nat.le_refl _, rfl, rfl, Nat.le_refl _, Lib.hid ⟨fun _ => ⟨Nat.le_refl _, by simp, fun j h1 h2 h3 => by omega⟩, fun h => by omega⟩, Lib.hid ⟨rfl, .inl ⟨rfl, rfl⟩⟩, Lib.hid (Below.refl _ _)⟩
 case round =>
  obtain ⟨F, k, D, hk, hF, rfl, rfl, hDl, HC, HO, HB⟩ := hrel
  by_cases hlt : k < s.size
  ·have hby := byte_lt s[k]
   by_cases hc : s[k] = 46
   ·have hcI : ((s[k].toNat : Int) == 46) = true := by rw [hc]; rfl
    have HC1 : Hid (CutP 46 s.data.toList (k + 1) (k + 1) (D ++ [s.extract F k])) := Lib.hid (cutP_at HC.out (by omega) hc (ext_mid s F k (by omega)))
    obtain ⟨v', w1, hrun, hown, hbel⟩ := rf_appS w.heap.size _ (D.map Value.string) (.string (s.extract F k)) wr (by rw [List.length_map]; exact HO.out) rfl (by rw [List.length_map]; omega) HB.out.size
    have HRun := Lib.hid hrun
    have HO1 : Hid (w1.ownsRow w.heap.size 9 1 v' (D ++ [s.extract F k]).length ((D ++ [s.extract F k]).map Value.string)) := Lib.hid (by
     have : (D ++ [s.extract F k]).map Value.string = D.map Value.string ++ [Value.string (s.extract F k)] := by simp
     rw [this]
     have e2 : (D ++ [s.extract F k]).length = (D.map Value.string ++ [Value.string (s.extract F k)]).length := by simp
     rw [e2]; exact hown)
    have HB1 := Lib.hid (HB.out.trans hbel)
    clear hc hrun hown hbel
    go_wp2_with (at_builtin; refine Lib.wpList_append_run _ rfl _ _ _ _ rfl _ _ rfl rfl _ _ HRun.out ?_)
    exact ⟨⟨k + 1, k + 1, D ++ [s.extract F k], by omega, Nat.le_refl _, by go_num, by go_num, by simp; omega, HC1, HO1, HB1⟩, by simp [intOf]; omega⟩
   ·have hcI : ((s[k].toNat : Int) == 46) = false := beq_eq_false_iff_ne.2 (fun e => hc (UInt8.toNat_inj.1 (by have : (46 : UInt8).toNat = 46 := rfl; omega)))
    have HC1 : Hid (CutP 46 s.data.toList F (k + 1) D) := Lib.hid (cutP_no HC.out (by omega) hc)
    clear hc
    go_wp2
    exact ⟨⟨F, k + 1, D, by omega, by omega, by go_num, rfl, by omega, HC1, HO, HB⟩, by simp [intOf]; omega⟩
  ·by_cases hend : k = s.size
   ·subst hend
    have HC1 : Hid (CutP 46 s.data.toList (s.size + 1) (s.size + 1) (D ++ [s.extract F s.size])) := Lib.hid (by
     have := cutP_end (x := s.extract F s.size) (by rw [HL.out]; exact HC.out) (by rw [ext_mid s F s.size (Nat.le_refl _), List.take_of_length_le (by rw [List.length_drop, HL.out]; omega)])
     rwa [HL.out] at this)
    obtain ⟨v', w1, hrun, hown, hbel⟩ := rf_appS w.heap.size _ (D.map Value.string) (.string (s.extract F s.size)) wr (by rw [List.length_map]; exact HO.out) rfl (by rw [List.length_map]; omega) HB.out.size
    have HRun := Lib.hid hrun
    have HO1 : Hid (w1.ownsRow w.heap.size 9 1 v' (D ++ [s.extract F s.size]).length ((D ++ [s.extract F s.size]).map Value.string)) := Lib.hid (by
     have : (D ++ [s.extract F s.size]).map Value.string = D.map Value.string ++ [Value.string (s.extract F s.size)] := by simp
     rw [this]
     have e2 : (D ++ [s.extract F s.size]).length = (D.map Value.string ++ [Value.string (s.extract F s.size)]).length := by simp
     rw [e2]; exact hown)
    have HB1 := Lib.hid (HB.out.trans hbel)
    clear hrun hown hbel hl
    go_wp2_with (at_builtin; refine Lib.wpList_append_run _ rfl _ _ _ _ rfl _ _ rfl rfl _ _ HRun.out ?_)
    exact ⟨⟨s.size + 1, s.size + 1, D ++ [s.extract F s.size], by omega, Nat.le_refl _, by go_num, by go_num, by simp; omega, HC1, HO1, HB1⟩, by simp [intOf]⟩
   ·obtain rfl : k = s.size + 1 := by omega
    have HD : Hid (rawB 46 s = D) := Lib.hid (by
     have := HC.out.2 (by rw [HL.out])
     rw [rawB_eq, this, List.map_map]
     conv => rhs; rw [← List.map_id D]
     exact List.map_congr_left (fun x _ => rfl))
    clear hl
    go_wp2
    go_ret
    exact ⟨_, rfl, by rw [HD.out]; exact HO.out, HB.out⟩


end Go.Proofs.YtdifdikfgkiocaaGreatDoor
