/-
  Contract: the document's Machine.
-/
import Derived.Test.YtldddgmhmolohaaMhK
namespace Go.Proofs.Ytldddgmhmolohaa
open Go.RowKit

set_option maxRecDepth 100000 in
set_option maxHeartbeats 1000000 in
theorem RefMachine_any (s : ByteArray) (w : World) (hs : s.size ≤ 1048600) :
    Calls Try.prog 24 #[.string s] w fun e w' => e = .returned (.bool (machB s)) ∧ Below w.heap.size w w' := by
  obtain ⟨C, b, c, hv, hsz, hone, hcase⟩ := fourV_mach s.data.toList
  obtain ⟨hz, hi⟩ := zero_of_info infoA
  have HI := Lib.hid hi; clear hi
  have HF : Hid (∀ w, Calls Try.prog 27 #[.string s] w fun e w' => e = .returned (.tuple #[.agg C, .bool b, .int .i64 c]) ∧ Below w.heap.size w w') := Lib.hid (fun w => by
    have := RefFour_any s w hs
    rwa [hv] at this)
  have HD : Hid ((Try.prog.info? 36).map (·.size) = some C.size) := Lib.hid (by rw [HI.out, hsz])
  have HY : Hid (zeroA.size = C.size) := Lib.hid (by rw [hsz]; exact zeroA_size)
  have HO := Lib.hid hone
  obtain ⟨M, HM⟩ : ∃ M, Hid (machB s = M) := ⟨_, Lib.hid rfl⟩
  have HCs := Lib.hid hcase
  clear hv hsz hone hcase
  rw [HM.out]
  by_cases h0 : 0 < s.size
  · have hem : s.toList.isEmpty = false := by
      rw [ByteArray.toList_eq, List.isEmpty_eq_false_iff, ← List.length_pos_iff, lenB]; exact h0
    have hhd : s.data.toList.head? = some s[0] := by
      rw [List.head?_eq_getElem?, List.getElem?_eq_getElem (by rw [lenB]; exact h0)]; rfl
    by_cases h91 : s[0] = 91
    · have HR : Hid (M = true) := Lib.hid (by rw [← HM.out, machB, hhd, h91]; rfl)
      have hI : ((s[0].toNat : Int) == 91) = true := by rw [h91]; rfl
      clear h91 hhd
      go_enter Try.func24, Try.ntmps24
      go_wp2_with fail
      refine (HF.out _).mono ?_
      rintro e w1 ⟨rfl, b1⟩
      have B1 : Hid (Below w.heap.size w (w1.alloc (.cells C 36))) := Lib.hid (b1.alloc b1.size _)
      clear b1
      go_wp2_with (refine wpL_store_row rfl 36 _ _ rfl w1.heap.size C ?_ ?_ 36 zeroA ?_ ?_ ?_ ?_ ?_; exact rfl; exact rfl; exact heap_alloc_new w1 _; exact HD.out; exact HY.out; exact HO.out; rw [World.setRow_alloc_new])
      go_ret
      exact ⟨ret_bool HR.out.symm, B1.out⟩
    · have hI : ((s[0].toNat : Int) == 91) = false := beq_eq_false_iff_ne.2 (fun e => h91 (UInt8.toNat_inj.1 (by have : (91 : UInt8).toNat = 91 := rfl; omega)))
      have HR : Hid (M = (b && (c == 0))) := Lib.hid (by
        rw [← HM.out, machB, hhd, ← HCs.out.2.2, HCs.out.2.1, Bool.and_comm]
        simp [h91])
      have HC2 := Lib.hid HCs.out.1
      clear h91 hhd HCs
      rcases HC2.out with ⟨rfl, rfl⟩ | ⟨rfl, rfl⟩ | ⟨rfl, rfl⟩
      all_goals
        go_enter Try.func24, Try.ntmps24
        go_wp2_with fail
        refine (HF.out _).mono ?_
        rintro e w1 ⟨rfl, b1⟩
        have B1 : Hid (Below w.heap.size w (w1.alloc (.cells C 36))) := Lib.hid (b1.alloc b1.size _)
        clear b1
        go_wp2_with (refine wpL_store_row rfl 36 _ _ rfl w1.heap.size C ?_ ?_ 36 zeroA ?_ ?_ ?_ ?_ ?_; exact rfl; exact rfl; exact heap_alloc_new w1 _; exact HD.out; exact HY.out; exact HO.out; rw [World.setRow_alloc_new])
        go_ret
        exact ⟨ret_bool (by rw [HR.out]; rfl), B1.out⟩
  · have hem : s.toList.isEmpty = true := by
      rw [ByteArray.toList_eq, List.isEmpty_iff, ← List.length_eq_zero_iff, lenB]; omega
    have hnil : s.data.toList = [] := by rw [← List.length_eq_zero_iff, lenB]; omega
    have HR : Hid (M = (b && (c == 0))) := Lib.hid (by
      rw [← HM.out, machB, ← HCs.out.2.2, HCs.out.2.1, Bool.and_comm, hnil]; simp)
    have HC2 := Lib.hid HCs.out.1
    clear hnil HCs
    rcases HC2.out with ⟨rfl, rfl⟩ | ⟨rfl, rfl⟩ | ⟨rfl, rfl⟩
    all_goals
      go_enter Try.func24, Try.ntmps24
      go_wp2_with fail
      refine (HF.out _).mono ?_
      rintro e w1 ⟨rfl, b1⟩
      have B1 : Hid (Below w.heap.size w (w1.alloc (.cells C 36))) := Lib.hid (b1.alloc b1.size _)
      clear b1
      go_wp2_with (refine wpL_store_row rfl 36 _ _ rfl w1.heap.size C ?_ ?_ 36 zeroA ?_ ?_ ?_ ?_ ?_; exact rfl; exact rfl; exact heap_alloc_new w1 _; exact HD.out; exact HY.out; exact HO.out; rw [World.setRow_alloc_new])
      go_ret
      exact ⟨ret_bool (by rw [HR.out]; rfl), B1.out⟩


end Go.Proofs.Ytldddgmhmolohaa
