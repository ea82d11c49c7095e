/-
  The walk of SuffixBelow.
-/
import Derived.Test.YtdifdikfgkiocaaGreatDoorSxL
import Derived.Deep.RegionHeld3
namespace Go.Proofs.YtdifdikfgkiocaaGreatDoor
open Go.RowKit

set_option maxRecDepth 100000 in
set_option maxHeartbeats 4000000 in
theorem sbelow_walk (R : List ByteArray) (a0 : Option Addr) (b off cap : Nat) (h : ByteArray) (w : World) (hT : TxAt R a0 b off w) (hn : R.length ≤ 140737488355328) (hs : ∀ x ∈ R, x.size ≤ 140737488355328) (hh : h.size ≤ 140737488355328) (hW : Hw w) :
    Calls Tryz.prog 5 #[.slice a0 R.length cap, .string h] w fun e w' => e = .returned (.bool true) ∧ Below w.heap.size w w' := by
  have HW := Lib.hid hW; clear hW
  have HTx := Lib.hid hT; clear hT
  have CG := Lib.hid (fun w hT => great_any R a0 b off cap h w hT hn hs hh)
  go_enter Tryz.func5, Tryz.ntmps5
  go_wp2_with fail
  refine (alive8_any _ HW.out).mono ?_
  rintro e w1 ⟨rfl, b1⟩
  have Z1 : Hid (Below w.heap.size w w1) := Lib.hid b1
  clear b1
  go_wp2_with fail
  refine (CG.out _ (HTx.out.later Z1.out)).mono ?_
  rintro e w2 ⟨G, rfl, hG, b2⟩
  have Z2 : Hid (Below w.heap.size w w2) := Lib.hid (keepW Z1.out b2)
  clear b2
  cases G
  · have hF := hG rfl
    have HF := Lib.hid hF
    have hh1 : h.size ≤ 1000 := hF.2.2
    have C0 : Hid (∀ w, TxAt R a0 b off w → Hw w → Calls Tryz.prog 12 #[.slice a0 R.length cap, .string h] w fun e w' => e = .returned (.tuple #[.string (sufT R h 0).1, .int .i64 (sufT R h 0).2]) ∧ Below w.heap.size w w') := Lib.hid (fun w hT hW => Suffix_any R a0 b off cap h w hT HF.out hW)
    have C1 : Hid (∀ w, TxAt R a0 b off w → Hw w → Calls Tryz.prog 15 #[.slice a0 R.length cap, .string h] w fun e w' => e = .returned (.tuple #[.string (sufT R h 1).1, .int .i64 (sufT R h 1).2]) ∧ Below w.heap.size w w') := Lib.hid (fun w hT hW => Own_any R a0 b off cap h w hT HF.out hW)
    clear hG hF
    rcases below_facts R hh1 with ⟨c, hc, e0, e1⟩ | ⟨E, O, e0, e1, hE0, hE1, hO1, hbE, hcase⟩
    · rw [e0] at C0
      rw [e1] at C1
      clear e0 e1
      rcases hc with rfl | rfl
      all_goals
        go_wp2_with fail
        refine (C0.out _ (HTx.out.later Z2.out) (HW.out.later Z2.out)).mono ?_
        rintro e w3 ⟨rfl, b3⟩
        have Z3 : Hid (Below w.heap.size w w3) := Lib.hid (keepW Z2.out b3)
        clear b3
        go_wp2_with fail
        refine (C1.out _ (HTx.out.later Z3.out) (HW.out.later Z3.out)).mono ?_
        rintro e w4 ⟨rfl, b4⟩
        have Z4 : Hid (Below w.heap.size w w4) := Lib.hid (keepW Z3.out b4)
        clear b4
        go_wp2
        go_ret
        exact ⟨rfl, Z4.out⟩
    · rw [e0] at C0
      rw [e1] at C1
      have HbE := Lib.hid hbE
      clear e0 e1 hbE
      have hEe : E.toList.isEmpty = false := emF hE0
      have hEn : ¬ E.toList = [] := fun e => by rw [e] at hEe; cases hEe
      have CB : Hid (∀ (a b : ByteArray) (r : Bool) (w : World), a.size ≤ 1048600 → b.size ≤ 1048600 → belowB a b = r → Calls Tryz.prog 18 #[.string a, .string b] w fun e w' => e = .returned (.bool r) ∧ Below w.heap.size w w') := Lib.hid (fun a b r w ha hb hr => by rw [← hr]; exact Below5_any a b w ha hb)
      rcases hcase with ⟨rfl, rfl⟩ | ⟨hO0, hO2, hO3, hO4⟩
      · go_wp2_with fail
        refine (C0.out _ (HTx.out.later Z2.out) (HW.out.later Z2.out)).mono ?_
        rintro e w3 ⟨rfl, b3⟩
        have Z3 : Hid (Below w.heap.size w w3) := Lib.hid (keepW Z2.out b3)
        clear b3
        go_wp2_with fail
        refine (C1.out _ (HTx.out.later Z3.out) (HW.out.later Z3.out)).mono ?_
        rintro e w4 ⟨rfl, b4⟩
        have Z4 : Hid (Below w.heap.size w w4) := Lib.hid (keepW Z3.out b4)
        clear b4
        go_wp2_with fail
        refine (CB.out _ _ _ _ (by omega) (by omega) HbE.out).mono ?_
        rintro e w5 ⟨rfl, b5⟩
        have Z5 : Hid (Below w.heap.size w w5) := Lib.hid (keepW Z4.out b5)
        clear b5
        go_wp2
        go_ret
        exact ⟨rfl, Z5.out⟩
      · have hOe : O.toList.isEmpty = false := emF hO0
        have hOn : ¬ O.toList = [] := fun e => by rw [e] at hOe; cases hOe
        have HO2 := Lib.hid hO2
        have HO3 := Lib.hid hO3
        have HO4 := Lib.hid hO4
        clear hO2 hO3 hO4
        obtain ⟨m, hm⟩ := HW.out.ml
        have HM := Lib.hid hm; clear hm
        obtain ⟨nO, HnO⟩ : ∃ n, Hid ((labelsL O).length = n) := ⟨_, Lib.hid rfl⟩
        obtain ⟨nE, HnE⟩ : ∃ n, Hid ((labelsL E).length = n) := ⟨_, Lib.hid rfl⟩
        have hnn : nO = nE + 1 := by rw [← HnO.out, ← HnE.out]; exact HO4.out
        have CLab : Hid (∀ w (s : ByteArray) (n : Nat), 0 < s.size → s.size ≤ 1048600 → (labelsL s).length = n → w.cell? ⟨0, 0, none⟩ = some (.int .i64 m) → Calls Tryz.prog 19 #[.string s] w fun e w' => (∃ g, e = .returned (.slice (some ⟨g, 0, none⟩) n n)) ∧ Below w.heap.size w w') := Lib.hid (fun w s n h0 hs hn hm => by
          have := Labels_some s m w hs h0 hm
          rw [hn] at this
          exact this.mono fun e w' ⟨g, h1, _, _, h3⟩ => ⟨⟨g, h1⟩, h3⟩)
        subst hnn
        have hnE : nE ≤ 254 := by
          rw [← HnE.out, labelsL]
          split
          · simp
          · split
            · simp
            · have := rawB_count 46 E; omega
        go_wp2_with fail
        refine (C0.out _ (HTx.out.later Z2.out) (HW.out.later Z2.out)).mono ?_
        rintro e w3 ⟨rfl, b3⟩
        have Z3 : Hid (Below w.heap.size w w3) := Lib.hid (keepW Z2.out b3)
        clear b3
        go_wp2_with fail
        refine (C1.out _ (HTx.out.later Z3.out) (HW.out.later Z3.out)).mono ?_
        rintro e w4 ⟨rfl, b4⟩
        have Z4 : Hid (Below w.heap.size w w4) := Lib.hid (keepW Z3.out b4)
        clear b4
        go_wp2_with fail
        refine (CB.out _ _ _ _ (by omega) (by omega) HbE.out).mono ?_
        rintro e w5 ⟨rfl, b5⟩
        have Z5 : Hid (Below w.heap.size w w5) := Lib.hid (keepW Z4.out b5)
        clear b5
        go_wp2_with fail
        refine (CB.out _ _ _ _ (by omega) (by omega) HO2.out).mono ?_
        rintro e w6 ⟨rfl, b6⟩
        have Z6 : Hid (Below w.heap.size w w6) := Lib.hid (keepW Z5.out b6)
        clear b6
        go_wp2_with fail
        refine (CB.out _ _ _ _ (by omega) (by omega) HO3.out).mono ?_
        rintro e w7 ⟨rfl, b7⟩
        have Z7 : Hid (Below w.heap.size w w7) := Lib.hid (keepW Z6.out b7)
        clear b7
        go_wp2_with fail
        refine (CLab.out _ _ _ hO0 (by omega) HnO.out ((Z7.out.cell (block_lt_of_cell HM.out)).trans HM.out)).mono ?_
        rintro e w8 ⟨⟨g8, rfl⟩, b8⟩
        have Z8 : Hid (Below w.heap.size w w8) := Lib.hid (keepW Z7.out b8)
        clear b8
        go_wp2_with fail
        refine (CLab.out _ _ _ hE0 (by omega) HnE.out ((Z8.out.cell (block_lt_of_cell HM.out)).trans HM.out)).mono ?_
        rintro e w9 ⟨⟨g9, rfl⟩, b9⟩
        have Z9 : Hid (Below w.heap.size w w9) := Lib.hid (keepW Z8.out b9)
        clear b9
        go_wp2
        go_ret
        exact ⟨ret_bool (by simp), Z9.out⟩
  · clear hG
    go_wp2_with fail
    refine (alive8_any _ (HW.out.later Z2.out)).mono ?_
    rintro e w3 ⟨rfl, b3⟩
    have Z3 : Hid (Below w.heap.size w w3) := Lib.hid (keepW Z2.out b3)
    clear b3
    go_wp2
    go_ret
    exact ⟨rfl, Z3.out⟩

end Go.Proofs.YtdifdikfgkiocaaGreatDoor
