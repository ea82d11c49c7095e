/-
  The walk of SuffixChecks.
-/
import Derived.Test.YtdifdikfgkiocaaDoorMsB
import Derived.Test.YtdifdikfgkiocaaDoorMsA
import Derived.Deep.RegionWith
import Derived.RegionTactic
namespace Go.Proofs.YtdifdikfgkiocaaDoor
open Go.RowKit

set_option maxRecDepth 100000 in
set_option maxHeartbeats 4000000 in
theorem schk_walk (R : List ByteArray) (a0 : Option Addr) (b off cap : Nat) (m : Int) (w : World) (hT : TxAt R a0 b off w) (hn : R.length ≤ 140737488355328) (hs : ∀ x ∈ R, x.size ≤ 140737488355328) (hm : w.cell? ⟨0, 0, none⟩ = some (.int .i64 m)) :
    Calls Tryd.prog 3 #[.slice a0 R.length cap] w fun e w' => e = .returned (.bool true) ∧ Below w.heap.size w w' := by
  have HM := Lib.hid hm; clear hm
  have HTx := Lib.hid hT; clear hT
  have CG := Lib.hid (great_any R a0 b off cap ⟨#[]⟩ w HTx.out hn hs (by decide))
  obtain ⟨n, HN⟩ : ∃ n, Hid (R.length = n) := ⟨_, Lib.hid rfl⟩
  rw [HN.out] at CG ⊢
  go_enter Tryd.func3, Tryd.ntmps3
  go_wp2_with fail
  refine CG.out.mono ?_
  rintro e w1 ⟨G, rfl, hG, b1⟩
  have Z1 : Hid (Below w.heap.size w w1) := Lib.hid b1
  clear b1
  cases G
  · have HF := Lib.hid (hG rfl)
    clear hG
    have hn2 : n ≤ 2000 := by rw [← HN.out]; exact HF.out.1
    obtain ⟨X, HX⟩ : ∃ X, Hid (rulesB R = X) := ⟨_, Lib.hid rfl⟩
    have CT : Hid (∀ w, TxAt R a0 b off w → Calls Tryd.prog 5 #[.slice a0 n cap] w fun e w' => ∃ g c, e = .returned (.slice (some ⟨g, 0, none⟩) n c) ∧ w.heap.size ≤ g ∧ TwinAt R g c w' ∧ Below w.heap.size w w') := Lib.hid (fun w hT => by
      have := TwinTexts_any R a0 b off cap w hT.at0 hT.cell (by rw [HN.out]; omega)
      rwa [HN.out] at this)
    have CL : Hid (∀ w g c, TxAt R a0 b off w → TwinAt R g c w → Calls Tryd.prog 8 #[.slice (some ⟨g, 0, none⟩) n c, .slice a0 n cap] w fun e w' => e = .returned (.bool true) ∧ Below w.heap.size w w') := Lib.hid (fun w g c hT hTw => by
      have := LeftTexts_any R a0 b off cap g c w hT.at0 hT.cell (by rw [HN.out]; omega) hTw
      rwa [HN.out] at this)
    have CS : Hid (∀ w g c, TwinAt R g c w → w.cell? ⟨0, 0, none⟩ = some (.int .i64 m) → Calls Tryd.prog 6 #[.slice (some ⟨g, 0, none⟩) n c] w fun e w' => e = .returned (.bool X) ∧ Below w.heap.size w w') := Lib.hid (fun w g c hTw hm => by
      have := Check_any R (some ⟨g, 0, none⟩) g 0 c m w ⟨fun _ => rfl, fun j hj => hTw.cell j hj⟩ (by rw [HN.out]; omega) HF.out.2.1 hm
      rwa [HN.out, HX.out] at this)
    have CR : Hid (∀ w, TxAt R a0 b off w → Calls Tryd.prog 7 #[.slice a0 n cap] w fun e w' => e = .returned (.bool X) ∧ Below w.heap.size w w') := Lib.hid (fun w hT => by
      have := RefCheck8_any R a0 b off cap w hT (by rw [HN.out]; omega) HF.out.2.1
      rwa [HN.out, HX.out] at this)
    go_wp2_with fail
    refine (CT.out _ (HTx.out.later Z1.out)).mono ?_
    rintro e w2 ⟨g, tc, rfl, hg, hTw, b2⟩
    have Z2 : Hid (Below w.heap.size w w2) := Lib.hid (keepW Z1.out b2)
    have TW2 := Lib.hid hTw
    clear b2 hTw hg
    go_wp2_with fail
    refine (CS.out _ _ _ TW2.out ((Z2.out.cell (block_lt_of_cell HM.out)).trans HM.out)).mono ?_
    rintro e w3 ⟨rfl, b3⟩
    have Z3 : Hid (Below w.heap.size w w3) := Lib.hid (keepW Z2.out b3)
    have TW3 := Lib.hid (TW2.out.later b3)
    clear b3
    go_wp2_with fail
    refine (CR.out _ (HTx.out.later Z3.out)).mono ?_
    rintro e w4 ⟨rfl, b4⟩
    have Z4 : Hid (Below w.heap.size w w4) := Lib.hid (keepW Z3.out b4)
    have TW4 := Lib.hid (TW3.out.later b4)
    clear b4
    cases X
    all_goals
      go_wp2_with fail
      refine (CL.out _ _ _ (HTx.out.later Z4.out) TW4.out).mono ?_
      rintro e w5 ⟨rfl, b5⟩
      have Z5 : Hid (Below w.heap.size w w5) := Lib.hid (keepW Z4.out b5)
      clear b5
      go_wp2
      go_ret
      exact ⟨rfl, Z5.out⟩
  · clear hG
    go_wp2
    go_ret
    exact ⟨rfl, Z1.out⟩

end Go.Proofs.YtdifdikfgkiocaaDoor
