/-
  The walk of SuffixOwns.
-/
import Derived.Test.YtdifdikfgkiocaaGreatDoorMsB
import Derived.Test.YtdifdikfgkiocaaGreatDoorMsA
import Derived.Deep.RegionWith
import Derived.RegionTactic
namespace Go.Proofs.YtdifdikfgkiocaaGreatDoor
open Go.RowKit

set_option maxRecDepth 100000 in
set_option maxHeartbeats 4000000 in
theorem sown_walk (R : List ByteArray) (a0 : Option Addr) (b off cap : Nat) (h : ByteArray) (w : World) (hT : TxAt R a0 b off w) (hn : R.length ≤ 140737488355328) (hs : ∀ x ∈ R, x.size ≤ 140737488355328) (hh : h.size ≤ 140737488355328) (hW : Hw w) :
  Calls Tryz.prog 4 #[.slice a0 R.length cap, .string h] w fun e w' => e = .returned (.bool true) ∧ Below w.heap.size w w' := by
 have HW := Lib.hid hW; clear hW
 have HTx := Lib.hid hT; clear hT
 have CG := Lib.hid (great_any R a0 b off cap h w HTx.out hn hs hh)
 obtain ⟨n, HN⟩ : ∃ n, Hid (R.length = n) := ⟨_, Lib.hid rfl⟩
 rw [HN.out] at CG ⊢
 go_enter Tryz.func4, Tryz.ntmps4
 go_wp2_with fail
 refine CG.out.mono ?_
 rintro e w1 ⟨G, rfl, hG, b1⟩
 have Z1 : Hid (Below w.heap.size w w1) := Lib.hid b1
 clear b1
 cases G
 ·have HF := Lib.hid (hG rfl)
  clear hG
  have hn2 : n ≤ 2000 := by rw [← HN.out]; exact HF.out.1
  have CT : Hid (∀ w, TxAt R a0 b off w → Calls Tryz.prog 11 #[.slice a0 n cap] w fun e w' => ∃ g c, e = .returned (.slice (some ⟨g, 0, none⟩) n c) ∧ w.heap.size ≤ g ∧ TwinAt R g c w' ∧ Below w.heap.size w w') := Lib.hid (fun w hT => by
   have := TwinTexts_any R a0 b off cap w hT.at0 hT.cell (by rw [HN.out]; omega)
   rwa [HN.out] at this)
  have CL : Hid (∀ w g c, TxAt R a0 b off w → TwinAt R g c w → Calls Tryz.prog 14 #[.slice (some ⟨g, 0, none⟩) n c, .slice a0 n cap] w fun e w' => e = .returned (.bool true) ∧ Below w.heap.size w w') := Lib.hid (fun w g c hT hTw => by
   have := LeftTexts_any R a0 b off cap g c w hT.at0 hT.cell (by rw [HN.out]; omega) hTw
   rwa [HN.out] at this)
  obtain ⟨X, HX⟩ : ∃ X, Hid (sufT R h 1 = X) := ⟨_, Lib.hid rfl⟩
  have CS : Hid (∀ w g c, TwinAt R g c w → Hw w → Calls Tryz.prog 15 #[.slice (some ⟨g, 0, none⟩) n c, .string h] w fun e w' => e = .returned (.tuple #[.string X.1, .int .i64 X.2]) ∧ Below w.heap.size w w') := Lib.hid (fun w g c hTw hW => by
   have := Own_any R (some ⟨g, 0, none⟩) g 0 c h w ⟨fun _ => rfl, fun j hj => hTw.cell j hj⟩ HF.out hW
   rwa [HN.out, HX.out] at this)
  have CR : Hid (∀ w, TxAt R a0 b off w → Calls Tryz.prog 16 #[.slice a0 n cap, .string h] w fun e w' => e = .returned (.tuple #[.string X.1, .int .i64 X.2]) ∧ Below w.heap.size w w') := Lib.hid (fun w hT => by
   have := RefOwn8_any R a0 b off cap h w hT HF.out
   rwa [HN.out, HX.out] at this)
  obtain ⟨x, hx⟩ : ∃ x, X.1 = x := ⟨_, rfl⟩
  obtain ⟨c, hc⟩ : ∃ c, X.2 = c := ⟨_, rfl⟩
  rw [hx, hc] at CS CR
  clear hx hc
  go_wp2_with fail
  refine (CT.out _ (HTx.out.later Z1.out)).mono ?_
  rintro e w2 ⟨g, tc, rfl, hg, hTw, b2⟩
  have Z2 : Hid (Below w.heap.size w w2) := Lib.hid (keepW Z1.out b2)
  have TW2 := Lib.hid hTw
  clear b2 hTw hg
  go_wp2_with fail
  refine (CS.out _ _ _ TW2.out (HW.out.later Z2.out)).mono ?_
  rintro e w3 ⟨rfl, b3⟩
  have Z3 : Hid (Below w.heap.size w w3) := Lib.hid (keepW Z2.out b3)
  have TW3 := Lib.hid (TW2.out.later b3)
  clear b3
  go_wp2_with fail
  refine (CR.out _ (HTx.out.later Z3.out)).mono ?_
  rintro e w4 ⟨rfl, b4⟩
  have Z4 : Hid (Below w.heap.size w w4) := Lib.hid (keepW Z3.out b4)
  have TW4 := Lib.hid (TW3.out.later b4)
  clear b4
  go_wp2_with fail
  refine (CL.out _ _ _ (HTx.out.later Z4.out) TW4.out).mono ?_
  rintro e w5 ⟨rfl, b5⟩
  have Z5 : Hid (Below w.heap.size w w5) := Lib.hid (keepW Z4.out b5)
  clear b5
  go_wp2
  go_ret
  exact ⟨ret_bool (by simp), Z5.out⟩
 ·clear hG
  go_wp2
  go_ret
  exact ⟨rfl, Z1.out⟩

end Go.Proofs.YtdifdikfgkiocaaGreatDoor
