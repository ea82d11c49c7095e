/-
  Contracts: Apart, at lists of texts alone.
-/
import Derived.Test.YtjeejpgkhjblnaaDoorBookL
namespace Go.Proofs.YtjeejpgkhjblnaaDoor
open Go.RowKit

/-- Of no other kind a list was kept. -/
def NoOther (b : Nat) (w : World) : Prop := ∀ f, f = 1 ∨ f = 2 ∨ f = 4 ∨ f = 5 ∨ f = 6 ∨ f = 7 ∨ f = 8 → w.cell? ⟨b, f, none⟩ = some (.slice none 0 0)
theorem NoOther.kept {b : Nat} {X : Nat → Prop} {w w' : World} (h : NoOther b w) (k : Kept X w w') (hb : ¬ X b) : NoOther b w' := fun f hf => k.cell (h f hf) hb

set_option maxHeartbeats 2000000 in
set_option maxRecDepth 100000 in
theorem Apart_any (L : Lists) (F : L.Fit) (hbT : L.b ≠ L.gT) (C : Nat → Array Value) (w : World) (hI : L.In w) (hC : ∀ i, i < L.N → w.heap[L.g i]? = some (.cells (C i) 9 (0, 0)) ∧ (C i).size = L.n i) (hO : NoOther L.b w) :
    Calls Tryd.prog 17 #[.pointer (some ⟨L.b, 0, none⟩)] w fun e w' => e = .returned (.bool true) ∧ Kept (fun q => L.X q ∨ q = L.gT) w w' := by
  have hbX : ¬ L.X L.b := fun ⟨i, hi, e⟩ => F.hb i hi e.symm
  have HI := Lib.hid hI; clear hI
  have HC := Lib.hid hC; clear hC
  have HO := Lib.hid hO; clear hO
  have HbX := Lib.hid hbX; clear hbX
  go_enter Tryd.func17, Tryd.ntmps17
  go_wp2_with fail
  refine (fillByte_none L.b _ (HO.out 1 (by omega))).mono ?_
  rintro e w' ⟨rfl, rfl⟩
  go_wp2_with fail
  refine (fillInt_none L.b _ (HO.out 2 (by omega))).mono ?_
  rintro e w' ⟨rfl, rfl⟩
  go_wp2_with fail
  refine (fillText_any L F C _ HI.out HC.out).mono ?_
  rintro e w1 ⟨rfl, hk1, hm1⟩
  have HO1 := Lib.hid (HO.out.kept hk1 HbX.out)
  have HI1 := Lib.hid (HI.out.kept F hk1)
  have HK1 := Lib.hid hk1
  have HM1 := Lib.hid hm1
  clear hk1 hm1
  go_wp2_with fail
  refine (fillField_none L.b _ (HO1.out 4 (by omega))).mono ?_
  rintro e w' ⟨rfl, rfl⟩
  go_wp2_with fail
  refine (fillCookie_none L.b _ (HO1.out 5 (by omega))).mono ?_
  rintro e w' ⟨rfl, rfl⟩
  go_wp2_with fail
  refine (fillSealed_none L.b _ (HO1.out 6 (by omega))).mono ?_
  rintro e w' ⟨rfl, rfl⟩
  go_wp2_with fail
  refine (fillChange_none L.b _ (HO1.out 7 (by omega))).mono ?_
  rintro e w' ⟨rfl, rfl⟩
  go_wp2_with fail
  refine (fillMessage_none L.b _ (HO1.out 8 (by omega))).mono ?_
  rintro e w' ⟨rfl, rfl⟩
  go_wp2_with fail
  refine (growByte_none L.b _ (HO1.out 1 (by omega))).mono ?_
  rintro e w' ⟨rfl, rfl⟩
  go_wp2_with fail
  refine (growInt_none L.b _ (HO1.out 2 (by omega))).mono ?_
  rintro e w' ⟨rfl, rfl⟩
  go_wp2_with fail
  refine (growText_any L F hbT _ HI1.out HM1.out).mono ?_
  rintro e w2 ⟨rfl, d, cp, hI2, hM2, hk2⟩
  have HO2 := Lib.hid (HO1.out.kept hk2 hbT)
  have HI2 := Lib.hid hI2
  have HK2 := Lib.hid hk2
  have HM2 := Lib.hid hM2
  have HLk : Hid (∀ i, i < L.N → ∀ q, q < L.n i → w2.cell? ⟨L.g i, q, none⟩ = some (.string (wordS (L.id i)))) := Lib.hid (fun i hi q hq => by
    refine hk2.cell ?_ (F.hT i hi)
    rw [cell_of_row _ _ _ _ _ _ (HM1.out i hi), Array.getElem?_replicate, if_pos hq])
  clear hI2 hk2 hM2
  go_wp2_with fail
  refine (growField_none L.b _ (HO2.out 4 (by omega))).mono ?_
  rintro e w' ⟨rfl, rfl⟩
  go_wp2_with fail
  refine (growCookie_none L.b _ (HO2.out 5 (by omega))).mono ?_
  rintro e w' ⟨rfl, rfl⟩
  go_wp2_with fail
  refine (growSealed_none L.b _ (HO2.out 6 (by omega))).mono ?_
  rintro e w' ⟨rfl, rfl⟩
  go_wp2_with fail
  refine (growChange_none L.b _ (HO2.out 7 (by omega))).mono ?_
  rintro e w' ⟨rfl, rfl⟩
  go_wp2_with fail
  refine (growMessage_none L.b _ (HO2.out 8 (by omega))).mono ?_
  rintro e w' ⟨rfl, rfl⟩
  go_wp2_with fail
  refine (lookByte_none L.b _ (HO2.out 1 (by omega))).mono ?_
  rintro e w' ⟨rfl, rfl⟩
  go_wp2_with fail
  refine (lookInt_none L.b _ (HO2.out 2 (by omega))).mono ?_
  rintro e w' ⟨rfl, rfl⟩
  go_wp2_with fail
  refine (lookText_any (L.grown L.N d cp) ⟨F.hN, F.hn, F.hid, F.hb, F.hT, F.hg⟩ d _ HI2.out (fun i hi => ⟨if_pos (c := i < L.N) hi, if_pos (c := i < L.N) hi⟩) (fun i hi => (HM2.out i hi).2.2) HLk.out).mono ?_
  rintro e w3 ⟨rfl, b3⟩
  have HO3 := Lib.hid (HO2.out.kept (Kept.of_below (X := fun _ => False) b3) (fun h => h))
  have HB3 := Lib.hid b3
  clear b3
  go_wp2_with fail
  refine (lookField_none L.b _ (HO3.out 4 (by omega))).mono ?_
  rintro e w' ⟨rfl, rfl⟩
  go_wp2_with fail
  refine (lookCookie_none L.b _ (HO3.out 5 (by omega))).mono ?_
  rintro e w' ⟨rfl, rfl⟩
  go_wp2_with fail
  refine (lookSealed_none L.b _ (HO3.out 6 (by omega))).mono ?_
  rintro e w' ⟨rfl, rfl⟩
  go_wp2_with fail
  refine (lookChange_none L.b _ (HO3.out 7 (by omega))).mono ?_
  rintro e w' ⟨rfl, rfl⟩
  go_wp2_with fail
  refine (lookMessage_none L.b _ (HO3.out 8 (by omega))).mono ?_
  rintro e w' ⟨rfl, rfl⟩
  go_wp2
  go_ret
  exact ⟨rfl, ((HK1.out.mono fun _ h => .inl h).trans (HK2.out.mono fun _ h => .inr h)).trans (Kept.of_below HB3.out)⟩

end Go.Proofs.YtjeejpgkhjblnaaDoor
