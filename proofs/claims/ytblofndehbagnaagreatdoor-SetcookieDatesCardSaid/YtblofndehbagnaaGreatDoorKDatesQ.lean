/-
  footmanlaw10.SetcookieDates returns true for every input: its tied card, under the card's own conditions and no other.
-/
import Derived.Test.YtblofndehbagnaaGreatDoorLawKd
import Derived.Test.YtblofndehbagnaaGreatDoorDoorK
import Derived.Test.YtblofndehbagnaaGreatDoorCards
import Derived.Test.YtblofndehbagnaaGreatDoorTie
namespace Go.Proofs.YtblofndehbagnaaGreatDoor
open Go.ChangeShapes Go.WideShapes Go.ChangeAt Go.RowKit
open Go.ChangeMaps (open_string shut_string)

set_option maxRecDepth 100000 in
theorem kdates_lifted (os : Os) (started : os.Started) (H : Type) (enc : TypeId × Value → H) :
    ReturnsInHanded {} Tryz.checked os 10 .any (fun w args => (Rows.setcookieDatesSpec.pre enc Tryz.prog Tryz.f10 [] false w args ∧ laidMetH Tryz.prog Rows.setcookieDatesRow.laid w) ∧ sizedMet enc Tryz.prog Tryz.f10 (OpenSpec.ofChange Rows.setcookieDatesSpec) false w args)
      (Rows.setcookieDatesSpec.post enc Tryz.prog Tryz.f10 false true false false) := by
  refine ret_allX (C := Tryz.checked) (X := fun w _ => laidMetH Tryz.prog Rows.setcookieDatesRow.laid w) ownD started (by kernel_rfl) Tryz.func10
    (ChangeSpec.witness_at (enc := enc) (C := Tryz.checked) (os := os) (X := fun w _ => laidMetH Tryz.prog Rows.setcookieDatesRow.laid w) false (laidWorld os) #[.int .u32 0, .int .u32 0] 8 rfl (by kernel_rfl) (by kernel_rfl) (by kernel_rfl) (by kernel_rfl) (by kernel_rfl) (laid_met os _)) ?_
  intro W base args ds gs before hval0 hW hsz0 hsh hX
  have hval : ∀ (j : Nat) t v, Tryz.f10.params[j]? = some t → args[j]? = some v → Value.okWide Tryz.prog W .any base t v := hval0
  have hsz : (DataW.weightsEach Tryz.prog (Tryz.f10.params.toList ++ Rows.setcookieDatesSpec.plain.varTypes Tryz.prog) (ds ++ gs)).all (· ≤ reachBytes) = true := hsz0
  have hW' := hW
  obtain ⟨p, q, hA0, hV, rfl, hfz, hnd⟩ := hW
  have hA : DataW.TrodAll enc Tryz.prog W 0 (fun _ => true) true Tryz.f10.params.toList args.toList ds p := hA0
  rw [Tryz.params10] at hA hval hsz
  obtain ⟨v0, v1, d0, d1, p0, p1, rfl, rfl, rfl, h0, h1⟩ := trodAll_two hA
  obtain ⟨rfl, rfl⟩ := trodVars_none hV
  obtain ⟨n, rfl, rfl, rfl, hn⟩ := open_int Tryz.underlying42 (hval 0 42 v0 rfl rfl) h0
  obtain ⟨now, rfl, rfl, rfl, hnow⟩ := open_int Tryz.underlying42 (hval 1 42 v1 rfl rfl) h1

  obtain ⟨n0, rfl, hn0⟩ := u32_nat n hn
  obtain ⟨n1, rfl, hn1⟩ := u32_nat now hnow
  obtain ⟨m, hT⟩ := dtg_of hX hsh
  clear hA0 hval0 hsz0
  refine (kdates_walk n0 n1 hn0 hn1 m W hT).mono fun e W' ⟨he, bel⟩ => ?_
  subst he
  exact ⟨_, rfl, _, _, _, [], _, [], hW', trodAll_mk1 (shut_bool Tryz.underlying4 _), trodAll_mk2 (shut_int Tryz.underlying42 hn) (shut_int Tryz.underlying42 hnow), rfl, bel.frame _, fun h => by cases h⟩

theorem kdates_row : Rows.SetcookieDatesSaid :=
  OpenClaim.holds_of_wide 10 Tryz.f10 rfl rfl rfl rfl rfl rfl rfl ⟨rfl, rfl, rfl, rfl, rfl⟩ rfl rfl rfl rfl rfl (by kernel_rfl) Tryz.func10 (by kernel_rfl)
    (of_decide_eq_true (by kernel_rfl)) (by unfold Func.isWrapper; first | (rw [if_pos (by decide +kernel)]; kernel_rfl) | (rw [if_neg (by decide +kernel)]; exact ⟨rfl, rfl⟩))
    (fun os started H enc _ => kdates_lifted os started H enc)

theorem kdates_card : Rows.SetcookieDatesCardSaid :=
  Claim7.holds_tied_plain_at .later [] Rows.setcookieDatesCard.laidKinds true Rows.setcookieDatesCard.stood.harness Rows.setcookieDatesCard.stood.looks
    kdates_row (fun _ h => by cases h) (by kernel_rfl) (fun _ h => by cases h) setcookieDates_row_tie rfl ⟨rfl, rfl⟩ (by kernel_rfl) rfl
    (fun f fn hf hfn => by
      obtain rfl : f = 10 := Option.some.inj ((show Tryz.prog.funcNamed Rows.setcookieDatesRow.func = some 10 by kernel_rfl).symm.trans hf) |>.symm
      obtain rfl : fn = Tryz.f10 := (Option.some.inj (Tryz.func10.symm.trans hfn)).symm
      exact ⟨by kernel_rfl, fun j t ht => by
        rw [Tryz.params10] at ht
        have hm : t ∈ [42, 42] := by
          have := Array.mem_of_getElem? ht
          revert this
          simp
        have hall : ([42, 42].all fun u => !Tryz.prog.wantsStandIn u) = true := by kernel_rfl
        exact (show Tryz.prog.wantsStandIn t = false by simpa using List.all_eq_true.1 hall t hm)⟩)
    (by kernel_rfl)

#print axioms kdates_card
end Go.Proofs.YtblofndehbagnaaGreatDoor
