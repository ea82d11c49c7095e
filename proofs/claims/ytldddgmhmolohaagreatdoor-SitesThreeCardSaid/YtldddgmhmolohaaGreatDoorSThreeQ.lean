/-
  footmanlaw09.SitesThree returns true for every input: its tied card, under the card's own conditions and no other.
-/
import Derived.Test.YtldddgmhmolohaaGreatDoorLawSU
import Derived.Test.YtldddgmhmolohaaGreatDoorDoorT
import Derived.Test.YtldddgmhmolohaaGreatDoorCards
import Derived.Test.YtldddgmhmolohaaGreatDoorTie
namespace Go.Proofs.YtldddgmhmolohaaGreatDoor
open Go.ChangeShapes Go.WideShapes Go.ChangeAt Go.RowKit
open Go.ChangeMaps (open_string shut_string)

set_option maxRecDepth 100000 in
theorem sthree_lifted (os : Os) (started : os.Started) (H : Type) (enc : TypeId × Value → H) :
  ReturnsInHanded {} Tryz.checked os 5 .any (fun w args => (Rows.sitesThreeSpec.pre enc Tryz.prog Tryz.f5 [] false w args ∧ laidMetH Tryz.prog Rows.sitesThreeRow.laid w) ∧ sizedMet enc Tryz.prog Tryz.f5 (OpenSpec.ofChange Rows.sitesThreeSpec) false w args)
   (Rows.sitesThreeSpec.post enc Tryz.prog Tryz.f5 false true false false) := by
 refine ret_allX (C := Tryz.checked) (X := fun w _ => laidMetH Tryz.prog Rows.sitesThreeRow.laid w) ownD started (by kernel_rfl) Tryz.func5
  (ChangeSpec.witness_at (enc := enc) (C := Tryz.checked) (os := os) (X := fun w _ => laidMetH Tryz.prog Rows.sitesThreeRow.laid w) false (laidWorld os) #[.string ⟨#[]⟩, .string ⟨#[]⟩, .string ⟨#[]⟩] 8 rfl (by kernel_rfl) (by kernel_rfl) (by kernel_rfl) (by kernel_rfl) (by kernel_rfl) (laid_met os _)) ?_
 intro W base args ds gs before hval0 hW hsz0 hsh hX
 have hval : ∀ (j : Nat) t v, Tryz.f5.params[j]? = some t → args[j]? = some v → Value.okWide Tryz.prog W .any base t v := hval0
 have hsz : (DataW.weightsEach Tryz.prog (Tryz.f5.params.toList ++ Rows.sitesThreeSpec.plain.varTypes Tryz.prog) (ds ++ gs)).all (· ≤ reachBytes) = true := hsz0
 have hW' := hW
 obtain ⟨p, q, hA0, hV, rfl, hfz, hnd⟩ := hW
 have hA : DataW.TrodAll enc Tryz.prog W 0 (fun _ => true) true Tryz.f5.params.toList args.toList ds p := hA0
 rw [Tryz.params5] at hA hval hsz
 obtain ⟨v0, v1, v2, d0, d1, d2, p0, p1, p2, rfl, rfl, rfl, h0, h1, h2⟩ := trodAll_three hA
 obtain ⟨rfl, rfl⟩ := trodVars_none hV
 obtain ⟨a, rfl, rfl, rfl, ha⟩ := open_string Tryz.underlying9 (hval 0 9 v0 rfl rfl) h0
 obtain ⟨b, rfl, rfl, rfl, hb⟩ := open_string Tryz.underlying9 (hval 1 9 v1 rfl rfl) h1
 obtain ⟨c, rfl, rfl, rfl, hc⟩ := open_string Tryz.underlying9 (hval 2 9 v2 rfl rfl) h2
 have ra : a.size ≤ 140737488351232 := by
  have := sized_string hsz (j := 0) (t := 9) rfl rfl
  unfold reachBytes at this
  have e : a.data.toList.length = a.size := by simp
  omega
 have rb : b.size ≤ 140737488351232 := by
  have := sized_string hsz (j := 1) (t := 9) rfl rfl
  unfold reachBytes at this
  have e : b.data.toList.length = b.size := by simp
  omega
 have rc : c.size ≤ 140737488351232 := by
  have := sized_string hsz (j := 2) (t := 9) rfl rfl
  unfold reachBytes at this
  have e : c.data.toList.length = c.size := by simp
  omega
 have hT := uw_of hX hsh
 clear hA0 hval0 hsz0
 refine (sthree_walk a b c W ra rb rc hT).mono fun e W' ⟨he, bel⟩ => ?_
 subst he
 exact ⟨_, rfl, _, _, _, [], _, [], hW', trodAll_mk1 (shut_bool Tryz.underlying4 _), trodAll_mk3 (shut_string Tryz.underlying9 ha) (shut_string Tryz.underlying9 hb) (shut_string Tryz.underlying9 hc), rfl, bel.frame _, fun h => by cases h⟩

theorem sthree_row : Rows.SitesThreeSaid :=
 OpenClaim.holds_of_wide 5 Tryz.f5 rfl rfl rfl rfl rfl rfl rfl ⟨rfl, rfl, rfl, rfl, rfl⟩ rfl rfl rfl rfl rfl (by kernel_rfl) Tryz.func5 (by kernel_rfl)
  (of_decide_eq_true (by kernel_rfl)) (by unfold Func.isWrapper; first | (rw [if_pos (by decide +kernel)]; kernel_rfl) | (rw [if_neg (by decide +kernel)]; exact ⟨rfl, rfl⟩))
  (fun os started H enc _ => sthree_lifted os started H enc)

theorem sthree_card : Rows.SitesThreeCardSaid :=
 Claim7.holds_tied_plain_at .later [] Rows.sitesThreeCard.laidKinds true Rows.sitesThreeCard.stood.harness Rows.sitesThreeCard.stood.looks
  sthree_row (fun _ h => by cases h) (by kernel_rfl) (fun _ h => by cases h) sitesThree_row_tie rfl ⟨rfl, rfl⟩ (by kernel_rfl) rfl
  (fun f fn hf hfn => by
   obtain rfl : f = 5 := Option.some.inj ((show Tryz.prog.funcNamed Rows.sitesThreeRow.func = some 5 by kernel_rfl).symm.trans hf) |>.symm
   obtain rfl : fn = Tryz.f5 := (Option.some.inj (Tryz.func5.symm.trans hfn)).symm
   exact ⟨by kernel_rfl, fun j t ht => by
    rw [Tryz.params5] at ht
    have hm : t ∈ [9, 9, 9] := by
     have := Array.mem_of_getElem? ht
     revert this
     simp
    have hall : ([9, 9, 9].all fun u => !Tryz.prog.wantsStandIn u) = true := by kernel_rfl
    exact (show Tryz.prog.wantsStandIn t = false by simpa using List.all_eq_true.1 hall t hm)⟩)
  (by kernel_rfl)

#print axioms sthree_card
end Go.Proofs.YtldddgmhmolohaaGreatDoor
