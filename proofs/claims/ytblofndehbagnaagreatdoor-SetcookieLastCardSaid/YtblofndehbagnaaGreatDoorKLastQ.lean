/-
  footmanlaw10.SetcookieLast returns true for every input: its tied card, under the card's own conditions and no other.
-/
import Derived.Test.YtblofndehbagnaaGreatDoorLawKl
import Derived.Test.YtblofndehbagnaaGreatDoorDoorK
import Derived.Test.YtblofndehbagnaaGreatDoorCards
import Derived.Test.YtblofndehbagnaaGreatDoorTie
namespace Go.Proofs.YtblofndehbagnaaGreatDoor
open Go.ChangeShapes Go.WideShapes Go.ChangeAt Go.RowKit
open Go.ChangeMaps (open_string shut_string)

set_option maxRecDepth 100000 in
theorem klast_lifted (os : Os) (started : os.Started) (H : Type) (enc : TypeId × Value → H) :
    ReturnsInHanded {} Tryz.checked os 7 .any (fun w args => (Rows.setcookieLastSpec.pre enc Tryz.prog Tryz.f7 [] false w args ∧ laidMetH Tryz.prog Rows.setcookieLastRow.laid w) ∧ sizedMet enc Tryz.prog Tryz.f7 (OpenSpec.ofChange Rows.setcookieLastSpec) false w args)
      (Rows.setcookieLastSpec.post enc Tryz.prog Tryz.f7 false true false false) := by
  refine ret_allX (C := Tryz.checked) (X := fun w _ => laidMetH Tryz.prog Rows.setcookieLastRow.laid w) ownD started (by kernel_rfl) Tryz.func7
    (ChangeSpec.witness_at (enc := enc) (C := Tryz.checked) (os := os) (X := fun w _ => laidMetH Tryz.prog Rows.setcookieLastRow.laid w) false (laidWorld os) #[.string ⟨#[]⟩, .int .u16 0, .int .u8 0] 8 rfl (by kernel_rfl) (by kernel_rfl) (by kernel_rfl) (by kernel_rfl) (by kernel_rfl) (laid_met os _)) ?_
  intro W base args ds gs before hval0 hW hsz0 hsh hX
  have hval : ∀ (j : Nat) t v, Tryz.f7.params[j]? = some t → args[j]? = some v → Value.okWide Tryz.prog W .any base t v := hval0
  have hsz : (DataW.weightsEach Tryz.prog (Tryz.f7.params.toList ++ Rows.setcookieLastSpec.plain.varTypes Tryz.prog) (ds ++ gs)).all (· ≤ reachBytes) = true := hsz0
  have hW' := hW
  obtain ⟨p, q, hA0, hV, rfl, hfz, hnd⟩ := hW
  have hA : DataW.TrodAll enc Tryz.prog W 0 (fun _ => true) true Tryz.f7.params.toList args.toList ds p := hA0
  rw [Tryz.params7] at hA hval hsz
  obtain ⟨v0, v1, v2, d0, d1, d2, p0, p1, p2, rfl, rfl, rfl, h0, h1, h2⟩ := trodAll_three hA
  obtain ⟨rfl, rfl⟩ := trodVars_none hV
  obtain ⟨s, rfl, rfl, rfl, hs⟩ := open_string Tryz.underlying9 (hval 0 9 v0 rfl rfl) h0
  obtain ⟨n, rfl, rfl, rfl, hn⟩ := open_int Tryz.underlying36 (hval 1 36 v1 rfl rfl) h1
  obtain ⟨site, rfl, rfl, rfl, hsite⟩ := open_int Tryz.underlying5 (hval 2 5 v2 rfl rfl) h2
  have rs : s.size ≤ 140737488351232 := by
    have := sized_string hsz (j := 0) (t := 9) rfl rfl
    unfold reachBytes at this
    have e : s.data.toList.length = s.size := by simp
    omega
  obtain ⟨m, hT⟩ := dtg_of hX hsh
  obtain ⟨nk, rfl, hnk⟩ := u16_nat n hn
  obtain ⟨sk, rfl, hsk⟩ := u8_nat site hsite
  clear hA0 hval0 hsz0
  refine (klast_walk s nk sk hnk hsk (by omega) m W hT).mono fun e W' ⟨he, bel⟩ => ?_
  subst he
  exact ⟨_, rfl, _, _, _, [], _, [], hW', trodAll_mk1 (shut_bool Tryz.underlying4 _), trodAll_mk3 (shut_string Tryz.underlying9 hs) (shut_int Tryz.underlying36 hn) (shut_int Tryz.underlying5 hsite), rfl, bel.frame _, fun h => by cases h⟩

theorem klast_row : Rows.SetcookieLastSaid :=
  OpenClaim.holds_of_wide 7 Tryz.f7 rfl rfl rfl rfl rfl rfl rfl ⟨rfl, rfl, rfl, rfl, rfl⟩ rfl rfl rfl rfl rfl (by kernel_rfl) Tryz.func7 (by kernel_rfl)
    (of_decide_eq_true (by kernel_rfl)) (by unfold Func.isWrapper; first | (rw [if_pos (by decide +kernel)]; kernel_rfl) | (rw [if_neg (by decide +kernel)]; exact ⟨rfl, rfl⟩))
    (fun os started H enc _ => klast_lifted os started H enc)

theorem klast_card : Rows.SetcookieLastCardSaid :=
  Claim7.holds_tied_plain_at .later [] Rows.setcookieLastCard.laidKinds true Rows.setcookieLastCard.stood.harness Rows.setcookieLastCard.stood.looks
    klast_row (fun _ h => by cases h) (by kernel_rfl) (fun _ h => by cases h) setcookieLast_row_tie rfl ⟨rfl, rfl⟩ (by kernel_rfl) rfl
    (fun f fn hf hfn => by
      obtain rfl : f = 7 := Option.some.inj ((show Tryz.prog.funcNamed Rows.setcookieLastRow.func = some 7 by kernel_rfl).symm.trans hf) |>.symm
      obtain rfl : fn = Tryz.f7 := (Option.some.inj (Tryz.func7.symm.trans hfn)).symm
      exact ⟨by kernel_rfl, fun j t ht => by
        rw [Tryz.params7] at ht
        have hm : t ∈ [9, 36, 5] := by
          have := Array.mem_of_getElem? ht
          revert this
          simp
        have hall : ([9, 36, 5].all fun u => !Tryz.prog.wantsStandIn u) = true := by kernel_rfl
        exact (show Tryz.prog.wantsStandIn t = false by simpa using List.all_eq_true.1 hall t hm)⟩)
    (by kernel_rfl)

#print axioms klast_card
end Go.Proofs.YtblofndehbagnaaGreatDoor
