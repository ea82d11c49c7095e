/-
  footmanlaw10.SetcookieUntil returns true for every input: its tied card, under the card's own conditions and no other.
-/
import Derived.Test.YtblofndehbagnaaGreatDoorLawKu
import Derived.Test.YtblofndehbagnaaGreatDoorOpnT
import Derived.Test.YtblofndehbagnaaGreatDoorDoorK
import Derived.Test.YtblofndehbagnaaGreatDoorCards
import Derived.Test.YtblofndehbagnaaGreatDoorTie
namespace Go.Proofs.YtblofndehbagnaaGreatDoor
open Go.ChangeShapes Go.WideShapes Go.ChangeAt Go.RowKit
open Go.ChangeMaps (open_string shut_string)

set_option maxRecDepth 100000 in
theorem kuntil_lifted (os : Os) (started : os.Started) (H : Type) (enc : TypeId × Value → H) :
    ReturnsInHanded {} Tryz.checked os 9 .any (fun w args => (Rows.setcookieUntilSpec.pre enc Tryz.prog Tryz.f9 [] false w args ∧ laidMetH Tryz.prog Rows.setcookieUntilRow.laid w) ∧ sizedMet enc Tryz.prog Tryz.f9 (OpenSpec.ofChange Rows.setcookieUntilSpec) false w args)
      (Rows.setcookieUntilSpec.post enc Tryz.prog Tryz.f9 false true false false) := by
  refine ret_allX (C := Tryz.checked) (X := fun w _ => laidMetH Tryz.prog Rows.setcookieUntilRow.laid w) ownD started (by kernel_rfl) Tryz.func9
    (ChangeSpec.witness_at (enc := enc) (C := Tryz.checked) (os := os) (X := fun w _ => laidMetH Tryz.prog Rows.setcookieUntilRow.laid w) false (laidWorld os) #[.agg #[.string ⟨#[]⟩, .string ⟨#[]⟩, .string ⟨#[]⟩, .string ⟨#[]⟩, .int .i64 0, .bool false, .int .i64 0, .bool false, .bool false, .bool false, .int .u8 0], .int .u32 0, .int .u32 0] 8 rfl (by kernel_rfl) (by kernel_rfl) (by kernel_rfl) (by kernel_rfl) (by kernel_rfl) (laid_met os _)) ?_
  intro W base args ds gs before hval0 hW hsz0 hsh hX
  have hval : ∀ (j : Nat) t v, Tryz.f9.params[j]? = some t → args[j]? = some v → Value.okWide Tryz.prog W .any base t v := hval0
  have hsz : (DataW.weightsEach Tryz.prog (Tryz.f9.params.toList ++ Rows.setcookieUntilSpec.plain.varTypes Tryz.prog) (ds ++ gs)).all (· ≤ reachBytes) = true := hsz0
  have hW' := hW
  obtain ⟨p, q, hA0, hV, rfl, hfz, hnd⟩ := hW
  have hA : DataW.TrodAll enc Tryz.prog W 0 (fun _ => true) true Tryz.f9.params.toList args.toList ds p := hA0
  rw [Tryz.params9] at hA hval hsz
  obtain ⟨v0, v1, v2, d0, d1, d2, p0, p1, p2, rfl, rfl, rfl, h0, h1, h2⟩ := trodAll_three hA
  obtain ⟨rfl, rfl⟩ := trodVars_none hV
  have h0k := h0
  obtain ⟨nm, vl, dm, pa, ex, ag, si, hx, ha, se, hi, hv0, hsT, hex, hag, hsi⟩ := open_told (hval 0 24 v0 rfl rfl) h0 (fun n hn => by
    have := List.all_eq_true.1 hsz n (DataW.weights_mem_each (j := 0) rfl rfl n hn)
    simpa using this)
  subst hv0
  have hlt0 : ∀ x ∈ p0, x.block < W.heap.size := fun x hx => hW'.lt x (by simp [hx])
  obtain ⟨now, rfl, rfl, rfl, hnow⟩ := open_int Tryz.underlying42 (hval 1 42 v1 rfl rfl) h1
  obtain ⟨more, rfl, rfl, rfl, hmore⟩ := open_int Tryz.underlying42 (hval 2 42 v2 rfl rfl) h2

  obtain ⟨n0, rfl, hn0⟩ := u32_nat now hnow
  obtain ⟨n1, rfl, hn1⟩ := u32_nat more hmore
  obtain ⟨m, hT⟩ := dtg_of hX hsh
  clear hA0 hval0 hsz0
  refine (kuntil_walk ⟨nm, vl, dm, pa, ex, hx, ag, ha, se, hi, si⟩ n0 n1 hn0 hn1 m W hT).mono fun e W' ⟨he, bel⟩ => ?_
  subst he
  exact ⟨_, rfl, _, _, _, [], _, [], hW', trodAll_mk1 (shut_bool Tryz.underlying4 _), trodAll_mk3 (Below.trod h_laidOut (by kernel_rfl) (of_decide_eq_true (by kernel_rfl)) h0k bel hlt0) (shut_int Tryz.underlying42 hnow) (shut_int Tryz.underlying42 hmore), rfl, bel.frame _, fun h => by cases h⟩

theorem kuntil_row : Rows.SetcookieUntilSaid :=
  OpenClaim.holds_of_wide 9 Tryz.f9 rfl rfl rfl rfl rfl rfl rfl ⟨rfl, rfl, rfl, rfl, rfl⟩ rfl rfl rfl rfl rfl (by kernel_rfl) Tryz.func9 (by kernel_rfl)
    (of_decide_eq_true (by kernel_rfl)) (by unfold Func.isWrapper; first | (rw [if_pos (by decide +kernel)]; kernel_rfl) | (rw [if_neg (by decide +kernel)]; exact ⟨rfl, rfl⟩))
    (fun os started H enc _ => kuntil_lifted os started H enc)

theorem kuntil_card : Rows.SetcookieUntilCardSaid :=
  Claim7.holds_tied_plain_at .later [] Rows.setcookieUntilCard.laidKinds true Rows.setcookieUntilCard.stood.harness Rows.setcookieUntilCard.stood.looks
    kuntil_row (fun _ h => by cases h) (by kernel_rfl) (fun _ h => by cases h) setcookieUntil_row_tie rfl ⟨rfl, rfl⟩ (by kernel_rfl) rfl
    (fun f fn hf hfn => by
      obtain rfl : f = 9 := Option.some.inj ((show Tryz.prog.funcNamed Rows.setcookieUntilRow.func = some 9 by kernel_rfl).symm.trans hf) |>.symm
      obtain rfl : fn = Tryz.f9 := (Option.some.inj (Tryz.func9.symm.trans hfn)).symm
      exact ⟨by kernel_rfl, fun j t ht => by
        rw [Tryz.params9] at ht
        have hm : t ∈ [24, 42, 42] := by
          have := Array.mem_of_getElem? ht
          revert this
          simp
        have hall : ([24, 42, 42].all fun u => !Tryz.prog.wantsStandIn u) = true := by kernel_rfl
        exact (show Tryz.prog.wantsStandIn t = false by simpa using List.all_eq_true.1 hall t hm)⟩)
    (by kernel_rfl)

#print axioms kuntil_card
end Go.Proofs.YtblofndehbagnaaGreatDoor
