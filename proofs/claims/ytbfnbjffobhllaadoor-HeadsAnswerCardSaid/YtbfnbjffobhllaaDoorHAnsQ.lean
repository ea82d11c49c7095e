/-
  footmanlaw12.HeadsAnswer returns true for every input: its tied card, under the card's own conditions and no other.
-/
import Derived.Test.YtbfnbjffobhllaaDoorLawHq
import Derived.Test.YtbfnbjffobhllaaDoorDoorL
import Derived.Test.YtbfnbjffobhllaaDoorCards
import Derived.Test.YtbfnbjffobhllaaDoorTie
namespace Go.Proofs.YtbfnbjffobhllaaDoor
open Go.ChangeShapes Go.WideShapes Go.ChangeAt Go.RowKit
open Go.ChangeMaps (open_string shut_string)

set_option maxRecDepth 100000 in
theorem hans_lifted (os : Os) (started : os.Started) (H : Type) (enc : TypeId × Value → H) :
    ReturnsInHanded {} Tryd.checked os 6 .any (fun w args => (Rows.headsAnswerSpec.pre enc Tryd.prog Tryd.f6 [] false w args ∧ laidMetH Tryd.prog Rows.headsAnswerRow.laid w) ∧ sizedMet enc Tryd.prog Tryd.f6 (OpenSpec.ofChange Rows.headsAnswerSpec) false w args)
      (Rows.headsAnswerSpec.post enc Tryd.prog Tryd.f6 false true false false) := by
  refine ret_allX (C := Tryd.checked) (X := fun w _ => laidMetH Tryd.prog Rows.headsAnswerRow.laid w) ownD started (by kernel_rfl) Tryd.func6
    (ChangeSpec.witness_at (enc := enc) (C := Tryd.checked) (os := os) (X := fun w _ => laidMetH Tryd.prog Rows.headsAnswerRow.laid w) false (laidWorld os) #[.int .u16 0, .slice none 0 0, .int .u8 0] 8 rfl (by kernel_rfl) (by kernel_rfl) (by kernel_rfl) (by kernel_rfl) (by kernel_rfl) (laid_met os _)) ?_
  intro W base args ds gs before hval0 hW hsz0 hsh hX
  have hval : ∀ (j : Nat) t v, Tryd.f6.params[j]? = some t → args[j]? = some v → Value.okWide Tryd.prog W .any base t v := hval0
  have hsz : (DataW.weightsEach Tryd.prog (Tryd.f6.params.toList ++ Rows.headsAnswerSpec.plain.varTypes Tryd.prog) (ds ++ gs)).all (· ≤ reachBytes) = true := hsz0
  have hW' := hW
  obtain ⟨p, q, hA0, hV, rfl, hfz, hnd⟩ := hW
  have hA : DataW.TrodAll enc Tryd.prog W 0 (fun _ => true) true Tryd.f6.params.toList args.toList ds p := hA0
  rw [Tryd.params6] at hA hval hsz
  obtain ⟨v0, v1, v2, d0, d1, d2, p0, p1, p2, rfl, rfl, rfl, h0, h1, h2⟩ := trodAll_three hA
  obtain ⟨rfl, rfl⟩ := trodVars_none hV
  obtain ⟨n, rfl, rfl, rfl, hn⟩ := open_int Tryd.underlying47 (hval 0 47 v0 rfl rfl) h0
  have h1k := h1
  obtain ⟨x_l, l_l, y_l, rfl⟩ := okWide_slice Tryd.underlying22 (hval 1 22 v1 rfl rfl)
  obtain ⟨f1, hf1⟩ := h1
  obtain ⟨a_l, c_l, b_l, o_l, F_l, he_l, hF_l, hn_l, hs_l⟩ := open_fields hf1 (fun n hn => by
    have := List.all_eq_true.1 hsz n (DataW.weights_mem_each (j := 1) rfl rfl n hn)
    simpa using this)
  obtain ⟨rfl, rfl, rfl⟩ : x_l = a_l ∧ l_l = F_l.length ∧ y_l = c_l := by
    have e := (List.cons.inj (show [_] = [_] from he_l)).1
    injection e with e1 e2 e3
    exact ⟨e1, e2, e3⟩
  have hlt1 : ∀ x ∈ p1, x.block < W.heap.size := fun x hx => hW'.lt x (by simp [hx])
  obtain ⟨how, rfl, rfl, rfl, hhow⟩ := open_int Tryd.underlying5 (hval 2 5 v2 rfl rfl) h2

  obtain ⟨mx, hmx⟩ := maxLen_cell hsh
  obtain ⟨nn, rfl, hnn⟩ := u16_nat n hn
  obtain ⟨hw, rfl, hhw⟩ := u8_nat how hhow
  clear hA0 hval0 hsz0
  refine (hans_walk nn hw x_l y_l b_l o_l F_l mx W hnn hhw hF_l hn_l hs_l hmx).mono fun e W' ⟨he, bel⟩ => ?_
  subst he
  exact ⟨_, rfl, _, _, _, [], _, [], hW', trodAll_mk1 (shut_bool Tryd.underlying4 _), trodAll_mk3 (shut_int Tryd.underlying47 hn) (Below.trod h_laidOut (by kernel_rfl) (of_decide_eq_true (by kernel_rfl)) h1k bel hlt1) (shut_int Tryd.underlying5 hhow), rfl, bel.frame _, fun h => by cases h⟩

theorem hans_row : Rows.HeadsAnswerSaid :=
  OpenClaim.holds_of_wide 6 Tryd.f6 rfl rfl rfl rfl rfl rfl rfl ⟨rfl, rfl, rfl, rfl, rfl⟩ rfl rfl rfl rfl rfl (by kernel_rfl) Tryd.func6 (by kernel_rfl)
    (of_decide_eq_true (by kernel_rfl)) (by unfold Func.isWrapper; first | (rw [if_pos (by decide +kernel)]; kernel_rfl) | (rw [if_neg (by decide +kernel)]; exact ⟨rfl, rfl⟩))
    (fun os started H enc _ => hans_lifted os started H enc)

theorem hans_card : Rows.HeadsAnswerCardSaid :=
  Claim7.holds_tied_plain_at .later [] Rows.headsAnswerCard.laidKinds true Rows.headsAnswerCard.stood.harness Rows.headsAnswerCard.stood.looks
    hans_row (fun _ h => by cases h) (by kernel_rfl) (fun _ h => by cases h) headsAnswer_row_tie rfl ⟨rfl, rfl⟩ (by kernel_rfl) rfl
    (fun f fn hf hfn => by
      obtain rfl : f = 6 := Option.some.inj ((show Tryd.prog.funcNamed Rows.headsAnswerRow.func = some 6 by kernel_rfl).symm.trans hf) |>.symm
      obtain rfl : fn = Tryd.f6 := (Option.some.inj (Tryd.func6.symm.trans hfn)).symm
      exact ⟨by kernel_rfl, fun j t ht => by
        rw [Tryd.params6] at ht
        have hm : t ∈ [47, 22, 5] := by
          have := Array.mem_of_getElem? ht
          revert this
          simp
        have hall : ([47, 22, 5].all fun u => !Tryd.prog.wantsStandIn u) = true := by kernel_rfl
        exact (show Tryd.prog.wantsStandIn t = false by simpa using List.all_eq_true.1 hall t hm)⟩)
    (by kernel_rfl)

#print axioms hans_card
end Go.Proofs.YtbfnbjffobhllaaDoor
