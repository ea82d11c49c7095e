/-
  footmanlaw08.SuffixOwns returns true for every input: its tied card, under the card's own conditions and no other.
-/
import Derived.Test.YtdifdikfgkiocaaGreatDoorLawSW
import Derived.Test.YtdifdikfgkiocaaGreatDoorDoorG
import Derived.Test.YtdifdikfgkiocaaGreatDoorCards
import Derived.Test.YtdifdikfgkiocaaGreatDoorTie
namespace Go.Proofs.YtdifdikfgkiocaaGreatDoor
open Go.ChangeShapes Go.WideShapes Go.ChangeAt Go.RowKit
open Go.ChangeMaps (open_string shut_string)

set_option maxRecDepth 100000 in
theorem sown_lifted (os : Os) (started : os.Started) (H : Type) (enc : TypeId × Value → H) :
  ReturnsInHanded {} Tryz.checked os 4 .any (fun w args => (Rows.suffixOwnsSpec.pre enc Tryz.prog Tryz.f4 [] false w args ∧ laidMetH Tryz.prog Rows.suffixOwnsRow.laid w) ∧ sizedMet enc Tryz.prog Tryz.f4 (OpenSpec.ofChange Rows.suffixOwnsSpec) false w args)
   (Rows.suffixOwnsSpec.post enc Tryz.prog Tryz.f4 false true false false) := by
 refine ret_allX (C := Tryz.checked) (X := fun w _ => laidMetH Tryz.prog Rows.suffixOwnsRow.laid w) ownD started (by kernel_rfl) Tryz.func4
  (ChangeSpec.witness_at (enc := enc) (C := Tryz.checked) (os := os) (X := fun w _ => laidMetH Tryz.prog Rows.suffixOwnsRow.laid w) false (laidWorld os) #[.slice none 0 0, .string ⟨#[]⟩] 8 rfl (by kernel_rfl) (by kernel_rfl) (by kernel_rfl) (by kernel_rfl) (by kernel_rfl) (laid_met os _)) ?_
 intro W base args ds gs before hval0 hW hsz0 hsh hX
 have hval : ∀ (j : Nat) t v, Tryz.f4.params[j]? = some t → args[j]? = some v → Value.okWide Tryz.prog W .any base t v := hval0
 have hsz : (DataW.weightsEach Tryz.prog (Tryz.f4.params.toList ++ Rows.suffixOwnsSpec.plain.varTypes Tryz.prog) (ds ++ gs)).all (· ≤ reachBytes) = true := hsz0
 have hW' := hW
 obtain ⟨p, q, hA0, hV, rfl, hfz, hnd⟩ := hW
 have hA : DataW.TrodAll enc Tryz.prog W 0 (fun _ => true) true Tryz.f4.params.toList args.toList ds p := hA0
 rw [Tryz.params4] at hA hval hsz
 obtain ⟨v0, v1, d0, d1, p0, p1, rfl, rfl, rfl, h0, h1⟩ := trodAll_two hA
 obtain ⟨rfl, rfl⟩ := trodVars_none hV
 have h0k := h0
 obtain ⟨a_r, l_r, c_r, rfl⟩ := okWide_slice Tryz.underlying22 (hval 0 22 v0 rfl rfl)
 obtain ⟨f0, hf0⟩ := h0
 obtain ⟨b_r, o_r, R_r, hl_r, hA_r, hc_r, hn_r, hs_r⟩ := open_texts hf0 (fun n hn => by
  have := List.all_eq_true.1 hsz n (DataW.weights_mem_each (j := 0) rfl rfl n hn)
  simpa using this)
 subst hl_r
 have hlt0 : ∀ x ∈ p0, x.block < W.heap.size := fun x hx => hW'.lt x (by simp [hx])
 obtain ⟨h, rfl, rfl, rfl, hh⟩ := open_string Tryz.underlying9 (hval 1 9 v1 rfl rfl) h1
 have rh : h.size ≤ 140737488351232 := by
  have := sized_string hsz (j := 1) (t := 9) rfl rfl
  unfold reachBytes at this
  have e : h.data.toList.length = h.size := by simp
  omega
 have hT := hw_of hX hsh
 clear hA0 hval0 hsz0
 refine (sown_walk R_r a_r b_r o_r c_r h W ⟨hA_r, hc_r⟩ hn_r hs_r (by omega) hT).mono fun e W' ⟨he, bel⟩ => ?_
 subst he
 exact ⟨_, rfl, _, _, _, [], _, [], hW', trodAll_mk1 (shut_bool Tryz.underlying4 _), trodAll_mk2 (Below.trod h_laidOut (by kernel_rfl) (of_decide_eq_true (by kernel_rfl)) h0k bel hlt0) (shut_string Tryz.underlying9 hh), rfl, bel.frame _, fun h => by cases h⟩

theorem sown_row : Rows.SuffixOwnsSaid :=
 OpenClaim.holds_of_wide 4 Tryz.f4 rfl rfl rfl rfl rfl rfl rfl ⟨rfl, rfl, rfl, rfl, rfl⟩ rfl rfl rfl rfl rfl (by kernel_rfl) Tryz.func4 (by kernel_rfl)
  (of_decide_eq_true (by kernel_rfl)) (by unfold Func.isWrapper; first | (rw [if_pos (by decide +kernel)]; kernel_rfl) | (rw [if_neg (by decide +kernel)]; exact ⟨rfl, rfl⟩))
  (fun os started H enc _ => sown_lifted os started H enc)

theorem sown_card : Rows.SuffixOwnsCardSaid :=
 Claim7.holds_tied_plain_at .later [] Rows.suffixOwnsCard.laidKinds true Rows.suffixOwnsCard.stood.harness Rows.suffixOwnsCard.stood.looks
  sown_row (fun _ h => by cases h) (by kernel_rfl) (fun _ h => by cases h) suffixOwns_row_tie rfl ⟨rfl, rfl⟩ (by kernel_rfl) rfl
  (fun f fn hf hfn => by
   obtain rfl : f = 4 := Option.some.inj ((show Tryz.prog.funcNamed Rows.suffixOwnsRow.func = some 4 by kernel_rfl).symm.trans hf) |>.symm
   obtain rfl : fn = Tryz.f4 := (Option.some.inj (Tryz.func4.symm.trans hfn)).symm
   exact ⟨by kernel_rfl, fun j t ht => by
    rw [Tryz.params4] at ht
    have hm : t ∈ [22, 9] := by
     have := Array.mem_of_getElem? ht
     revert this
     simp
    have hall : ([22, 9].all fun u => !Tryz.prog.wantsStandIn u) = true := by kernel_rfl
    exact (show Tryz.prog.wantsStandIn t = false by simpa using List.all_eq_true.1 hall t hm)⟩)
  (by kernel_rfl)

#print axioms sown_card
end Go.Proofs.YtdifdikfgkiocaaGreatDoor
