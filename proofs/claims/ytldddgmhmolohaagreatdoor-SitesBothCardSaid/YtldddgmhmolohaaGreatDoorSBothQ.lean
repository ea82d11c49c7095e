/-
  footmanlaw09.SitesBoth returns true for every input: its tied card, under the card's own conditions and no other.
-/
import Derived.Test.YtldddgmhmolohaaGreatDoorLawSW
import Derived.Test.YtldddgmhmolohaaGreatDoorDoorT
import Derived.Test.YtldddgmhmolohaaGreatDoorCards
import Derived.Test.YtldddgmhmolohaaGreatDoorTie
namespace Go.Proofs.YtldddgmhmolohaaGreatDoor
open Go.ChangeShapes Go.WideShapes Go.ChangeAt Go.RowKit
open Go.ChangeMaps (open_string shut_string)

theorem weights_all_mem {H : Type} {P : Program} {e : TypeId} : ∀ {l : List (DataW H)} {d : DataW H} {n : Nat}, d ∈ l → n ∈ DataW.weights P e d → n ∈ DataW.weightsAll P e l
  | a :: l, d, n, h, hn => by
    rw [DataW.weightsAll, List.mem_append]
    rcases List.mem_cons.1 h with rfl | h
    · exact .inl hn
    · exact .inr (weights_all_mem h hn)
set_option maxRecDepth 100000 in
/-- Three texts in a row come in. -/
theorem open_strs3 {H : Type} {enc : TypeId × Value → H} {W : World} {r : Reach} {b0 : Nat} {v : Value} {d : DataW H} {ps : List MemPlace} (hv : Value.okWide Tryz.prog W r b0 37 v)
    (h : DataW.Trod enc Tryz.prog W 0 (fun _ => true) true 37 v d ps) (hw : ∀ n ∈ DataW.weights Tryz.prog 37 d, n ≤ reachBytes) :
    ∃ x y z : ByteArray, v = .agg #[.string x, .string y, .string z] ∧ x.size ≤ 140737488355328 ∧ y.size ≤ 140737488355328 ∧ z.size ≤ 140737488355328 := by
  simp only [Value.okWide, Tryz.underlying37] at hv
  obtain ⟨cs, rfl, _⟩ := hv
  obtain ⟨fuel, hf⟩ := h
  obtain ⟨xs, m, _, hx, hl, hn, hf2⟩ := DataW.trod_array Tryz.underlying37 hf
  have hct : Tryz.prog.cellsOf 37 = 3 := by kernel_rfl
  have hce : Tryz.prog.cellsOf 9 = 1 := by kernel_rfl
  rw [hct] at hl
  rw [hce] at hf2
  have hd : d = .agg (xs.map (·.1)) := (Prod.mk.inj hx).1
  subst hd
  have hj : ∀ j, j < 3 → ∃ s : ByteArray, cs.toList[j]? = some (.string s) ∧ s.size ≤ 140737488355328 := by
    intro j hj
    have h1 := hf2 j hj
    obtain ⟨y, hy⟩ : ∃ y, xs[j]? = some y := ⟨_, List.getElem?_eq_getElem (by omega)⟩
    rw [hy] at h1
    obtain ⟨s, hc, hz, _⟩ := DataW.trod_string Tryz.underlying9 h1
    have hc0 : cs.toList[j]? = some (.string s) := by
      have := congrArg (·[0]?) hc
      simpa [List.getElem?_take, List.getElem?_drop, Value.cells] using this
    refine ⟨s, hc0, ?_⟩
    have hm : y.1 ∈ xs.map (·.1) := List.mem_map.2 ⟨y, List.mem_of_getElem? hy, rfl⟩
    have := hw s.data.toList.length (by
      simp only [DataW.weights, Tryz.underlying37]
      refine weights_all_mem hm ?_
      rw [hz]
      simp [DataW.weights])
    rw [lenB] at this
    unfold reachBytes at this
    omega
  obtain ⟨x, hx0, hxs⟩ := hj 0 (by decide)
  obtain ⟨y, hy0, hys⟩ := hj 1 (by decide)
  obtain ⟨z, hz0, hzs⟩ := hj 2 (by decide)
  refine ⟨x, y, z, ?_, hxs, hys, hzs⟩
  have hl3 : cs.toList.length = 3 := hl
  congr 1
  refine Array.toList_inj.1 (List.ext_getElem? fun k => ?_)
  rcases (show k = 0 ∨ k = 1 ∨ k = 2 ∨ 3 ≤ k by omega) with rfl | rfl | rfl | hk
  · exact hx0
  · exact hy0
  · exact hz0
  · rw [List.getElem?_eq_none (by omega), List.getElem?_eq_none hk]
set_option maxRecDepth 100000 in
theorem sboth_lifted (os : Os) (started : os.Started) (H : Type) (enc : TypeId × Value → H) :
    ReturnsInHanded {} Tryz.checked os 7 .any (fun w args => (Rows.sitesBothSpec.pre enc Tryz.prog Tryz.f7 [] false w args ∧ laidMetH Tryz.prog Rows.sitesBothRow.laid w) ∧ sizedMet enc Tryz.prog Tryz.f7 (OpenSpec.ofChange Rows.sitesBothSpec) false w args)
      (Rows.sitesBothSpec.post enc Tryz.prog Tryz.f7 false true false false) := by
  refine ret_allX (C := Tryz.checked) (X := fun w _ => laidMetH Tryz.prog Rows.sitesBothRow.laid w) ownD started (by kernel_rfl) Tryz.func7
    (ChangeSpec.witness_at (enc := enc) (C := Tryz.checked) (os := os) (X := fun w _ => laidMetH Tryz.prog Rows.sitesBothRow.laid w) false (laidWorld os) #[.slice none 0 0, .agg #[.string ⟨#[]⟩, .string ⟨#[]⟩, .string ⟨#[]⟩]] 8 rfl (by kernel_rfl) (by kernel_rfl) (by kernel_rfl) (by kernel_rfl) (by kernel_rfl) (laid_met os _)) ?_
  intro W base args ds gs before hval0 hW hsz0 hsh hX
  have hval : ∀ (j : Nat) t v, Tryz.f7.params[j]? = some t → args[j]? = some v → Value.okWide Tryz.prog W .any base t v := hval0
  have hsz : (DataW.weightsEach Tryz.prog (Tryz.f7.params.toList ++ Rows.sitesBothSpec.plain.varTypes Tryz.prog) (ds ++ gs)).all (· ≤ reachBytes) = true := hsz0
  have hW' := hW
  obtain ⟨p, q, hA0, hV, rfl, hfz, hnd⟩ := hW
  have hA : DataW.TrodAll enc Tryz.prog W 0 (fun _ => true) true Tryz.f7.params.toList args.toList ds p := hA0
  rw [Tryz.params7] at hA hval hsz
  obtain ⟨v0, v1, d0, d1, p0, p1, rfl, rfl, rfl, h0, h1⟩ := trodAll_two hA
  obtain ⟨rfl, rfl⟩ := trodVars_none hV
  have h0k := h0
  obtain ⟨a_r, l_r, c_r, rfl⟩ := okWide_slice Tryz.underlying22 (hval 0 22 v0 rfl rfl)
  obtain ⟨f0, hf0⟩ := h0
  obtain ⟨b_r, o_r, R_r, hl_r, hA_r, hc_r, hn_r, hs_r⟩ := open_texts hf0 (fun n hn => by
    have := List.all_eq_true.1 hsz n (DataW.weights_mem_each (j := 0) rfl rfl n hn)
    simpa using this)
  subst hl_r
  have hlt0 : ∀ x ∈ p0, x.block < W.heap.size := fun x hx => hW'.lt x (by simp [hx])
  have h1k := h1
  obtain ⟨x, y, z, hv1, hx, hy, hz⟩ := open_strs3 (hval 1 37 v1 rfl rfl) h1 (fun n hn => by
    have := List.all_eq_true.1 hsz n (DataW.weights_mem_each (j := 1) rfl rfl n hn)
    simpa using this)
  subst hv1
  have hlt1 : ∀ x ∈ p1, x.block < W.heap.size := fun x hx => hW'.lt x (by simp [hx])
  have hT := uw_of hX hsh
  clear hA0 hval0 hsz0
  refine (sboth_walk R_r a_r b_r o_r c_r x y z W ⟨hA_r, hc_r⟩ hn_r hs_r hx hy hz hT).mono fun e W' ⟨he, bel⟩ => ?_
  subst he
  exact ⟨_, rfl, _, _, _, [], _, [], hW', trodAll_mk1 (shut_bool Tryz.underlying4 _), trodAll_mk2 (Below.trod h_laidOut (by kernel_rfl) (of_decide_eq_true (by kernel_rfl)) h0k bel hlt0) (Below.trod h_laidOut (by kernel_rfl) (of_decide_eq_true (by kernel_rfl)) h1k bel hlt1), rfl, bel.frame _, fun h => by cases h⟩

theorem sboth_row : Rows.SitesBothSaid :=
  OpenClaim.holds_of_wide 7 Tryz.f7 rfl rfl rfl rfl rfl rfl rfl ⟨rfl, rfl, rfl, rfl, rfl⟩ rfl rfl rfl rfl rfl (by kernel_rfl) Tryz.func7 (by kernel_rfl)
    (of_decide_eq_true (by kernel_rfl)) (by unfold Func.isWrapper; first | (rw [if_pos (by decide +kernel)]; kernel_rfl) | (rw [if_neg (by decide +kernel)]; exact ⟨rfl, rfl⟩))
    (fun os started H enc _ => sboth_lifted os started H enc)

theorem sboth_card : Rows.SitesBothCardSaid :=
  Claim7.holds_tied_plain_at .later [] Rows.sitesBothCard.laidKinds true Rows.sitesBothCard.stood.harness Rows.sitesBothCard.stood.looks
    sboth_row (fun _ h => by cases h) (by kernel_rfl) (fun _ h => by cases h) sitesBoth_row_tie rfl ⟨rfl, rfl⟩ (by kernel_rfl) rfl
    (fun f fn hf hfn => by
      obtain rfl : f = 7 := Option.some.inj ((show Tryz.prog.funcNamed Rows.sitesBothRow.func = some 7 by kernel_rfl).symm.trans hf) |>.symm
      obtain rfl : fn = Tryz.f7 := (Option.some.inj (Tryz.func7.symm.trans hfn)).symm
      exact ⟨by kernel_rfl, fun j t ht => by
        rw [Tryz.params7] at ht
        have hm : t ∈ [22, 37] := by
          have := Array.mem_of_getElem? ht
          revert this
          simp
        have hall : ([22, 37].all fun u => !Tryz.prog.wantsStandIn u) = true := by kernel_rfl
        exact (show Tryz.prog.wantsStandIn t = false by simpa using List.all_eq_true.1 hall t hm)⟩)
    (by kernel_rfl)

#print axioms sboth_card
end Go.Proofs.YtldddgmhmolohaaGreatDoor
