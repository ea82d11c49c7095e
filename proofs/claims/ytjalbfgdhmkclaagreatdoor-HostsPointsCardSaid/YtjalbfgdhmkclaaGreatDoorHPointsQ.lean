/-
  footmanlaw05.HostsPoints returns true for every input: its tied card, under the card's own conditions and no other.
-/
import Derived.Test.YtjalbfgdhmkclaaGreatDoorLawHO
import Derived.Test.YtjalbfgdhmkclaaGreatDoorMdA
import Derived.ProofKit
import Derived.SliceStrings
import Derived.Carry
import Derived.Test.YtjalbfgdhmkclaaGreatDoorCards
import Derived.Test.YtjalbfgdhmkclaaGreatDoorTie
namespace Go.Proofs.YtjalbfgdhmkclaaGreatDoor
open Go.ChangeShapes Go.WideShapes Go.ChangeAt Go.RowKit
open Go.ChangeMaps (open_string shut_string)

theorem h_laidOut : laidOutB Tryz.prog = true := by kernel_rfl
theorem weights_strs {H : Type} {P : Program} {e : TypeId} : ∀ {l : List ByteArray} {y : ByteArray}, y ∈ l → y.data.toList.length ∈ DataW.weightsAll P e (strs (H := H) l)
  | a :: l, y, h => by
    rw [strs, List.map_cons, DataW.weightsAll, List.mem_append]
    rcases List.mem_cons.1 h with rfl | h
    · exact .inl (by simp [DataW.weights])
    · exact .inr (weights_strs h)
/-- Texts that come in, none or some. -/
theorem open_texts {H : Type} {enc : TypeId × Value → H} {W : World} {a0 : Option Addr} {len cap fuel : Nat} {x : DataW H × List MemPlace}
    (hf : DataW.trod enc Tryz.prog W 0 (fun _ => true) true fuel 27 [.slice a0 len cap] = some x) (hwt : ∀ n ∈ DataW.weights Tryz.prog 27 x.1, n ≤ reachBytes) :
    ∃ (b off : Nat) (Xs : List ByteArray), Xs.length = len ∧ (0 < Xs.length → a0 = some ⟨b, off, none⟩) ∧ (∀ j (h : j < Xs.length), W.cell? ⟨b, off + j, none⟩ = some (.string Xs[j])) ∧ Xs.length ≤ 140737488355328 ∧ ∀ y ∈ Xs, y.size ≤ 140737488355328 := by
  rcases open_strings Tryz.underlying27 Tryz.underlying9 (by kernel_rfl) hf with ⟨hcs, hx⟩ | ⟨a, len', cap', ss, hcs, _, hl, hm, hz, hx, hcell, hsz⟩
  · injection hcs with hcs _
    injection hcs with h1 h2 h3
    subst h2
    exact ⟨0, 0, [], rfl, fun h => absurd h (Nat.not_lt_zero _), fun j h => absurd h (Nat.not_lt_zero _), Nat.zero_le _, fun y hy => by cases hy⟩
  · injection hcs with hcs _
    injection hcs with h1 h2 h3
    subst h1; subst h2; subst h3
    simp only [if_true] at hz
    subst hx
    simp only [DataW.weights, Tryz.underlying27] at hwt
    have hwl := hwt _ (List.mem_cons_self)
    have hwa : ∀ y ∈ ss.take len, y.size ≤ 140737488355328 := fun y hy => by
      have h1 := hwt _ (List.mem_cons_of_mem _ (List.mem_append_left _ (weights_strs hy)))
      rw [lenB] at h1
      unfold reachBytes at h1
      omega
    have hb16 : Tryz.prog.bytesOf 9 = 16 := by kernel_rfl
    rw [hb16] at hwl
    have hll : len ≤ 140737488355328 := by
      have h1 : (strs (H := H) (ss.take len)).length = len := by rw [strs, List.length_map, List.length_take]; omega
      rw [h1] at hwl
      unfold reachBytes at hwl
      omega
    obtain ⟨b, off, spot⟩ := a
    have hsp : 0 < len → spot = none := fun h0 => by simpa [Addr.add] using World.cell?_spot (hcell 0 (by omega))
    refine ⟨b, off, ss.take len, by rw [List.length_take]; omega, fun h0 => ?_, fun j hj => ?_, by rw [List.length_take]; omega, hwa⟩
    · rw [List.length_take] at h0
      have := hsp (by omega)
      subst this; rfl
    · have hj' : j < len := by rw [List.length_take] at hj; omega
      have := hsp (by omega)
      subst this
      have h4 := hcell j (by omega)
      rw [List.getElem_take]
      rw [add_plain] at h4
      rw [h4, List.getD_eq_getElem?_getD, List.getElem?_eq_getElem (by omega)]; rfl
set_option maxRecDepth 100000 in
theorem hpoints_lifted (os : Os) (started : os.Started) (H : Type) (enc : TypeId × Value → H) :
    ReturnsInHanded {} Tryz.checked os 8 .any (fun w args => (Rows.hostsPointsSpec.pre enc Tryz.prog Tryz.f8 [] false w args ∧ laidMetH Tryz.prog Rows.hostsPointsRow.laid w) ∧ sizedMet enc Tryz.prog Tryz.f8 (OpenSpec.ofChange Rows.hostsPointsSpec) false w args)
      (Rows.hostsPointsSpec.post enc Tryz.prog Tryz.f8 false true false false) := by
  refine ret_allX (C := Tryz.checked) (X := fun w _ => laidMetH Tryz.prog Rows.hostsPointsRow.laid w) ownD started (by kernel_rfl) Tryz.func8
    (ChangeSpec.witness_at (enc := enc) (C := Tryz.checked) (os := os) (X := fun w _ => laidMetH Tryz.prog Rows.hostsPointsRow.laid w) false (laidWorld os) #[.slice none 0 0] 8 rfl (by kernel_rfl) (by kernel_rfl) (by kernel_rfl) (by kernel_rfl) (by kernel_rfl) (laid_met os _)) ?_
  intro W base args ds gs before hval0 hW hsz0 hsh hX
  have hval : ∀ (j : Nat) t v, Tryz.f8.params[j]? = some t → args[j]? = some v → Value.okWide Tryz.prog W .any base t v := hval0
  have hsz : (DataW.weightsEach Tryz.prog (Tryz.f8.params.toList ++ Rows.hostsPointsSpec.plain.varTypes Tryz.prog) (ds ++ gs)).all (· ≤ reachBytes) = true := hsz0
  have hW' := hW
  obtain ⟨p, q, hA0, hV, rfl, hfz, hnd⟩ := hW
  have hA : DataW.TrodAll enc Tryz.prog W 0 (fun _ => true) true Tryz.f8.params.toList args.toList ds p := hA0
  rw [Tryz.params8] at hA hval hsz
  obtain ⟨v0, d0, rfl, rfl, h0⟩ := trodAll_one hA
  obtain ⟨rfl, rfl⟩ := trodVars_none hV
  have h0k := h0
  have hlt : ∀ x ∈ p, x.block < W.heap.size := fun x hx => hW'.lt x (by simpa using hx)
  obtain ⟨a0, len, cap, rfl⟩ := okWide_slice Tryz.underlying27 (hval 0 27 v0 rfl rfl)
  obtain ⟨fuel, hf⟩ := h0
  obtain ⟨b, off, Xs, hl, hA1, hcell, hlen, hsm⟩ := open_texts hf (fun n hn => by
    have := List.all_eq_true.1 hsz n (DataW.weights_mem_each (j := 0) rfl rfl n hn)
    simpa using this)
  subst hl
  have hT := hw_of hX hsh
  clear hA0 hval0 hsz0
  refine (hpoints_walk Xs a0 b off cap W hA1 hcell hlen hsm hT).mono fun e W' ⟨he, bel⟩ => ?_
  subst he
  exact ⟨_, rfl, _, _, _, [], _, [], hW', trodAll_mk1 (shut_bool Tryz.underlying4 _), trodAll_mk1 (Below.trod h_laidOut (by kernel_rfl) (of_decide_eq_true (by kernel_rfl)) h0k bel hlt), rfl, bel.frame _, fun h => by cases h⟩

theorem hpoints_row : Rows.HostsPointsSaid :=
  OpenClaim.holds_of_wide 8 Tryz.f8 rfl rfl rfl rfl rfl rfl rfl ⟨rfl, rfl, rfl, rfl, rfl⟩ rfl rfl rfl rfl rfl (by kernel_rfl) Tryz.func8 (by kernel_rfl)
    (of_decide_eq_true (by kernel_rfl)) (by unfold Func.isWrapper; first | (rw [if_pos (by decide +kernel)]; kernel_rfl) | (rw [if_neg (by decide +kernel)]; exact ⟨rfl, rfl⟩))
    (fun os started H enc _ => hpoints_lifted os started H enc)

theorem hpoints_card : Rows.HostsPointsCardSaid :=
  Claim7.holds_tied_plain_at .later [] Rows.hostsPointsCard.laidKinds true Rows.hostsPointsCard.stood.harness false
    hpoints_row (fun _ h => by cases h) (by kernel_rfl) (fun _ h => by cases h) hostsPoints_row_tie rfl ⟨rfl, rfl⟩ (by kernel_rfl) rfl
    (fun f fn hf hfn => by
      obtain rfl : f = 8 := Option.some.inj ((show Tryz.prog.funcNamed Rows.hostsPointsRow.func = some 8 by kernel_rfl).symm.trans hf) |>.symm
      obtain rfl : fn = Tryz.f8 := (Option.some.inj (Tryz.func8.symm.trans hfn)).symm
      exact ⟨by kernel_rfl, fun j t ht => by
        rw [Tryz.params8] at ht
        have hm : t ∈ [27] := by
          have := Array.mem_of_getElem? ht
          revert this
          simp
        have hall : ([27].all fun u => !Tryz.prog.wantsStandIn u) = true := by kernel_rfl
        exact (show Tryz.prog.wantsStandIn t = false by simpa using List.all_eq_true.1 hall t hm)⟩)
    (by kernel_rfl)

#print axioms hpoints_card
end Go.Proofs.YtjalbfgdhmkclaaGreatDoor
