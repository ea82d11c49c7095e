/-
  footmanlaw07.DatesSeconds returns true for every input: its statement, under the row's own conditions and no other.
-/
import Derived.Test.YtanjjffoccgkcaaLawDs
import Derived.Test.YtanjjffoccgkcaaRows
import Derived.ProofKit
import Derived.OpenShut
import Derived.ShutString
import Derived.ChangeOld
import Derived.Below
import Derived.SizedLaws
namespace Go.Proofs.Ytanjjffoccgkcaa
open Go.ChangeShapes Go.WideShapes Go.ChangeAt Go.RowKit

theorem secsP_own : ownKnob Try.prog.godebug = none := by kernel_rfl
section
variable {H : Type} {enc : TypeId × Value → H} {w : World} {base : Nat} {sp : Nat → Bool} {held : Bool}
theorem cellsOfM : Try.prog.cellsOf 26 = 6 ∧ Try.prog.cellsOf 3 = 1 := ⟨by kernel_rfl, by kernel_rfl⟩
set_option maxRecDepth 100000 in
theorem structM : ∃ f0 f1 f2 f3 f4 f5 : Field, Try.prog.underlying 26 = some (.struct #[f0, f1, f2, f3, f4, f5]) ∧ (f0.type = 3 ∧ f0.offset = 0) ∧ (f1.type = 3 ∧ f1.offset = 1) ∧ (f2.type = 3 ∧ f2.offset = 2) ∧ (f3.type = 3 ∧ f3.offset = 3) ∧ (f4.type = 3 ∧ f4.offset = 4) ∧ (f5.type = 3 ∧ f5.offset = 5) :=
  ⟨_, _, _, _, _, _, Try.underlying26, ⟨rfl, rfl⟩, ⟨rfl, rfl⟩, ⟨rfl, rfl⟩, ⟨rfl, rfl⟩, ⟨rfl, rfl⟩, rfl, rfl⟩
def momD (H : Type) (y m d h i s : Int) : DataW H := .agg [.lit (.int .i64 y), .lit (.int .i64 m), .lit (.int .i64 d), .lit (.int .i64 h), .lit (.int .i64 i), .lit (.int .i64 s)]
def wf6 (y m d h i s : Int) : Prop := (Lit.int .i64 y).wf = true ∧ (Lit.int .i64 m).wf = true ∧ (Lit.int .i64 d).wf = true ∧ (Lit.int .i64 h).wf = true ∧ (Lit.int .i64 i).wf = true ∧ (Lit.int .i64 s).wf = true
set_option maxRecDepth 100000 in
theorem open_mom {r : Reach} {b0 : Nat} {v : Value} {d : DataW H} {ps : List MemPlace}
    (hv : Value.okWide Try.prog w r b0 26 v) (h : DataW.Trod enc Try.prog w base sp held 26 v d ps) : ∃ y m dd hh i s, wf6 y m dd hh i s ∧ v = momV y m dd hh i s ∧ d = momD H y m dd hh i s ∧ ps = [] := by
  obtain ⟨f0, f1, f2, f3, f4, f5, hs, ⟨t0, o0⟩, ⟨t1, o1⟩, ⟨t2, o2⟩, ⟨t3, o3⟩, ⟨t4, o4⟩, t5, o5⟩ := structM
  obtain ⟨c1, c2⟩ := cellsOfM
  obtain ⟨cs, rfl, hsz⟩ := okWide_struct hs hv
  obtain ⟨fuel, hf⟩ := h
  obtain ⟨xs, n, _, hx, hl, hlen, hg⟩ := DataW.trod_struct hs hf
  rw [c1] at hsz
  obtain ⟨l⟩ := cs
  match l, hsz with
  | [a0, a1, a2, a3, a4, a5], _ =>
    match xs, hlen with
    | [y0, y1, y2, y3, y4, y5], _ =>
      have g0 : DataW.trod enc Try.prog w base sp held n 3 [a0] = some y0 := by have := hg 0 f0 rfl; rw [t0, o0, c2] at this; exact this
      have g1 : DataW.trod enc Try.prog w base sp held n 3 [a1] = some y1 := by have := hg 1 f1 rfl; rw [t1, o1, c2] at this; exact this
      have g2 : DataW.trod enc Try.prog w base sp held n 3 [a2] = some y2 := by have := hg 2 f2 rfl; rw [t2, o2, c2] at this; exact this
      have g3 : DataW.trod enc Try.prog w base sp held n 3 [a3] = some y3 := by have := hg 3 f3 rfl; rw [t3, o3, c2] at this; exact this
      have g4 : DataW.trod enc Try.prog w base sp held n 3 [a4] = some y4 := by have := hg 4 f4 rfl; rw [t4, o4, c2] at this; exact this
      have g5 : DataW.trod enc Try.prog w base sp held n 3 [a5] = some y5 := by have := hg 5 f5 rfl; rw [t5, o5, c2] at this; exact this
      obtain ⟨n0, e0, rfl, w0⟩ := DataW.trod_int Try.underlying3 g0
      obtain ⟨n1, e1, rfl, w1⟩ := DataW.trod_int Try.underlying3 g1
      obtain ⟨n2, e2, rfl, w2⟩ := DataW.trod_int Try.underlying3 g2
      obtain ⟨n3, e3, rfl, w3⟩ := DataW.trod_int Try.underlying3 g3
      obtain ⟨n4, e4, rfl, w4⟩ := DataW.trod_int Try.underlying3 g4
      obtain ⟨n5, e5, rfl, w5⟩ := DataW.trod_int Try.underlying3 g5
      simp only [List.cons.injEq, and_true] at e0 e1 e2 e3 e4 e5
      subst e0 e1 e2 e3 e4 e5
      simp at hx
      exact ⟨n0, n1, n2, n3, n4, n5, ⟨w0, w1, w2, w3, w4, w5⟩, rfl, hx.1, hx.2⟩
set_option maxRecDepth 100000 in
theorem shut_mom {y m d h i s : Int} (hw : wf6 y m d h i s) : DataW.Trod enc Try.prog w base sp held 26 (momV y m d h i s) (momD H y m d h i s) [] := by
  obtain ⟨f0, f1, f2, f3, f4, f5, hs, ⟨t0, o0⟩, ⟨t1, o1⟩, ⟨t2, o2⟩, ⟨t3, o3⟩, ⟨t4, o4⟩, t5, o5⟩ := structM
  obtain ⟨c1, c2⟩ := cellsOfM
  obtain ⟨w0, w1, w2, w3, w4, w5⟩ := hw
  refine ⟨3, ?_⟩
  have k0 := trod_int_mk (enc := enc) (w := w) (base := base) (spare := sp) (held := held) 1 Try.underlying3 w0
  have k1 := trod_int_mk (enc := enc) (w := w) (base := base) (spare := sp) (held := held) 1 Try.underlying3 w1
  have k2 := trod_int_mk (enc := enc) (w := w) (base := base) (spare := sp) (held := held) 1 Try.underlying3 w2
  have k3 := trod_int_mk (enc := enc) (w := w) (base := base) (spare := sp) (held := held) 1 Try.underlying3 w3
  have k4 := trod_int_mk (enc := enc) (w := w) (base := base) (spare := sp) (held := held) 1 Try.underlying3 w4
  have k5 := trod_int_mk (enc := enc) (w := w) (base := base) (spare := sp) (held := held) 1 Try.underlying3 w5
  have := trod_struct_mk (enc := enc) (P := Try.prog) (w := w) (base := base) (spare := sp) (held := held) (n := 2) (cs := [.int .i64 y, .int .i64 m, .int .i64 d, .int .i64 h, .int .i64 i, .int .i64 s])
    (xs := [((.lit (.int .i64 y), []) : DataW H × List MemPlace), (.lit (.int .i64 m), []), (.lit (.int .i64 d), []), (.lit (.int .i64 h), []), (.lit (.int .i64 i), []), (.lit (.int .i64 s), [])]) hs (by rw [c1]; rfl) (by
    simp [t0, o0, t1, o1, t2, o2, t3, o3, t4, o4, t5, o5, c2, k0, k1, k2, k3, k4, k5])
  exact this
end

set_option maxRecDepth 100000 in
theorem secsP_lifted (os : Os) (started : os.Started) (H : Type) (enc : TypeId × Value → H) :
    ReturnsInHanded {} Try.checked os 4 .any (Rows.datesSecondsSpec.pre6 enc Try.prog Try.f4 Rows.datesSecondsRow.domain false) (Rows.datesSecondsSpec.post enc Try.prog Try.f4 false true false false) := by
  refine returnsInHanded_of_change_sized (C := Try.checked) secsP_own started (by kernel_rfl) Try.func4
    (ChangeSpec.witness6 (enc := enc) (C := Try.checked) false ⟨#[], #[.agg #[.int .i64 0, .int .i64 0, .int .i64 0, .int .i64 0, .int .i64 0, .int .i64 0]], []⟩ 8 (by kernel_rfl) (by kernel_rfl) (by kernel_rfl) (by kernel_rfl)) ?_
  intro W base args ds gs before hval0 hW hcnd hsz0 _
  have hval : ∀ (j : Nat) t v, Try.f4.params[j]? = some t → args[j]? = some v → Value.okWide Try.prog W .any base t v := hval0
  have hsz : (DataW.weightsEach Try.prog (Try.f4.params.toList ++ Rows.datesSecondsSpec.plain.varTypes Try.prog) (ds ++ gs)).all (· ≤ reachBytes) = true := hsz0
  have hW' := hW
  obtain ⟨p, q, hA0, hV, rfl, hfz, hnd⟩ := hW
  have hA : DataW.TrodAll enc Try.prog W 0 (fun _ => true) true Try.f4.params.toList args.toList ds p := hA0
  rw [Try.params4] at hA hval hsz
  obtain ⟨v0, d0, rfl, rfl, h0⟩ := trodAll_one hA
  obtain ⟨rfl, rfl⟩ := trodVars_none hV
  obtain ⟨y, m, d, h, i, s, hw, rfl, rfl, rfl⟩ := open_mom (hval 0 26 v0 rfl rfl) h0
  clear hA0 hval0 hsz0 hsz
  refine (secs_walk y m d h i s W).mono fun e W' ⟨he, bel⟩ => ?_
  subst he
  exact ⟨_, rfl, _, _, _, [], _, [], hW', trodAll_mk1 (shut_bool Try.underlying4 _), trodAll_mk1 (shut_mom hw), rfl, bel.frame _, fun h => by cases h⟩

theorem secsP_holds : Rows.DatesSecondsSaid :=
  OpenClaim.holds_of_wide 4 Try.f4 rfl rfl rfl rfl rfl rfl rfl ⟨rfl, rfl, rfl, rfl, rfl⟩ rfl rfl rfl rfl rfl (by kernel_rfl) Try.func4 (by kernel_rfl)
    (of_decide_eq_true (by kernel_rfl)) (by unfold Func.isWrapper; first | (rw [if_pos (by decide +kernel)]; kernel_rfl) | (rw [if_neg (by decide +kernel)]; exact ⟨rfl, rfl⟩))
    (fun os started H enc _ => secsP_lifted os started H enc)

#print axioms secsP_holds
end Go.Proofs.Ytanjjffoccgkcaa
