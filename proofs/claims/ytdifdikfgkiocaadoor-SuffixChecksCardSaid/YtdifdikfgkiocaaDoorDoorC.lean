/-
  What SuffixChecks' tied card needs: a builder that hands on what is listed; a start that lays the two tables; texts that come in.
-/
import Derived.Test.YtdifdikfgkiocaaDoorRows
import Derived.ProofKit
import Derived.OpenShut
import Derived.ShutString
import Derived.ChangeOld
import Derived.Below
import Derived.SizedLaws
import Derived.LaidMore
import Derived.LaidLaws
import Derived.LaidHandle
import Derived.Stop.Joined
import Derived.Deep.DeepLaidRun
import Derived.SevenTiedAt
import Derived.Shelf.Vars
import Derived.Test.YtdifdikfgkiocaaDoorShelfV
import Derived.Test.YtdifdikfgkiocaaDoorMsA
import Derived.Test.YtdifdikfgkiocaaDoorShelfT
import Derived.Test.YtdifdikfgkiocaaDoorShelfZ
import Derived.MakeChecks
import Derived.SliceStrings
import Derived.Carry
namespace Go.Proofs.YtdifdikfgkiocaaDoor
open Go.ChangeShapes Go.WideShapes Go.ChangeAt Go.RowKit

theorem ret_allX {H : Type} {enc : TypeId × Value → H} {C : Checked} {os : Os} {f : FuncId} {fn : Func} {s : ChangeSpec} {conds : List PathCond} {apart fresh handsOn again : Bool} {X : World → Array Value → Prop}
    (own : ownKnob C.prog.godebug = none) (started : os.Started) (noInit : C.prog.inits.idxOf? f = none) (hfn : C.prog.funcs[f]? = some fn)
    (witness : ∃ (w : World) (tape : Tape) (i : Input), w.os = os ∧ (w.forCall tape i).Shaped C.prog ∧ i.vars = [] ∧ Input.okWide C.prog (w.forCall tape i) .any w.heap.size f i ∧
      ((s.pre enc C.prog fn conds apart (w.forCall tape i).memory i.args ∧ X (w.forCall tape i).memory i.args) ∧ sizedMet enc C.prog fn (OpenSpec.ofChange s) apart (w.forCall tape i).memory i.args) ∧ ({} : Assume).holds C.prog (lone (Frame.enter C.prog f i.args .normal) [] (w.forCall tape i)))
    (contract : ∀ (W : World) (base : Nat) (args : Array Value) (ds gs : List (DataW H)) (before : List MemPlace),
      (∀ (j : Nat) t v, fn.params[j]? = some t → args[j]? = some v → Value.okWide C.prog W .any base t v) →
      DataW.Whole enc C.prog fn.params.toList s.vars apart W args.toList ds gs before →
      (DataW.weightsEach C.prog (fn.params.toList ++ s.plain.varTypes C.prog) (ds ++ gs)).all (· ≤ reachBytes) = true → W.ShapedOpen C.prog → X W.memory args →
      Calls C.prog f args W fun e W' => ∃ v, e = .returned v ∧ s.post enc C.prog fn apart fresh handsOn again W args v W') :
    ReturnsInHanded {} C os f .any (fun w args => (s.pre enc C.prog fn conds apart w args ∧ X w args) ∧ sizedMet enc C.prog fn (OpenSpec.ofChange s) apart w args) (s.post enc C.prog fn apart fresh handsOn again) := by
  refine returnsInHanded_of_calls own started noInit witness ?_
  intro w tape i _ hsh _ hok hpre _
  obtain ⟨_, _, _, fn', hfn', _, _, _, _, hval⟩ := hok
  have e : fn' = fn := Option.some.inj (hfn'.symm.trans hfn)
  subst e
  obtain ⟨⟨⟨ds, gs, before, hw, _⟩, hX⟩, hz⟩ := hpre
  have hw' := DataW.Whole.of_heap (w' := w.forCall tape i) (by rfl) hw
  refine (contract (w.forCall tape i) w.heap.size i.args ds gs before hval hw' (hz.weights hw) hsh hX).mono fun e W' ⟨v, he, hp⟩ => ?_
  subst he
  exact ChangeSpec.post_blind hp

end Go.Proofs.YtdifdikfgkiocaaDoor
namespace Go.Proofs.YtdifdikfgkiocaaDoor
open Go.ChangeShapes Go.WideShapes Go.ChangeAt Go.RowKit Go.Lib

theorem ownD : ownKnob Tryd.prog.godebug = none := by kernel_rfl
/-- The cells of a datum of numbers. -/
def flatD : Nat → DataW Unit → List Value
  | n + 1, .agg ds => ds.flatMap (flatD n)
  | _, .lit (.int k i) => [.int k i]
  | _, _ => []
def putCells (l : List Value) : Obj → Obj
  | .cells _ t fr => .cells l.toArray t fr
  | o => o
/-- A start in which the listed tables lie as they are listed. -/
noncomputable def laidWorld (os : Os) : World :=
  let w0 := World.holding Tryd.prog os ⟨#[], #[], []⟩
  { w0 with heap := (w0.heap.modify 1 (putCells (flatD 3 Rows.laid_unicode_utf8_first))).modify 2 (putCells (flatD 3 Rows.laid_unicode_utf8_acceptRanges)) }
theorem laid_met (os : Os) (args : Array Value) : laidMetH Tryd.prog Rows.suffixChecksRow.laid ((laidWorld os).forCall (fun _ _ => 0) ⟨#[], args, []⟩).memory :=
  laidMetH_of_parts3 (fuel := 8) (laidMet_of_run3 8 (by kernel_rfl) (by kernel_rfl) (by kernel_rfl)) (by kernel_rfl) (by kernel_rfl)

theorem maxLen_cell {w : World} (h : w.ShapedOpen Tryd.prog) : ∃ m, w.cell? ⟨0, 0, none⟩ = some (.int .i64 m) :=
  cell_of_shapedOpen_int (P := Tryd.prog) (g := 0) (t := 3) (zero := #[.int .i64 0]) h (of_decide_eq_true (by kernel_rfl)) (by kernel_rfl) rfl (by kernel_rfl) (by kernel_rfl) Tryd.underlying3

end Go.Proofs.YtdifdikfgkiocaaDoor
namespace Go.Proofs.YtdifdikfgkiocaaDoor
open Go.ChangeShapes Go.WideShapes Go.ChangeAt Go.RowKit
open Go.ChangeMaps (open_string shut_string)
theorem h_laidOut : laidOutB Tryd.prog = true := by kernel_rfl
theorem weights_strs {H : Type} {P : Program} {e : TypeId} : ∀ {l : List ByteArray} {y : ByteArray}, y ∈ l → y.data.toList.length ∈ DataW.weightsAll P e (strs (H := H) l)
  | a :: l, y, h => by
    rw [strs, List.map_cons, DataW.weightsAll, List.mem_append]
    rcases List.mem_cons.1 h with rfl | h
    · exact .inl (by simp [DataW.weights])
    · exact .inr (weights_strs h)
/-- Texts that come in, none or some. -/
theorem open_texts {H : Type} {enc : TypeId × Value → H} {W : World} {a0 : Option Addr} {len cap fuel : Nat} {x : DataW H × List MemPlace}
    (hf : DataW.trod enc Tryd.prog W 0 (fun _ => true) true fuel 22 [.slice a0 len cap] = some x) (hwt : ∀ n ∈ DataW.weights Tryd.prog 22 x.1, n ≤ reachBytes) :
    ∃ (b off : Nat) (Xs : List ByteArray), Xs.length = len ∧ (0 < Xs.length → a0 = some ⟨b, off, none⟩) ∧ (∀ j (h : j < Xs.length), W.cell? ⟨b, off + j, none⟩ = some (.string Xs[j])) ∧ Xs.length ≤ 140737488355328 ∧ ∀ y ∈ Xs, y.size ≤ 140737488355328 := by
  rcases open_strings Tryd.underlying22 Tryd.underlying9 (by kernel_rfl) hf with ⟨hcs, hx⟩ | ⟨a, len', cap', ss, hcs, _, hl, hm, hz, hx, hcell, hsz⟩
  · injection hcs with hcs _
    injection hcs with h1 h2 h3
    subst h2
    exact ⟨0, 0, [], rfl, fun h => absurd h (Nat.not_lt_zero _), fun j h => absurd h (Nat.not_lt_zero _), Nat.zero_le _, fun y hy => by cases hy⟩
  · injection hcs with hcs _
    injection hcs with h1 h2 h3
    subst h1; subst h2; subst h3
    simp only [if_true] at hz
    subst hx
    simp only [DataW.weights, Tryd.underlying22] at hwt
    have hwl := hwt _ (List.mem_cons_self)
    have hwa : ∀ y ∈ ss.take len, y.size ≤ 140737488355328 := fun y hy => by
      have h1 := hwt _ (List.mem_cons_of_mem _ (List.mem_append_left _ (weights_strs hy)))
      rw [lenB] at h1
      unfold reachBytes at h1
      omega
    have hb16 : Tryd.prog.bytesOf 9 = 16 := by kernel_rfl
    rw [hb16] at hwl
    have hll : len ≤ 140737488355328 := by
      have h1 : (strs (H := H) (ss.take len)).length = len := by rw [strs, List.length_map, List.length_take]; omega
      rw [h1] at hwl
      unfold reachBytes at hwl
      omega
    obtain ⟨b, off, spot⟩ := a
    have hsp : 0 < len → spot = none := fun h0 => by simpa [Addr.add] using World.cell?_spot (hcell 0 (by omega))
    refine ⟨b, off, ss.take len, by rw [List.length_take]; omega, fun h0 => ?_, fun j hj => ?_, by rw [List.length_take]; omega, hwa⟩
    · rw [List.length_take] at h0
      have := hsp (by omega)
      subst this; rfl
    · have hj' : j < len := by rw [List.length_take] at hj; omega
      have := hsp (by omega)
      subst this
      have h4 := hcell j (by omega)
      rw [List.getElem_take]
      rw [add_plain] at h4
      rw [h4, List.getD_eq_getElem?_getD, List.getElem?_eq_getElem (by omega)]; rfl

end Go.Proofs.YtdifdikfgkiocaaDoor
