/-
  What the tied cards of urls share: a builder that hands the tables on; a start that lays the five tables; what the tables say.
-/
import Derived.Test.YtcphokaamkalfaaGreatDoorRows
import Derived.ProofKit
import Derived.OpenShut
import Derived.ShutString
import Derived.ChangeOld
import Derived.Below
import Derived.SizedLaws
import Derived.LaidMore
import Derived.LaidLaws
import Derived.LaidHandle
import Derived.Stop.Joined
import Derived.Deep.DeepLaidRun
import Derived.SevenTiedAt
import Derived.Shelf.Vars
import Derived.Test.YtcphokaamkalfaaGreatDoorShelfV
import Derived.Test.YtcphokaamkalfaaGreatDoorShelfT
import Derived.Test.YtcphokaamkalfaaGreatDoorShelfZ
import Derived.Test.YtcphokaamkalfaaGreatDoorMhC
import Derived.Test.YtcphokaamkalfaaGreatDoorMaD
import Derived.Lib.LaidIn
import Derived.Lib.LaidU8
import Derived.Lib.LaidU8T
import Derived.Lib.LaidTab
import Derived.MakeChecks
import Derived.Test.YtcphokaamkalfaaGreatDoorMuA
namespace Go.Proofs.YtcphokaamkalfaaGreatDoor
open Go.ChangeShapes Go.WideShapes Go.ChangeAt Go.RowKit

theorem ret_allX {H : Type} {enc : TypeId × Value → H} {C : Checked} {os : Os} {f : FuncId} {fn : Func} {s : ChangeSpec} {conds : List PathCond} {apart fresh handsOn again : Bool} {X : World → Array Value → Prop}
  (own : ownKnob C.prog.godebug = none) (started : os.Started) (noInit : C.prog.inits.idxOf? f = none) (hfn : C.prog.funcs[f]? = some fn)
  (witness : ∃ (w : World) (tape : Tape) (i : Input), w.os = os ∧ (w.forCall tape i).Shaped C.prog ∧ i.vars = [] ∧ Input.okWide C.prog (w.forCall tape i) .any w.heap.size f i ∧
   ((s.pre enc C.prog fn conds apart (w.forCall tape i).memory i.args ∧ X (w.forCall tape i).memory i.args) ∧ sizedMet enc C.prog fn (OpenSpec.ofChange s) apart (w.forCall tape i).memory i.args) ∧ ({} : Assume).holds C.prog (lone (Frame.enter C.prog f i.args .normal) [] (w.forCall tape i)))
  (contract : ∀ (W : World) (base : Nat) (args : Array Value) (ds gs : List (DataW H)) (before : List MemPlace),
   (∀ (j : Nat) t v, fn.params[j]? = some t → args[j]? = some v → Value.okWide C.prog W .any base t v) →
   DataW.Whole enc C.prog fn.params.toList s.vars apart W args.toList ds gs before →
   (DataW.weightsEach C.prog (fn.params.toList ++ s.plain.varTypes C.prog) (ds ++ gs)).all (· ≤ reachBytes) = true → W.ShapedOpen C.prog → X W.memory args →
   Calls C.prog f args W fun e W' => ∃ v, e = .returned v ∧ s.post enc C.prog fn apart fresh handsOn again W args v W') :
  ReturnsInHanded {} C os f .any (fun w args => (s.pre enc C.prog fn conds apart w args ∧ X w args) ∧ sizedMet enc C.prog fn (OpenSpec.ofChange s) apart w args) (s.post enc C.prog fn apart fresh handsOn again) := by
 refine returnsInHanded_of_calls own started noInit witness ?_
 intro w tape i _ hsh _ hok hpre _
 obtain ⟨_, _, _, fn', hfn', _, _, _, _, hval⟩ := hok
 have e : fn' = fn := Option.some.inj (hfn'.symm.trans hfn)
 subst e
 obtain ⟨⟨⟨ds, gs, before, hw, _⟩, hX⟩, hz⟩ := hpre
 have hw' := DataW.Whole.of_heap (w' := w.forCall tape i) (by rfl) hw
 refine (contract (w.forCall tape i) w.heap.size i.args ds gs before hval hw' (hz.weights hw) hsh hX).mono fun e W' ⟨v, he, hp⟩ => ?_
 subst he
 exact ChangeSpec.post_blind hp

end Go.Proofs.YtcphokaamkalfaaGreatDoor
namespace Go.Proofs.YtcphokaamkalfaaGreatDoor
open Go.ChangeShapes Go.WideShapes Go.ChangeAt Go.RowKit Go.Lib

theorem ownD : ownKnob Tryz.prog.godebug = none := by kernel_rfl
/-- The cells of a datum of numbers. -/
def flatD : Nat → DataW Unit → List Value
 | n + 1, .agg ds => ds.flatMap (flatD n)
 | _, .lit (.int k i) => [.int k i]
 | _, _ => []
def putCells (l : List Value) : Obj → Obj
 | .cells _ t fr => .cells l.toArray t fr
 | o => o
/-- A start in which the listed tables lie as they are listed. -/
noncomputable def laidWorld (os : Os) : World :=
 let w0 := World.holding Tryz.prog os ⟨#[], #[], []⟩
 { w0 with heap := ((((w0.heap.modify 4 (putCells (flatD 3 Rows.laid_math_bits_deBruijn32tab))).modify 5 (putCells (flatD 3 Rows.laid_math_bits_deBruijn64tab))).modify 0 (putCells (flatD 3 Rows.laid_internal_strconv_uint64pow10))).modify 2 (putCells (flatD 3 Rows.laid_unicode_utf8_first))).modify 3 (putCells (flatD 3 Rows.laid_unicode_utf8_acceptRanges)) }
theorem laid_met (os : Os) (args : Array Value) : laidMetH Tryz.prog Rows.urlsHereRow.laid ((laidWorld os).forCall (fun _ _ => 0) ⟨#[], args, []⟩).memory :=
 laidMetH_of_parts3 (fuel := 8) (laidMet_of_run3 8 (by kernel_rfl) (by kernel_rfl) (by kernel_rfl)) (by kernel_rfl) (by kernel_rfl)

theorem tabIs_of_reads {P : Program} {W : World} {name : String} {k : IntKind} {zs : List Int} {g : Nat} {t e : TypeId} {n : Nat} {d : DataW Unit}
  (hg : P.globalNamed name = some g) (hty : (P.globals[g]?).map (·.type) = some t) (ht : P.underlying t = some (.array n e)) (he : P.underlying e = some (.int k)) (hce : P.cellsOf e = 1) (hct : P.cellsOf t = n)
  (hd : d = tabData k zs) (h : VarReads P W name d) : TabIs P W name k zs := by
 subst hd
 obtain ⟨g', t', cs, fuel, p, hg', ht', hvar, hd⟩ := h
 obtain rfl := Option.some.inj (hg.symm.trans hg')
 obtain rfl := Option.some.inj (hty.symm.trans ht')
 unfold TabIs
 rw [hvar, ← cells_of_tab ht he hce hct hd]
theorem pow10_eq : (Rows.laid_internal_strconv_uint64pow10 : DataW Unit) = tabData .u64 pow10Tab := by kernel_rfl
theorem bruijn_eq : (Rows.laid_math_bits_deBruijn64tab : DataW Unit) = tabData .u8 (deBruijn64tab.map fun n : Nat => (n : Int)) := by kernel_rfl
theorem first_eq : (Rows.laid_unicode_utf8_first : DataW Unit) = Lib.firstData := by kernel_rfl
theorem accept_eq : (Rows.laid_unicode_utf8_acceptRanges : DataW Unit) = Lib.acceptData := by kernel_rfl
theorem tabs_of {w : World} (h : laidMetH Tryz.prog Rows.urlsHereRow.laid w) : TabIs Tryz.prog w "internal/strconv.uint64pow10" .u64 pow10Tab ∧ TabAt (Tryz.lays27_ren.g 1) deBruijn64tab w ∧ Lib.Utf8Tabs (Tryz.lays196_ren.g 3) (Tryz.lays196_ren.g 4) w := by
 rw [Go.MakeChecks.laidMetH_plain _ _ _ (by kernel_rfl)] at h
 have h1 := Lib.laidMet.reads h (.tail _ (.head _))
 have h2 := Lib.laidMet.reads h (.tail _ (.tail _ (.head _)))
 have h3 := Lib.laidMet.reads h (.tail _ (.tail _ (.tail _ (.head _))))
 have h4 := Lib.laidMet.reads h (.tail _ (.tail _ (.tail _ (.tail _ (.head _)))))
 have t1 := tabIs_of_reads (k := .u8) (zs := deBruijn64tab.map fun n : Nat => (n : Int)) (g := 5) (by kernel_rfl) (by kernel_rfl) Tryz.underlying179 Tryz.underlying5 (by kernel_rfl) (by kernel_rfl) bruijn_eq h1
 rw [accept_eq] at h3
 rw [first_eq] at h4
 refine ⟨tabIs_of_reads (g := 0) (by kernel_rfl) (by kernel_rfl) Tryz.underlying138 Tryz.underlying104 (by kernel_rfl) (by kernel_rfl) pow10_eq h2, fun j hj => ?_, utf8Tabs_of_readsT (U8Types.of196 Tryz.lays196) ⟨by kernel_rfl, by kernel_rfl, by kernel_rfl, by kernel_rfl, by kernel_rfl, by kernel_rfl, by kernel_rfl⟩ h4 h3⟩
 have := t1.cell (g := 5) (by kernel_rfl) j (by simpa using hj)
 rw [show Tryz.lays27_ren.g 1 = 5 from rfl, this]
 congr 2
 rw [List.getD_eq_getElem?_getD, List.getD_eq_getElem?_getD, List.getElem?_map]
 cases deBruijn64tab[j]? <;> rfl
theorem tabs_later {g3 g4 : Nat} {w w' : World} (h : Lib.Utf8Tabs g3 g4 w) (hb : Below w.heap.size w w') : Lib.Utf8Tabs g3 g4 w' := by
 have hk : ∀ (a : Addr) (v : Value), w.cell? a = some v → w'.cell? a = some v := fun a v h => (hb.cell (p := a) (block_lt_of_cell h)).trans h
 exact ⟨fun c hc => hk _ _ (h.1 c hc), fun i hi => ⟨hk _ _ (h.2 i hi).1, hk _ _ (h.2 i hi).2⟩⟩
theorem maxLen_cell {w : World} (h : w.ShapedOpen Tryz.prog) : ∃ m, w.cell? ⟨1, 0, none⟩ = some (.int .i64 m) :=
 cell_of_shapedOpen_int (P := Tryz.prog) (g := 1) (t := 3) (zero := #[.int .i64 0]) h (of_decide_eq_true (by kernel_rfl)) (by kernel_rfl) rfl (by kernel_rfl) (by kernel_rfl) Tryz.underlying3
theorem hw_of {W : World} (h : laidMetH Tryz.prog Rows.urlsHereRow.laid W.memory) (hs : W.ShapedOpen Tryz.prog) : Hw W := by
 obtain ⟨h1, h2, h3⟩ := tabs_of h
 have h3' : Lib.Utf8Tabs (Tryz.lays196_ren.g 3) (Tryz.lays196_ren.g 4) W := h3
 exact ⟨fun w' hb s hs => Tryz.utf8_ValidString s w' hs (tabs_later h3' hb), fmt10 W h1, fmt16 W h2, maxLen_cell hs⟩

theorem uw_of {W : World} (h : laidMetH Tryz.prog Rows.urlsHereRow.laid W.memory) (hs : W.ShapedOpen Tryz.prog) : Uw W := by
 obtain ⟨h1, h2, h3⟩ := tabs_of h
 have h3' : Lib.Utf8Tabs (Tryz.lays237_ren.g 3) (Tryz.lays237_ren.g 4) W := h3
 have h1' : Lib.TabIs Tryz.prog W "internal/strconv.uint64pow10" .u64 Lib.pow10Tab := h1
 exact ⟨hw_of h hs, trm_of h3', dec_of h1'⟩

end Go.Proofs.YtcphokaamkalfaaGreatDoor
