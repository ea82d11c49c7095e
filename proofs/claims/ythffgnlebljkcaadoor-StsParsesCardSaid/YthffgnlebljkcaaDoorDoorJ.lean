/-
  What the tied cards of sts share: a start that lays the listed tables; what the tables say.
-/
import Derived.Test.YthffgnlebljkcaaDoorDoorX
import Derived.Test.YthffgnlebljkcaaDoorShelfN
import Derived.Test.YthffgnlebljkcaaDoorAdB
import Derived.Lib.LaidIn
import Derived.Lib.LaidU8
import Derived.Lib.LaidTab
import Derived.MakeChecks
import Derived.LaidMore
import Derived.LaidLaws
import Derived.Shelf.Vars
import Derived.ProofKit
import Derived.OpenShut
import Derived.ShutString
import Derived.ChangeOld
import Derived.Below
import Derived.SizedLaws
namespace Go.Proofs.YthffgnlebljkcaaDoor
open Go.ChangeShapes Go.WideShapes Go.ChangeAt Go.RowKit Go.Lib

theorem ownD : ownKnob Tryd.prog.godebug = none := by kernel_rfl
/-- The cells of a datum of numbers and texts. -/
def flatD : Nat → DataW Unit → List Value
  | n + 1, .agg ds => ds.flatMap (flatD n)
  | _, .lit (.int k i) => [.int k i]
  | _, .lit (.string l) => [.string ⟨l.toArray⟩]
  | _, _ => []
def putCells (l : List Value) : Obj → Obj
  | .cells _ t fr => .cells l.toArray t fr
  | o => o
/-- A start in which the listed tables lie as they are listed. -/
noncomputable def laidWorld (os : Os) : World :=
  let w0 := World.holding Tryd.prog os ⟨#[], #[], []⟩
  { w0 with heap := ((((w0.heap.modify 2 (putCells (flatD 3 Rows.laid_math_bits_deBruijn32tab))).modify 3 (putCells (flatD 3 Rows.laid_math_bits_deBruijn64tab))).modify 0 (putCells (flatD 3 Rows.laid_internal_strconv_uint64pow10))).modify 4 (putCells (flatD 3 Rows.laid_unicode_utf8_first))).modify 5 (putCells (flatD 3 Rows.laid_unicode_utf8_acceptRanges)) }
theorem laid_met (os : Os) (args : Array Value) : laidMetH Tryd.prog Rows.stsBackRow.laid ((laidWorld os).forCall (fun _ _ => 0) ⟨#[], args, []⟩).memory :=
  laidMetH_of_parts3 (fuel := 8) (laidMet_of_run3 8 (by kernel_rfl) (by kernel_rfl) (by kernel_rfl)) (by kernel_rfl) (by kernel_rfl)
theorem laid_metT (os : Os) (args : Array Value) : laidMetH Tryd.prog Rows.stsTextsRow.laid ((laidWorld os).forCall (fun _ _ => 0) ⟨#[], args, []⟩).memory :=
  laidMetH_of_parts3 (fuel := 8) (laidMet_of_run3 8 (by kernel_rfl) (by kernel_rfl) (by kernel_rfl)) (by kernel_rfl) (by kernel_rfl)
theorem laid_metP (os : Os) (args : Array Value) : laidMetH Tryd.prog Rows.stsParsesRow.laid ((laidWorld os).forCall (fun _ _ => 0) ⟨#[], args, []⟩).memory :=
  laidMetH_of_parts3 (fuel := 8) (laidMet_of_run3 8 (by kernel_rfl) (by kernel_rfl) (by kernel_rfl)) (by kernel_rfl) (by kernel_rfl)
theorem tabIs_of_reads {P : Program} {W : World} {name : String} {k : IntKind} {zs : List Int} {g : Nat} {t e : TypeId} {n : Nat} {d : DataW Unit}
    (hg : P.globalNamed name = some g) (hty : (P.globals[g]?).map (·.type) = some t) (ht : P.underlying t = some (.array n e)) (he : P.underlying e = some (.int k)) (hce : P.cellsOf e = 1) (hct : P.cellsOf t = n)
    (hd : d = tabData k zs) (h : VarReads P W name d) : TabIs P W name k zs := by
  subst hd
  obtain ⟨g', t', cs, fuel, p, hg', ht', hvar, hd⟩ := h
  obtain rfl := Option.some.inj (hg.symm.trans hg')
  obtain rfl := Option.some.inj (hty.symm.trans ht')
  unfold TabIs
  rw [hvar, ← cells_of_tab ht he hce hct hd]
theorem pow10_eq : (Rows.laid_internal_strconv_uint64pow10 : DataW Unit) = tabData .u64 pow10Tab := by kernel_rfl
theorem h_laidOut : laidOutB Tryd.prog = true := by kernel_rfl
theorem u32_nat (n : Int) (h : (Lit.int .u32 n).wf = true) : ∃ m : Nat, n = (m : Int) ∧ m < 4294967296 := by
  have h1 : IntKind.min .u32 = 0 := by decide
  have h2 : IntKind.max .u32 = 4294967295 := by decide
  simp [Lit.wf, h1, h2] at h
  exact ⟨n.toNat, by omega, by omega⟩
theorem i64_wf (n : Int) (h : (Lit.int .i64 n).wf = true) : -9223372036854775808 ≤ n ∧ n ≤ 9223372036854775807 := by
  have h1 : IntKind.min .i64 = -9223372036854775808 := by decide
  have h2 : IntKind.max .i64 = 9223372036854775807 := by decide
  simpa [Lit.wf, h1, h2] using h
theorem u16_nat (n : Int) (h : (Lit.int .u16 n).wf = true) : ∃ m : Nat, n = (m : Int) ∧ m < 65536 := by
  have h1 : IntKind.min .u16 = 0 := by decide
  have h2 : IntKind.max .u16 = 65535 := by decide
  simp [Lit.wf, h1, h2] at h
  exact ⟨n.toNat, by omega, by omega⟩
theorem u64_nat (n : Int) (h : (Lit.int .u64 n).wf = true) : ∃ m : Nat, n = (m : Int) ∧ m < 18446744073709551616 := by
  have h1 : IntKind.min .u64 = 0 := by decide
  have h2 : IntKind.max .u64 = 18446744073709551615 := by decide
  simp [Lit.wf, h1, h2] at h
  exact ⟨n.toNat, by omega, by omega⟩
theorem u8_nat (n : Int) (h : (Lit.int .u8 n).wf = true) : ∃ m : Nat, n = (m : Int) ∧ m < 256 := by
  have h1 : IntKind.min .u8 = 0 := by decide
  have h2 : IntKind.max .u8 = 255 := by decide
  simp [Lit.wf, h1, h2] at h
  exact ⟨n.toNat, by omega, by omega⟩
theorem tb_of {W : World} (h : laidMetH Tryd.prog Rows.stsBackRow.laid W.memory) : TabIs Tryd.prog W "internal/strconv.uint64pow10" .u64 pow10Tab := by
  rw [Go.MakeChecks.laidMetH_plain _ _ _ (by kernel_rfl)] at h
  have h2 := Lib.laidMet.reads h (.tail _ (.tail _ (.head _)))
  have e1 := tabIs_of_reads (g := 0) (by kernel_rfl) (by kernel_rfl) Tryd.underlying93 Tryd.underlying34 (by kernel_rfl) (by kernel_rfl) pow10_eq h2
  exact e1
theorem tb_ofT {W : World} (h : laidMetH Tryd.prog Rows.stsTextsRow.laid W.memory) : TabIs Tryd.prog W "internal/strconv.uint64pow10" .u64 pow10Tab := by
  rw [Go.MakeChecks.laidMetH_plain _ _ _ (by kernel_rfl)] at h
  have h2 := Lib.laidMet.reads h (.tail _ (.tail _ (.head _)))
  have e1 := tabIs_of_reads (g := 0) (by kernel_rfl) (by kernel_rfl) Tryd.underlying93 Tryd.underlying34 (by kernel_rfl) (by kernel_rfl) pow10_eq h2
  exact e1

set_option maxRecDepth 100000 in
theorem structW : ∃ f0 f1 : Field, Tryd.prog.underlying 24 = some (.struct #[f0, f1]) ∧ (f0.type = 3 ∧ f0.offset = 0) ∧ (f1.type = 4 ∧ f1.offset = 1) :=
  ⟨_, _, Tryd.underlying24, ⟨rfl, rfl⟩, ⟨rfl, rfl⟩⟩
theorem two11 {α : Type} : ∀ {l : List α}, l.length = 2 → ∃ a b, l = [a, b]
  | [a, b], _ => ⟨a, b, rfl⟩
theorem cellsOfW : Tryd.prog.cellsOf 24 = 2 ∧ Tryd.prog.cellsOf 3 = 1 ∧ Tryd.prog.cellsOf 4 = 1 := ⟨by kernel_rfl, by kernel_rfl, by kernel_rfl⟩
set_option maxRecDepth 100000 in
set_option maxHeartbeats 1000000 in
/-- A wish comes in. -/
theorem open_wish {H : Type} {enc : TypeId × Value → H} {W : World} {r : Reach} {b0 : Nat} {v : Value} {d : DataW H} {ps : List MemPlace} (hv : Value.okWide Tryd.prog W r b0 24 v)
    (h : DataW.Trod enc Tryd.prog W 0 (fun _ => true) true 24 v d ps) : ∃ (a : Int) (f : Bool), v = .agg #[.int .i64 a, .bool f] ∧ (Lit.int .i64 a).wf = true := by
  obtain ⟨f0, f1, hs, ⟨t0, o0⟩, ⟨t1, o1⟩⟩ := structW
  obtain ⟨cu, cI, cB⟩ := cellsOfW
  obtain ⟨cs, rfl, hsz⟩ := okWide_struct hs hv
  obtain ⟨fuel, hf⟩ := h
  obtain ⟨xs, n, _, hx, hl, hn, hf2⟩ := DataW.trod_struct hs hf
  rw [cu] at hl hsz
  have hn' : xs.length = 2 := hn
  obtain ⟨y0, y1, rfl⟩ := two11 hn'
  obtain ⟨c0, c1, hc⟩ := two11 (show cs.toList.length = 2 by simpa using hsz)
  have hcl : (Value.agg cs).cells.toList = cs.toList := rfl
  rw [hcl, hc] at hf2
  have g0 := hf2 0 f0 rfl
  rw [t0, o0, cI] at g0
  obtain ⟨a, e0, z0, w0⟩ := DataW.trod_int Tryd.underlying3 g0
  obtain rfl := (List.cons.inj (show [c0] = [_] from e0)).1
  have g1 := hf2 1 f1 rfl
  rw [t1, o1, cB] at g1
  obtain ⟨f, e1, z1⟩ := DataW.trod_bool Tryd.underlying4 g1
  obtain rfl := (List.cons.inj (show [c1] = [_] from e1)).1
  refine ⟨a, f, ?_, w0⟩
  congr 1
  apply Array.toList_inj.1
  rw [hc]

end Go.Proofs.YthffgnlebljkcaaDoor
