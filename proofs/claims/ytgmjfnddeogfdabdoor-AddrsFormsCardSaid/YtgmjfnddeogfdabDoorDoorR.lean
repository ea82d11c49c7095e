/-
  What the tied cards of addrs share: a start that lays the three tables; what the tables say; arrays of bytes and addresses that come in.
-/
import Derived.Test.YtgmjfnddeogfdabDoorDoorX
import Derived.Test.YtgmjfnddeogfdabDoorShelfT
import Derived.Test.YtgmjfnddeogfdabDoorShelfZ
import Derived.Test.YtgmjfnddeogfdabDoorAdV
import Derived.Lib.LaidU8
import Derived.Lib.LaidTab
import Derived.MakeChecks
namespace Go.Proofs.YtgmjfnddeogfdabDoor
open Go.ChangeShapes Go.WideShapes Go.ChangeAt Go.RowKit Go.Lib

theorem ownD : ownKnob Tryd.prog.godebug = none := by kernel_rfl
/-- The cells of a datum of numbers. -/
def flatD : Nat → DataW Unit → List Value
  | n + 1, .agg ds => ds.flatMap (flatD n)
  | _, .lit (.int k i) => [.int k i]
  | _, _ => []
def putCells (l : List Value) : Obj → Obj
  | .cells _ t fr => .cells l.toArray t fr
  | o => o
/-- A start in which the listed tables lie as they are listed. -/
noncomputable def laidWorld (os : Os) : World :=
  let w0 := World.holding Tryd.prog os ⟨#[], #[], []⟩
  { w0 with heap := ((w0.heap.modify 2 (putCells (flatD 3 Rows.laid_math_bits_deBruijn32tab))).modify 3 (putCells (flatD 3 Rows.laid_math_bits_deBruijn64tab))).modify 1 (putCells (flatD 3 Rows.laid_internal_strconv_uint64pow10)) }
theorem laid_met (os : Os) (args : Array Value) : laidMetH Tryd.prog Rows.addrsBackRow.laid ((laidWorld os).forCall (fun _ _ => 0) ⟨#[], args, []⟩).memory :=
  laidMetH_of_parts3 (fuel := 8) (laidMet_of_run3 8 (by kernel_rfl) (by kernel_rfl) (by kernel_rfl)) (by kernel_rfl) (by kernel_rfl)

theorem tabIs_of_reads {P : Program} {W : World} {name : String} {k : IntKind} {zs : List Int} {g : Nat} {t e : TypeId} {n : Nat} {d : DataW Unit}
    (hg : P.globalNamed name = some g) (hty : (P.globals[g]?).map (·.type) = some t) (ht : P.underlying t = some (.array n e)) (he : P.underlying e = some (.int k)) (hce : P.cellsOf e = 1) (hct : P.cellsOf t = n)
    (hd : d = tabData k zs) (h : VarReads P W name d) : TabIs P W name k zs := by
  subst hd
  obtain ⟨g', t', cs, fuel, p, hg', ht', hvar, hd⟩ := h
  obtain rfl := Option.some.inj (hg.symm.trans hg')
  obtain rfl := Option.some.inj (hty.symm.trans ht')
  unfold TabIs
  rw [hvar, ← cells_of_tab ht he hce hct hd]
theorem pow10_eq : (Rows.laid_internal_strconv_uint64pow10 : DataW Unit) = tabData .u64 pow10Tab := by kernel_rfl
theorem bruijn_eq : (Rows.laid_math_bits_deBruijn64tab : DataW Unit) = tabData .u8 (deBruijn64tab.map fun n : Nat => (n : Int)) := by kernel_rfl
theorem tabs_of {w : World} (h : laidMetH Tryd.prog Rows.addrsBackRow.laid w) : TabIs Tryd.prog w "internal/strconv.uint64pow10" .u64 pow10Tab ∧ TabAt (Tryd.lays27_ren.g 1) deBruijn64tab w := by
  rw [Go.MakeChecks.laidMetH_plain _ _ _ (by kernel_rfl)] at h
  have h1 := Lib.laidMet.reads h (.tail _ (.head _))
  have h2 := Lib.laidMet.reads h (.tail _ (.tail _ (.head _)))
  have t1 := tabIs_of_reads (k := .u8) (zs := deBruijn64tab.map fun n : Nat => (n : Int)) (g := 3) (by kernel_rfl) (by kernel_rfl) Tryd.underlying111 Tryd.underlying5 (by kernel_rfl) (by kernel_rfl) bruijn_eq h1
  refine ⟨tabIs_of_reads (g := 1) (by kernel_rfl) (by kernel_rfl) Tryd.underlying102 Tryd.underlying92 (by kernel_rfl) (by kernel_rfl) pow10_eq h2, fun j hj => ?_⟩
  have := t1.cell (g := 3) (by kernel_rfl) j (by simpa using hj)
  rw [show Tryd.lays27_ren.g 1 = 3 from rfl, this]
  congr 2
  rw [List.getD_eq_getElem?_getD, List.getD_eq_getElem?_getD, List.getElem?_map]
  cases deBruijn64tab[j]? <;> rfl

theorem wf_u8 (n : Int) : (Lit.int .u8 n).wf = true ↔ 0 ≤ n ∧ n ≤ 255 := by
  have h1 : IntKind.u8.min = 0 := by decide
  have h2 : IntKind.u8.max = 255 := by decide
  simp [Lit.wf, h1, h2]
/-! Arrays of bytes by value. -/
theorem mapM_some {α β : Type} {f : α → Option β} {g : α → β} : ∀ {l : List α}, (∀ a ∈ l, f a = some (g a)) → l.mapM f = some (l.map g)
  | [], _ => rfl
  | a :: l, h => by
    rw [List.mapM_cons, h a (by simp), mapM_some (fun x hx => h x (List.mem_cons_of_mem _ hx))]; rfl
section
variable {H : Type} {enc : TypeId × Value → H} {P : Program} {w : World} {base : Nat} {sp : Nat → Bool} {held : Bool}
/-- Bytes that are read. -/
def bytesD (H : Type) (l : List Nat) : DataW H := .agg (l.map fun n : Nat => .lit (.int .u8 (n : Int)))
theorem trod_bytes {t e : TypeId} {n fuel : Nat} {cs : List Value} {x : DataW H × List MemPlace} (ht : P.underlying t = some (.array n e)) (he : P.underlying e = some (.int .u8)) (hce : P.cellsOf e = 1) (hct : P.cellsOf t = n)
    (h : DataW.trod enc P w base sp held fuel t cs = some x) : ∃ l : List Nat, l.length = n ∧ (∀ m ∈ l, m < 256) ∧ cs = l.map u8v ∧ x = (bytesD H l, []) := by
  obtain ⟨xs, m, _, rfl, hl, hn, hf⟩ := DataW.trod_array ht h
  rw [hct] at hl
  rw [hce] at hf
  have hj : ∀ j, j < n → ∃ z : Nat, z < 256 ∧ cs[j]? = some (u8v z) ∧ xs[j]? = some (.lit (.int .u8 (z : Int)), []) := by
    intro j hj
    have h1 := hf j hj
    obtain ⟨y, hy⟩ : ∃ y, xs[j]? = some y := ⟨_, List.getElem?_eq_getElem (by omega)⟩
    rw [hy] at h1
    obtain ⟨z, hc, rfl, hw⟩ := DataW.trod_int he h1
    have hc0 : cs[j]? = some (.int .u8 z) := by
      have := congrArg (·[0]?) hc
      simpa [List.getElem?_take, List.getElem?_drop] using this
    have hz : 0 ≤ z ∧ z < 256 := by
      have := (wf_u8 z).1 hw
      omega
    refine ⟨z.toNat, by omega, ?_, ?_⟩
    · rw [hc0, u8v, Int.toNat_of_nonneg hz.1]
    · rw [hy, Int.toNat_of_nonneg hz.1]
  obtain ⟨g, hg⟩ : ∃ g : Nat → Nat, ∀ j, j < n → g j < 256 ∧ cs[j]? = some (u8v (g j)) ∧ xs[j]? = some (.lit (.int .u8 ((g j : Nat) : Int)), []) := by
    refine ⟨fun j => if hjn : j < n then Classical.choose (hj j hjn) else 0, fun j hjn => ?_⟩
    simp only [dif_pos hjn]
    exact Classical.choose_spec (hj j hjn)
  have hcs : cs = ((List.range n).map g).map u8v := by
    apply List.ext_getElem?
    intro i
    by_cases hi : i < n
    · rw [(hg i hi).2.1]; simp [List.getElem?_range hi]
    · rw [List.getElem?_eq_none (by omega), List.getElem?_eq_none (by simp; omega)]
  have hxs : xs = (List.range n).map fun j => (.lit (.int .u8 ((g j : Nat) : Int)), []) := by
    apply List.ext_getElem?
    intro i
    by_cases hi : i < n
    · rw [(hg i hi).2.2]; simp [List.getElem?_range hi]
    · rw [List.getElem?_eq_none (by omega), List.getElem?_eq_none (by simp; omega)]
  refine ⟨(List.range n).map g, by simp, fun m hm => ?_, hcs, ?_⟩
  · obtain ⟨j, hj, rfl⟩ := List.mem_map.1 hm
    exact (hg j (by simpa using hj)).1
  · rw [hxs]
    simp [bytesD, Function.comp_def, List.flatMap_eq_nil_iff]
theorem bytes_trod {t e : TypeId} {n : Nat} {l : List Nat} (ht : P.underlying t = some (.array n e)) (he : P.underlying e = some (.int .u8)) (hce : P.cellsOf e = 1) (hct : P.cellsOf t = n) (hl : l.length = n) (hb : ∀ m ∈ l, m < 256) :
    DataW.trod enc P w base sp held 2 t (l.map u8v) = some (bytesD H l, []) := by
  have hm : (List.range n).mapM (fun i => DataW.trod enc P w base sp held 1 e (((l.map u8v).drop (i * P.cellsOf e)).take (P.cellsOf e))) = some ((List.range n).map fun i => ((.lit (.int .u8 ((l.getD i 0 : Nat) : Int)) : DataW H), ([] : List MemPlace))) := by
    refine mapM_some (fun i hi => ?_)
    have hi' : i < l.length := by rw [hl]; simpa using hi
    rw [hce, Nat.mul_one]
    have hc : ((l.map u8v).drop i).take 1 = [.int .u8 ((l.getD i 0 : Nat) : Int)] := by
      rw [List.drop_eq_getElem_cons (by simpa using hi'), List.take_succ_cons, List.take_zero, List.getElem_map, List.getD_eq_getElem?_getD, List.getElem?_eq_getElem hi']; rfl
    have hz : l.getD i 0 < 256 := by
      rw [List.getD_eq_getElem?_getD, List.getElem?_eq_getElem hi']; exact hb _ (List.getElem_mem _)
    rw [hc]
    unfold DataW.trod
    rw [he]
    simp only
    rw [if_pos ⟨trivial, (wf_u8 _).2 ⟨by omega, by omega⟩⟩]
  unfold DataW.trod
  rw [ht]
  simp only
  rw [if_pos (by rw [List.length_map, hl, hct]), hm]
  have e1 : (List.range n).map (fun i => ((.lit (.int .u8 ((l.getD i 0 : Nat) : Int)) : DataW H))) = l.map fun m : Nat => .lit (.int .u8 (m : Int)) := by
    apply List.ext_getElem?
    intro i
    by_cases hi : i < n
    · simp [List.getElem?_range hi, List.getD_eq_getElem?_getD, List.getElem?_eq_getElem (show i < l.length by omega)]
    · rw [List.getElem?_eq_none (by simp; omega), List.getElem?_eq_none (by simp; omega)]
  simp [bytesD, Function.comp_def, List.flatMap_eq_nil_iff, ← e1]
theorem open_bytes {r : Reach} {b0 : Nat} {t e : TypeId} {n : Nat} {v : Value} {d : DataW H} {ps : List MemPlace} (ht : P.underlying t = some (.array n e)) (he : P.underlying e = some (.int .u8)) (hce : P.cellsOf e = 1) (hct : P.cellsOf t = n)
    (hv : Value.okWide P w r b0 t v) (h : DataW.Trod enc P w base sp held t v d ps) : ∃ l : List Nat, l.length = n ∧ (∀ m ∈ l, m < 256) ∧ v = .agg (l.map u8v).toArray ∧ d = bytesD H l ∧ ps = [] := by
  simp only [Value.okWide, ht] at hv
  obtain ⟨cs, rfl, _⟩ := hv
  obtain ⟨fuel, hf⟩ := h
  obtain ⟨l, h1, h2, h3, h4⟩ := trod_bytes ht he hce hct hf
  injection h4 with h5 h6
  refine ⟨l, h1, h2, ?_, h5, h6⟩
  rw [← h3]; rfl
theorem shut_bytes {t e : TypeId} {n : Nat} {l : List Nat} (ht : P.underlying t = some (.array n e)) (he : P.underlying e = some (.int .u8)) (hce : P.cellsOf e = 1) (hct : P.cellsOf t = n) (hl : l.length = n) (hb : ∀ m ∈ l, m < 256) :
    DataW.Trod enc P w base sp held t (.agg (l.map u8v).toArray) (bytesD H l) [] := ⟨2, bytes_trod ht he hce hct hl hb⟩
end
section
variable {H : Type} {enc : TypeId × Value → H} {w : World} {base : Nat} {sp : Nat → Bool} {held : Bool}
theorem cellsOfA : Tryd.prog.cellsOf 24 = 17 ∧ Tryd.prog.cellsOf 4 = 1 ∧ Tryd.prog.cellsOf 22 = 16 ∧ Tryd.prog.cellsOf 5 = 1 := ⟨by kernel_rfl, by kernel_rfl, by kernel_rfl, by kernel_rfl⟩
set_option maxRecDepth 100000 in
theorem structA : ∃ f1 f2 : Field, Tryd.prog.underlying 24 = some (.struct #[f1, f2]) ∧ (f1.type = 4 ∧ f1.offset = 0) ∧ (f2.type = 22 ∧ f2.offset = 1) := ⟨_, _, Tryd.underlying24, ⟨rfl, rfl⟩, rfl, rfl⟩
set_option maxRecDepth 100000 in
theorem open_addr {r : Reach} {b0 : Nat} {v : Value} {d : DataW H} {ps : List MemPlace}
    (hv : Value.okWide Tryd.prog w r b0 24 v) (h : DataW.Trod enc Tryd.prog w base sp held 24 v d ps) : ∃ (six : Bool) (l : List Nat), l.length = 16 ∧ (∀ m ∈ l, m < 256) ∧ v = .agg (cellsA six l) ∧ d = .agg [.lit (.bool six), bytesD H l] ∧ ps = [] := by
  obtain ⟨f1, f2, hs, ⟨t1, o1⟩, t2, o2⟩ := structA
  obtain ⟨c1, c2, c3, c4⟩ := cellsOfA
  obtain ⟨cs, rfl, hsz⟩ := okWide_struct hs hv
  obtain ⟨fuel, hf⟩ := h
  obtain ⟨y0, y1, n, hx, hl, h0, h1⟩ := trod_struct2 hs hf
  rw [t1, o1, c2] at h0
  rw [t2, o2, c3] at h1
  obtain ⟨six, e0, rfl⟩ := DataW.trod_bool Tryd.underlying4 h0
  obtain ⟨l, hl1, hl2, e1, rfl⟩ := trod_bytes Tryd.underlying22 Tryd.underlying5 c4 c3 h1
  simp only [Prod.mk.injEq] at hx
  refine ⟨six, l, hl1, hl2, ?_, hx.1, by rw [hx.2]; rfl⟩
  have hcs : cs.toList = Value.bool six :: l.map u8v := by
    have hlen : cs.toList.length = 17 := by rw [← c1]; simpa using hsz
    have e0' : cs.toList.take 1 = [Value.bool six] := e0
    have e1' : (cs.toList.drop 1).take 16 = l.map u8v := e1
    rw [List.take_of_length_le (by rw [List.length_drop]; omega)] at e1'
    have := List.take_append_drop 1 cs.toList
    rw [e0', e1'] at this
    exact this.symm
  show Value.agg cs = .agg (Value.bool six :: l.map u8v).toArray
  rw [← hcs]
set_option maxRecDepth 100000 in
theorem shut_addr {six : Bool} {l : List Nat} (hl : l.length = 16) (hb : ∀ m ∈ l, m < 256) : DataW.Trod enc Tryd.prog w base sp held 24 (.agg (cellsA six l)) (.agg [.lit (.bool six), bytesD H l]) [] := by
  obtain ⟨f1, f2, hs, ⟨t1, o1⟩, t2, o2⟩ := structA
  obtain ⟨c1, c2, c3, c4⟩ := cellsOfA
  refine ⟨3, ?_⟩
  have h1 := bytes_trod (enc := enc) (P := Tryd.prog) (w := w) (base := base) (sp := sp) (held := held) Tryd.underlying22 Tryd.underlying5 c4 c3 hl hb
  have h0 : DataW.trod enc Tryd.prog w base sp held 2 4 [Value.bool six] = some (.lit (.bool six), []) := by
    unfold DataW.trod
    rw [Tryd.underlying4]
  have := trod_struct_mk (enc := enc) (P := Tryd.prog) (w := w) (base := base) (spare := sp) (held := held) (n := 2) (cs := Value.bool six :: l.map u8v) (xs := [((.lit (.bool six), []) : DataW H × List MemPlace), (bytesD H l, [])]) hs (by rw [c1]; simp [hl]) (by
    simp [t1, o1, t2, o2, c2, c3, h0]
    rw [List.take_of_length_le (by simp [hl]), h1]
    rfl)
  exact this
end

end Go.Proofs.YtgmjfnddeogfdabDoor
