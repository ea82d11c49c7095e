/-
  What the tied cards of heads share: a start that lays the listed tables; bytes, fields and messages that come in.
-/
import Derived.Test.YtbfnbjffobhllaaDoorDoorX
import Derived.Test.YtbfnbjffobhllaaDoorHdF
import Derived.ChangeSlices
import Derived.Deep.Slices
import Derived.ChangeArms
import Derived.Lib.LaidIn
import Derived.Lib.LaidU8
import Derived.Lib.LaidTab
import Derived.MakeChecks
import Derived.LaidMore
import Derived.LaidLaws
import Derived.Shelf.Vars
import Derived.ProofKit
import Derived.OpenShut
import Derived.ShutString
import Derived.ChangeOld
import Derived.Below
import Derived.SizedLaws
namespace Go.Proofs.YtbfnbjffobhllaaDoor
open Go.ChangeShapes Go.WideShapes Go.ChangeAt Go.RowKit Go.Lib Go.Deep

theorem ownD : ownKnob Tryd.prog.godebug = none := by kernel_rfl
/-- The cells of a datum of numbers and texts. -/
def flatD : Nat → DataW Unit → List Value
  | n + 1, .agg ds => ds.flatMap (flatD n)
  | _, .lit (.int k i) => [.int k i]
  | _, .lit (.string l) => [.string ⟨l.toArray⟩]
  | _, _ => []
def putCells (l : List Value) : Obj → Obj
  | .cells _ t fr => .cells l.toArray t fr
  | o => o
/-- A start in which the listed tables lie as they are listed. -/
noncomputable def laidWorld (os : Os) : World :=
  let w0 := World.holding Tryd.prog os ⟨#[], #[], []⟩
  { w0 with heap := ((w0.heap.modify 2 (putCells (flatD 3 Rows.laid_unicode_utf8_first))).modify 3 (putCells (flatD 3 Rows.laid_unicode_utf8_acceptRanges))) }
theorem laid_met (os : Os) (args : Array Value) : laidMetH Tryd.prog Rows.headsBackRow.laid ((laidWorld os).forCall (fun _ _ => 0) ⟨#[], args, []⟩).memory :=
  laidMetH_of_parts3 (fuel := 8) (laidMet_of_run3 8 (by kernel_rfl) (by kernel_rfl) (by kernel_rfl)) (by kernel_rfl) (by kernel_rfl)
/-- The library's MaxLen holds some number. -/
theorem maxLen_cell {w : World} (h : w.ShapedOpen Tryd.prog) : ∃ m, w.cell? ⟨0, 0, none⟩ = some (.int .i64 m) :=
  cell_of_shapedOpen_int (P := Tryd.prog) (g := 0) (t := 3) (zero := #[.int .i64 0]) h (of_decide_eq_true (by kernel_rfl)) (by kernel_rfl) rfl (by kernel_rfl) (by kernel_rfl) Tryd.underlying3
theorem h_laidOut : laidOutB Tryd.prog = true := by kernel_rfl
theorem u32_nat (n : Int) (h : (Lit.int .u32 n).wf = true) : ∃ m : Nat, n = (m : Int) ∧ m < 4294967296 := by
  have h1 : IntKind.min .u32 = 0 := by decide
  have h2 : IntKind.max .u32 = 4294967295 := by decide
  simp [Lit.wf, h1, h2] at h
  exact ⟨n.toNat, by omega, by omega⟩
theorem i64_wf (n : Int) (h : (Lit.int .i64 n).wf = true) : -9223372036854775808 ≤ n ∧ n ≤ 9223372036854775807 := by
  have h1 : IntKind.min .i64 = -9223372036854775808 := by decide
  have h2 : IntKind.max .i64 = 9223372036854775807 := by decide
  simpa [Lit.wf, h1, h2] using h
theorem u16_nat (n : Int) (h : (Lit.int .u16 n).wf = true) : ∃ m : Nat, n = (m : Int) ∧ m < 65536 := by
  have h1 : IntKind.min .u16 = 0 := by decide
  have h2 : IntKind.max .u16 = 65535 := by decide
  simp [Lit.wf, h1, h2] at h
  exact ⟨n.toNat, by omega, by omega⟩
theorem u64_nat (n : Int) (h : (Lit.int .u64 n).wf = true) : ∃ m : Nat, n = (m : Int) ∧ m < 18446744073709551616 := by
  have h1 : IntKind.min .u64 = 0 := by decide
  have h2 : IntKind.max .u64 = 18446744073709551615 := by decide
  simp [Lit.wf, h1, h2] at h
  exact ⟨n.toNat, by omega, by omega⟩
theorem u8_nat (n : Int) (h : (Lit.int .u8 n).wf = true) : ∃ m : Nat, n = (m : Int) ∧ m < 256 := by
  have h1 : IntKind.min .u8 = 0 := by decide
  have h2 : IntKind.max .u8 = 255 := by decide
  simp [Lit.wf, h1, h2] at h
  exact ⟨n.toNat, by omega, by omega⟩
theorem u8_wf (n : Int) (h : (Lit.int .u8 n).wf = true) : 0 ≤ n ∧ n < 256 := by
  have h1 : IntKind.min .u8 = 0 := by decide
  have h2 : IntKind.max .u8 = 255 := by decide
  simp [Lit.wf, h1, h2] at h
  omega
theorem u8_cast (z : Int) (h : 0 ≤ z ∧ z < 256) : ((UInt8.ofNat z.toNat).toNat : Int) = z := by
  have : (UInt8.ofNat z.toNat).toNat = z.toNat % 256 := rfl
  rw [this]; omega
/-- Bytes that come in, none or some. -/
theorem open_u8s {H : Type} {enc : TypeId × Value → H} {W : World} {a0 : Option Addr} {len cap fuel : Nat} {x : DataW H × List MemPlace}
    (hf : DataW.trod enc Tryd.prog W 0 (fun _ => true) true fuel 24 [.slice a0 len cap] = some x) (hwt : ∀ n ∈ DataW.weights Tryd.prog 24 x.1, n ≤ reachBytes) :
    ∃ (b off : Nat) (D : List UInt8), D.length = len ∧ (0 < D.length → a0 = some ⟨b, off, none⟩) ∧ (∀ j (h : j < D.length), W.cell? ⟨b, off + j, none⟩ = some (.int .u8 (D[j].toNat : Int))) ∧ D.length ≤ 140737488355328 := by
  rcases open_ints Tryd.underlying24 Tryd.underlying5 (by kernel_rfl) hf with ⟨hcs, hx⟩ | ⟨a, len', cap', zs, hcs, _, hl, hm, hz, hx, hcell, hwf⟩
  · injection hcs with hcs _
    injection hcs with h1 h2 h3
    subst h2
    exact ⟨0, 0, [], rfl, fun h => absurd h (Nat.not_lt_zero _), fun j h => absurd h (Nat.not_lt_zero _), Nat.zero_le _⟩
  · injection hcs with hcs _
    injection hcs with h1 h2 h3
    subst h1; subst h2; subst h3
    simp only [if_true] at hz
    subst hx
    simp only [DataW.weights, Tryd.underlying24] at hwt
    have hwl := hwt _ (List.mem_cons_self)
    have hb1 : Tryd.prog.bytesOf 5 = 1 := by kernel_rfl
    rw [hb1] at hwl
    have hll : len ≤ 140737488355328 := by
      have h1 : (lits (H := H) .u8 (zs.take len)).length = len := by rw [lits, List.length_map, List.length_take]; omega
      rw [h1] at hwl
      unfold reachBytes at hwl
      omega
    obtain ⟨b, off, spot⟩ := a
    have hsp : 0 < len → spot = none := fun h0 => by simpa [Addr.add] using World.cell?_spot (hcell 0 (by omega))
    refine ⟨b, off, (zs.take len).map fun z => UInt8.ofNat z.toNat, by rw [List.length_map, List.length_take]; omega, fun h0 => ?_, fun j hj => ?_, by rw [List.length_map, List.length_take]; omega⟩
    · rw [List.length_map, List.length_take] at h0
      have := hsp (by omega)
      subst this; rfl
    · have hj' : j < len := by rw [List.length_map, List.length_take] at hj; omega
      have := hsp (by omega)
      subst this
      have h4 := hcell j (by omega)
      have hz4 : zs.getD j 0 = zs[j]'(by omega) := by rw [List.getD_eq_getElem?_getD, List.getElem?_eq_getElem (by omega)]; rfl
      have hw4 := hwf (zs[j]'(by omega)) (List.getElem_mem _)
      rw [List.getElem_map, List.getElem_take, u8_cast _ (u8_wf _ hw4)]
      rw [add_plain, hz4] at h4
      exact h4

theorem hd_two {α : Type} : ∀ {l : List α}, l.length = 2 → ∃ a b, l = [a, b]
  | [a, b], _ => ⟨a, b, rfl⟩
theorem hd_five {α : Type} : ∀ {l : List α}, l.length = 5 → ∃ a b c d e, l = [a, b, c, d, e]
  | [a, b, c, d, e], _ => ⟨a, b, c, d, e, rfl⟩
theorem wAll_mem {H : Type} {P : Program} {e : TypeId} : ∀ {l : List (DataW H)} {d : DataW H} {n : Nat}, d ∈ l → n ∈ DataW.weights P e d → n ∈ DataW.weightsAll P e l
  | a :: l, d, n, h, hn => by
    rw [DataW.weightsAll, List.mem_append]
    rcases List.mem_cons.1 h with rfl | h
    · exact .inl hn
    · exact .inr (wAll_mem h hn)
set_option maxRecDepth 100000 in
theorem structF : ∃ f0 f1 : Field, Tryd.prog.underlying 57 = some (.struct #[f0, f1]) ∧ (f0.type = 9 ∧ f0.offset = 0) ∧ (f1.type = 9 ∧ f1.offset = 1) :=
  ⟨_, _, Tryd.underlying57, ⟨rfl, rfl⟩, ⟨rfl, rfl⟩⟩
theorem cellsOfF : Tryd.prog.cellsOf 57 = 2 ∧ Tryd.prog.cellsOf 9 = 1 ∧ Tryd.prog.bytesOf 57 = 32 := ⟨by kernel_rfl, by kernel_rfl, by kernel_rfl⟩
theorem cells_two {w : World} {a : Addr} {cs : List Value} (h : w.cells? 0 a 2 = some cs) : ∃ x y, cs = [x, y] ∧ w.cell? a = some x ∧ w.cell? (a.add 1) = some y := by
  obtain ⟨_, hl, hat⟩ := World.cells?_some h
  obtain ⟨x, y, rfl⟩ := hd_two hl
  refine ⟨x, y, rfl, ?_, ?_⟩
  · have := hat 0 (by decide)
    simpa [Addr.add] using this
  · have := hat 1 (by decide)
    simpa using this
set_option maxRecDepth 100000 in
set_option maxHeartbeats 1000000 in
/-- One field that comes in. -/
theorem open_field1 {H : Type} {enc : TypeId × Value → H} {W : World} {fuel : Nat} {x y : Value} {d : DataW H} {ps : List MemPlace}
    (hf : DataW.trod enc Tryd.prog W 0 (fun _ => true) true fuel 57 [x, y] = some (d, ps)) (hw : ∀ n ∈ DataW.weights Tryd.prog 57 d, n ≤ reachBytes) :
    ∃ s t : ByteArray, x = .string s ∧ y = .string t ∧ s.size ≤ 140737488355328 ∧ t.size ≤ 140737488355328 := by
  obtain ⟨f0, f1, hs, ⟨t0, o0⟩, ⟨t1, o1⟩⟩ := structF
  obtain ⟨cu, cS, -⟩ := cellsOfF
  obtain ⟨xs, n, _, hx, hl, hn, hf2⟩ := DataW.trod_struct hs hf
  obtain ⟨y0, y1, rfl⟩ := hd_two (show xs.length = 2 from hn)
  have g0 := hf2 0 f0 rfl
  rw [t0, o0, cS] at g0
  obtain ⟨s, e0, z0, _⟩ := DataW.trod_string Tryd.underlying9 g0
  obtain rfl := (List.cons.inj (show [x] = [_] from e0)).1
  have g1 := hf2 1 f1 rfl
  rw [t1, o1, cS] at g1
  obtain ⟨t, e1, z1, _⟩ := DataW.trod_string Tryd.underlying9 g1
  obtain rfl := (List.cons.inj (show [y] = [_] from e1)).1
  have hd : d = .agg [y0.1, y1.1] := (Prod.mk.inj hx).1
  rw [z0, z1] at hd
  subst hd
  simp only [DataW.weights, hs] at hw
  have h1 := hw s.data.toList.length (by
    show _ ∈ DataW.weightsEach Tryd.prog [f0.type, f1.type] _
    rw [DataW.weightsEach, List.mem_append]; exact .inl (by simp [DataW.weights]))
  have h2 := hw t.data.toList.length (by
    show _ ∈ DataW.weightsEach Tryd.prog [f0.type, f1.type] _
    rw [DataW.weightsEach, List.mem_append, DataW.weightsEach, List.mem_append]; exact .inr (.inl (by simp [DataW.weights])))
  rw [lenB] at h1 h2
  unfold reachBytes at h1 h2
  exact ⟨s, t, rfl, rfl, by omega, by omega⟩
theorem choose_below {α : Type} [Inhabited α] {p : Nat → α → Prop} : ∀ {n : Nat}, (∀ i, i < n → ∃ v, p i v) → ∃ l : List α, l.length = n ∧ ∀ i (h : i < l.length), p i l[i]
  | 0, _ => ⟨[], rfl, fun i h => absurd h (Nat.not_lt_zero _)⟩
  | n + 1, h => by
    obtain ⟨l, hl, hp⟩ := choose_below (n := n) fun i hi => h i (by omega)
    obtain ⟨v, hv⟩ := h n (by omega)
    refine ⟨l ++ [v], by simp [hl], fun i hi => ?_⟩
    by_cases e : i < l.length
    · rw [List.getElem_append_left e]; exact hp i e
    · have hi2 : i = l.length := by simp at hi; omega
      subst hi2
      rw [List.getElem_append_right (by omega)]
      simp only [Nat.sub_self, List.getElem_cons_zero]
      rw [hl]; exact hv
set_option maxRecDepth 100000 in
set_option maxHeartbeats 1000000 in
/-- Fields that come in. -/
theorem open_fields {H : Type} {enc : TypeId × Value → H} {W : World} {fuel : Nat} {cs : List Value} {x : DataW H × List MemPlace}
    (hf : DataW.trod enc Tryd.prog W 0 (fun _ => true) true fuel 22 cs = some x) (hwt : ∀ n ∈ DataW.weights Tryd.prog 22 x.1, n ≤ reachBytes) :
    ∃ (a : Option Addr) (cap b o : Nat) (F : List BF), cs = [.slice a F.length cap] ∧ FxAt F a b o W ∧ F.length ≤ 140737488355328 ∧ ∀ f ∈ F, f.1.size ≤ 140737488355328 ∧ f.2.size ≤ 140737488355328 := by
  obtain ⟨cu, cS, bF⟩ := cellsOfF
  rcases open_slice Tryd.underlying22 hf with ⟨rfl, rfl⟩ | ⟨a, len, cap, m, n, D, Pl, rfl, _, hl, hm, hmm, rfl, hi⟩
  · exact ⟨none, 0, 0, 0, [], rfl, ⟨fun h => absurd h (Nat.not_lt_zero _), fun i h => absurd h (Nat.not_lt_zero _), fun i h => absurd h (Nat.not_lt_zero _)⟩, Nat.zero_le _, fun f h => by cases h⟩
  · simp only [if_true] at hmm
    subst hmm
    rw [cu] at hi
    simp only [DataW.weights, Tryd.underlying22] at hwt
    have hwl := hwt _ (List.mem_cons_self)
    rw [bF] at hwl
    have hll : len ≤ 140737488355328 := by
      simp only [List.length_map, List.length_range] at hwl
      unfold reachBytes at hwl
      omega
    obtain ⟨F, hF, hFp⟩ := choose_below (α := BF) (n := len) (p := fun i f => W.cell? (a.add (i * 2)) = some (.string f.1) ∧ W.cell? ((a.add (i * 2)).add 1) = some (.string f.2) ∧ f.1.size ≤ 140737488355328 ∧ f.2.size ≤ 140737488355328) (fun i hil => by
      obtain ⟨cs', h1, h2⟩ := hi i (by omega)
      obtain ⟨u, v, rfl, c0, c1⟩ := cells_two h1
      obtain ⟨s, t, rfl, rfl, z0, z1⟩ := open_field1 h2 (fun n hn => hwt n (List.mem_cons_of_mem _ (List.mem_append_left _ (wAll_mem (List.mem_map.2 ⟨i, List.mem_range.2 hil, rfl⟩) hn))))
      exact ⟨(s, t), c0, c1, z0, z1⟩)
    obtain ⟨b, o, spot⟩ := a
    have hsp : 0 < len → spot = none := fun h0 => by
      have := (hFp 0 (by omega)).1
      simpa [Addr.add] using World.cell?_spot this
    refine ⟨some ⟨b, o, spot⟩, _, b, o, F, by rw [hF], ⟨fun h0 => ?_, fun i hii => ?_, fun i hii => ?_⟩, by omega, fun f hf => ?_⟩
    · have := hsp (by omega)
      subst this; rfl
    · have := hsp (by omega)
      subst this
      have h4 := (hFp i hii).1
      rwa [Addr.add_mid] at h4
    · have := hsp (by omega)
      subst this
      have h4 := (hFp i hii).2.1
      rwa [Addr.add_mid, Addr.add_mid] at h4
    · obtain ⟨i, hii, rfl⟩ := List.mem_iff_getElem.1 hf
      exact (hFp i hii).2.2
set_option maxRecDepth 100000 in
theorem structM : ∃ f0 f1 f2 f3 f4 : Field, Tryd.prog.underlying 26 = some (.struct #[f0, f1, f2, f3, f4]) ∧ (f0.type = 9 ∧ f0.offset = 0) ∧ (f1.type = 9 ∧ f1.offset = 1) ∧ (f2.type = 3 ∧ f2.offset = 2) ∧ (f3.type = 22 ∧ f3.offset = 3) ∧ (f4.type = 24 ∧ f4.offset = 4) :=
  ⟨_, _, _, _, _, Tryd.underlying26, ⟨rfl, rfl⟩, ⟨rfl, rfl⟩, ⟨rfl, rfl⟩, ⟨rfl, rfl⟩, ⟨rfl, rfl⟩⟩
theorem cellsOfM : Tryd.prog.cellsOf 26 = 5 ∧ Tryd.prog.cellsOf 3 = 1 ∧ Tryd.prog.cellsOf 22 = 1 ∧ Tryd.prog.cellsOf 24 = 1 := ⟨by kernel_rfl, by kernel_rfl, by kernel_rfl, by kernel_rfl⟩
set_option maxRecDepth 100000 in
set_option maxHeartbeats 1000000 in
/-- A message comes in. -/
theorem open_msg {H : Type} {enc : TypeId × Value → H} {W : World} {r : Reach} {b0 : Nat} {v : Value} {d : DataW H} {ps : List MemPlace} (hv : Value.okWide Tryd.prog W r b0 26 v)
    (h : DataW.Trod enc Tryd.prog W 0 (fun _ => true) true 26 v d ps) (hw : ∀ n ∈ DataW.weights Tryd.prog 26 d, n ≤ reachBytes) :
    ∃ (me ta : ByteArray) (st : Int) (aF : Option Addr) (cF b o : Nat) (F : List BF) (aB : Option Addr) (lB cB : Nat), v = .agg #[.string me, .string ta, .int .i64 st, .slice aF F.length cF, .slice aB lB cB] ∧ FxAt F aF b o W ∧ me.size ≤ 140737488355328 ∧ ta.size ≤ 140737488355328 ∧
      F.length ≤ 140737488355328 ∧ (∀ f ∈ F, f.1.size ≤ 140737488355328 ∧ f.2.size ≤ 140737488355328) ∧ lB ≤ 140737488355328 := by
  obtain ⟨f0, f1, f2, f3, f4, hs, ⟨t0, o0⟩, ⟨t1, o1⟩, ⟨t2, o2⟩, ⟨t3, o3⟩, ⟨t4, o4⟩⟩ := structM
  obtain ⟨cu, cI, cF, cB⟩ := cellsOfM
  obtain ⟨-, cS, -⟩ := cellsOfF
  obtain ⟨cs, rfl, hsz⟩ := okWide_struct hs hv
  obtain ⟨fuel, hf⟩ := h
  obtain ⟨xs, n, _, hx, hl, hn, hf2⟩ := DataW.trod_struct hs hf
  rw [cu] at hl hsz
  have hn' : xs.length = 5 := hn
  obtain ⟨y0, y1, y2, y3, y4, rfl⟩ := hd_five hn'
  obtain ⟨c0, c1, c2, c3, c4, hc⟩ := hd_five (show cs.toList.length = 5 by simpa using hsz)
  have hd := (Prod.mk.inj hx).1
  have hcl : (Value.agg cs).cells.toList = cs.toList := rfl
  rw [hcl, hc] at hf2
  subst hd
  simp only [DataW.weights, hs] at hw
  have hw0 : ∀ n ∈ DataW.weightsEach Tryd.prog [f0.type, f1.type, f2.type, f3.type, f4.type] [y0.1, y1.1, y2.1, y3.1, y4.1], n ≤ reachBytes := hw
  simp only [DataW.weightsEach, List.mem_append] at hw0
  have g0 := hf2 0 f0 rfl
  rw [t0, o0, cS] at g0
  obtain ⟨me, e0, z0, _⟩ := DataW.trod_string Tryd.underlying9 g0
  obtain rfl := (List.cons.inj (show [c0] = [_] from e0)).1
  have g1 := hf2 1 f1 rfl
  rw [t1, o1, cS] at g1
  obtain ⟨ta, e1, z1, _⟩ := DataW.trod_string Tryd.underlying9 g1
  obtain rfl := (List.cons.inj (show [c1] = [_] from e1)).1
  have g2 := hf2 2 f2 rfl
  rw [t2, o2, cI] at g2
  obtain ⟨st, e2, z2, w2⟩ := DataW.trod_int Tryd.underlying3 g2
  obtain rfl := (List.cons.inj (show [c2] = [_] from e2)).1
  have g3 := hf2 3 f3 rfl
  rw [t3, o3, cF] at g3
  obtain ⟨aF, capF, b, o, F, e3, hF, hFn, hFs⟩ := open_fields (cs := [c3]) g3 (fun n hn => hw0 n (.inr (.inr (.inr (.inl (by rw [t3]; exact hn))))))
  obtain rfl := (List.cons.inj e3).1
  have g4 := hf2 4 f4 rfl
  rw [t4, o4, cB] at g4
  have g4' : DataW.trod enc Tryd.prog W 0 (fun _ => true) true n 24 [c4] = some y4 := g4
  obtain ⟨aB, lB, capB, rfl⟩ : ∃ a l c, c4 = .slice a l c := by
    rcases open_ints Tryd.underlying24 Tryd.underlying5 (by kernel_rfl) g4' with ⟨hcs, hx⟩ | ⟨a, len', cap', zs, hcs, _⟩
    · exact ⟨_, _, _, (List.cons.inj hcs).1⟩
    · exact ⟨_, _, _, (List.cons.inj hcs).1⟩
  obtain ⟨_, _, D, hD, _, _, hDl⟩ := open_u8s g4' (fun n hn => hw0 n (.inr (.inr (.inr (.inr (.inl (by rw [t4]; exact hn)))))))
  have hW : ∀ s : ByteArray, s.data.toList.length ≤ reachBytes → s.size ≤ 140737488355328 := fun s h => by
    unfold reachBytes at h
    have e : s.data.toList.length = s.size := by simp
    omega
  refine ⟨me, ta, st, aF, capF, b, o, F, aB, lB, capB, ?_, hF, hW _ (hw0 _ (.inl (by rw [z0]; simp [DataW.weights]))), hW _ (hw0 _ (.inr (.inl (by rw [z1]; simp [DataW.weights])))), hFn, hFs, by rw [← hD]; exact hDl⟩
  show Value.agg cs = _
  rw [← Array.toArray_toList (xs := cs), hc]

end Go.Proofs.YtbfnbjffobhllaaDoor
