/-
  SetcookieAgain alone: what the tied cards of setcookie share: a start that lays the listed tables; what the tables say.
-/
import Derived.Test.YtllpdnmhabpbcaaGreatDoorDoorX
import Derived.Test.YtllpdnmhabpbcaaGreatDoorDtU
import Derived.Lib.LaidIn
import Derived.Lib.LaidU8
import Derived.Lib.LaidTab
import Derived.MakeChecks
import Derived.LaidMore
import Derived.LaidLaws
import Derived.Shelf.Vars
namespace Go.Proofs.YtllpdnmhabpbcaaGreatDoor
open Go.ChangeShapes Go.WideShapes Go.ChangeAt Go.RowKit Go.Lib

theorem ownD : ownKnob Tryz.prog.godebug = none := by kernel_rfl
/-- The cells of a datum of numbers and texts. -/
def flatD : Nat → DataW Unit → List Value
  | n + 1, .agg ds => ds.flatMap (flatD n)
  | _, .lit (.int k i) => [.int k i]
  | _, .lit (.string l) => [.string ⟨l.toArray⟩]
  | _, _ => []
def putCells (l : List Value) : Obj → Obj
  | .cells _ t fr => .cells l.toArray t fr
  | o => o
/-- A start in which the listed tables lie as they are listed. -/
noncomputable def laidWorld (os : Os) : World :=
  let w0 := World.holding Tryz.prog os ⟨#[], #[], []⟩
  { w0 with heap := ((((((w0.heap.modify 6 (putCells (flatD 3 Rows.laid_math_bits_deBruijn32tab))).modify 7 (putCells (flatD 3 Rows.laid_math_bits_deBruijn64tab))).modify 3 (putCells (flatD 3 Rows.laid_internal_strconv_uint64pow10))).modify 4 (putCells (flatD 3 Rows.laid_unicode_utf8_first))).modify 5 (putCells (flatD 3 Rows.laid_unicode_utf8_acceptRanges))).modify 0 (putCells (flatD 3 Rows.laid_footman_dates_monthNames))).modify 1 (putCells (flatD 3 Rows.laid_footman_dates_weekdayNames)) }
theorem laid_met (os : Os) (args : Array Value) : laidMetH Tryz.prog Rows.setcookieAgainRow.laid ((laidWorld os).forCall (fun _ _ => 0) ⟨#[], args, []⟩).memory :=
  laidMetH_of_parts3 (fuel := 8) (laidMet_of_run3 8 (by kernel_rfl) (by kernel_rfl) (by kernel_rfl)) (by kernel_rfl) (by kernel_rfl)
theorem tabIs_of_reads {P : Program} {W : World} {name : String} {k : IntKind} {zs : List Int} {g : Nat} {t e : TypeId} {n : Nat} {d : DataW Unit}
    (hg : P.globalNamed name = some g) (hty : (P.globals[g]?).map (·.type) = some t) (ht : P.underlying t = some (.array n e)) (he : P.underlying e = some (.int k)) (hce : P.cellsOf e = 1) (hct : P.cellsOf t = n)
    (hd : d = tabData k zs) (h : VarReads P W name d) : TabIs P W name k zs := by
  subst hd
  obtain ⟨g', t', cs, fuel, p, hg', ht', hvar, hd⟩ := h
  obtain rfl := Option.some.inj (hg.symm.trans hg')
  obtain rfl := Option.some.inj (hty.symm.trans ht')
  unfold TabIs
  rw [hvar, ← cells_of_tab ht he hce hct hd]
/-- An array of texts that reads as listed holds these texts. -/
theorem cells_of_strs {H : Type} {enc : TypeId × Value → H} {P : Program} {w : World} {base : Nat} {sp : Nat → Bool} {held : Bool} {fuel : Nat} {t e : TypeId} {n : Nat} {cs : List Value} {zs : List (List UInt8)} {p : List MemPlace}
    (ht : P.underlying t = some (.array n e)) (he : P.underlying e = some .string) (hce : P.cellsOf e = 1) (hct : P.cellsOf t = n)
    (h : DataW.trod enc P w base sp held fuel t cs = some (.agg (zs.map fun z => (.lit (.string z) : DataW H)), p)) : cs = zs.map fun z => Value.string (asB z) := by
  cases fuel with
  | zero => simp [DataW.trod] at h
  | succ fuel =>
    simp only [DataW.trod, ht, hce, hct, Nat.mul_one] at h
    split at h
    · rename_i hl
      obtain ⟨xs, hm, hx⟩ := Option.map_eq_some_iff.1 h
      have hxs : xs.map (·.1) = zs.map fun z => (DataW.lit (.string z) : DataW H) := by
        have := congrArg Prod.fst hx
        simpa using this
      have hxl : xs.length = n := by simpa using mapM_length hm
      have hzl : zs.length = n := by
        have := congrArg List.length hxs
        simp at this
        omega
      apply List.ext_getElem?
      intro i
      by_cases hi : i < n
      · obtain ⟨b, hb, hf⟩ := mapM_at hm i i (by simp [hi])
        obtain ⟨z, hc, rfl, _⟩ := DataW.trod_string he hf
        have h1 : cs[i]? = some (.string z) := by
          have := congrArg (·[0]?) hc
          simpa [List.getElem?_take, List.getElem?_drop] using this
        have h2 : (xs.map (·.1))[i]? = some (DataW.lit (.string z.data.toList) : DataW H) := by simp [hb]
        rw [hxs] at h2
        simp only [List.getElem?_map, Option.map_eq_some_iff, DataW.lit.injEq, Lit.string.injEq] at h2
        obtain ⟨z', hz', rfl⟩ := h2
        simp [h1, hz', asB_back]
      · rw [List.getElem?_eq_none (by omega), List.getElem?_eq_none (by simp; omega)]
    · cases h
theorem strs_of_reads {P : Program} {W : World} {name : String} {zs : List (List UInt8)} {g : Nat} {t e : TypeId} {n : Nat} {d : DataW Unit}
    (hg : P.globalNamed name = some g) (hty : (P.globals[g]?).map (·.type) = some t) (ht : P.underlying t = some (.array n e)) (he : P.underlying e = some .string) (hce : P.cellsOf e = 1) (hct : P.cellsOf t = n)
    (hd : d = .agg (zs.map fun z => (.lit (.string z) : DataW Unit))) (h : VarReads P W name d) : ∃ t fr, W.heap[g]? = some (.cells (zs.map fun z => Value.string (asB z)).toArray t fr) := by
  subst hd
  obtain ⟨g', t', cs, fuel, p, hg', ht', hvar, hd⟩ := h
  obtain rfl := Option.some.inj (hg.symm.trans hg')
  obtain rfl := Option.some.inj (hty.symm.trans ht')
  have hc := cells_of_strs ht he hce hct hd
  unfold World.var? at hvar
  rw [hg] at hvar
  simp only [Option.bind_some] at hvar
  split at hvar
  · rename_i c t2 fr hh
    injection hvar with hvar
    subst hvar
    refine ⟨t2, fr, ?_⟩
    rw [hh, ← hc]
  · cases hvar
theorem pow10_eq : (Rows.laid_internal_strconv_uint64pow10 : DataW Unit) = tabData .u64 pow10Tab := by kernel_rfl
theorem month_eq : (Rows.laid_footman_dates_monthNames : DataW Unit) = .agg (monL.map fun z => (.lit (.string z) : DataW Unit)) := by kernel_rfl
theorem week_eq : (Rows.laid_footman_dates_weekdayNames : DataW Unit) = .agg (wkL.map fun z => (.lit (.string z) : DataW Unit)) := by kernel_rfl
theorem mn_of {w : World} (h : VarReads Tryz.prog w "footman/dates.monthNames" Rows.laid_footman_dates_monthNames) : MnW w := by
  obtain ⟨t, fr, h2⟩ := strs_of_reads (g := 0) (by kernel_rfl) (by kernel_rfl) Tryz.underlying68 Tryz.underlying9 (by kernel_rfl) (by kernel_rfl) month_eq h
  exact ⟨t, fr, h2⟩
theorem maxLen_cell {w : World} (h : w.ShapedOpen Tryz.prog) : ∃ m, w.cell? ⟨2, 0, none⟩ = some (.int .i64 m) :=
  cell_of_shapedOpen_int (P := Tryz.prog) (g := 2) (t := 3) (zero := #[.int .i64 0]) h (of_decide_eq_true (by kernel_rfl)) (by kernel_rfl) rfl (by kernel_rfl) (by kernel_rfl) Tryz.underlying3
theorem h_laidOut : laidOutB Tryz.prog = true := by kernel_rfl
theorem u32_nat (n : Int) (h : (Lit.int .u32 n).wf = true) : ∃ m : Nat, n = (m : Int) ∧ m < 4294967296 := by
  have h1 : IntKind.min .u32 = 0 := by decide
  have h2 : IntKind.max .u32 = 4294967295 := by decide
  simp [Lit.wf, h1, h2] at h
  exact ⟨n.toNat, by omega, by omega⟩
theorem i64_wf (n : Int) (h : (Lit.int .i64 n).wf = true) : -9223372036854775808 ≤ n ∧ n ≤ 9223372036854775807 := by
  have h1 : IntKind.min .i64 = -9223372036854775808 := by decide
  have h2 : IntKind.max .i64 = 9223372036854775807 := by decide
  simpa [Lit.wf, h1, h2] using h
theorem u16_nat (n : Int) (h : (Lit.int .u16 n).wf = true) : ∃ m : Nat, n = (m : Int) ∧ m < 65536 := by
  have h1 : IntKind.min .u16 = 0 := by decide
  have h2 : IntKind.max .u16 = 65535 := by decide
  simp [Lit.wf, h1, h2] at h
  exact ⟨n.toNat, by omega, by omega⟩
theorem u64_nat (n : Int) (h : (Lit.int .u64 n).wf = true) : ∃ m : Nat, n = (m : Int) ∧ m < 18446744073709551616 := by
  have h1 : IntKind.min .u64 = 0 := by decide
  have h2 : IntKind.max .u64 = 18446744073709551615 := by decide
  simp [Lit.wf, h1, h2] at h
  exact ⟨n.toNat, by omega, by omega⟩
theorem u8_nat (n : Int) (h : (Lit.int .u8 n).wf = true) : ∃ m : Nat, n = (m : Int) ∧ m < 256 := by
  have h1 : IntKind.min .u8 = 0 := by decide
  have h2 : IntKind.max .u8 = 255 := by decide
  simp [Lit.wf, h1, h2] at h
  exact ⟨n.toNat, by omega, by omega⟩
theorem dtg_of {W : World} (h : laidMetH Tryz.prog Rows.setcookieAgainRow.laid W.memory) (hs : W.ShapedOpen Tryz.prog) : ∃ m, DtG m W := by
  obtain ⟨m, hm⟩ := maxLen_cell hs
  rw [Go.MakeChecks.laidMetH_plain _ _ _ (by kernel_rfl)] at h
  have h2 := Lib.laidMet.reads h (.tail _ (.tail _ (.head _)))
  have h4 := Lib.laidMet.reads h (.tail _ (.tail _ (.tail _ (.tail _ (.head _)))))
  have h5 := Lib.laidMet.reads h (.tail _ (.tail _ (.tail _ (.tail _ (.tail _ (.head _))))))
  have e1 := tabIs_of_reads (g := 3) (by kernel_rfl) (by kernel_rfl) Tryz.underlying131 Tryz.underlying111 (by kernel_rfl) (by kernel_rfl) pow10_eq h2
  have e2 := mn_of h4
  obtain ⟨t, fr, e3⟩ := strs_of_reads (g := 1) (by kernel_rfl) (by kernel_rfl) Tryz.underlying69 Tryz.underlying9 (by kernel_rfl) (by kernel_rfl) week_eq h5
  exact ⟨m, hm, e2, ⟨t, fr, e3⟩, e1⟩
end Go.Proofs.YtllpdnmhabpbcaaGreatDoor
