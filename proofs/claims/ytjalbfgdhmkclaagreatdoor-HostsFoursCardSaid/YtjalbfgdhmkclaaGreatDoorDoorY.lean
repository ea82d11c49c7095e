/-
  Arrays of bytes that come in, for the tied cards of hosts.
-/
import Derived.Test.YtjalbfgdhmkclaaGreatDoorMdA
import Derived.Test.YtjalbfgdhmkclaaGreatDoorMaC
namespace Go.Proofs.YtjalbfgdhmkclaaGreatDoor
open Go.ChangeShapes Go.WideShapes Go.ChangeAt Go.RowKit Go.Lib

theorem wf_u8 (n : Int) : (Lit.int .u8 n).wf = true ↔ 0 ≤ n ∧ n ≤ 255 := by
  have h1 : IntKind.u8.min = 0 := by decide
  have h2 : IntKind.u8.max = 255 := by decide
  simp [Lit.wf, h1, h2]
/-! Arrays of bytes by value. -/
theorem mapM_some {α β : Type} {f : α → Option β} {g : α → β} : ∀ {l : List α}, (∀ a ∈ l, f a = some (g a)) → l.mapM f = some (l.map g)
  | [], _ => rfl
  | a :: l, h => by
    rw [List.mapM_cons, h a (by simp), mapM_some (fun x hx => h x (List.mem_cons_of_mem _ hx))]; rfl
section
variable {H : Type} {enc : TypeId × Value → H} {P : Program} {w : World} {base : Nat} {sp : Nat → Bool} {held : Bool}
/-- Bytes that are read. -/
def bytesD (H : Type) (l : List Nat) : DataW H := .agg (l.map fun n : Nat => .lit (.int .u8 (n : Int)))
theorem trod_bytes {t e : TypeId} {n fuel : Nat} {cs : List Value} {x : DataW H × List MemPlace} (ht : P.underlying t = some (.array n e)) (he : P.underlying e = some (.int .u8)) (hce : P.cellsOf e = 1) (hct : P.cellsOf t = n)
    (h : DataW.trod enc P w base sp held fuel t cs = some x) : ∃ l : List Nat, l.length = n ∧ (∀ m ∈ l, m < 256) ∧ cs = l.map u8v ∧ x = (bytesD H l, []) := by
  obtain ⟨xs, m, _, rfl, hl, hn, hf⟩ := DataW.trod_array ht h
  rw [hct] at hl
  rw [hce] at hf
  have hj : ∀ j, j < n → ∃ z : Nat, z < 256 ∧ cs[j]? = some (u8v z) ∧ xs[j]? = some (.lit (.int .u8 (z : Int)), []) := by
    intro j hj
    have h1 := hf j hj
    obtain ⟨y, hy⟩ : ∃ y, xs[j]? = some y := ⟨_, List.getElem?_eq_getElem (by omega)⟩
    rw [hy] at h1
    obtain ⟨z, hc, rfl, hw⟩ := DataW.trod_int he h1
    have hc0 : cs[j]? = some (.int .u8 z) := by
      have := congrArg (·[0]?) hc
      simpa [List.getElem?_take, List.getElem?_drop] using this
    have hz : 0 ≤ z ∧ z < 256 := by
      have := (wf_u8 z).1 hw
      omega
    refine ⟨z.toNat, by omega, ?_, ?_⟩
    · rw [hc0, u8v, Int.toNat_of_nonneg hz.1]
    · rw [hy, Int.toNat_of_nonneg hz.1]
  obtain ⟨g, hg⟩ : ∃ g : Nat → Nat, ∀ j, j < n → g j < 256 ∧ cs[j]? = some (u8v (g j)) ∧ xs[j]? = some (.lit (.int .u8 ((g j : Nat) : Int)), []) := by
    refine ⟨fun j => if hjn : j < n then Classical.choose (hj j hjn) else 0, fun j hjn => ?_⟩
    simp only [dif_pos hjn]
    exact Classical.choose_spec (hj j hjn)
  have hcs : cs = ((List.range n).map g).map u8v := by
    apply List.ext_getElem?
    intro i
    by_cases hi : i < n
    · rw [(hg i hi).2.1]; simp [List.getElem?_range hi]
    · rw [List.getElem?_eq_none (by omega), List.getElem?_eq_none (by simp; omega)]
  have hxs : xs = (List.range n).map fun j => (.lit (.int .u8 ((g j : Nat) : Int)), []) := by
    apply List.ext_getElem?
    intro i
    by_cases hi : i < n
    · rw [(hg i hi).2.2]; simp [List.getElem?_range hi]
    · rw [List.getElem?_eq_none (by omega), List.getElem?_eq_none (by simp; omega)]
  refine ⟨(List.range n).map g, by simp, fun m hm => ?_, hcs, ?_⟩
  · obtain ⟨j, hj, rfl⟩ := List.mem_map.1 hm
    exact (hg j (by simpa using hj)).1
  · rw [hxs]
    simp [bytesD, Function.comp_def, List.flatMap_eq_nil_iff]
theorem bytes_trod {t e : TypeId} {n : Nat} {l : List Nat} (ht : P.underlying t = some (.array n e)) (he : P.underlying e = some (.int .u8)) (hce : P.cellsOf e = 1) (hct : P.cellsOf t = n) (hl : l.length = n) (hb : ∀ m ∈ l, m < 256) :
    DataW.trod enc P w base sp held 2 t (l.map u8v) = some (bytesD H l, []) := by
  have hm : (List.range n).mapM (fun i => DataW.trod enc P w base sp held 1 e (((l.map u8v).drop (i * P.cellsOf e)).take (P.cellsOf e))) = some ((List.range n).map fun i => ((.lit (.int .u8 ((l.getD i 0 : Nat) : Int)) : DataW H), ([] : List MemPlace))) := by
    refine mapM_some (fun i hi => ?_)
    have hi' : i < l.length := by rw [hl]; simpa using hi
    rw [hce, Nat.mul_one]
    have hc : ((l.map u8v).drop i).take 1 = [.int .u8 ((l.getD i 0 : Nat) : Int)] := by
      rw [List.drop_eq_getElem_cons (by simpa using hi'), List.take_succ_cons, List.take_zero, List.getElem_map, List.getD_eq_getElem?_getD, List.getElem?_eq_getElem hi']; rfl
    have hz : l.getD i 0 < 256 := by
      rw [List.getD_eq_getElem?_getD, List.getElem?_eq_getElem hi']; exact hb _ (List.getElem_mem _)
    rw [hc]
    unfold DataW.trod
    rw [he]
    simp only
    rw [if_pos ⟨trivial, (wf_u8 _).2 ⟨by omega, by omega⟩⟩]
  unfold DataW.trod
  rw [ht]
  simp only
  rw [if_pos (by rw [List.length_map, hl, hct]), hm]
  have e1 : (List.range n).map (fun i => ((.lit (.int .u8 ((l.getD i 0 : Nat) : Int)) : DataW H))) = l.map fun m : Nat => .lit (.int .u8 (m : Int)) := by
    apply List.ext_getElem?
    intro i
    by_cases hi : i < n
    · simp [List.getElem?_range hi, List.getD_eq_getElem?_getD, List.getElem?_eq_getElem (show i < l.length by omega)]
    · rw [List.getElem?_eq_none (by simp; omega), List.getElem?_eq_none (by simp; omega)]
  simp [bytesD, Function.comp_def, List.flatMap_eq_nil_iff, ← e1]
theorem open_bytes {r : Reach} {b0 : Nat} {t e : TypeId} {n : Nat} {v : Value} {d : DataW H} {ps : List MemPlace} (ht : P.underlying t = some (.array n e)) (he : P.underlying e = some (.int .u8)) (hce : P.cellsOf e = 1) (hct : P.cellsOf t = n)
    (hv : Value.okWide P w r b0 t v) (h : DataW.Trod enc P w base sp held t v d ps) : ∃ l : List Nat, l.length = n ∧ (∀ m ∈ l, m < 256) ∧ v = .agg (l.map u8v).toArray ∧ d = bytesD H l ∧ ps = [] := by
  simp only [Value.okWide, ht] at hv
  obtain ⟨cs, rfl, _⟩ := hv
  obtain ⟨fuel, hf⟩ := h
  obtain ⟨l, h1, h2, h3, h4⟩ := trod_bytes ht he hce hct hf
  injection h4 with h5 h6
  refine ⟨l, h1, h2, ?_, h5, h6⟩
  rw [← h3]; rfl
theorem shut_bytes {t e : TypeId} {n : Nat} {l : List Nat} (ht : P.underlying t = some (.array n e)) (he : P.underlying e = some (.int .u8)) (hce : P.cellsOf e = 1) (hct : P.cellsOf t = n) (hl : l.length = n) (hb : ∀ m ∈ l, m < 256) :
    DataW.Trod enc P w base sp held t (.agg (l.map u8v).toArray) (bytesD H l) [] := ⟨2, bytes_trod ht he hce hct hl hb⟩
end

end Go.Proofs.YtjalbfgdhmkclaaGreatDoor
