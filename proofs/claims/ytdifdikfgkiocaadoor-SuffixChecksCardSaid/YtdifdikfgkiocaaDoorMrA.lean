/-
  Contract: the document's Hex.
  Contract: the document's Digit.
  Contracts: the document's parts, count, number, digits.
-/
import Derived.Test.YtdifdikfgkiocaaDoorRows
import Derived.Test.YtdifdikfgkiocaaDoorMaA
import Derived.WalkSpells
import Derived.WalkLawsBesides
import Derived.Deep.QuietTactic
import Derived.BigQuiet
import Derived.Test.YtdifdikfgkiocaaDoorMpA
namespace Go.Proofs.YtdifdikfgkiocaaDoor
open Go.RowKit

end Go.Proofs.YtdifdikfgkiocaaDoor
namespace Go.Proofs.YtdifdikfgkiocaaDoor
open Go.RowKit

set_option maxHeartbeats 400000 in
theorem Digit_any (c : Int) (w : World) :
    Calls Tryd.prog 25 #[.int .u8 c] w fun e w' => e = .returned (.bool (inR 48 57 c)) ∧ w = w' := by
  by_cases h1 : 48 ≤ c
  all_goals
    go_enter Tryd.func25, Tryd.ntmps25
    go_wp2
    go_ret
    exact ⟨ret_bool (by simp [inR]; omega), rfl⟩

end Go.Proofs.YtdifdikfgkiocaaDoor
namespace Go.Proofs.YtdifdikfgkiocaaDoor
open Go.RowKit

theorem rf_infoS : (Tryd.prog.info? 9).map (fun i => (i.zero, i.size, i.bytes)) = some (some (.string ⟨#[]⟩), 1, 16) := by kernel_rfl
/-- A text is put behind a row. -/
theorem rf_appS (base : Nat) (v : Value) (D : List Value) (x : Value) (w : World) (hown : w.ownsRow base 9 1 v D.length D) (hx : x.oneCell' = true) (hD : D.length ≤ 10000000) (hb : base ≤ w.heap.size) :
    ∃ v' w1, (Builtin.append_ #[22, 22] 22 #[v, .slice (some ⟨w.heap.size, 0, none⟩) 1 1]).run Tryd.prog (w.alloc (.cells #[x] 9)) = .ok v' w1 ∧ w1.ownsRow base 9 1 v' (D ++ [x]).length (D ++ [x]) ∧ Below base w w1 := by
  obtain ⟨i0, hi, hz0, hz1, hz2⟩ := info_parts rf_infoS
  have hnews : ∀ j u, [x][j]? = some u → (w.alloc (.cells #[x] 9)).cell? ((⟨w.heap.size, 0, none⟩ : Addr).add j) = some u :=
    World.news_of_block (cs := #[x]) (t := 9) (fr := (0, 0)) (heap_alloc_new w _)
  obtain ⟨v', w1, hrun, hown', hgrow, _⟩ := run_append_own (P := Tryd.prog) (w.alloc (.cells #[x] 9)) base 22 22 9 i0 (.string ⟨#[]⟩) 1 16 Tryd.underlying22 hi hz0 hz1 hz2 rfl (by decide)
    v D.length D (hown.alloc _) ⟨w.heap.size, 0, none⟩ 1 1 [x] rfl hnews (by simpa using hx) (by unfold maxLen; omega) (by omega) (by simp; omega)
  refine ⟨v', w1, hrun, by rw [List.length_append]; exact hown', ((Below.refl _ _).alloc hb _).grown hgrow (by simp; omega) (fun q hq => (hown.lt q hq).1)⟩

/-- While the parts are cut: k bytes are looked at, the last part begins at f. -/
def CutP (a : UInt8) (l : List UInt8) (f k : Nat) (D : List ByteArray) : Prop :=
  (k ≤ l.length → f ≤ k ∧ pts a l = D.map (·.data.toList) ++ pts a (l.drop f) ∧ ∀ j, f ≤ j → (hj : j < l.length) → j < k → l[j] ≠ a) ∧ (k = l.length + 1 → pts a l = D.map (·.data.toList))
theorem cutP_no {a : UInt8} {l : List UInt8} {f k : Nat} {D : List ByteArray} (h : CutP a l f k D) (hk : k < l.length) (hc : l[k] ≠ a) : CutP a l f (k + 1) D := by
  obtain ⟨h1, h2, h3⟩ := h.1 (by omega)
  refine ⟨fun _ => ⟨by omega, h2, fun j hf hj hjk => ?_⟩, fun e => by omega⟩
  by_cases e : j = k
  · subst e; exact hc
  · exact h3 j hf hj (by omega)
theorem drop_no {a : UInt8} {l : List UInt8} {f k : Nat} (h3 : ∀ j, f ≤ j → (hj : j < l.length) → j < k → l[j] ≠ a) : ∀ c ∈ (l.drop f).take (k - f), c ≠ a := by
  intro c hc
  obtain ⟨i, hi, rfl⟩ := List.mem_iff_getElem.1 hc
  rw [List.length_take, List.length_drop] at hi
  rw [List.getElem_take, List.getElem_drop]
  exact h3 (f + i) (by omega) (by omega) (by omega)
theorem cutP_at {a : UInt8} {l : List UInt8} {f k : Nat} {D : List ByteArray} {x : ByteArray} (h : CutP a l f k D) (hk : k < l.length) (hc : l[k] = a) (hx : x.data.toList = (l.drop f).take (k - f)) : CutP a l (k + 1) (k + 1) (D ++ [x]) := by
  obtain ⟨h1, h2, h3⟩ := h.1 (by omega)
  refine ⟨fun _ => ⟨Nat.le_refl _, ?_, fun j hf hj hjk => by omega⟩, fun e => by omega⟩
  have hs : l.drop f = (l.drop f).take (k - f) ++ a :: l.drop (k + 1) := by
    conv => lhs; rw [← List.take_append_drop (k - f) (l.drop f)]
    rw [List.drop_drop, show f + (k - f) = k by omega, List.drop_eq_getElem_cons hk, hc]
  rw [h2, hs, pts_front a _ _ (drop_no h3)]
  simp [hx]
theorem cutP_end {a : UInt8} {l : List UInt8} {f : Nat} {D : List ByteArray} {x : ByteArray} (h : CutP a l f l.length D) (hx : x.data.toList = l.drop f) : CutP a l (l.length + 1) (l.length + 1) (D ++ [x]) := by
  obtain ⟨h1, h2, h3⟩ := h.1 (Nat.le_refl _)
  refine ⟨fun e => by omega, fun _ => ?_⟩
  have hn : ∀ c ∈ l.drop f, c ≠ a := by
    have := drop_no h3
    rwa [List.take_of_length_le (by rw [List.length_drop]; exact Nat.le_refl _)] at this
  rw [h2, pts_none a _ hn]
  simp [hx]
theorem ext_mid (t : ByteArray) (f k : Nat) (_hk : k ≤ t.size) : (t.extract f k).data.toList = (t.data.toList.drop f).take (k - f) := by
  rw [ByteArray.data_extract, Array.toList_extract, List.extract_eq_take_drop]

end Go.Proofs.YtdifdikfgkiocaaDoor
