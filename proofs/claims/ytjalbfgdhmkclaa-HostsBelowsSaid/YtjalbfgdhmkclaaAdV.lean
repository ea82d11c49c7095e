/-
  Addresses as values: their cells, what is answered.
-/
import Derived.Test.YtjalbfgdhmkclaaKp
import Derived.Test.YtjalbfgdhmkclaaAdF
import Derived.Laws.ResultCell
import Derived.Laws.Rows
import Derived.Laws.Tables
namespace Go.Proofs.Ytjalbfgdhmkclaa
open Go.RowKit

/-- A number's byte, counted from its end. -/
def byteN (n j : Nat) : Value := .int .u8 ((n / 256 ^ j % 256 : Nat) : Int)

def u8v (n : Nat) : Value := .int .u8 (n : Int)
/-- An address, as its cells. -/
def cellsA (six : Bool) (l : List Nat) : Array Value := (Value.bool six :: l.map u8v).toArray
theorem cellsA_size (six : Bool) (l : List Nat) : (cellsA six l).size = l.length + 1 := by simp [cellsA]
theorem cellsA_zero (six : Bool) (l : List Nat) : (cellsA six l)[0]? = some (.bool six) := rfl
theorem cellsA_at (six : Bool) (l : List Nat) (j : Nat) : (cellsA six l)[j + 1]? = l[j]?.map u8v := by simp [cellsA]
theorem cells_ext {D : Array Value} {l : List Nat} {six : Bool} (hs : D.size = l.length + 1) (h0 : D[0]? = some (.bool six)) (h : ∀ j, j < l.length → D[j + 1]? = l[j]?.map u8v) : D = cellsA six l := by
  apply Array.ext_getElem?
  intro i
  cases i with
  | zero => rw [h0]; rfl
  | succ i =>
    rw [cellsA_at]
    by_cases hi : i < l.length
    · exact h i hi
    · rw [Array.getElem?_eq_none (by omega), List.getElem?_eq_none (by omega)]; rfl
theorem be_at : ∀ (k n j : Nat), j < k → (be k n)[k - 1 - j]? = some (n / 256 ^ j % 256)
  | 0, _, _, h => absurd h (Nat.not_lt_zero _)
  | k + 1, n, j, h => by
    rw [be]
    cases j with
    | zero =>
      rw [List.getElem?_append_right (by rw [be_len]; omega), be_len]
      simp
    | succ j =>
      rw [List.getElem?_append_left (by rw [be_len]; omega)]
      have := be_at k (n / 256) j (by omega)
      rw [show k + 1 - 1 - (j + 1) = k - 1 - j by omega, this, Nat.div_div_eq_div_mul, Nat.pow_succ, Nat.mul_comm 256]
/-- No address. -/
def zeroA : Array Value := cellsA false (List.replicate 16 0)
theorem zeroA_size : zeroA.size = 17 := by simp [zeroA, cellsA_size]
theorem infoA : (Try.prog.info? 28).map (fun i => (i.zero, i.size)) = some (some (.agg zeroA), 17) := by kernel_rfl

/-- Bytes that were put among an address's cells. -/
theorem put_cells {six : Bool} {A : List Nat} {k len n : Nat} {D : Array Value} (hk : k + len ≤ A.length) (hs : D.size = (cellsA six A).size) (h1 : ∀ j, ¬ (1 + k ≤ j ∧ j < 1 + k + len) → D[j]? = (cellsA six A)[j]?) (h2 : ∀ j, j < len → D[1 + k + len - 1 - j]? = some (byteN n j)) :
    D = cellsA six (A.take k ++ be len n ++ A.drop (k + len)) := by
  have hl : (A.take k ++ be len n ++ A.drop (k + len)).length = A.length := by
    rw [List.length_append, List.length_append, List.length_take, be_len, List.length_drop]; omega
  refine cells_ext (by rw [hs, cellsA_size, hl]) (by rw [h1 0 (by omega)]; rfl) (fun j hj => ?_)
  rw [hl] at hj
  by_cases hin : k ≤ j ∧ j < k + len
  · have h := h2 (k + len - 1 - j) (by omega)
    rw [show 1 + k + len - 1 - (k + len - 1 - j) = j + 1 by omega] at h
    rw [h, List.getElem?_append_left (by rw [List.length_append, List.length_take, be_len]; omega), List.getElem?_append_right (by rw [List.length_take]; omega), List.length_take]
    have := be_at len n (k + len - 1 - j) (by omega)
    rw [show len - 1 - (k + len - 1 - j) = j - k by omega] at this
    rw [show j - min k A.length = j - k by omega, this]; rfl
  · rw [h1 (j + 1) (by omega), cellsA_at]
    congr 1
    by_cases hlo : j < k
    · rw [List.getElem?_append_left (by rw [List.length_append, List.length_take]; omega), List.getElem?_append_left (by rw [List.length_take]; omega), List.getElem?_take_of_lt hlo]
    · rw [List.getElem?_append_right (by rw [List.length_append, List.length_take, be_len]; omega), List.length_append, List.length_take, be_len, List.getElem?_drop]
      congr 1; omega
theorem cellsA_one (six : Bool) (l : List Nat) : (cellsA six l).all (·.oneCell') = true := by
  have h : ∀ x ∈ (cellsA six l).toList, x.oneCell' = true := by
    intro x hx
    simp only [cellsA] at hx
    rcases List.mem_cons.1 hx with rfl | hx
    · rfl
    · obtain ⟨n, _, rfl⟩ := List.mem_map.1 hx; rfl
  rw [Array.all_eq_true]
  intro i hi
  exact h _ (by rw [Array.mem_toList_iff]; exact Array.getElem_mem hi)
theorem zeroA_one : zeroA.all (·.oneCell') = true := cellsA_one _ _
theorem results_row2 {P : Program} {fn : Func} {p u : Tmp} {ty : TypeId} (h : fn.results = #[.cell p ty, .tmp u]) (tmps : Array Value) (w : World) (g : Nat) (t : TypeId) (cs : Array Value) (fr : Nat × Nat) (d : TypeDesc)
    (hp : tmps.getD p undef = .pointer (some ⟨g, 0, none⟩)) (hg : w.heap[g]? = some (.cells cs t fr))
    (hu : P.underlying ty = some d) (hd : (match d with | .struct _ | .array _ _ => true | _ => false) = true) (hi : (P.info? ty).map (·.size) = some cs.size) :
    (results fn tmps).run P w = .ok (.tuple #[.agg cs, tmps.getD u undef]) w := by
  rw [results_cell_tmp h, hp]
  simp [asAddr, run_loadVar_row w g t ty cs fr d hg hu hd hi, Result.andThen]

/-- What is answered of a text as four bytes. -/
def fourV (o : Bool × Option (List Nat)) : Value := match o with
  | (false, _) => .tuple #[.agg zeroA, .bool false, .int .i64 0]
  | (true, none) => .tuple #[.agg zeroA, .bool true, .int .i64 5]
  | (true, some bs) => .tuple #[.agg (cellsA false (bs ++ List.replicate 12 0)), .bool true, .int .i64 0]

theorem results_row3 {P : Program} {fn : Func} {p u v : Tmp} {ty : TypeId} (h : fn.results = #[.cell p ty, .tmp u, .tmp v]) (tmps : Array Value) (w : World) (g : Nat) (t : TypeId) (cs : Array Value) (fr : Nat × Nat) (d : TypeDesc)
    (hp : tmps.getD p undef = .pointer (some ⟨g, 0, none⟩)) (hg : w.heap[g]? = some (.cells cs t fr))
    (hu : P.underlying ty = some d) (hd : (match d with | .struct _ | .array _ _ => true | _ => false) = true) (hi : (P.info? ty).map (·.size) = some cs.size) :
    (results fn tmps).run P w = .ok (.tuple #[.agg cs, tmps.getD u undef, tmps.getD v undef]) w := by
  have hp' : tmps[p]?.getD undef = .pointer (some ⟨g, 0, none⟩) := by simpa using hp
  simp [results, h, hp', asAddr, run_loadVar_row w g t ty cs fr d hg hu hd hi]

theorem lay4_pre : ∀ (pre : List Nat) (r m : Nat), (∀ x ∈ pre, x < 256) → lay4 r (pre ++ [m]) = if m < 256 ^ (r - pre.length) then some (pre ++ be (r - pre.length) m) else none
  | [], r, m, _ => by simp [lay4]
  | [x], r, m, h => by
    have hx : x < 256 := h x (by simp)
    show lay4 r (x :: m :: []) = _
    rw [lay4, if_pos hx, lay4]
    simp only [List.length_singleton]
    by_cases hm : m < 256 ^ (r - 1)
    · rw [if_pos hm, if_pos hm]; rfl
    · rw [if_neg hm, if_neg hm]
  | x :: y :: pre, r, m, h => by
    have hx : x < 256 := h x (by simp)
    have ih := lay4_pre (y :: pre) (r - 1) m (fun z hz => h z (List.mem_cons_of_mem _ hz))
    show lay4 r (x :: y :: (pre ++ [m])) = _
    rw [lay4, if_pos hx]
    rw [show (y :: (pre ++ [m])) = (y :: pre) ++ [m] from rfl, ih]
    have e : r - 1 - (y :: pre).length = r - (x :: y :: pre).length := by simp; omega
    rw [e]
    by_cases hm : m < 256 ^ (r - (x :: y :: pre).length)
    · rw [if_pos hm, if_pos hm]; rfl
    · rw [if_neg hm, if_neg hm]
theorem lay4_bad : ∀ (pre : List Nat) (r x y : Nat) (rest : List Nat), (∀ x ∈ pre, x < 256) → 256 ≤ x → lay4 r (pre ++ x :: y :: rest) = none
  | [], r, x, y, rest, _, hx => by
    show lay4 r (x :: y :: rest) = none
    rw [lay4, if_neg (by omega)]
  | z :: pre, r, x, y, rest, h, hx => by
    have ih := lay4_bad pre (r - 1) x y rest (fun w hw => h w (List.mem_cons_of_mem _ hw)) hx
    have hz : z < 256 := h z (by simp)
    cases pre with
    | nil =>
      show lay4 r (z :: x :: y :: rest) = none
      rw [lay4, if_pos hz]
      rw [show lay4 (r - 1) (x :: y :: rest) = none from ih]
    | cons w pre =>
      show lay4 r (z :: w :: (pre ++ x :: y :: rest)) = none
      rw [lay4, if_pos hz]
      rw [show lay4 (r - 1) (w :: (pre ++ x :: y :: rest)) = none from ih]

end Go.Proofs.Ytjalbfgdhmkclaa
