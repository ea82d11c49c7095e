/-
  Contracts: tokenBytes.
-/
import Derived.Test.YtbfnbjffobhllaaDoorAscA
import Derived.OneCell
import Derived.Deep.WholeRow
import Derived.Laws.CopyOwn
namespace Go.Proofs.YtbfnbjffobhllaaDoor
open Go.RowKit

/-- A table of 256 with true at the places of a list. -/
def tabOf (l : List Nat) : Array Value := l.foldl (fun a i => a.setIfInBounds i (.bool true)) (Array.replicate 256 (.bool false))
theorem tabOf_snoc (l : List Nat) (i : Nat) : tabOf (l ++ [i]) = (tabOf l).setIfInBounds i (.bool true) := by simp [tabOf]
theorem tabOf_size (l : List Nat) : (tabOf l).size = 256 := by
  refine snocInd (P := fun l => (tabOf l).size = 256) (by simp [tabOf]) (fun l i h => ?_) l
  rw [tabOf_snoc]; simpa using h
theorem tabOf_at (l : List Nat) (i : Nat) (h : i < 256) : (tabOf l)[i]? = some (.bool (decide (i ∈ l))) := by
  refine snocInd (P := fun l => (tabOf l)[i]? = some (.bool (decide (i ∈ l)))) (by simp [tabOf, h]) (fun l j hj => ?_) l
  have hs := tabOf_size l
  rw [tabOf_snoc, Array.getElem?_setIfInBounds]
  by_cases e : j = i
  · subst e; simp [hs, h]
  · rw [if_neg e, hj]; simp [Ne.symm e]
theorem tabOf_nil : tabOf [] = Array.replicate 256 (.bool false) := rfl

theorem info135 : (Tryd.prog.info? 135).map (fun i => (i.zero, i.size)) = some (some (.agg (tabOf [])), 256) := by kernel_rfl
theorem wpList_store_row {P : Program} {ops : Array Oper} {rest : List Oper} {o : Oper} {a : Act} {w : World} {Q : Exit → Act → World → Prop} (hgd : o.guard = none) (ty : TypeId) (x y : Operand) (ho : o.op = .store ty x y)
    (g : Nat) (cells : Array Value) (hx : a.eval x = .pointer (some ⟨g, 0, none⟩)) (hy : a.eval y = .agg cells)
    (t : TypeId) (old : Array Value) (hg : w.heap[g]? = some (.cells old t (0, 0))) (hi : (P.info? ty).map (·.size) = some cells.size)
    (hold : old.size = cells.size) (h1 : cells.all (·.oneCell') = true)
    (h : wpList P ops Q rest (a.put o.dst undef) (w.setRow g cells)) : wpList P ops Q (o :: rest) a w :=
  wpList_plain hgd fun _ hK => wp_store_row ty x y ho g cells hx hy t old hg hi hold h1 (hK _ _ h)

theorem tabOf_one (l : List Nat) : (tabOf l).all (·.oneCell') = true := by
  rw [Array.all_eq_true]
  intro i hi
  have h := tabOf_at l i (by rw [tabOf_size] at hi; exact hi)
  rw [Array.getElem?_eq_getElem hi] at h
  rw [Option.some.inj h]; rfl

def signL (k : Nat) : List Nat := [33, 35, 36, 37, 38, 39, 42, 43, 45, 46, 94, 95, 124, 126, 96].take k
def tk_letL (k : Nat) : List Nat := signL 15 ++ (List.range k).flatMap fun i => [65 + i, 97 + i]
def tokL (k : Nat) : List Nat := tk_letL 26 ++ (List.range k).map fun i => 48 + i
theorem signL_succ (k : Nat) (h : k < 15) : signL (k + 1) = signL k ++ [(({ data := #[33, 35, 36, 37, 38, 39, 42, 43, 45, 46, 94, 95, 124, 126, 96] } : ByteArray)[k]'h).toNat] := by
  have : ∀ k, (h : k < 15) → signL (k + 1) = signL k ++ [(({ data := #[33, 35, 36, 37, 38, 39, 42, 43, 45, 46, 94, 95, 124, 126, 96] } : ByteArray)[k]'h).toNat] := by decide +kernel
  exact this k h
theorem letL_succ (k : Nat) : tk_letL (k + 1) = (tk_letL k ++ [65 + k]) ++ [97 + k] := by simp [tk_letL, List.range_succ]
theorem tokL_succ (k : Nat) : tokL (k + 1) = tokL k ++ [48 + k] := by simp [tokL, List.range_succ]

set_option maxHeartbeats 1000000 in
set_option maxRecDepth 100000 in
theorem tokenBytes_any (w : World) :
    Calls Tryd.prog 94 #[] w fun e w' => e = .returned (.agg (tabOf (tokL 10))) ∧ Below w.heap.size w w' := by
  obtain ⟨hz, hi⟩ := zero_of_info info135
  have HI := Lib.hid hi; clear hi
  go_enter Tryd.func94, Tryd.ntmps94
  go_wp2
  go_loopw [2, 5] (fun _ i wr => ∃ k : Nat, k ≤ 15 ∧ i = .int .i64 k ∧ wr = (w.alloc (.cells (tabOf []) 135)).alloc (.cells (tabOf (signL k)) 135)) (fun _ i _ => 15 - (intOf i).toNat)
  case atStart => exact ⟨0, Nat.zero_le _, rfl, rfl⟩
  case round =>
    obtain ⟨k, hk, rfl, rfl⟩ := hrel
    by_cases hlt : k < 15
    · obtain ⟨T, HT⟩ : ∃ T, Hid (T = tabOf (signL k)) := ⟨_, rfl⟩
      rw [← HT.out]
      have hby := byte_lt (({ data := #[33, 35, 36, 37, 38, 39, 42, 43, 45, 46, 94, 95, 124, 126, 96] } : ByteArray)[k]'hlt)
      obtain ⟨b, hT⟩ : ∃ b, T[(({ data := #[33, 35, 36, 37, 38, 39, 42, 43, 45, 46, 94, 95, 124, 126, 96] } : ByteArray)[k]'hlt).toNat]? = some (.bool b) := ⟨_, by rw [HT.out]; exact tabOf_at _ _ (by omega)⟩
      go_wp2
      refine ⟨⟨k + 1, by omega, by go_num, ?_⟩, by simp [intOf]; omega⟩
      rw [signL_succ k hlt, tabOf_snoc, HT.out]
    · obtain rfl : k = 15 := by omega
      go_wp2
      go_loopw [3, 12] (fun _ i wr => ∃ k : Nat, k ≤ 26 ∧ i = .int .i64 k ∧ wr = (w.alloc (.cells (tabOf []) 135)).alloc (.cells (tabOf (tk_letL k)) 135)) (fun _ i _ => 26 - (intOf i).toNat)
      case atStart => exact ⟨0, Nat.zero_le _, rfl, rfl⟩
      case round =>
        obtain ⟨k, hk, rfl, rfl⟩ := hrel
        by_cases hlt : k < 26
        · obtain ⟨T, HT⟩ : ∃ T, Hid (T = tabOf (tk_letL k)) := ⟨_, rfl⟩
          rw [← HT.out]
          obtain ⟨b, hT⟩ : ∃ b, T[65 + k]? = some (.bool b) := ⟨_, by rw [HT.out]; exact tabOf_at _ _ (by omega)⟩
          obtain ⟨b', hT'⟩ : ∃ b, (T.setIfInBounds (65 + k) (.bool true))[97 + k]? = some (.bool b) := ⟨_, by rw [HT.out, ← tabOf_snoc]; exact tabOf_at _ _ (by omega)⟩
          go_wp2
          refine ⟨⟨k + 1, by omega, by go_num, ?_⟩, by simp [intOf]; omega⟩
          rw [letL_succ, tabOf_snoc, tabOf_snoc, HT.out]
        · obtain rfl : k = 26 := by omega
          go_wp2
          go_loopw [4, 22] (fun _ i wr => ∃ k : Nat, k ≤ 10 ∧ i = .int .i64 k ∧ wr = (w.alloc (.cells (tabOf []) 135)).alloc (.cells (tabOf (tokL k)) 135)) (fun _ i _ => 10 - (intOf i).toNat)
          case atStart => exact ⟨0, Nat.zero_le _, rfl, by simp [tokL]⟩
          case round =>
            obtain ⟨k, hk, rfl, rfl⟩ := hrel
            by_cases hlt : k < 10
            · obtain ⟨T, HT⟩ : ∃ T, Hid (T = tabOf (tokL k)) := ⟨_, rfl⟩
              rw [← HT.out]
              obtain ⟨b, hT⟩ : ∃ b, T[48 + k]? = some (.bool b) := ⟨_, by rw [HT.out]; exact tabOf_at _ _ (by omega)⟩
              go_wp2
              refine ⟨⟨k + 1, by omega, by go_num, ?_⟩, by simp [intOf]; omega⟩
              rw [tokL_succ, tabOf_snoc, HT.out]
            · obtain rfl : k = 10 := by omega
              obtain ⟨T, HT⟩ : ∃ T, Hid (T = tabOf (tokL 10)) := ⟨_, rfl⟩
              obtain ⟨Z, HZ⟩ : ∃ Z, Hid (Z = tabOf []) := ⟨_, rfl⟩
              rw [← HT.out, ← HZ.out]
              have HS : Hid (T.size = 256) := by rw [HT.out]; exact tabOf_size _
              have HS' : Hid (Z.size = 256) := by rw [HZ.out]; exact tabOf_size _
              have H1 : Hid (T.all (·.oneCell') = true) := by rw [HT.out]; exact tabOf_one _
              clear hz
              go_wp2_with (first | refine wpList_load_row rfl 135 _ rfl (w.heap.size + 1) rfl 135 T (0, 0) _ (heap_alloc2_new _ _ _) Tryd.underlying135 rfl (by rw [HS.out]; exact HI.out) ?_ | refine wpList_store_row rfl 135 _ _ rfl w.heap.size T rfl rfl 135 Z (heap_alloc2_old _ _ _) (by rw [HS.out]; exact HI.out) (by rw [HS.out, HS'.out]) H1.out ?_)
              have hgN : (((w.alloc (.cells Z 135)).alloc (.cells T 135)).setRow w.heap.size T).heap[w.heap.size]? = some (.cells T 135 (0, 0)) := setRow_heap _ _ Z T _ _ (heap_alloc2_old _ _ _)
              refine bodyPost_ret (v := .agg T) (results_cell_row Tryd.results94 _ _ w.heap.size 135 T (0, 0) _ rfl hgN Tryd.underlying135 rfl (by rw [HS.out]; exact HI.out)) rfl ⟨by rw [HT.out], ?_⟩
              exact below_setRow (below2 _ _ _) (Nat.le_refl _) _

/-- May a byte be in a token? -/
def tokB (c : Nat) : Bool := decide (c ∈ tokL 10)
def allT (l : List UInt8) : Bool := l.all fun c => tokB c.toNat
theorem allT_snoc (l : List UInt8) (c : UInt8) : allT (l ++ [c]) = (allT l && tokB c.toNat) := by simp [allT]
theorem allT_take_false (s : ByteArray) (k : Nat) (h : k < s.size) (hc : tokB s[k].toNat = false) : allT s.data.toList = false := by
  have hm : s[k] ∈ s.data.toList := by
    have : s[k] = s.data[k]'h := rfl
    rw [this]; simp
  rw [allT, List.all_eq_false]; exact ⟨_, hm, by simp [hc]⟩

set_option maxHeartbeats 400000 in
theorem tokenC_any (c : UInt8) (g : Nat) (w : World) (hg : w.heap[g]? = some (.cells (tabOf (tokL 10)) 135 (0, 0))) :
    Calls Tryd.prog 96 #[.int .u8 c.toNat, .pointer (some ⟨g, 0, none⟩)] w fun e w' => e = .returned (.bool (tokB c.toNat)) ∧ w = w' := by
  have hby := byte_lt c
  have hc : w.cell? ⟨g, c.toNat, none⟩ = some (.bool (tokB c.toNat)) := by
    rw [cell_of_row w g _ _ _ _ hg]; exact tabOf_at _ _ (by omega)
  clear hg
  go_enter Tryd.func96, Tryd.ntmps96
  go_wp2
  go_ret
  exact ⟨rfl, rfl⟩

set_option maxHeartbeats 400000 in
theorem everyT_any (s : ByteArray) (g : Nat) (w : World) (hs : s.size ≤ maxLen) (hg : w.heap[g]? = some (.cells (tabOf (tokL 10)) 135 (0, 0))) :
    Calls Tryd.prog 95 #[.string s, .func (.func 96) #[] #[.pointer (some ⟨g, 0, none⟩)]] w fun e w' => e = .returned (.bool (allT s.data.toList)) ∧ w = w' := by
  unfold maxLen at hs
  have HG := Lib.hid hg
  clear hg
  go_enter Tryd.func95, Tryd.ntmps95
  go_wp2
  go_loop [5, 8] (fun _ i => ∃ k : Nat, k ≤ s.size ∧ i = .int .i64 k ∧ allT (s.data.toList.take k) = true) (fun _ i => s.size - (intOf i).toNat)
  case atStart => exact ⟨0, Nat.zero_le _, rfl, rfl⟩
  case round =>
    obtain ⟨k, hk, rfl, ha⟩ := hrel
    have HA := Lib.hid ha; clear ha
    by_cases hlt : k < s.size
    · cases hr : tokB s[k].toNat
      · have HR := Lib.hid hr
        clear hr
        have HF := Lib.hid (allT_take_false s k hlt HR.out)
        go_wp2_with (go_at_call 96; refine (tokenC_any _ g _ HG.out).mono ?_; rw [HR.out]; rintro e w' ⟨rfl, rfl⟩)
        go_ret
        exact ⟨ret_bool HF.out.symm, rfl⟩
      · have HR := Lib.hid hr
        clear hr
        go_wp2_with (go_at_call 96; refine (tokenC_any _ g _ HG.out).mono ?_; rw [HR.out]; rintro e w' ⟨rfl, rfl⟩)
        go_round
        case rel => exact ⟨k + 1, by omega, by go_num, by rw [take_snoc s k hlt, allT_snoc, HA.out, HR.out]; rfl⟩
        case measure => simp [intOf]; omega
    · go_wp2
      go_ret
      exact ⟨ret_bool (by rw [← HA.out, List.take_of_length_le (by simp; omega)]), rfl⟩

/-- What Token answers. -/
def tokS (l : List UInt8) : Bool := !l.isEmpty && allT l

set_option maxHeartbeats 400000 in
set_option maxRecDepth 100000 in
theorem Token_any (s : ByteArray) (w : World) (hs : s.size ≤ maxLen) :
    Calls Tryd.prog 81 #[.string s] w fun e w' => e = .returned (.bool (tokS s.data.toList)) ∧ Below w.heap.size w w' := by
  obtain ⟨hz, hi⟩ := zero_of_info info135
  have HI := Lib.hid hi; clear hi
  have hmf := mkf
  obtain ⟨T, HT⟩ : ∃ T, Hid (T = tabOf (tokL 10)) := ⟨_, rfl⟩
  have HS : Hid (T.size = 256) := by rw [HT.out]; exact tabOf_size _
  have HS' : Hid ((tabOf []).size = 256) := tabOf_size _
  have H1 : Hid (T.all (·.oneCell') = true) := by rw [HT.out]; exact tabOf_one _
  by_cases h0 : 0 < s.size
  · have HR : Hid (tokS s.data.toList = allT s.data.toList) := by
      unfold tokS
      have : s.data.toList.isEmpty = false := by
        rw [List.isEmpty_eq_false_iff, ← List.length_pos_iff]; simpa using h0
      rw [this]; rfl
    go_enter Tryd.func81, Tryd.ntmps81
    go_wp2_with fail
    refine (tokenBytes_any _).mono ?_
    rw [← HT.out]
    rintro e w1 ⟨rfl, hb⟩
    go_wp2_with (refine wpList_store_row rfl 135 _ _ rfl w1.heap.size T rfl rfl 135 (tabOf []) (heap_alloc_new _ _) (by rw [HS.out]; exact HI.out) (by rw [HS.out, HS'.out]) H1.out ?_; rw [World.setRow_alloc_new])
    refine (everyT_any s w1.heap.size _ hs (by rw [HT.out]; exact heap_alloc_new _ _)).mono ?_
    rintro e w2 ⟨rfl, rfl⟩
    go_wp2
    go_ret
    exact ⟨ret_bool HR.out.symm, hb.alloc hb.size _⟩
  · have HR : Hid (tokS s.data.toList = false) := by
      unfold tokS
      have : s.data.toList.isEmpty = true := by
        rw [List.isEmpty_iff, ← List.length_eq_zero_iff]; show s.size = 0; omega
      rw [this]; rfl
    go_enter Tryd.func81, Tryd.ntmps81
    go_wp2_with fail
    refine (tokenBytes_any _).mono ?_
    rw [← HT.out]
    rintro e w1 ⟨rfl, hb⟩
    go_wp2_with (refine wpList_store_row rfl 135 _ _ rfl w1.heap.size T rfl rfl 135 (tabOf []) (heap_alloc_new _ _) (by rw [HS.out]; exact HI.out) (by rw [HS.out, HS'.out]) H1.out ?_; rw [World.setRow_alloc_new])
    go_ret
    exact ⟨ret_bool HR.out.symm, hb.alloc hb.size _⟩

end Go.Proofs.YtbfnbjffobhllaaDoor
