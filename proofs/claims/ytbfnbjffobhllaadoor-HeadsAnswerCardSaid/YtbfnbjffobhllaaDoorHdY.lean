/-
  Laws of heads: rows put behind rows of the call's own; SameMessage.
-/
import Derived.Test.YtbfnbjffobhllaaDoorHdX
import Derived.Deep.Upon
import Derived.Laws.AppendOwn
namespace Go.Proofs.YtbfnbjffobhllaaDoor
open Go.RowKit

theorem add_spot (b o j : Nat) : (⟨b, o, none⟩ : Addr).add j = ⟨b, o + j, none⟩ := by
  unfold Addr.add; split <;> simp_all
theorem fxAt_cell {F : List BF} {a : Option Addr} {b o : Nat} {w : World} (h : FxAt F a b o w) (j : Nat) (u : Value) (hj : (fcells F)[j]? = some u) : w.cell? ⟨b, o + j, none⟩ = some u := by
  have hlt : j < (fcells F).length := (List.getElem?_eq_some_iff.1 hj).1
  rw [fcells_len] at hlt
  have hi : j / 2 < F.length := by omega
  obtain ⟨h0, h1⟩ := fcells_at F (j / 2) hi
  rcases Nat.mod_two_eq_zero_or_one j with e | e
  · have e2 : j = j / 2 * 2 := by omega
    rw [e2] at hj ⊢
    rw [h0] at hj
    rw [h.c0 _ hi, ← Option.some.inj hj]
  · have e2 : j = j / 2 * 2 + 1 := by omega
    rw [e2] at hj ⊢
    rw [h1] at hj
    rw [← Nat.add_assoc, h.c1 _ hi, ← Option.some.inj hj]
theorem OwnB.app {base : Nat} {v : Value} {l D : List UInt8} {a : Option Addr} {cap b o : Nat} {w : World} (h : OwnB base v l w) (hB : BxAt D a cap b o w) (hn : l.length + D.length ≤ 100000000) (hb : base ≤ w.heap.size) :
    ∃ v' w1, (Builtin.append_ #[24, 24] 24 #[v, .slice a D.length cap]).run Tryd.prog w = .ok v' w1 ∧ OwnB base v' (l ++ D) w1 ∧ ∀ B w0, B ≤ base → Below B w0 w → Below B w0 w1 := by
  obtain ⟨i0, hi, hz0, hz1, hz2⟩ := info_parts infoBx
  cases a with
  | none =>
    have hD : D = [] := by
      cases D with
      | nil => rfl
      | cons c D => cases hB.at0 (by simp)
    subst hD
    obtain ⟨p, c, rfl, hlc, _⟩ := ownB_form h
    refine ⟨.slice p l.length c, w, ?_, by rw [List.append_nil]; exact h, fun B w0 _ h => h⟩
    exact run_append_nothing w 24 24 24 5 i0 Tryd.underlying24 hi p l.length c hlc _ (Src.ofNil w Tryd.underlying24 cap)
  | some x =>
    obtain ⟨v', w1, hrun, hown', hgrow, _⟩ := run_append_own (P := Tryd.prog) w base 24 24 5 i0 (.int .u8 0) 1 1 Tryd.underlying24 hi hz0 hz1 hz2 rfl (by decide)
      v l.length _ h.h x D.length cap (D.map bvV) (by simp) (fun j u hj => by
        have hlt : j < D.length := by
          have := (List.getElem?_eq_some_iff.1 hj).1
          rwa [List.length_map] at this
        obtain rfl := Option.some.inj (hB.at0 (by omega))
        rw [List.getElem?_map, List.getElem?_eq_getElem hlt] at hj
        rw [add_spot, hB.c j hlt]
        exact hj) (fun u hu => by obtain ⟨c, _, rfl⟩ := List.mem_map.1 hu; rfl) (by unfold maxLen; omega) (by omega) hb
    refine ⟨v', w1, hrun, ⟨?_⟩, fun B w0 hBb hB => hB.grown hgrow (by omega) (fun q hq => by have := (h.h.lt q hq).1; omega)⟩
    rw [List.length_append, List.map_append]; exact hown'
theorem own_room {base n : Nat} {e : TypeId} {size : Nat} {v : Value} {xs : List Value} {w : World} (h : w.ownsRow base e size v n xs) : ∃ p c, v = .slice p n c ∧ n ≤ c := by
  obtain ⟨_, h2 | ⟨g, cap, cur, rfl, _, _, h3, _⟩⟩ := h
  · exact ⟨none, 0, by rw [h2.1, h2.2], by omega⟩
  · exact ⟨_, _, rfl, h3⟩
theorem OwnF.app {base : Nat} {v : Value} {G F : List BF} {a : Option Addr} {cap b o : Nat} {w : World} (h : OwnF base v G w) (hF : FxAt F a b o w) (hn : G.length + F.length ≤ 1000000) (hb : base ≤ w.heap.size) :
    ∃ v' w1, (Builtin.append_ #[22, 22] 22 #[v, .slice a F.length cap]).run Tryd.prog w = .ok v' w1 ∧ OwnF base v' (G ++ F) w1 ∧ ∀ B w0, B ≤ base → Below B w0 w → Below B w0 w1 := by
  obtain ⟨i0, hi, hz0, hz1, hz2⟩ := info_parts infoFx
  cases a with
  | none =>
    have hD : F = [] := by
      cases F with
      | nil => rfl
      | cons c D => cases hF.at0 (by simp)
    subst hD
    obtain ⟨p, c, rfl, hlc⟩ := own_room h.h
    refine ⟨.slice p G.length c, w, ?_, by rw [List.append_nil]; exact h, fun B w0 _ h => h⟩
    exact run_append_nothing w 22 22 22 57 i0 Tryd.underlying22 hi p G.length c hlc _ (Src.ofNil w Tryd.underlying22 cap)
  | some x =>
    obtain ⟨v', w1, hrun, hown', hgrow, _⟩ := run_append_own (P := Tryd.prog) w base 22 22 57 i0 (.agg #[.string ⟨#[]⟩, .string ⟨#[]⟩]) 2 32 Tryd.underlying22 hi hz0 hz1 hz2 rfl (by decide)
      v G.length _ h.h x F.length cap (fcells F) (fcells_len F) (fun j u hj => by
        have hlt : j < (fcells F).length := (List.getElem?_eq_some_iff.1 hj).1
        rw [fcells_len] at hlt
        obtain rfl := Option.some.inj (hF.at0 (by omega))
        rw [add_spot]
        exact fxAt_cell hF j u hj) (fcells_one F) (by unfold maxLen; omega) (by omega) hb
    refine ⟨v', w1, hrun, ⟨?_⟩, fun B w0 hBb hB => hB.grown hgrow (by omega) (fun q hq => by have := (h.h.lt q hq).1; omega)⟩
    rw [List.length_append, fcells_app]; exact hown'
theorem OwnS.app {base base2 : Nat} {v u : Value} {L M : List (List UInt8)} {w : World} (h : OwnS base v L w) (hM : OwnS base2 u M w) (hn : L.length + M.length ≤ 1000000) (hb : base ≤ w.heap.size) :
    ∃ v' w1, (Builtin.append_ #[29, 29] 29 #[v, u]).run Tryd.prog w = .ok v' w1 ∧ OwnS base v' (L ++ M) w1 ∧ ∀ B w0, B ≤ base → Below B w0 w → Below B w0 w1 := by
  obtain ⟨i0, hi, hz0, hz1, hz2⟩ := info_parts infoSx
  obtain ⟨hl, ⟨rfl, h2⟩ | ⟨g, cap, cur, rfl, hgb, hg, hnc, hcm, hcs, hct⟩⟩ := hM.h
  · have hD : M = [] := List.length_eq_zero_iff.1 h2
    subst hD
    obtain ⟨p, c, rfl, hlc⟩ := own_room h.h
    refine ⟨.slice p L.length c, w, ?_, by rw [List.append_nil]; exact h, fun B w0 _ h => h⟩
    exact run_append_nothing w 29 29 29 9 i0 Tryd.underlying29 hi p L.length c hlc _ (Src.ofNil w Tryd.underlying29 0)
  · obtain ⟨v', w1, hrun, hown', hgrow, _⟩ := run_append_own (P := Tryd.prog) w base 29 29 9 i0 (.string ⟨#[]⟩) 1 16 Tryd.underlying29 hi hz0 hz1 hz2 rfl (by decide)
      v L.length _ h.h ⟨g, 0, none⟩ M.length cap (M.map fun l => Value.string (asB l)) (by simp) (fun j u hj => by
        have hlt : j < M.length := by
          have := (List.getElem?_eq_some_iff.1 hj).1
          rwa [List.length_map] at this
        rw [add_spot, Nat.zero_add, hM.h.cellAt j (by omega)]
        exact hj) (fun u hu => by obtain ⟨c, _, rfl⟩ := List.mem_map.1 hu; rfl) (by unfold maxLen; omega) (by omega) hb
    refine ⟨v', w1, hrun, ⟨?_⟩, fun B w0 hBb hB => hB.grown hgrow (by omega) (fun q hq => by have := (h.h.lt q hq).1; omega)⟩
    rw [List.length_append, List.map_append]; exact hown'
set_option maxHeartbeats 400000 in
theorem SameBytes_none (w : World) : Calls Tryd.prog 61 #[.slice none 0 0, .slice none 0 0] w fun e w' => e = .returned (.bool true) ∧ w = w' := by
  go_enter Tryd.func61, Tryd.ntmps61
  go_wp2
  refine wp_loop_rounds 1 ?_
  rw [rounds_succ]
  go_wp2
  go_ret
  exact ⟨rfl, rfl⟩
set_option maxRecDepth 100000 in
set_option maxHeartbeats 4000000 in
theorem SameMsg_eq (x : Fst12) (a a' : Option Addr) (c c' b o b' o' : Nat) (F : List BF) (w : World) (h1 : FxAt F a b o w) (h2 : FxAt F a' b' o' w) (hn : F.length ≤ maxLen) :
    Calls Tryd.prog 25 #[.agg (msC x (.slice a F.length c)), .agg (msC x (.slice a' F.length c'))] w fun e w' => e = .returned (.bool true) ∧ Below w.heap.size w w' := by
  obtain ⟨me, ta, st⟩ := x
  obtain ⟨ME, HME⟩ : ∃ M, Hid (asB me = M) := ⟨_, Lib.hid rfl⟩
  obtain ⟨TA, HTA⟩ : ∃ M, Hid (asB ta = M) := ⟨_, Lib.hid rfl⟩
  have HSF := Lib.hid fun w' (h : Below w.heap.size w w') => SameFields_eq a a' c c' b o b' o' F w' (h1.later h) (h2.later h) hn
  show Calls _ _ #[.agg #[.string (asB me), .string (asB ta), .int .i64 st, .slice a F.length c, .slice none 0 0], .agg #[.string (asB me), .string (asB ta), .int .i64 st, .slice a' F.length c', .slice none 0 0]] _ _
  rw [HME.out, HTA.out]
  obtain ⟨n, HN⟩ : ∃ n, Hid (F.length = n) := ⟨_, Lib.hid rfl⟩
  rw [HN.out] at HSF ⊢
  obtain ⟨W1, HW1⟩ : ∃ W, Hid (w.alloc (.cells #[.string ME, .string TA, .int .i64 st, .slice a n c, .slice none 0 0] 26) = W) := ⟨_, Lib.hid rfl⟩
  obtain ⟨W2, HW2⟩ : ∃ W, Hid (W1.alloc (.cells #[.string ME, .string TA, .int .i64 st, .slice a' n c', .slice none 0 0] 26) = W) := ⟨_, Lib.hid rfl⟩
  have hs1 : W1.heap.size = w.heap.size + 1 := by rw [← HW1.out]; simp
  have g1 : W1.heap[w.heap.size]? = some (.cells #[.string ME, .string TA, .int .i64 st, .slice a n c, .slice none 0 0] 26 (0, 0)) := by rw [← HW1.out]; exact heap_alloc_new w _
  have g2 : W2.heap[w.heap.size]? = some (.cells #[.string ME, .string TA, .int .i64 st, .slice a n c, .slice none 0 0] 26 (0, 0)) := by rw [← HW2.out, Below.heap_alloc _ _ _ (lt_of_block g1)]; exact g1
  have k2 : W2.heap[w.heap.size + 1]? = some (.cells #[.string ME, .string TA, .int .i64 st, .slice a' n c', .slice none 0 0] 26 (0, 0)) := by rw [← HW2.out, ← hs1]; exact heap_alloc_new W1 _
  have HB2 : Hid (Below w.heap.size w W2) := Lib.hid (by rw [← HW2.out, ← HW1.out]; exact ((Below.refl _ _).alloc (Nat.le_refl _) _).alloc (by simp) _)
  have a0 : W2.cell? ⟨w.heap.size, 0, none⟩ = some (.string ME) := by rw [cell_of_row W2 _ 0 _ _ _ g2]; rfl
  have a1 : W2.cell? ⟨w.heap.size, 1, none⟩ = some (.string TA) := by rw [cell_of_row W2 _ 1 _ _ _ g2]; rfl
  have a2 : W2.cell? ⟨w.heap.size, 2, none⟩ = some (.int .i64 st) := by rw [cell_of_row W2 _ 2 _ _ _ g2]; rfl
  have a3 : W2.cell? ⟨w.heap.size, 3, none⟩ = some (.slice a n c) := by rw [cell_of_row W2 _ 3 _ _ _ g2]; rfl
  have b0 : W2.cell? ⟨w.heap.size + 1, 0, none⟩ = some (.string ME) := by rw [cell_of_row W2 _ 0 _ _ _ k2]; rfl
  have b1 : W2.cell? ⟨w.heap.size + 1, 1, none⟩ = some (.string TA) := by rw [cell_of_row W2 _ 1 _ _ _ k2]; rfl
  have b2 : W2.cell? ⟨w.heap.size + 1, 2, none⟩ = some (.int .i64 st) := by rw [cell_of_row W2 _ 2 _ _ _ k2]; rfl
  have b3 : W2.cell? ⟨w.heap.size + 1, 3, none⟩ = some (.slice a' n c') := by rw [cell_of_row W2 _ 3 _ _ _ k2]; rfl
  have G := Lib.hid (And.intro g2 k2)
  clear h1 h2 g1 g2 k2 hs1
  go_enter Tryd.func25, Tryd.ntmps25
  go_upto_region 1 with (fail)
  rw [HW1.out, HW2.out]
  go_wp2_with fail
  refine (HSF.out _ HB2.out).mono ?_
  rintro e w3 ⟨rfl, bb3⟩
  have HB3 := Lib.hid (HB2.out.trans (bb3.mono HB2.out.size))
  have d1 : w3.cell? ⟨w.heap.size, 4, none⟩ = some (.slice none 0 0) := by rw [cell_of_row w3 _ 4 _ _ _ ((bb3.block _ (lt_of_block G.out.1)).trans G.out.1)]; rfl
  have d2 : w3.cell? ⟨w.heap.size + 1, 4, none⟩ = some (.slice none 0 0) := by rw [cell_of_row w3 _ 4 _ _ _ ((bb3.block _ (lt_of_block G.out.2)).trans G.out.2)]; rfl
  clear bb3
  go_wp2_with fail
  refine (SameBytes_none w3).mono ?_
  rintro e w4 ⟨rfl, rfl⟩
  go_wp2
  go_ret
  exact ⟨rfl, HB3.out⟩

end Go.Proofs.YtbfnbjffobhllaaDoor
