/-
  Statements of heads: SameFields, bad.
-/
import Derived.Test.YtbfnbjffobhllaaDoorHdV
import Derived.Test.YtbfnbjffobhllaaDoorBw
import Derived.Laws.IdiomStrings
namespace Go.Proofs.YtbfnbjffobhllaaDoor
open Go.RowKit

set_option maxRecDepth 100000 in
set_option maxHeartbeats 4000000 in
theorem SameFields_eq (a a' : Option Addr) (c c' b o b' o' : Nat) (F : List BF) (w : World) (h1 : FxAt F a b o w) (h2 : FxAt F a' b' o' w) (hn : F.length ≤ maxLen) :
    Calls Tryd.prog 23 #[.slice a F.length c, .slice a' F.length c'] w fun e w' => e = .returned (.bool true) ∧ Below w.heap.size w w' := by
  unfold maxLen at hn
  have H1 := Lib.hid h1
  have H2 := Lib.hid h2
  obtain ⟨nF, HN⟩ : ∃ n, Hid (F.length = n) := ⟨_, Lib.hid rfl⟩
  rw [HN.out] at hn ⊢
  clear h1 h2
  go_enter Tryd.func23, Tryd.ntmps23
  go_wp2
  go_loopw [5] (fun i wr => ∃ k : Nat, k ≤ nF ∧ i = .int .i64 (k : Int) ∧ Hid (Below w.heap.size w wr)) (fun i _ => nF - (intOf i).toNat)
  case atStart => exact ⟨0, Nat.zero_le _, rfl, Lib.hid (Below.refl _ _)⟩
  case round =>
    obtain ⟨k, hk, rfl, HB⟩ := hrel
    by_cases hlt : k < nF
    · have hltI : (k : Int) < (nF : Int) := by omega
      have hkF : k < F.length := by rw [HN.out]; exact hlt
      have HF1 := Lib.hid (H1.out.later HB.out)
      have HF2 := Lib.hid (H2.out.later HB.out)
      obtain rfl := HF1.out.at0 (by omega)
      obtain rfl := HF2.out.at0 (by omega)
      obtain ⟨x, y, hx⟩ := nx_of HF1.out hkF
      have HX := Lib.hid hx
      obtain ⟨x', y', hx'⟩ := nx_of HF2.out hkF
      have hxx : x' = x ∧ y' = y := by
        have := hx.e.symm.trans hx'.e
        simp only [Option.some.injEq, Prod.mk.injEq] at this
        exact ⟨this.1.symm, this.2.symm⟩
      obtain ⟨rfl, rfl⟩ := hxx
      have HX' := Lib.hid hx'
      have HR1 : Hid (∀ v, (∃ p : BW wr, v = p.w) → v.rangeAt b (o + k * 2) [.string x', .string y']) := Lib.hid (by
        rintro v ⟨p, rfl⟩
        exact fun j u hu => (p.h.cell (p := ⟨b, o + k * 2 + j, none⟩) (block_lt_of_cell (HX.out.r j u hu))).trans (HX.out.r j u hu))
      have HR2 : Hid (∀ v, (∃ p : BW wr, v = p.w) → v.rangeAt b' (o' + k * 2) [.string x', .string y']) := Lib.hid (by
        rintro v ⟨p, rfl⟩
        exact fun j u hu => (p.h.cell (p := ⟨b', o' + k * 2 + j, none⟩) (block_lt_of_cell (HX'.out.r j u hu))).trans (HX'.out.r j u hu))
      clear hx hx' hkF
      go_wp2
      refine bw_region (by kernel_rfl) (by kernel_rfl) ?_
      repeat (first
        | (refine bq_load_mid rfl 57 _ rfl b (o + k * 2) [.string x', .string y'] ?_ _ HR1.out Tryd.underlying57 rfl (infoFd2 _ _) ?_; (exact rfl))
        | (refine bq_load_mid rfl 57 _ rfl b' (o' + k * 2) [.string x', .string y'] ?_ _ HR2.out Tryd.underlying57 rfl (infoFd2 _ _) ?_; (exact rfl))
        | (refine bq_bin rfl .neq 57 57 _ _ rfl (.bool false) (fun w => gd_Fd _ _ _ _ _ w) (fun w => neFd_same x' y' w) ?_)
        | (quiet_step (fail)))
      refine wpQuiet_nil ?_
      intro _ hw'
      obtain ⟨⟨wq, hwq⟩, rfl⟩ := hw'
      have HB2 := Lib.hid (HB.out.trans (Below.mono hwq HB.out.size))
      clear hwq
      go_wp2
      go_roundw
      case rel => exact ⟨k + 1, by omega, by go_num, HB2⟩
      case measure => simp [intOf]; omega
    · have hge : ¬ (k : Int) < (nF : Int) := by omega
      go_wp2
      go_ret
      exact ⟨rfl, HB.out⟩
theorem br_at12 (s : ByteArray) (g cap : Nat) (fr : Nat × Nat) (w : World) (hc : s.size ≤ cap) (hg : w.heap[g]? = some (.cells (bytesRow s cap) 5 fr)) : BxAt s.data.toList (some ⟨g, 0, none⟩) cap g 0 w :=
  ⟨fun _ => rfl, fun i hi => by
    have h2 : i < s.size := by rw [lenB] at hi; exact hi
    rw [Nat.zero_add, cell_of_row w g i _ _ _ hg, bytesRow_at s cap i h2]
    rfl, by rw [lenB]; exact hc, fun h => by cases h⟩
theorem br_size12 (s : ByteArray) (cap : Nat) (h : s.size ≤ cap) : (bytesRow s cap).size = cap := by
  unfold bytesRow
  have : s.data.size = s.size := rfl
  simp [this]; omega
set_option maxRecDepth 100000 in
set_option maxHeartbeats 4000000 in
theorem bad12_yes (s : ByteArray) (c m : Int) (w : World) (hs : s.size ≤ 1000000) (hm : MxAt m w) (hr : readD resD s.data.toList = (msg0, 0, c)) :
    Calls Tryd.prog 26 #[.string s, .int .i64 c] w fun e w' => e = .returned (.bool true) ∧ Below w.heap.size w w' := by
  have hcv := run_bytes_of_string (P := Tryd.prog) w 9 24 5 s Tryd.underlying9 Tryd.underlying24 Tryd.underlying5
  have hge := grownCap_ge w s.size 0 5
  have hle : grownCap w s.size 0 5 ≤ maxLen := grownCap_le_maxLen w s.size 0 _ (by unfold maxLen; omega)
  generalize grownCap w s.size 0 5 = cap at *
  rw [br_size12 s cap hge] at hcv
  obtain ⟨W, HW⟩ : ∃ W, Hid (w.drew.alloc (.cells (bytesRow s cap) 5 (cap, cap + 1)) = W) := ⟨_, Lib.hid rfl⟩
  have HB : Hid (Below w.heap.size w W) := Lib.hid (by rw [← HW.out]; exact (Below.refl _ _).drew.alloc (Nat.le_refl _) _)
  have HG : Hid (W.heap[w.heap.size]? = some (.cells (bytesRow s cap) 5 (cap, cap + 1))) := Lib.hid (by rw [← HW.out]; exact heap_alloc_new w.drew _)
  have HC := Lib.hid (Get_any s.data.toList (some ⟨w.heap.size, 0, none⟩) cap w.heap.size 0 m W (br_at12 s _ cap _ W hge HG.out) hle (hm.later HB.out))
  rw [hr, lenB] at HC
  rw [HW.out] at hcv
  clear hr hm hge hle
  go_enter Tryd.func26, Tryd.ntmps26
  go_wp2_with fail
  refine HC.out.mono ?_
  rintro e w3 ⟨v, F, hF, rfl, ho, b3⟩
  have hF0 : F = [] := by
    have : (flL F).length = 0 := by rw [hF]; rfl
    rw [flL_len] at this
    exact List.length_eq_zero_iff.1 this
  subst hF0
  obtain ⟨vp, vc, rfl⟩ := own_form ho
  have HB3 := Lib.hid (HB.out.trans (b3.mono HB.out.size))
  obtain ⟨W5, HW5⟩ : ∃ W, Hid (w3.alloc (.cells (msC fst0 (.slice vp 0 vc)) 26) = W) := ⟨_, Lib.hid rfl⟩
  have HN5 : Hid (W5.heap[w3.heap.size]? = some (.cells (msC fst0 (.slice vp 0 vc)) 26 (0, 0))) := Lib.hid (by rw [← HW5.out]; exact heap_alloc_new w3 _)
  have HB5 : Hid (Below w.heap.size w W5) := Lib.hid (by rw [← HW5.out]; exact HB3.out.alloc HB3.out.size _)
  have c2 : W5.cell? ⟨w3.heap.size, 2, none⟩ = some (.int .i64 0) := by rw [cell_of_row W5 _ 2 _ _ _ HN5.out]; rfl
  have c3 : W5.cell? ⟨w3.heap.size, 3, none⟩ = some (.slice vp 0 vc) := by rw [cell_of_row W5 _ 3 _ _ _ HN5.out]; rfl
  clear hF ho b3 hcv
  go_wp2_with (refine wpL_store_row rfl 26 _ _ rfl w3.heap.size (msC fst0 (.slice vp 0 vc)) ?_ ?_ 26 (msC fst0 (.slice none 0 0)) (heap_alloc_new _ _) infoMs rfl (msC_one _ _ rfl) ?_; (exact rfl); (exact rfl); (rw [World.setRow_alloc_new, HW5.out]))
  go_ret
  exact ⟨rfl, HB5.out⟩
theorem SameTexts12_eq (ga oa ca gb ob cb : Nat) (L : List ByteArray) (w : World) (hn : L.length ≤ maxLen)
    (hA : ∀ j (h : j < L.length), w.cell? ⟨ga, oa + j, none⟩ = some (.string L[j])) (hB : ∀ j (h : j < L.length), w.cell? ⟨gb, ob + j, none⟩ = some (.string L[j])) :
    Calls Tryd.prog 14 #[.slice (some ⟨ga, oa, none⟩) L.length ca, .slice (some ⟨gb, ob, none⟩) L.length cb] w fun e w' => e = .returned (.bool true) ∧ Below w.heap.size w w' := by
  unfold maxLen at hn
  have HA := Lib.hid hA; clear hA
  have HB := Lib.hid hB; clear hB
  go_enter Tryd.func14, Tryd.ntmps14
  go_wp2
  go_loopw [5] (fun i wr => ∃ k : Nat, k ≤ L.length ∧ i = .int .i64 k ∧ ∃ m, wr = w.drewN m) (fun i _ => L.length - (intOf i).toNat)
  case atStart => exact ⟨0, Nat.zero_le _, rfl, 0, rfl⟩
  case round =>
    obtain ⟨k, hk, rfl, m, rfl⟩ := hrel
    by_cases hlt : k < L.length
    · have ha := HA.out k hlt
      have hb := HB.out k hlt
      have hlt' : (k : Int) < (L.length : Int) := by omega
      have hne : (L[k].toList != L[k].toList) = false := by simp
      go_wp2
      go_quiet (fail)
      go_wp2
      exact ⟨⟨k + 1, by omega, by go_num, _, rfl⟩, by simp [intOf]; omega⟩
    · go_wp2
      go_ret
      exact ⟨rfl, rfl, rfl, rfl, Nat.le_refl _, fun _ _ => rfl⟩
theorem ownB_back {base : Nat} {v : Value} {l : List UInt8} {w : World} (h : OwnB base v l w) : (convert 24 9 v).run Tryd.prog w = .ok (.string (asB l)) w := by
  obtain ⟨_, ⟨rfl, hn⟩ | ⟨g, cap, cur, rfl, hgb, hg, hnc, hcm, hcs, hct⟩⟩ := h.h
  · obtain rfl : l = [] := List.eq_nil_of_length_eq_zero hn
    simp [convert, run_underlying Tryd.underlying24, run_underlying Tryd.underlying9, run_underlying Tryd.underlying5]
    rfl
  · refine run_convert_bytes_back (P := Tryd.prog) w 24 9 5 ⟨g, 0, none⟩ cap l Tryd.underlying24 Tryd.underlying5 Tryd.underlying9 (fun j hj => ?_)
    have h2 := h.h.cellAt j (by omega)
    rw [show (⟨g, 0, none⟩ : Addr).add j = ⟨g, j, none⟩ by unfold Addr.add; split <;> simp_all, h2, List.getElem?_map, List.getElem?_eq_getElem hj]; rfl
/-- What a row of the call's own holds. -/
theorem ownB_at {base : Nat} {v : Value} {l : List UInt8} {w : World} (h : OwnB base v l w) : ∃ a cap g, v = .slice a l.length cap ∧ BxAt l a cap g 0 w ∧ cap ≤ maxLen ∧ (0 < l.length → base ≤ g) := by
  obtain ⟨hl, h2 | ⟨g, cap, cur, rfl, hgb, hg, hnc, hcm, hcs, hct⟩⟩ := h.h
  · have : l = [] := List.length_eq_zero_iff.1 h2.2
    subst this
    exact ⟨none, 0, 0, h2.1, ⟨fun h => absurd h (Nat.lt_irrefl _), fun i h => absurd h (Nat.not_lt_zero _), Nat.le_refl _, fun _ => rfl⟩, by unfold maxLen; omega, fun h => absurd h (Nat.lt_irrefl _)⟩
  · exact ⟨some ⟨g, 0, none⟩, cap, g, rfl, ⟨fun _ => rfl, fun i hi => by
      rw [Nat.zero_add, h.h.cellAt i (by omega), List.getElem?_map, List.getElem?_eq_getElem hi]; rfl, hnc, fun e => by cases e⟩, hcm, fun _ => hgb⟩
theorem ownF_at {base : Nat} {v : Value} {F : List BF} {w : World} (h : OwnF base v F w) : ∃ a cap g, v = .slice a F.length cap ∧ FxAt F a g 0 w ∧ (0 < F.length → base ≤ g) := by
  obtain ⟨hl, h2 | ⟨g, cap, cur, rfl, hgb, hg, hnc, hcm, hcs, hct⟩⟩ := h.h
  · have : F = [] := List.length_eq_zero_iff.1 h2.2
    subst this
    exact ⟨none, 0, 0, h2.1, ⟨fun h => absurd h (Nat.lt_irrefl _), fun i h => absurd h (Nat.not_lt_zero _), fun i h => absurd h (Nat.not_lt_zero _)⟩, fun h => absurd h (Nat.lt_irrefl _)⟩
  · refine ⟨some ⟨g, 0, none⟩, cap, g, rfl, ⟨fun _ => rfl, fun i hi => ?_, fun i hi => ?_⟩, fun _ => hgb⟩
    · rw [Nat.zero_add, h.h.cellAt (i * 2) (by omega)]; exact (fcells_at F i hi).1
    · rw [Nat.zero_add, h.h.cellAt (i * 2 + 1) (by omega)]; exact (fcells_at F i hi).2
theorem ownS_at {base : Nat} {v : Value} {L : List (List UInt8)} {w : World} (h : OwnS base v L w) : ∃ a cap g, v = .slice a L.length cap ∧ (0 < L.length → a = some ⟨g, 0, none⟩) ∧ (∀ i (h : i < L.length), w.cell? ⟨g, i, none⟩ = some (.string (asB L[i]))) ∧ (0 < L.length → base ≤ g) := by
  obtain ⟨hl, h2 | ⟨g, cap, cur, rfl, hgb, hg, hnc, hcm, hcs, hct⟩⟩ := h.h
  · have : L = [] := List.length_eq_zero_iff.1 h2.2
    subst this
    exact ⟨none, 0, 0, h2.1, fun h => absurd h (Nat.lt_irrefl _), fun i h => absurd h (Nat.not_lt_zero _), fun h => absurd h (Nat.lt_irrefl _)⟩
  · refine ⟨some ⟨g, 0, none⟩, cap, g, rfl, fun _ => rfl, fun i hi => ?_, fun _ => hgb⟩
    rw [h.h.cellAt i (by omega), List.getElem?_map, List.getElem?_eq_getElem hi]; rfl
theorem flL_inj {F G : List BF} (h : flL F = flL G) : F = G := by
  have := congrArg (List.map bfF) h
  unfold flL at this
  rw [List.map_map, List.map_map] at this
  have e : (bfF ∘ flB) = id := by funext f; exact flB_back f
  rw [e, List.map_id, List.map_id] at this
  exact this
theorem hdW_step {P : Program} {ops : Array Oper} {Q : Exit → Act → World → Prop} {a : Act} {w : World} {rest : List Oper} {o : Oper} (hw : Region.wanted o (yielded ops a.tmps) = true)
    (h : ∀ K : Act → World → Prop, (∀ a w, wpList P ops Q rest a w → K a w) → o.wp P a w K Q) : wpList P ops Q (o :: rest) a w :=
  wpList_step fun K hK => by rw [if_pos hw]; exact h K hK
theorem hdW_load {P : Program} {ops : Array Oper} {rest : List Oper} {o : Oper} {a : Act} {w : World} {Q : Exit → Act → World → Prop} (hw : Region.wanted o (yielded ops a.tmps) = true) (ty : TypeId) (x : Operand) (ho : o.op = .load ty x)
    (g : Nat) (hx : a.eval x = .pointer (some ⟨g, 0, none⟩)) (t : TypeId) (cs : Array Value) (fr : Nat × Nat) (d : TypeDesc) (hg : w.heap[g]? = some (.cells cs t fr))
    (hu : P.underlying ty = some d) (hd : (match d with | .struct _ | .array _ _ => true | _ => false) = true) (hi : (P.info? ty).map (·.size) = some cs.size)
    (h : wpList P ops Q rest (a.put o.dst (.agg cs)) w) : wpList P ops Q (o :: rest) a w :=
  hdW_step hw fun _ hK => wp_load_row ty x ho g hx t cs fr d hg hu hd hi (hK _ _ h)
theorem hdW_load_mid {P : Program} {ops : Array Oper} {rest : List Oper} {o : Oper} {a : Act} {w : World} {Q : Exit → Act → World → Prop} (hw : Region.wanted o (yielded ops a.tmps) = true) (ty : TypeId) (x : Operand) (ho : o.op = .load ty x)
    (b off : Nat) (hx : a.eval x = .pointer (some ⟨b, off, none⟩)) (cs : List Value) (d : TypeDesc) (hc : w.rangeAt b off cs)
    (hu : P.underlying ty = some d) (hd : d.isRow = true) (hi : (P.info? ty).map (·.size) = some cs.length)
    (h : wpList P ops Q rest (a.put o.dst (.agg cs.toArray)) w) : wpList P ops Q (o :: rest) a w :=
  hdW_step hw fun _ hK => wp_load_mid ty x ho b off hx cs d hc hu hd hi (hK _ _ h)
theorem hdW_bin {P : Program} {ops : Array Oper} {rest : List Oper} {o : Oper} {a : Act} {w : World} {Q : Exit → Act → World → Prop} (hw : Region.wanted o (yielded ops a.tmps) = true) (b : BinOp) (t t2 : TypeId) (x y : Operand) (ho : o.op = .binOp b t x y t2) (v : Value)
    (hg : (eqGuard b t x y (a.eval x) (a.eval y)).run P w = .ok () w) (hr : (binOp b t (a.eval x) (a.eval y)).run P w = .ok v w) (h : wpList P ops Q rest (a.put o.dst v) w) : wpList P ops Q (o :: rest) a w :=
  hdW_step hw fun _ hK => by
    unfold Oper.wp
    have e : (execOp a.eval o).run P w = .ok (.value v) w := by
      simp [execOp, ho, hg, hr, Result.andThen]
    rw [e, Oper.upon_value]
    exact hK _ _ h

end Go.Proofs.YtbfnbjffobhllaaDoor
