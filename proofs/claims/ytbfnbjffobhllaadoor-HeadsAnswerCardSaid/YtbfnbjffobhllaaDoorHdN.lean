/-
  Package heads: one more text, one more field, put behind a row of the call's own; Find.
-/
import Derived.Test.YtbfnbjffobhllaaDoorHdC
import Derived.Test.YtbfnbjffobhllaaDoorHdR
import Derived.ArgAppend
namespace Go.Proofs.YtbfnbjffobhllaaDoor
open Go.RowKit

theorem infoSx : (Tryd.prog.info? 9).map (fun i => (i.zero, i.size, i.bytes)) = some (some (.string ⟨#[]⟩), 1, 16) := by kernel_rfl
theorem infoFx : (Tryd.prog.info? 57).map (fun i => (i.zero, i.size, i.bytes)) = some (some (.agg #[.string ⟨#[]⟩, .string ⟨#[]⟩]), 2, 32) := by kernel_rfl
/-- An append of which the run is known. -/
theorem hd_ran {P : Program} {ops : Array Oper} {Q : Exit → Act → World → Prop} {a : Act} {w : World} {rest : List Oper} {o : Oper} (hw : Region.wanted o (yielded ops a.tmps) = true)
    (s x : Operand) (t u : TypeId) (hop : o.op = Op.call { callee := Callee.builtin Builtin.append, args := #[s, x], argTypes := #[t, u] }) (vs vx v' : Value) (w' : World) (hs : a.eval s = vs) (hx : a.eval x = vx)
    (hrun : (Builtin.append_ #[t, u] o.type #[vs, vx]).run P w = .ok v' w') (h : wpList P ops Q rest (a.put o.dst v') w') : wpList P ops Q (o :: rest) a w := by
  refine wpList_step fun K hK' => ?_
  rw [if_pos hw]
  unfold Oper.wp
  simp [execOp, hop, resolve, invoke, builtin, hs, hx, hrun, Result.andThen]
  exact hK' _ _ h
theorem own_below {w w1 : World} {base : Nat} {e : TypeId} {sz n : Nat} {v : Value} {xs : List Value} (o : Obj) (hb : base ≤ w.heap.size) (hown : w.ownsRow base e sz v n xs) (hg : (w.alloc o).grownBy w1 v.ownBlock) : Below base w w1 :=
  ⟨hg.os, hg.tape, hg.output, Nat.le_trans (by simp) hg.size, fun q hq => by
    have hne : some q ≠ v.ownBlock := fun e => by
      have := (hown.lt q e.symm).1
      omega
    rw [hg.block q (by show q < (w.alloc _).heap.size; simp; omega) hne]; exact Below.heap_alloc _ _ _ (by omega)⟩
/-- What a step of the kind leaves. -/
structure OwnS (base : Nat) (v : Value) (L : List (List UInt8)) (w : World) : Prop where
  h : w.ownsRow base 9 1 v L.length (L.map fun l => Value.string (asB l))
theorem OwnS.nil (base : Nat) (w : World) : OwnS base (.slice none 0 0) [] w := ⟨World.ownsRow_nil _ _ _ _⟩
theorem OwnS.later {base : Nat} {v : Value} {L : List (List UInt8)} {w w' : World} (h : OwnS base v L w) (hb : Below w.heap.size w w') : OwnS base v L w' := ⟨own_kept h.h (Kp.of_below (X := fun _ => False) hb) fun _ _ => id⟩
theorem OwnS.step {base : Nat} {v : Value} {L : List (List UInt8)} {w : World} (h : OwnS base v L w) (l : List UInt8) (x : ByteArray) (hx : x = asB l) (hn : L.length ≤ 10000000) (hb : base ≤ w.heap.size) :
    ∃ v' w1, (Builtin.append_ #[29, 29] 29 #[v, .slice (some ⟨w.heap.size, 0, none⟩) 1 1]).run Tryd.prog (w.alloc (.cells #[.string x] 9)) = .ok v' w1 ∧ OwnS base v' (L ++ [l]) w1 ∧ Below base w w1 := by
  subst hx
  obtain ⟨i0, hi, hz0, hz1, hz2⟩ := info_parts infoSx
  have hnews : ∀ j u, ([.string (asB l)] : List Value)[j]? = some u → (w.alloc (.cells #[.string (asB l)] 9)).cell? ((⟨w.heap.size, 0, none⟩ : Addr).add j) = some u :=
    World.news_of_block (cs := #[.string (asB l)]) (t := 9) (fr := (0, 0)) (heap_alloc_new w _)
  obtain ⟨v', w1, hrun, hown', hgrow, _⟩ := run_append_own (P := Tryd.prog) (w.alloc (.cells #[.string (asB l)] 9)) base 29 29 9 i0 (.string ⟨#[]⟩) 1 16 Tryd.underlying29 hi hz0 hz1 hz2 rfl (by decide)
    v _ _ (h.h.alloc _) ⟨w.heap.size, 0, none⟩ 1 1 [.string (asB l)] (by simp) hnews (by simp [Value.oneCell']) (by unfold maxLen; omega) (by omega) (by simp; omega)
  refine ⟨v', w1, hrun, ⟨?_⟩, own_below _ hb h.h hgrow⟩
  rw [List.length_append, List.map_append]; exact hown'
/-- Fields in a row of the call's own. -/
structure OwnF (base : Nat) (v : Value) (F : List BF) (w : World) : Prop where
  h : w.ownsRow base 57 2 v F.length (fcells F)
theorem OwnF.nil (base : Nat) (w : World) : OwnF base (.slice none 0 0) [] w := ⟨World.ownsRow_nil _ _ _ _⟩
theorem OwnF.later {base : Nat} {v : Value} {F : List BF} {w w' : World} (h : OwnF base v F w) (hb : Below w.heap.size w w') : OwnF base v F w' := ⟨own_kept h.h (Kp.of_below (X := fun _ => False) hb) fun _ _ => id⟩
theorem OwnF.step {base : Nat} {v : Value} {F : List BF} {w : World} (h : OwnF base v F w) (f : BF) (hn : F.length ≤ 10000000) (hb : base ≤ w.heap.size) :
    ∃ v' w1, (Builtin.append_ #[22, 22] 22 #[v, .slice (some ⟨w.heap.size, 0, none⟩) 1 1]).run Tryd.prog (w.alloc (.cells #[.string f.1, .string f.2] 57)) = .ok v' w1 ∧ OwnF base v' (F ++ [f]) w1 ∧ (w.alloc (.cells #[.string f.1, .string f.2] 57)).grownBy w1 v.ownBlock := by
  obtain ⟨i0, hi, hz0, hz1, hz2⟩ := info_parts infoFx
  have hnews : ∀ j u, ([.string f.1, .string f.2] : List Value)[j]? = some u → (w.alloc (.cells #[.string f.1, .string f.2] 57)).cell? ((⟨w.heap.size, 0, none⟩ : Addr).add j) = some u :=
    World.news_of_block (cs := #[.string f.1, .string f.2]) (t := 57) (fr := (0, 0)) (heap_alloc_new w _)
  obtain ⟨v', w1, hrun, hown', hgrow, _⟩ := run_append_own (P := Tryd.prog) (w.alloc (.cells #[.string f.1, .string f.2] 57)) base 22 22 57 i0 (.agg #[.string ⟨#[]⟩, .string ⟨#[]⟩]) 2 32 Tryd.underlying22 hi hz0 hz1 hz2 rfl (by decide)
    v _ _ (h.h.alloc _) ⟨w.heap.size, 0, none⟩ 1 1 [.string f.1, .string f.2] (by simp) hnews (by simp [Value.oneCell']) (by unfold maxLen; omega) (by omega) (by simp; omega)
  refine ⟨v', w1, hrun, ⟨?_⟩, hgrow⟩
  rw [List.length_append, fcells_app]; exact hown'
/-- What Find answers. -/
def FindR (w : World) (L : List (List UInt8)) (e : Ending) (w' : World) : Prop := ∃ v, e = .returned v ∧ OwnS w.heap.size v L w' ∧ Below w.heap.size w w'
theorem same_dec (x n : ByteArray) : sameS x n = decide (x.data.toList.map low = n.data.toList.map low) := by
  unfold sameS lowS
  rw [Lib.toList_data, Lib.toList_data]
  show (x.data.toList.map low == n.data.toList.map low) = _
  by_cases h : x.data.toList.map low = n.data.toList.map low
  · rw [h]; simp
  · rw [beq_eq_false_iff_ne.2 h, decide_eq_false h]
theorem take_flL {F : List BF} {k : Nat} {x y : ByteArray} (h : F[k]? = some (x, y)) : flL (F.take (k + 1)) = flL (F.take k) ++ [(x.data.toList, y.data.toList)] := by
  unfold flL
  rw [List.take_add_one, List.map_append, h]; rfl
set_option maxRecDepth 100000 in
set_option maxHeartbeats 4000000 in
theorem Find_any (aF : Option Addr) (cF b o : Nat) (F : List BF) (nm : ByteArray) (w : World) (hF : FxAt F aF b o w) (hm : nm.size ≤ maxLen)
    (hs : ∀ f ∈ F, f.1.size ≤ maxLen) (hn : F.length ≤ 1000000) :
    Calls Tryd.prog 13 #[.slice aF F.length cF, .string nm] w (FindR w (findD (flL F) nm.data.toList)) := by
  have HSm := Lib.hid fun (x : ByteArray) (hx : x.size ≤ maxLen) w => Same_any x nm w hx hm
  have HS := Lib.hid hs
  have HFx := Lib.hid hF
  obtain ⟨R, HR⟩ : ∃ R, Hid (findD (flL F) nm.data.toList = R) := ⟨_, Lib.hid rfl⟩
  rw [HR.out]
  obtain ⟨n, HN⟩ : ∃ n, Hid (F.length = n) := ⟨_, Lib.hid rfl⟩
  have HNs := Lib.hid hn
  rw [HN.out] at hn ⊢
  clear hF hm hs
  go_enter Tryd.func13, Tryd.ntmps13
  go_wp2
  go_loopw [5, 7, 10] (fun v _ i wr => ∃ (k : Nat) (V : Value), k ≤ n ∧ V = v ∧ i = .int .i64 k ∧ Hid (Below w.heap.size w wr) ∧ Hid (OwnS w.heap.size V (findD (flL (F.take k)) nm.data.toList) wr)) (fun _ _ i _ => n - (intOf i).toNat)
  case atStart => exact ⟨0, _, Nat.zero_le _, rfl, rfl, Lib.hid (Below.refl _ _), Lib.hid (OwnS.nil _ _)⟩
  case round =>
    obtain ⟨k, v7, hk, hv7, rfl, HB, HO⟩ := hrel
    subst hv7
    by_cases hlt : k < n
    · have hkF : k < F.length := by rw [HN.out]; exact hlt
      have HF1 := Lib.hid (HFx.out.later HB.out)
      obtain ⟨x, y, hx⟩ := nx_of HF1.out hkF
      have HX := Lib.hid hx
      obtain rfl := HF1.out.at0 (by omega)
      have hltI : (k : Int) < (n : Int) := by omega
      have HC := Lib.hid fun w => HSm.out x (HS.out _ (List.mem_of_getElem? HX.out.e)) w
      have HL : Hid ((findD (flL (F.take k)) nm.data.toList).length ≤ 10000000) := Lib.hid (by
        have h1 := find_le (flL (F.take k)) nm.data.toList
        have h2 : (flL (F.take k)).length ≤ F.length := by rw [flL_len]; exact List.length_take_le' ..
        have := HNs.out
        omega)
      have HK : Hid (findD (flL (F.take (k + 1))) nm.data.toList = findD (flL (F.take k)) nm.data.toList ++ if sameS x nm = true then [y.data.toList] else []) := Lib.hid (by
        rw [take_flL HX.out.e, find_snoc, same_dec]
        by_cases h : x.data.toList.map low = nm.data.toList.map low
        · rw [if_pos h, if_pos (decide_eq_true h)]
        · rw [if_neg h, if_neg (by rw [decide_eq_false h]; simp)])
      obtain ⟨f, Hf⟩ : ∃ f, Hid (sameS x nm = f) := ⟨_, Lib.hid rfl⟩
      rw [Hf.out] at HC HK
      obtain ⟨W, HW⟩ : ∃ W, Hid (wr.alloc (.cells #[.string x, .string y] 57) = W) := ⟨_, Lib.hid rfl⟩
      have HBW : Hid (Below w.heap.size w W) := Lib.hid (by rw [← HW.out]; exact HB.out.alloc HB.out.size _)
      have HGW : Hid (W.heap[wr.heap.size]? = some (.cells #[.string x, .string y] 57 (0, 0))) := Lib.hid (by rw [← HW.out]; exact heap_alloc_new wr _)
      have HOW : Hid (OwnS w.heap.size v7 (findD (flL (F.take k)) nm.data.toList) W) := Lib.hid (by rw [← HW.out]; exact ⟨HO.out.h.alloc _⟩)
      have cW0 : W.cell? ⟨wr.heap.size, 0, none⟩ = some (.string x) := by rw [cell_of_row W _ 0 _ _ _ HGW.out]; rfl
      clear hx hkF
      go_wp2_with (first
        | (refine wpList_load_mid rfl 57 _ rfl b (o + k * 2) ?_ [.string x, .string y] _ HX.out.r Tryd.underlying57 rfl (infoFd2 _ _) ?_; (exact rfl))
        | (refine wpL_store_row rfl 57 _ _ rfl wr.heap.size #[.string x, .string y] ?_ ?_ 57 #[.string ⟨#[]⟩, .string ⟨#[]⟩] (heap_alloc_new _ _) infoFd rfl rfl ?_; (exact rfl); (exact rfl); (rw [World.setRow_alloc_new, HW.out])))
      rw [HW.out]
      refine (HC.out W).mono ?_
      rintro e w2 ⟨rfl, hb⟩
      have HB2 := Lib.hid (HBW.out.trans (hb.mono HBW.out.size))
      have HG2 : Hid (w2.heap[wr.heap.size]? = some (.cells #[.string x, .string y] 57 (0, 0))) := Lib.hid ((hb.block _ (lt_of_block HGW.out)).trans HGW.out)
      have HO2 : Hid (OwnS w.heap.size v7 (findD (flL (F.take k)) nm.data.toList) w2) := Lib.hid (HOW.out.later hb)
      have c21 : w2.cell? ⟨wr.heap.size, 1, none⟩ = some (.string y) := by rw [cell_of_row w2 _ 1 _ _ _ HG2.out]; rfl
      clear hb cW0
      cases f with
      | true =>
        obtain ⟨v', w3, hrun, ho3, hb3⟩ := HO2.out.step y.data.toList y (asB_back y).symm HL.out HB2.out.size
        have HRun := Lib.hid hrun
        have HB3 : Hid (Below w.heap.size w w3) := Lib.hid (HB2.out.trans hb3)
        have HO3 : Hid (OwnS w.heap.size v' (findD (flL (F.take (k + 1))) nm.data.toList) w3) := Lib.hid (by rw [HK.out]; exact ho3)
        clear hrun ho3 hb3
        go_wp2_with (refine hd_ran (by rfl) _ _ 29 29 rfl v7 (.slice (some ⟨w2.heap.size, 0, none⟩) 1 1) v' w3 ?_ ?_ HRun.out ?_; (exact rfl); (exact rfl))
        go_roundw
        case rel => exact ⟨k + 1, _, by omega, rfl, by go_num, HB3, HO3⟩
        case measure => simp [intOf]; omega
      | false =>
        have HO3 : Hid (OwnS w.heap.size v7 (findD (flL (F.take (k + 1))) nm.data.toList) w2) := Lib.hid (by rw [HK.out, if_neg (by simp), List.append_nil]; exact HO2.out)
        go_wp2
        go_roundw
        case rel => exact ⟨k + 1, _, by omega, rfl, by go_num, HB2, HO3⟩
        case measure => simp [intOf]; omega
    · have HO3 : Hid (OwnS w.heap.size v7 R wr) := Lib.hid (by rw [← HR.out, ← List.take_of_length_le (l := F) (i := k) (by rw [HN.out]; omega)]; exact HO.out)
      go_wp2
      go_ret
      exact ⟨_, rfl, HO3.out, HB.out⟩

end Go.Proofs.YtbfnbjffobhllaaDoor
