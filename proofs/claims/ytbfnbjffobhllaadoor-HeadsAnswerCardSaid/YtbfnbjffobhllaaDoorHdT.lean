/-
  Package heads: the closure that writes a head's lines.
-/
import Derived.Test.YtbfnbjffobhllaaDoorHdS
namespace Go.Proofs.YtbfnbjffobhllaaDoor
open Go.RowKit Go.Shelf
attribute [local go_sem] Oper.semAt_some

theorem linesP_eq (m t : List UInt8) (F : List BF) : linesP m t (flL F) = lineR m t :: (F.map fun f => lineF (flB f)) ++ [[]] := by
  unfold linesP flL
  rw [List.map_map]; rfl
theorem take_lineF {F : List BF} {k : Nat} {x y : ByteArray} (h : F[k]? = some (x, y)) : (F.take (k + 1)).map (fun f => lineF (flB f)) = (F.take k).map (fun f => lineF (flB f)) ++ [lineF (flB (x, y))] := by
  rw [List.take_add_one, List.map_append, h]; rfl
set_option maxHeartbeats 4000000 in
set_option maxRecDepth 1000000 in
theorem written1_in (n : Nat) (_hn : 1 ≤ n) (l Bm n₀ : Nat) (me ta : ByteArray) (st : Int) (aF : Option Addr) (cF b o : Nat) (F : List BF) (vB : Value) (J Jx : List LnP → World → Prop) (W : World)
    (hJ : AbidesFrom W.heap.size J) (hme : me.size ≤ 250000) (hta : ta.size ≤ 250000) (hs : ∀ f ∈ F, f.1.size ≤ 250000 ∧ f.2.size ≤ 250000) (hFn : F.length ≤ 1000000)
    (hY : ∀ pre x W1, J pre W1 → pre.length < F.length + 2 → YieldAt Fence.wide (n - 1) Tryd.prog l (encP x) W1 fun e W' =>
      (e = .returned (.bool true) ∧ J (pre ++ [x]) W' ∧ KpB n₀ Bm W1 W') ∨ (e = .returned (.bool false) ∧ Jx (pre ++ [x]) W'))
    (hBm : W.heap[Bm]? = some (.cells (msgC me ta st (.slice aF F.length cF) vB) 26 (0, 0))) (hF : FxAt F aF b o W) (hb : 0 < F.length → b < n₀) (hn0 : n₀ ≤ W.heap.size) (h0 : J [] W) :
    CallsIn Fence.wide n Tryd.prog 84 #[.func (.yield l) #[] #[], .pointer (some ⟨Bm, 0, none⟩)] W fun e W' => (∃ v, e = .returned v) ∧
      ((∃ ys : List LnP, lpL ys = linesP me.data.toList ta.data.toList (flL F) ∧ J ys W') ∨ (∃ pre : List LnP, lpL pre <+: linesP me.data.toList ta.data.toList (flL F) ∧ Jx pre W')) := by
  have HFx := Lib.hid hF
  have HS := Lib.hid hs
  have HBm := Lib.hid hBm
  have HB0 := Lib.hid hb
  have HLP := Lib.hid (linesP_eq me.data.toList ta.data.toList F)
  have c0 : W.cell? ⟨Bm, 0, none⟩ = some (.string me) := by rw [cell_of_row W Bm 0 _ _ _ hBm]; rfl
  have c1 : W.cell? ⟨Bm, 1, none⟩ = some (.string ta) := by rw [cell_of_row W Bm 1 _ _ _ hBm]; rfl
  obtain ⟨R, HR⟩ : ∃ R, Hid (linesP me.data.toList ta.data.toList (flL F) = R) := ⟨_, Lib.hid rfl⟩
  rw [HR.out] at HLP ⊢
  have hl0 := lineR_len me ta
  obtain ⟨L0, HL0⟩ : ∃ R, Hid (lineR me.data.toList ta.data.toList = R) := ⟨_, Lib.hid rfl⟩
  have hL0 : L0.length ≤ 1000000 := by rw [← HL0.out, hl0]; omega
  have hcat : asB L0 = me ++ ⟨#[32]⟩ ++ ta ++ ⟨#[32]⟩ ++ ⟨#[72, 84, 84, 80, 47, 49, 46, 49]⟩ := by rw [← HL0.out]; exact cat_R me ta
  rw [HL0.out] at HLP
  obtain ⟨fn, tmps, assign, body, hy, hR⟩ := hY [] ⟨L0, hL0⟩ W h0 (by simp)
  dsimp only [encP] at hy
  rw [hcat] at hy
  have z1 : ¬ 9223372036854775807 < me.size + 1 := by omega
  have z2 : ¬ 9223372036854775807 < me.size + 1 + ta.size := by omega
  have z3 : ¬ 9223372036854775807 < me.size + 1 + ta.size + 1 := by omega
  have z4 : ¬ 9223372036854775807 < me.size + 1 + ta.size + 1 + 8 := by omega
  obtain ⟨nF, HN⟩ : ∃ n, Hid (F.length = n) := ⟨_, Lib.hid rfl⟩
  have HY := Lib.hid hY
  rw [HN.out] at hFn
  clear hF hs hBm hb h0 hl0 hcat hY
  refine callsIn_of_wp Tryd.func84 rfl trivial ?_ rfl
  simp only [Tryd.ntmps84, List.size_toArray, List.length_cons, List.length_nil, Nat.reduceAdd, Nat.reduceSub, Array.replicate_succ, Array.replicate_zero, List.push_toArray, List.append_toArray, List.nil_append, List.cons_append]
  gi_wp2_with fail
  refine hR.mono ?_
  rintro e W1 (⟨rfl, hJ1, hk1⟩ | ⟨rfl, hJx1⟩)
  · have HJ1 := Lib.hid hJ1
    have HK1 := Lib.hid hk1
    have c3 : W1.cell? ⟨Bm, 3, none⟩ = some (.slice aF nF cF) := by rw [cell_of_row W1 Bm 3 _ _ _ (hk1.2.trans HBm.out), ← HN.out]; rfl
    clear hJ1 hk1 c0 c1 hy hR
    gi_wp2
    gi_loopw [4, 19] (fun _ i wr => ∃ (k : Nat) (pre : List LnP), k ≤ nF ∧ i = .int .i64 k ∧ Hid (pre.length = k + 1) ∧ Hid (lpL pre = L0 :: (F.take k).map fun f => lineF (flB f)) ∧ Hid (J pre wr) ∧ Hid (KpB n₀ Bm W wr)) (fun _ i _ => nF - (intOf i).toNat)
    case atStart => exact ⟨0, [⟨L0, hL0⟩], Nat.zero_le _, rfl, Lib.hid rfl, Lib.hid rfl, HJ1, HK1⟩
    case round =>
      obtain ⟨k, pre, hk, rfl, HPl, HE, HJ, HK⟩ := hrel
      clear c3
      by_cases hlt : k < nF
      · have hkF : k < F.length := by rw [HN.out]; exact hlt
        have HF1 : Hid (FxAt F aF b o wr) := Lib.hid ⟨HFx.out.at0, fun i hi => (HK.out.1.cell (p := ⟨b, o + i * 2, none⟩) (HB0.out (by omega))).trans (HFx.out.c0 i hi), fun i hi => (HK.out.1.cell (p := ⟨b, o + i * 2 + 1, none⟩) (HB0.out (by omega))).trans (HFx.out.c1 i hi)⟩
        obtain ⟨x, y, hx⟩ := nx_of HF1.out hkF
        have HX := Lib.hid hx
        obtain rfl := HF1.out.at0 (by omega)
        have hltI : (k : Int) < (nF : Int) := by omega
        obtain ⟨hxs, hys⟩ := HS.out _ (List.mem_of_getElem? HX.out.e)
        have hxs : x.size ≤ 250000 := hxs
        have hys : y.size ≤ 250000 := hys
        have hl1 := lineF_len x y
        obtain ⟨L1, HL1⟩ : ∃ R, Hid (lineF (flB (x, y)) = R) := ⟨_, Lib.hid rfl⟩
        have hL1 : L1.length ≤ 1000000 := by rw [← HL1.out, hl1]; omega
        have hcat : asB L1 = x ++ ⟨#[58]⟩ ++ ⟨#[32]⟩ ++ y := by rw [← HL1.out]; exact cat_F x y
        have y1 : ¬ 9223372036854775807 < x.size + 1 := by omega
        have y2 : ¬ 9223372036854775807 < x.size + 1 + 1 := by omega
        have y3 : ¬ 9223372036854775807 < x.size + 1 + 1 + y.size := by omega
        have HE2 : Hid (lpL (pre ++ [⟨L1, hL1⟩]) = L0 :: (F.take (k + 1)).map fun f => lineF (flB f)) := Lib.hid (by rw [lpL_app, HE.out, take_lineF HX.out.e, HL1.out]; rfl)
        obtain ⟨W3, HW3⟩ : ∃ W3, Hid (wr.alloc (.cells #[.string x, .string y] 57) = W3) := ⟨_, Lib.hid rfl⟩
        have b3 : Below wr.heap.size wr W3 := by rw [← HW3.out]; exact (Below.refl _ _).alloc (Nat.le_refl _) _
        have HK3 : Hid (KpB n₀ Bm W W3) := Lib.hid (kpB_t HK.out ⟨b3.mono (Nat.le_trans hn0 HK.out.1.size), b3.block Bm (Nat.lt_of_lt_of_le (lt_of_block HBm.out) HK.out.1.size)⟩)
        have HJ3 : Hid (J pre W3) := Lib.hid (hJ pre wr W3 none HJ.out (grown_below b3) (fun r e => by cases e))
        have HG3 : Hid (W3.heap[wr.heap.size]? = some (.cells #[.string x, .string y] 57 (0, 0))) := Lib.hid (by rw [← HW3.out]; exact heap_alloc_new wr _)
        have d0 : W3.cell? ⟨wr.heap.size, 0, none⟩ = some (.string x) := by rw [cell_of_row W3 _ 0 _ _ _ HG3.out]; rfl
        have d1 : W3.cell? ⟨wr.heap.size, 1, none⟩ = some (.string y) := by rw [cell_of_row W3 _ 1 _ _ _ HG3.out]; rfl
        obtain ⟨fn, tmps, assign, body, hy, hR⟩ := HY.out pre ⟨L1, hL1⟩ W3 HJ3.out (by rw [HPl.out, HN.out]; omega)
        dsimp only [encP] at hy
        rw [hcat] at hy
        have eW3 := HW3.out
        subst eW3
        clear b3 hx hkF hl1 hcat
        gi_wp2_with (first
          | (refine hdIn_load_mid rfl 57 _ rfl b (o + k * 2) ?_ [.string x, .string y] _ HX.out.r Tryd.underlying57 rfl (infoFd2 _ _) ?_; (exact rfl))
          | (refine hdIn_store_row rfl 57 _ _ rfl wr.heap.size #[.string x, .string y] ?_ ?_ 57 #[.string ⟨#[]⟩, .string ⟨#[]⟩] (heap_alloc_new _ _) infoFd rfl rfl ?_; (exact rfl); (exact rfl); (rw [World.setRow_alloc_new, HW3.out])))
        refine hR.mono ?_
        rintro e W4 (⟨rfl, hJ4, hk4⟩ | ⟨rfl, hJx4⟩)
        · have HJ4 := Lib.hid hJ4
          have HK4 : Hid (KpB n₀ Bm W W4) := Lib.hid (kpB_t HK3.out hk4)
          clear hJ4 hk4
          gi_wp2
          go_roundw
          case rel => exact ⟨k + 1, pre ++ [⟨L1, hL1⟩], by omega, by go_num, Lib.hid (by rw [List.length_append, HPl.out]; rfl), HE2, HJ4, HK4⟩
          case measure => simp [intOf]; omega
        · have HJ4 := Lib.hid hJx4
          clear hJx4
          gi_wp2
          refine bodyPost_ret (results_none rfl _ _ _) rfl ?_
          refine ⟨⟨_, rfl⟩, .inr ⟨_, ?_, HJ4.out⟩⟩
          rw [HE2.out, HLP.out]
          refine ⟨((F.drop (k + 1)).map fun f => lineF (flB f)) ++ [[]], ?_⟩
          rw [List.cons_append, ← List.append_assoc, ← List.map_append, List.take_append_drop]; rfl
      · have HE3 : Hid (lpL (pre ++ [⟨[], Nat.zero_le _⟩]) = R) := Lib.hid (by
          rw [lpL_app, HE.out, List.take_of_length_le (by rw [HN.out]; omega), HLP.out])
        obtain ⟨fn, tmps, assign, body, hy, hR⟩ := HY.out pre ⟨[], Nat.zero_le _⟩ wr HJ.out (by rw [HPl.out, HN.out]; omega)
        dsimp only [encP] at hy
        rw [show asB [] = (⟨#[]⟩ : ByteArray) from rfl] at hy
        gi_wp2_with fail
        refine hR.mono ?_
        rintro e W4 (⟨rfl, hJ4, hk4⟩ | ⟨rfl, hJx4⟩)
        · have HJ4 := Lib.hid hJ4
          clear hJ4 hk4
          gi_wp2
          go_end0
          exact ⟨⟨_, rfl⟩, .inl ⟨_, HE3.out, HJ4.out⟩⟩
        · have HJ4 := Lib.hid hJx4
          clear hJx4
          gi_wp2
          go_end0
          exact ⟨⟨_, rfl⟩, .inr ⟨_, by rw [HE3.out]; exact ⟨[], List.append_nil _⟩, HJ4.out⟩⟩
  · have HJ4 := Lib.hid hJx1
    clear hJx1
    gi_wp2
    refine bodyPost_ret (results_none rfl _ _ _) rfl ?_
    exact ⟨⟨_, rfl⟩, .inr ⟨_, by rw [HLP.out]; exact ⟨_, rfl⟩, HJ4.out⟩⟩

end Go.Proofs.YtbfnbjffobhllaaDoor
