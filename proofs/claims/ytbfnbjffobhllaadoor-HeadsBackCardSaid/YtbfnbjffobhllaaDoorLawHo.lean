/-
  footmanlaw12.HeadsBack: a request that was put is read back.
-/
import Derived.Test.YtbfnbjffobhllaaDoorHdY
import Derived.Test.YtbfnbjffobhllaaDoorHdQ
import Derived.Test.YtbfnbjffobhllaaDoorBeyond
import Derived.Test.YtbfnbjffobhllaaDoorBase
namespace Go.Proofs.YtbfnbjffobhllaaDoor
open Go.RowKit

theorem asB_of (s : ByteArray) : asB s.data.toList = s := by unfold asB; simp
theorem bx_take12 {l : List UInt8} {a : Option Addr} {cap g o : Nat} {w : World} (h : BxAt l a cap g o w) (k : Nat) : BxAt (l.take k) a cap g o w :=
  ⟨fun h0 => h.at0 (by rw [List.length_take] at h0; omega), fun i hi => by
    have hi2 : i < l.length := by rw [List.length_take] at hi; omega
    rw [h.c i hi2, List.getElem_take], by have := h.cp; rw [List.length_take]; omega, h.nl⟩
theorem own_nil12 {base : Nat} {v : Value} {F : List BF} {w : World} (hF : flL F = []) (h : OwnF base v F w) : ∃ p c, v = .slice p 0 c := by
  have hF0 : F = [] := by
    have : (flL F).length = 0 := by rw [hF]; rfl
    rw [flL_len] at this
    exact List.length_eq_zero_iff.1 this
  subst hF0
  exact own_form h
set_option maxRecDepth 100000 in
set_option maxHeartbeats 8000000 in
theorem hback_walk (me ta : ByteArray) (st : Int) (aF : Option Addr) (cF bF oF : Nat) (F : List BF) (aB : Option Addr) (lB cB : Nat) (D : List UInt8) (a2 : Option Addr) (cap2 b2 o2 : Nat) (ct : Nat) (m : Int) (w : World)
    (hF : FxAt F aF bF oF w) (hme : me.size ≤ 140737488355328) (hta : ta.size ≤ 140737488355328) (hFn : F.length ≤ 140737488355328) (hFs : ∀ f ∈ F, f.1.size ≤ 140737488355328 ∧ f.2.size ≤ 140737488355328) (hlB : lB ≤ 140737488355328)
    (hD : BxAt D a2 cap2 b2 o2 w) (hDl : D.length ≤ 140737488355328) (hct : ct < 65536) (hw : MxAt m w) :
    Calls Tryd.prog 4 #[.agg #[.string me, .string ta, .int .i64 st, .slice aF F.length cF, .slice aB lB cB], .slice a2 D.length cap2, .int .u16 (ct : Int)] w fun e w' => e = .returned (.bool true) ∧ Below w.heap.size w w' := by
  have HM := Lib.hid hw
  have HDx := Lib.hid hD
  have HFx := Lib.hid hF
  have HA := Lib.hid fun w' (h : Below w.heap.size w w') => alive12_any m w' (hw.later h)
  have HGr := Lib.hid fun w' (h : Below w.heap.size w w') => great12_any me ta st aF cF bF oF F aB lB cB w' (hF.later h) hme hta hlB hFs hFn
  obtain ⟨N, HN⟩ : ∃ N, Hid (grN (me.size + ta.size + lB) F = N) := ⟨_, Lib.hid rfl⟩
  rw [HN.out] at HGr
  have HSm : Hid (N ≤ 200000 → me.size ≤ 250000 ∧ ta.size ≤ 250000 ∧ (∀ f ∈ F, f.1.size ≤ 250000 ∧ f.2.size ≤ 250000) ∧ F.length ≤ 1000000) := Lib.hid fun h => by
    have h1 := grN_ge F (me.size + ta.size + lB)
    rw [HN.out] at h1
    refine ⟨by omega, by omega, fun f hf => ?_, by omega⟩
    have h2 := grN_mem F (me.size + ta.size + lB) f hf
    rw [HN.out] at h2
    omega
  obtain ⟨nD, HND⟩ : ∃ n, Hid (D.length = n) := ⟨_, Lib.hid rfl⟩
  rw [HND.out] at hDl ⊢
  obtain ⟨W0, HW0⟩ : ∃ W, Hid (w.alloc (.cells #[.string me, .string ta, .int .i64 st, .slice aF F.length cF, .slice aB lB cB] 26) = W) := ⟨_, Lib.hid rfl⟩
  have HB0 : Hid (Below w.heap.size w W0) := Lib.hid (by rw [← HW0.out]; exact (Below.refl _ _).alloc (Nat.le_refl _) _)
  have HG0 : Hid (W0.heap[w.heap.size]? = some (.cells #[.string me, .string ta, .int .i64 st, .slice aF F.length cF, .slice aB lB cB] 26 (0, 0))) := Lib.hid (by rw [← HW0.out]; exact heap_alloc_new w _)
  have HAt : Hid (∀ w', Below W0.heap.size W0 w' → w'.heap[w.heap.size]? = some (.cells #[.string me, .string ta, .int .i64 st, .slice aF F.length cF, .slice aB lB cB] 26 (0, 0))) := Lib.hid fun w' h => (h.block _ (lt_of_block HG0.out)).trans HG0.out
  have HBw : Hid (∀ w', Below W0.heap.size W0 w' → Below w.heap.size w w') := Lib.hid fun w' h => HB0.out.trans (h.mono HB0.out.size)
  have HA0 := Lib.hid (HA.out W0 HB0.out)
  clear hD hF hw hme hta hFn hFs hlB
  go_enter Tryd.func4, Tryd.ntmps4
  go_upto_region 1 with (fail)
  rw [HW0.out]
  go_wp2_with fail
  refine HA0.out.mono ?_
  rintro e w1 ⟨rfl, b1⟩
  have HB1 := Lib.hid b1
  have HG1 := Lib.hid (HAt.out w1 b1)
  clear b1
  go_wp2_with (refine hdW_load rfl 26 _ rfl w.heap.size ?_ 26 #[.string me, .string ta, .int .i64 st, .slice aF F.length cF, .slice aB lB cB] (0, 0) _ HG1.out Tryd.underlying26 rfl infoMs ?_; (exact rfl))
  refine (HGr.out w1 (HBw.out _ HB1.out)).mono ?_
  rintro e w2 ⟨rfl, b2⟩
  have HB2 := Lib.hid (HB1.out.trans (b2.mono HB1.out.size))
  clear b2
  by_cases hbig : 200000 < N
  · have hbd : decide (200000 < N) = true := decide_eq_true hbig
    go_wp2_with fail
    refine (HA.out _ (HBw.out _ HB2.out)).mono ?_
    rintro e w3 ⟨rfl, b3⟩
    go_wp2
    go_ret
    exact ⟨rfl, HBw.out _ (HB2.out.trans (b3.mono HB2.out.size))⟩
  · have hbd : decide (200000 < N) = false := decide_eq_false hbig
    obtain ⟨W3, HW3⟩ : ∃ W, Hid (w2.alloc (.cells #[.int .i64 (nD : Int)] 3) = W) := ⟨_, Lib.hid rfl⟩
    have HB3 : Hid (Below W0.heap.size W0 W3) := Lib.hid (by rw [← HW3.out]; exact HB2.out.alloc HB2.out.size _)
    by_cases hbe : 1048576 < nD
    · have HBy := Lib.hid (Beyond1_yes w2.heap.size nD W3 (by unfold maxLen; omega) (by rw [← HW3.out]; exact pc_cell_new w2 _ _ _ rfl) hbe)
      go_wp2_with fail
      rw [HW3.out]
      refine HBy.out.mono ?_
      rintro e w4 ⟨rfl, rfl⟩
      go_wp2_with fail
      refine (HA.out _ (HBw.out _ HB3.out)).mono ?_
      rintro e w5 ⟨rfl, b5⟩
      go_wp2
      go_ret
      exact ⟨rfl, HBw.out _ (HB3.out.trans (b5.mono HB3.out.size))⟩
    · have HBy := Lib.hid (Beyond1_no w2.heap.size nD W3 (by rw [← HW3.out]; exact pc_cell_new w2 _ _ _ rfl) (by omega))
      obtain ⟨s1, s2, s3, s4⟩ := HSm.out (by omega)
      have HPut := Lib.hid (Put_any me ta st aF cF bF oF F (.slice aB lB cB) W3 (HFx.out.later (HBw.out _ HB3.out)) s1 s2 s3 s4)
      have hPut : Calls Tryd.prog 21 #[.agg #[.string me, .string ta, .int .i64 st, .slice aF F.length cF, .slice aB lB cB]] W3 (PutR W3 (putT me.data.toList ta.data.toList (flL F)) (putE me.data.toList ta.data.toList (flL F))) := HPut.out
      have HPt := Lib.hid hPut
      have HG3 := Lib.hid (HAt.out W3 HB3.out)
      clear s1 s2 s3 hPut
      go_wp2_with fail
      rw [HW3.out]
      refine HBy.out.mono ?_
      rintro e w4 ⟨rfl, rfl⟩
      go_wp2_with (refine hdW_load rfl 26 _ rfl w.heap.size ?_ 26 #[.string me, .string ta, .int .i64 st, .slice aF F.length cF, .slice aB lB cB] (0, 0) _ HG3.out Tryd.underlying26 rfl infoMs ?_; (exact rfl))
      refine HPt.out.mono ?_
      rintro e w5 ⟨vP, rfl, oP, b5⟩
      have HB5 := Lib.hid (HB3.out.trans (b5.mono HB3.out.size))
      have HBm5 := Lib.hid b5
      clear b5
      by_cases hE : putE me.data.toList ta.data.toList (flL F) = 0
      · obtain ⟨z4, z5⟩ := put_size hE
        have hT : putT me.data.toList ta.data.toList (flL F) = headP me.data.toList ta.data.toList (flL F) := by unfold putT; rw [if_pos hE]
        have HBk := Lib.hid (put_back hE)
        have HCt := Lib.hid fun k (hk : k < _) => put_cut hE (k := k) hk
        rw [hT] at oP
        rw [hE]
        obtain ⟨Hd, HHd⟩ : ∃ l, Hid (headP me.data.toList ta.data.toList (flL F) = l) := ⟨_, Lib.hid rfl⟩
        rw [HHd.out] at z4 z5 HBk HCt oP
        obtain ⟨nH, HnH⟩ : ∃ n, Hid (Hd.length = n) := ⟨_, Lib.hid rfl⟩
        rw [HnH.out] at z4 z5 HBk HCt
        have HO5 := Lib.hid oP
        obtain ⟨aP, cP, gP, rfl, hxP, hcP, hgP⟩ := ownB_at oP
        obtain rfl := hxP.at0 (by rw [HnH.out]; omega)
        obtain ⟨K, hK, hKe⟩ : ∃ K : Nat, K < nH ∧ (ct : Int) % (nH : Int) = (K : Int) := ⟨ct % nH, Nat.mod_lt _ (by omega), by omega⟩
        have hn0 : ¬ (nH : Int) = 0 := by omega
        have hKc : K ≤ cP := by have := hxP.cp; rw [HnH.out] at this; omega
        have HX5 := Lib.hid hxP
        have HLk : Hid ((Hd.take K).length = K) := Lib.hid (by rw [List.length_take, HnH.out]; omega)
        have HR1 := Lib.hid (Request_any (Hd.take K) _ cP gP 0 m w5 (bx_take12 hxP K) hcP (HM.out.later (HBw.out _ HB5.out)))
        rw [HLk.out, HCt.out K hK] at HR1
        have HOl : Hid (OwnB W3.heap.size (.slice (some ⟨gP, 0, none⟩) nH cP) Hd w5) := Lib.hid (by have := HO5.out; rwa [HnH.out] at this)
        rw [HnH.out]
        clear hxP hgP oP hT HCt
        go_wp2_with fail
        refine HR1.out.mono ?_
        rintro e w6 ⟨v6, F6, hF6, rfl, ho6, b6⟩
        obtain ⟨p6, c6, rfl⟩ := own_nil12 hF6 ho6
        have HBl6 := Lib.hid b6
        obtain ⟨W7, HW7⟩ : ∃ W, Hid (w6.alloc (.cells (msC fst0 (.slice p6 0 c6)) 26) = W) := ⟨_, Lib.hid rfl⟩
        have HBl7 : Hid (Below w5.heap.size w5 W7) := Lib.hid (by rw [← HW7.out]; exact HBl6.out.alloc HBl6.out.size _)
        have HB7 := Lib.hid (HB5.out.trans (HBl7.out.mono HB5.out.size))
        have HBm7 : Hid (Below W3.heap.size W3 W7) := Lib.hid (HBm5.out.trans (HBl7.out.mono HBm5.out.size))
        have hOl : OwnB W3.heap.size (.slice (some ⟨gP, 0, none⟩) nH cP) Hd W7 := HOl.out.later HBl7.out
        obtain ⟨v8, w8, r8, o8, k8⟩ := hOl.app (HDx.out.later (HBw.out _ HB7.out)) (by rw [HnH.out, HND.out]; omega) HBm7.out.size
        have HBm8 : Hid (Below W3.heap.size W3 w8) := Lib.hid (k8 _ _ (Nat.le_refl _) HBm7.out)
        have HB8 := Lib.hid (HB3.out.trans (HBm8.out.mono HB3.out.size))
        rw [HND.out] at r8
        obtain ⟨a8, c8, g8, rfl, hx8, hc8, -⟩ := ownB_at o8
        obtain ⟨n8, HN8⟩ : ∃ n, Hid ((Hd ++ D).length = n) := ⟨_, Lib.hid rfl⟩
        have HR8 := Lib.hid r8
        have HG8 := Lib.hid (Request_any (Hd ++ D) a8 c8 g8 0 m w8 hx8 hc8 (HM.out.later (HBw.out _ HB8.out)))
        rw [HBk.out D, HN8.out] at HG8
        rw [HN8.out] at HR8
        clear hOl r8 o8 k8 hx8 hF6 ho6 b6
        go_wp2_with (first
          | (refine wpL_store_row rfl 26 _ _ rfl w6.heap.size (msC fst0 (.slice p6 0 c6)) ?_ ?_ 26 (msC fst0 (.slice none 0 0)) (heap_alloc_new _ _) infoMs rfl (msC_one _ _ rfl) ?_; (exact rfl); (exact rfl); (rw [World.setRow_alloc_new, HW7.out]))
          | (at_builtin; refine Lib.wpList_append_run _ rfl _ _ _ _ rfl _ _ rfl rfl _ _ HR8.out ?_))
        refine HG8.out.mono ?_
        rintro e w9 ⟨v9, F9, hF9, rfl, ho9, b9⟩
        obtain rfl : F = F9 := flL_inj hF9.symm
        obtain ⟨p9, c9, q9, rfl, hx9, -⟩ := ownF_at ho9
        have HB9 := Lib.hid (HB8.out.trans (b9.mono HB8.out.size))
        obtain ⟨W10, HW10⟩ : ∃ W, Hid (w9.alloc (.cells (msC (me.data.toList, ta.data.toList, 0) (.slice p9 F.length c9)) 26) = W) := ⟨_, Lib.hid rfl⟩
        have HBl10 : Hid (Below w9.heap.size w9 W10) := Lib.hid (by rw [← HW10.out]; exact (Below.refl _ _).alloc (Nat.le_refl _) _)
        have HB10 := Lib.hid (HB9.out.trans (HBl10.out.mono HB9.out.size))
        have hNb : W10.heap[w9.heap.size]? = some (.cells (msC (me.data.toList, ta.data.toList, 0) (.slice p9 F.length c9)) 26 (0, 0)) := by rw [← HW10.out]; exact heap_alloc_new w9 _
        have hNa := HAt.out W10 HB10.out
        have d0 : W10.cell? ⟨w9.heap.size, 0, none⟩ = some (.string me) := by rw [cell_of_row W10 _ 0 _ _ _ hNb, ← asB_of me]; rfl
        have d1 : W10.cell? ⟨w9.heap.size, 1, none⟩ = some (.string ta) := by rw [cell_of_row W10 _ 1 _ _ _ hNb, ← asB_of ta]; rfl
        have d2 : W10.cell? ⟨w9.heap.size, 2, none⟩ = some (.int .i64 0) := by rw [cell_of_row W10 _ 2 _ _ _ hNb]; rfl
        have d3 : W10.cell? ⟨w9.heap.size, 3, none⟩ = some (.slice p9 F.length c9) := by rw [cell_of_row W10 _ 3 _ _ _ hNb]; rfl
        have e0 : W10.cell? ⟨w.heap.size, 0, none⟩ = some (.string me) := by rw [cell_of_row W10 _ 0 _ _ _ hNa]; rfl
        have e1 : W10.cell? ⟨w.heap.size, 1, none⟩ = some (.string ta) := by rw [cell_of_row W10 _ 1 _ _ _ hNa]; rfl
        have e3 : W10.cell? ⟨w.heap.size, 3, none⟩ = some (.slice aF F.length cF) := by rw [cell_of_row W10 _ 3 _ _ _ hNa]; rfl
        have HNb := Lib.hid hNb
        have HSF := Lib.hid (SameFields_eq p9 aF c9 cF q9 0 bF oF F W10 (hx9.later HBl10.out) (HFx.out.later (HBw.out _ HB10.out)) (by unfold maxLen; omega))
        clear hNa hNb hx9 hF9 ho9 b9
        go_wp2_with (refine wpL_store_row rfl 26 _ _ rfl w9.heap.size (msC (me.data.toList, ta.data.toList, 0) (.slice p9 F.length c9)) ?_ ?_ 26 (msC fst0 (.slice none 0 0)) (heap_alloc_new _ _) infoMs rfl (msC_one _ _ rfl) ?_; (exact rfl); (exact rfl); (rw [World.setRow_alloc_new, HW10.out]))
        refine HSF.out.mono ?_
        rintro e w11 ⟨rfl, b11⟩
        have HB11 := Lib.hid (HB10.out.trans (b11.mono HB10.out.size))
        have hNc := (b11.block _ (lt_of_block HNb.out)).trans HNb.out
        have f2 : w11.cell? ⟨w9.heap.size, 2, none⟩ = some (.int .i64 0) := by rw [cell_of_row w11 _ 2 _ _ _ hNc]; rfl
        have f4 : w11.cell? ⟨w9.heap.size, 4, none⟩ = some (.slice none 0 0) := by rw [cell_of_row w11 _ 4 _ _ _ hNc]; rfl
        clear b11 hNc
        go_wp2
        go_ret
        exact ⟨rfl, HBw.out _ HB11.out⟩
      · obtain ⟨hor, hT⟩ := putE_not hE
        rw [hT] at oP
        obtain ⟨pP, cP, rfl, -⟩ := ownB_form oP
        have hEb : (putE me.data.toList ta.data.toList (flL F) != 0) = true := bne_iff_ne.2 hE
        rcases hor with h1 | h1
        · rw [h1]
          go_wp2
          go_ret
          exact ⟨rfl, HBw.out _ HB5.out⟩
        · rw [h1]
          go_wp2
          go_ret
          exact ⟨rfl, HBw.out _ HB5.out⟩

end Go.Proofs.YtbfnbjffobhllaaDoor
