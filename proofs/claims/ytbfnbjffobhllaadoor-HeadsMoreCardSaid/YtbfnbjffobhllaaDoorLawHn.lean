/-
  footmanlaw12.HeadsMore: what stands behind a head.
-/
import Derived.Test.YtbfnbjffobhllaaDoorHdY
import Derived.Test.YtbfnbjffobhllaaDoorBeyond
import Derived.Test.YtbfnbjffobhllaaDoorBase
namespace Go.Proofs.YtbfnbjffobhllaaDoor
open Go.RowKit

theorem read_codes (rd : List UInt8 → Option Fst12) (b : List UInt8) : (readD rd b).2.2 ≠ 1 ∧ ((readD rd b).2.2 = 7 → (readD rd b).1 = msg0 ∧ (readD rd b).2.1 = 0) := by
  rcases read_err rd b with h | ⟨h1, h2, h3⟩
  · exact ⟨by rw [h]; decide, fun e => by rw [h] at e; cases e⟩
  · refine ⟨?_, fun _ => ⟨h1, h2⟩⟩
    rcases h3 with h | h | h <;> rw [h] <;> decide
theorem read_len (rd : List UInt8 → Option Fst12) (b : List UInt8) : (readD rd b).1.2.length ≤ 256 := by
  unfold readD
  split
  · exact Nat.zero_le _
  · split
    · exact Nat.zero_le _
    · split
      · exact Nat.zero_le _
      · rename_i h; exact Nat.le_of_not_lt h
set_option maxRecDepth 100000 in
set_option maxHeartbeats 8000000 in
theorem hmore_walk (B D : List UInt8) (a a2 : Option Addr) (cap cap2 b o b2 o2 : Nat) (m : Int) (w : World) (hB : BxAt B a cap b o w) (hD : BxAt D a2 cap2 b2 o2 w) (hc : cap ≤ maxLen) (hBl : B.length ≤ 140737488355328) (hDl : D.length ≤ 140737488355328) (hw : MxAt m w) :
    Calls Tryd.prog 5 #[.slice a B.length cap, .slice a2 D.length cap2] w fun e w' => e = .returned (.bool true) ∧ Below w.heap.size w w' := by
  have HM := Lib.hid hw
  have HBx := Lib.hid hB
  have HDx := Lib.hid hD
  have HA := Lib.hid fun w' (h : Below w.heap.size w w') => alive12_any m w' (hw.later h)
  obtain ⟨nB, HNB⟩ : ∃ n, Hid (B.length = n) := ⟨_, Lib.hid rfl⟩
  obtain ⟨nD, HND⟩ : ∃ n, Hid (D.length = n) := ⟨_, Lib.hid rfl⟩
  rw [HNB.out] at hBl ⊢
  rw [HND.out] at hDl ⊢
  clear hB hD hw
  have HA0 := Lib.hid (HA.out w (Below.refl _ _))
  by_cases h6 : 60000 < nB
  · have h6I : (60000 : Int) < (nB : Int) := by omega
    go_enter Tryd.func5, Tryd.ntmps5
    go_wp2_with fail
    refine HA0.out.mono ?_
    rintro e w1 ⟨rfl, b1⟩
    have HB1 := Lib.hid b1
    clear b1
    go_wp2_with fail
    refine (HA.out _ HB1.out).mono ?_
    rintro e w2 ⟨rfl, b2⟩
    go_wp2
    go_ret
    exact ⟨rfl, HB1.out.trans (b2.mono HB1.out.size)⟩
  · have h6I : ¬ (60000 : Int) < (nB : Int) := by omega
    by_cases hbe : 1048576 < nD
    · go_enter Tryd.func5, Tryd.ntmps5
      go_wp2_with fail
      refine HA0.out.mono ?_
      rintro e w1 ⟨rfl, b1⟩
      have HB1 := Lib.hid b1
      clear b1
      obtain ⟨W2, HW2⟩ : ∃ W, Hid (w1.alloc (.cells #[.int .i64 (nD : Int)] 3) = W) := ⟨_, Lib.hid rfl⟩
      have HB2 : Hid (Below w.heap.size w W2) := Lib.hid (by rw [← HW2.out]; exact HB1.out.alloc HB1.out.size _)
      have HBy := Lib.hid (Beyond1_yes w1.heap.size nD W2 (by unfold maxLen; omega) (by rw [← HW2.out]; exact pc_cell_new w1 _ _ _ rfl) hbe)
      go_wp2_with fail
      rw [HW2.out]
      refine HBy.out.mono ?_
      rintro e w3 ⟨rfl, rfl⟩
      go_wp2_with fail
      refine (HA.out _ HB2.out).mono ?_
      rintro e w4 ⟨rfl, b4⟩
      go_wp2
      go_ret
      exact ⟨rfl, HB2.out.trans (b4.mono HB2.out.size)⟩
    · obtain ⟨⟨⟨x, G⟩, n, c⟩, Hr⟩ : ∃ r, Hid (readD resD B = r) := ⟨_, Lib.hid rfl⟩
      have HCo := Lib.hid (read_codes resD B)
      have HMo : Hid (c ≠ 7 → readD resD (B ++ D) = ((x, G), n, c) ∧ n ≤ (nB : Int)) := Lib.hid fun h => by
        have := more_read (more := D) resD (b := B) (by rw [HNB.out]; omega) (by rw [Hr.out]; exact h)
        rwa [Hr.out, HNB.out] at this
      rw [Hr.out] at HCo
      have hc1 : c ≠ 1 := HCo.out.1
      go_enter Tryd.func5, Tryd.ntmps5
      go_wp2_with fail
      refine HA0.out.mono ?_
      rintro e w1 ⟨rfl, b1⟩
      have HB1 := Lib.hid b1
      clear b1
      obtain ⟨W2, HW2⟩ : ∃ W, Hid (w1.alloc (.cells #[.int .i64 (nD : Int)] 3) = W) := ⟨_, Lib.hid rfl⟩
      have HB2 : Hid (Below w.heap.size w W2) := Lib.hid (by rw [← HW2.out]; exact HB1.out.alloc HB1.out.size _)
      have HBy := Lib.hid (Beyond1_no w1.heap.size nD W2 (by rw [← HW2.out]; exact pc_cell_new w1 _ _ _ rfl) (by omega))
      go_wp2_with fail
      rw [HW2.out]
      refine HBy.out.mono ?_
      rintro e w3 ⟨rfl, rfl⟩
      have HG := Lib.hid (Get_any B a cap b o m W2 (HBx.out.later HB2.out) hc (HM.out.later HB2.out))
      rw [HNB.out, Hr.out] at HG
      go_wp2_with fail
      refine HG.out.mono ?_
      rintro e w4 ⟨v4, F, hF, rfl, ho4, b4⟩
      have HB4 := Lib.hid (HB2.out.trans (b4.mono HB2.out.size))
      obtain ⟨p4, c4, q4, rfl, hx4, -⟩ := ownF_at ho4
      obtain ⟨nF, HNF⟩ : ∃ n, Hid (F.length = n) := ⟨_, Lib.hid rfl⟩
      have HF := Lib.hid hF
      have HFl : Hid (F.length ≤ 256) := Lib.hid (by
        have h1 := read_len resD B
        rw [Hr.out] at h1
        have h2 : (flL F).length ≤ 256 := by rw [hF]; exact h1
        rwa [flL_len] at h2)
      obtain ⟨W5, HW5⟩ : ∃ W, Hid (w4.alloc (.cells (msC x (.slice p4 F.length c4)) 26) = W) := ⟨_, Lib.hid rfl⟩
      have HBl5 : Hid (Below w4.heap.size w4 W5) := Lib.hid (by rw [← HW5.out]; exact (Below.refl _ _).alloc (Nat.le_refl _) _)
      have HB5 := Lib.hid (HB4.out.trans (HBl5.out.mono HB4.out.size))
      have HN5 : Hid (W5.heap[w4.heap.size]? = some (.cells (msC x (.slice p4 F.length c4)) 26 (0, 0))) := Lib.hid (by rw [← HW5.out]; exact heap_alloc_new w4 _)
      have HX5 := Lib.hid (hx4.later HBl5.out)
      have ho5 := ho4.later HBl5.out
      clear b4 hx4 hF ho4
      by_cases h7 : c = 7
      · obtain ⟨e1, e2⟩ := HCo.out.2 h7
        have e1' : (x, G) = msg0 := e1
        have e2' : n = 0 := e2
        obtain ⟨rfl, rfl⟩ := Prod.mk.inj e1'
        subst e2' h7
        have c2 : W5.cell? ⟨w4.heap.size, 2, none⟩ = some (.int .i64 0) := by rw [cell_of_row W5 _ 2 _ _ _ HN5.out]; rfl
        go_wp2_with (refine wpL_store_row rfl 26 _ _ rfl w4.heap.size (msC ([], [], 0) (.slice p4 F.length c4)) ?_ ?_ 26 (msC fst0 (.slice none 0 0)) (heap_alloc_new _ _) infoMs rfl (msC_one _ _ rfl) ?_; (exact rfl); (exact rfl); (rw [World.setRow_alloc_new, HW5.out]))
        go_ret
        exact ⟨rfl, HB5.out⟩
      · obtain ⟨M1, M2⟩ := HMo.out h7
        have HM1 := Lib.hid M1
        have hcb : (c != 1) = true := bne_iff_ne.2 hc1
        obtain ⟨v6, w6, r6, o6, k6⟩ := (OwnB.nil W5.heap.size W5).app (HBx.out.later HB5.out) (by rw [HNB.out, List.length_nil]; omega) (Nat.le_refl _)
        rw [List.nil_append] at o6
        have HB6 : Hid (Below W5.heap.size W5 w6) := Lib.hid (k6 _ _ (Nat.le_refl _) (Below.refl _ _))
        have HBw6 := Lib.hid (HB5.out.trans (HB6.out.mono HB5.out.size))
        obtain ⟨v7, w7, r7, o7, k7⟩ := o6.app (HDx.out.later HBw6.out) (by rw [HNB.out, HND.out]; omega) HB6.out.size
        have HB7 : Hid (Below W5.heap.size W5 w7) := Lib.hid (k7 _ _ (Nat.le_refl _) HB6.out)
        have HBw7 := Lib.hid (HB5.out.trans (HB7.out.mono HB5.out.size))
        rw [HNB.out] at r6
        rw [HND.out] at r7
        obtain ⟨p6, n6, c6, rfl⟩ := ownB_shape o6
        obtain ⟨a7, c7, g7, rfl, hx7, hc7, -⟩ := ownB_at o7
        obtain ⟨n7, HN7⟩ : ∃ n, Hid ((B ++ D).length = n) := ⟨_, Lib.hid rfl⟩
        have HR6 := Lib.hid r6
        have HR7 := Lib.hid r7
        have HG8 := Lib.hid (Get_any (B ++ D) a7 c7 g7 0 m w7 hx7 hc7 (HM.out.later HBw7.out))
        rw [HM1.out, HN7.out] at HG8
        rw [HN7.out] at HR7
        clear r6 o6 k6 r7 o7 k7 hx7 M1
        go_wp2_with (first
          | (refine wpL_store_row rfl 26 _ _ rfl w4.heap.size (msC x (.slice p4 F.length c4)) ?_ ?_ 26 (msC fst0 (.slice none 0 0)) (heap_alloc_new _ _) infoMs rfl (msC_one _ _ rfl) ?_; (exact rfl); (exact rfl); (rw [World.setRow_alloc_new, HW5.out]))
          | (at_builtin; refine Lib.wpList_append_run _ rfl _ _ _ _ rfl _ _ rfl rfl _ _ HR6.out ?_)
          | (at_builtin; refine Lib.wpList_append_run _ rfl _ _ _ _ rfl _ _ rfl rfl _ _ HR7.out ?_))
        refine HG8.out.mono ?_
        rintro e w9 ⟨v9, F9, hF9, rfl, ho9, b9⟩
        obtain rfl : F = F9 := flL_inj (HF.out.trans hF9.symm)
        obtain ⟨p9, c9, q9, rfl, hx9, -⟩ := ownF_at ho9
        have HB9 : Hid (Below W5.heap.size W5 w9) := Lib.hid (HB7.out.trans (b9.mono HB7.out.size))
        have HBw9 := Lib.hid (HB5.out.trans (HB9.out.mono HB5.out.size))
        obtain ⟨W10, HW10⟩ : ∃ W, Hid (w9.alloc (.cells (msC x (.slice p9 F.length c9)) 26) = W) := ⟨_, Lib.hid rfl⟩
        have HBl10 : Hid (Below w9.heap.size w9 W10) := Lib.hid (by rw [← HW10.out]; exact (Below.refl _ _).alloc (Nat.le_refl _) _)
        have HB10 := Lib.hid (HB9.out.trans (HBl10.out.mono HB9.out.size))
        have HBw10 := Lib.hid (HB5.out.trans (HB10.out.mono HB5.out.size))
        have HNa : Hid (W10.heap[w4.heap.size]? = some (.cells (msC x (.slice p4 F.length c4)) 26 (0, 0))) := Lib.hid ((HB10.out.block _ (lt_of_block HN5.out)).trans HN5.out)
        have HNb : Hid (W10.heap[w9.heap.size]? = some (.cells (msC x (.slice p9 F.length c9)) 26 (0, 0))) := Lib.hid (by rw [← HW10.out]; exact heap_alloc_new w9 _)
        have HSM := Lib.hid (SameMsg_eq x p4 p9 c4 c9 q4 0 q9 0 F W10 (HX5.out.later HB10.out) (hx9.later HBl10.out) (by have := HFl.out; unfold maxLen; omega))
        clear hF9 ho9 b9 hx9
        go_wp2_with (first
          | (refine wpL_store_row rfl 26 _ _ rfl w9.heap.size (msC x (.slice p9 F.length c9)) ?_ ?_ 26 (msC fst0 (.slice none 0 0)) (heap_alloc_new _ _) infoMs rfl (msC_one _ _ rfl) ?_; (exact rfl); (exact rfl); (rw [World.setRow_alloc_new, HW10.out]))
          | (refine hdW_load rfl 26 _ rfl w4.heap.size ?_ 26 (msC x (.slice p4 F.length c4)) (0, 0) _ HNa.out Tryd.underlying26 rfl infoMs ?_; (exact rfl))
          | (refine hdW_load rfl 26 _ rfl w9.heap.size ?_ 26 (msC x (.slice p9 F.length c9)) (0, 0) _ HNb.out Tryd.underlying26 rfl infoMs ?_; (exact rfl)))
        refine HSM.out.mono ?_
        rintro e w11 ⟨rfl, b11⟩
        have M2d : decide (n ≤ (nB : Int)) = true := decide_eq_true M2
        go_wp2
        go_ret
        exact ⟨rfl, HBw10.out.trans (b11.mono HBw10.out.size)⟩

end Go.Proofs.YtbfnbjffobhllaaDoor
