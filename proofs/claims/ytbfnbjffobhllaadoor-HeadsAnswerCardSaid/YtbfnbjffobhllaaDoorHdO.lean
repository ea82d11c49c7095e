/-
  Package heads: read, Get, Request.
-/
import Derived.Test.YtbfnbjffobhllaaDoorHdL
import Derived.Lib.CutLaws
namespace Go.Proofs.YtbfnbjffobhllaaDoor
open Go.RowKit

theorem headT_split {b : List UInt8} (h : 0 ≤ idx2 b) : headT b = bodyT b ++ crlf ∧ bodyT b = b.take ((idx2 b).toNat + 2) := by
  refine ⟨?_, rfl⟩
  have hr := idx2_room h
  rcases Lib.index_spec (b.take 65536) crlf2 with ⟨h1, _⟩ | ⟨i, h1, h2, h3, _⟩
  · have : idx2 b = -1 := h1; omega
  · have hi : idx2 b = (i : Int) := h1
    rw [hi] at hr
    rw [Lib.occAt_iff_take _ _ _ (by rw [List.length_take]; have : crlf2.length = 4 := rfl; omega), beq_iff_eq] at h3
    have h4 : (b.drop i).take 4 = crlf2 := by
      rw [← h3, List.drop_take, List.take_take]
      congr 1
      show 4 = min 4 (65536 - i); omega
    unfold headT bodyT
    rw [hi, Int.toNat_natCast]
    have e1 : b.take (i + 4) = b.take i ++ crlf2 := by rw [List.take_add, h4]
    have h5 : (b.drop i).take 2 = crlf := by
      have := congrArg (List.take 2) h4
      rw [List.take_take] at this
      exact this
    have e2 : b.take (i + 2) = b.take i ++ crlf := by rw [List.take_add, h5]
    rw [e1, e2, List.append_assoc]; rfl
theorem trim_head {b : List UInt8} (h : 0 ≤ idx2 b) : Lib.trimSuffix (headT b) crlf = bodyT b := by
  rw [(headT_split h).1]
  unfold Lib.trimSuffix
  simp [Lib.hasSuffix, crlf]
/-- What is read of bytes. -/
def ReadR (w : World) (r : Msg12 × Int × Int) (e : Ending) (w' : World) : Prop :=
  ∃ (v : Value) (F : List BF), flL F = r.1.2 ∧ e = .returned (.tuple #[.agg (msC r.1.1 v), .int .i64 r.2.1, .int .i64 r.2.2]) ∧ OwnF w.heap.size v F w' ∧ Below w.heap.size w w'
theorem hd_cells3 {fn : Func} {p u t : Tmp} (h : fn.results = #[.cell p 26, .tmp u, .tmp t]) (tmps : Array Value) (w : World) (g : Nat) (cs : Array Value) (a b : Value) (hs : cs.size = 5)
    (hp : tmps.getD p undef = .pointer (some ⟨g, 0, none⟩)) (hu : tmps.getD u undef = a) (ht : tmps.getD t undef = b) (hg : w.heap[g]? = some (.cells cs 26 (0, 0))) :
    (results fn tmps).run Tryd.prog w = .ok (.tuple #[.agg cs, a, b]) w := by
  have hp' : tmps[p]?.getD undef = .pointer (some ⟨g, 0, none⟩) := by simpa using hp
  have hu' : tmps[u]?.getD undef = a := by simpa using hu
  have ht' : tmps[t]?.getD undef = b := by simpa using ht
  have h1 := run_loadVar_row (P := Tryd.prog) w g 26 26 cs (0, 0) _ hg Tryd.underlying26 rfl (by rw [hs]; exact infoMs)
  simp [results, h, hp', hu', ht', asAddr, h1]
theorem own_form {base : Nat} {v : Value} {F : List BF} {w : World} (h : OwnF base v F w) : ∃ p c, v = .slice p F.length c := by
  obtain ⟨_, h2 | ⟨g, cap, cur, rfl, _⟩⟩ := h.h
  · exact ⟨none, 0, by rw [h2.1, h2.2]⟩
  · exact ⟨_, _, rfl⟩
theorem readD_err {rd : List UInt8 → Option Fst12} {b : List UInt8} (h : aheadE b ≠ 0) : readD rd b = (msg0, 0, aheadE b) := by unfold readD; rw [if_pos h]
theorem readD_none {rd : List UInt8 → Option Fst12} {b : List UInt8} (h : aheadE b = 0) (hm : msgD rd (linT (bodyT b)) = none) : readD rd b = (msg0, 0, 8) := by
  unfold readD
  rw [if_neg (by rw [h]; simp), hm]
theorem readD_many {rd : List UInt8 → Option Fst12} {b : List UInt8} {mm : Msg12} (h : aheadE b = 0) (hm : msgD rd (linT (bodyT b)) = some mm) (h2 : 256 < mm.2.length) : readD rd b = (msg0, 0, 3) := by
  unfold readD
  rw [if_neg (by rw [h]; simp), hm]
  exact if_pos h2
theorem readD_some {rd : List UInt8 → Option Fst12} {b : List UInt8} {mm : Msg12} (h : aheadE b = 0) (hm : msgD rd (linT (bodyT b)) = some mm) (h2 : ¬ 256 < mm.2.length) : readD rd b = (mm, ((headT b).length : Int), 0) := by
  unfold readD
  rw [if_neg (by rw [h]; simp), hm]
  exact if_neg h2
theorem below_setRow12 {A : Nat} {w W : World} (h : Below A w W) (hA : A ≤ w.heap.size) (g : Nat) (hg : A ≤ g) (cs : Array Value) : Below A w (W.setRow g cs) :=
  below_kp h hA (hd_setRow_kp (X := fun q => q = g) W g cs rfl) fun q e => by have e : q = g := e; omega
theorem err_idx {b : List UInt8} (h : aheadE b = 0) : 0 ≤ idx2 b := by
  unfold aheadE at h
  split at h
  · assumption
  · split at h <;> cases h
set_option maxRecDepth 100000 in
set_option maxHeartbeats 8000000 in
theorem read_any12 (g : Nat) (rd : List UInt8 → Option Fst12) (Bs : List UInt8) (a : Option Addr) (cap b o : Nat) (m : Int) (w : World) (hg : g = 60 ∨ g = 58)
    (HG : Hid (∀ (b : Nat) (l : List UInt8) (w : World), l.length ≤ 70000 → MxAt m w → MsAt w b fst0 (.slice none 0 0) → Calls Tryd.prog g #[.pointer (some ⟨b, 0, none⟩), .string (asB l)] w (FstR b w (rd l))))
    (hB : BxAt Bs a cap b o w) (hn : cap ≤ maxLen) (hm : MxAt m w) :
    Calls Tryd.prog 59 #[.agg #[.func (.func g) #[] #[]], .slice a Bs.length cap] w (ReadR w (readD rd Bs)) := by
  have HAh := Lib.hid fun w (hB : BxAt Bs a cap b o w) hm => ahead_any Bs a cap b o m w hB hn hm
  have HMg := Lib.hid fun hd D w hD HT hm => message_any g rd hd D m w hg HG hD HT hm
  have HBx := Lib.hid hB
  have HMx := Lib.hid hm
  obtain ⟨r, Hr⟩ : ∃ r, Hid (readD rd Bs = r) := ⟨_, Lib.hid rfl⟩
  rw [Hr.out]
  obtain ⟨L, HL⟩ : ∃ L, Hid (Bs.length = L) := ⟨_, Lib.hid rfl⟩
  rw [HL.out] at HAh ⊢
  obtain ⟨E, HE⟩ : ∃ L, Hid (aheadE Bs = L) := ⟨_, Lib.hid rfl⟩
  obtain ⟨T, HT⟩ : ∃ L, Hid (asB (aheadT Bs) = L) := ⟨_, Lib.hid rfl⟩
  rw [HE.out, HT.out] at HAh
  obtain ⟨W2, HW2⟩ : ∃ W, Hid ((w.alloc (.cells #[.func (.func g) #[] #[]] 73)).alloc (.cells (msC fst0 (.slice none 0 0)) 26) = W) := ⟨_, Lib.hid rfl⟩
  have HB2 : Hid (Below w.heap.size w W2) := Lib.hid (by rw [← HW2.out]; exact ((Below.refl _ _).alloc (Nat.le_refl _) _).alloc (by simp) _)
  have HR1 : Hid (W2.heap[w.heap.size + 1]? = some (.cells (msC fst0 (.slice none 0 0)) 26 (0, 0))) := Lib.hid (by rw [← HW2.out]; exact at_new _ _ _ (by simp))
  have HR0 : Hid (W2.heap[w.heap.size]? = some (.cells #[.func (.func g) #[] #[]] 73 (0, 0))) := Lib.hid (by rw [← HW2.out]; exact at_old (at_new _ _ _ rfl) _)
  have HA2 := Lib.hid (HAh.out W2 (HBx.out.later HB2.out) (HMx.out.later HB2.out))
  clear hB hm hn HAh
  have hW2 : (w.alloc (.cells #[.func (.func g) #[] #[]] 73)).alloc (.cells #[.string { data := #[] }, .string { data := #[] }, .int .i64 0, .slice none 0 0, .slice none 0 0] 26) = W2 := HW2.out
  have HW3 := Lib.hid hW2
  clear hW2
  by_cases h0 : E = 0
  · have HI : Hid (0 ≤ idx2 Bs) := Lib.hid (err_idx (HE.out.trans h0))
    have HTt : Hid (T = asB (headT Bs)) := Lib.hid (by rw [← HT.out]; unfold aheadT; rw [if_pos HI.out])
    have hlb : (bodyT Bs).length ≤ 70000 := by
      have h1 := idx2_room HI.out
      have h2 : (bodyT Bs).length ≤ (idx2 Bs).toNat + 2 := List.length_take_le ..
      omega
    have HTr : Hid (∀ w, Calls Tryd.prog 113 #[.string T, .string ⟨#[13, 10]⟩] w fun e w' => e = .returned (.string (asB (bodyT Bs))) ∧ w = w') := Lib.hid fun w => by
      have h1 := idx2_room HI.out
      have h2 : (headT Bs).length ≤ (idx2 Bs).toNat + 4 := List.length_take_le ..
      have := Tryd.strings_TrimSuffix (asB (headT Bs)) ⟨#[13, 10]⟩ w (by rw [asB_size]; omega)
      rw [HTt.out]
      refine this.mono ?_
      rintro e w' ⟨rfl, rfl⟩
      refine ⟨?_, rfl⟩
      show Ending.returned (.string (asB (Lib.trimSuffix (headT Bs) crlf))) = _
      rw [trim_head HI.out]
    have HM3 := Lib.hid fun w hm => HMg.out T (bodyT Bs) w hlb HTr hm
    obtain ⟨M, HMM⟩ : ∃ M, Hid (msgD rd (linT (bodyT Bs)) = M) := ⟨_, Lib.hid rfl⟩
    rw [HMM.out] at HM3
    have hTs : ((T.size : Nat) : Int) = ((headT Bs).length : Int) := by rw [HTt.out, asB_size]
    have HTs := Lib.hid hTs
    have HE0 := Lib.hid (HE.out.trans h0)
    subst h0
    clear hlb hTs HMg
    rcases hg with rfl | rfl
    all_goals
      go_enter Tryd.func59, Tryd.ntmps59
      go_wp2_with fail
      rw [HW3.out]
      refine HA2.out.mono ?_
      rintro e w3 ⟨rfl, b3⟩
      have HB3 := Lib.hid (HB2.out.trans (b3.mono HB2.out.size))
      have HR3 := Lib.hid ((b3.block _ (lt_of_block HR1.out)).trans HR1.out)
      have HR03 := Lib.hid ((b3.block _ (lt_of_block HR0.out)).trans HR0.out)
      have c03 := cell_of_one HR03.out
      have HMx3 := Lib.hid (HMx.out.later HB3.out)
      have HM4 := Lib.hid (HM3.out w3 HMx3.out)
      clear b3
      go_wp2_with fail
      refine HM4.out.mono ?_
      rintro e w4 ⟨h1, b4⟩
      have HB4 := Lib.hid (HB3.out.trans (b4.mono HB3.out.size))
      have HR4 := Lib.hid ((b4.block _ (lt_of_block HR3.out)).trans HR3.out)
      have HZ4 : Hid (w.heap.size + 2 ≤ w4.heap.size) := Lib.hid (by have := lt_of_block HR4.out; omega)
      have HZ3 : Hid (w.heap.size ≤ w3.heap.size) := Lib.hid HB3.out.size
      clear b4 c03
      cases M with
      | none =>
        have h1 : e = .returned (.tuple #[.agg (msC fst0 (.slice none 0 0)), .bool false]) := h1
        subst h1
        have HRr : Hid (r = (msg0, 0, 8)) := Lib.hid (by rw [← Hr.out]; exact readD_none HE0.out HMM.out)
        obtain ⟨W5, HW5⟩ : ∃ W, Hid (w4.alloc (.cells (msC fst0 (.slice none 0 0)) 26) = W) := ⟨_, Lib.hid rfl⟩
        have HR5 : Hid (W5.heap[w.heap.size + 1]? = some (.cells (msC fst0 (.slice none 0 0)) 26 (0, 0))) := Lib.hid (by rw [← HW5.out]; exact at_old HR4.out _)
        have HB5 : Hid (Below w.heap.size w W5) := Lib.hid (by rw [← HW5.out]; exact HB4.out.alloc HB4.out.size _)
        go_wp2_with (first
          | (refine wpL_store_row rfl 26 _ _ rfl w4.heap.size (msC fst0 (.slice none 0 0)) ?_ ?_ 26 (msC fst0 (.slice none 0 0)) (heap_alloc_new _ _) infoMs rfl (msC_one _ _ rfl) ?_; (exact rfl); (exact rfl); (rw [World.setRow_alloc_new, HW5.out]))
          | (refine wpL_store_row rfl 26 _ _ rfl (w.heap.size + 1) (msC fst0 (.slice none 0 0)) ?_ ?_ 26 (msC fst0 (.slice none 0 0)) HR5.out infoMs rfl (msC_one _ _ rfl) ?_; (exact rfl); (exact rfl)))
        rw [HRr.out]
        refine bodyPost_ret (hd_cells3 rfl _ _ (w.heap.size + 1) (msC fst0 (.slice none 0 0)) (.int .i64 0) (.int .i64 8) rfl rfl rfl rfl (setRow_heap _ _ _ _ _ _ HR5.out)) rfl ?_
        exact ⟨.slice none 0 0, [], rfl, rfl, OwnF.nil _ _, below_setRow12 HB5.out (Nat.le_refl _) _ (by omega) _⟩
      | some mm =>
        obtain ⟨v, F, hF, rfl, ho⟩ := h1
        obtain ⟨vp, vc, rfl⟩ := own_form ho
        have HF := Lib.hid hF
        have HO := Lib.hid ho
        have HV1 : Hid ((Value.slice vp F.length vc).oneCell' = true) := Lib.hid (own_one ho)
        have HFl : Hid (F.length = mm.2.length) := Lib.hid (by rw [← hF, flL_len])
        clear hF ho
        obtain ⟨W5, HW5⟩ : ∃ W, Hid (w4.alloc (.cells (msC mm.1 (.slice vp F.length vc)) 26) = W) := ⟨_, Lib.hid rfl⟩
        have HR5 : Hid (W5.heap[w.heap.size + 1]? = some (.cells (msC fst0 (.slice none 0 0)) 26 (0, 0))) := Lib.hid (by rw [← HW5.out]; exact at_old HR4.out _)
        have HN5 : Hid (W5.heap[w4.heap.size]? = some (.cells (msC mm.1 (.slice vp F.length vc)) 26 (0, 0))) := Lib.hid (by rw [← HW5.out]; exact heap_alloc_new w4 _)
        have HB5 : Hid (Below w.heap.size w W5) := Lib.hid (by rw [← HW5.out]; exact HB4.out.alloc HB4.out.size _)
        have HO5 : Hid (OwnF w3.heap.size (.slice vp F.length vc) F W5) := Lib.hid (by rw [← HW5.out]; exact ⟨HO.out.h.alloc _⟩)
        have c53 : W5.cell? ⟨w4.heap.size, 3, none⟩ = some (.slice vp F.length vc) := by rw [cell_of_row W5 _ 3 _ _ _ HN5.out]; rfl
        by_cases hbig : 256 < F.length
        · have HRr : Hid (r = (msg0, 0, 3)) := Lib.hid (by rw [← Hr.out]; exact readD_many HE0.out HMM.out (by rw [← HFl.out]; exact hbig))
          have hbI : (256 : Int) < (F.length : Int) := by omega
          go_wp2_with (first
            | (refine wpL_store_row rfl 26 _ _ rfl w4.heap.size (msC mm.1 (.slice vp F.length vc)) ?_ ?_ 26 (msC fst0 (.slice none 0 0)) (heap_alloc_new _ _) infoMs rfl (msC_one _ _ HV1.out) ?_; (exact rfl); (exact rfl); (rw [World.setRow_alloc_new, HW5.out]))
            | (refine wpL_store_row rfl 26 _ _ rfl (w.heap.size + 1) (msC fst0 (.slice none 0 0)) ?_ ?_ 26 (msC fst0 (.slice none 0 0)) HR5.out infoMs rfl (msC_one _ _ rfl) ?_; (exact rfl); (exact rfl)))
          rw [HRr.out]
          refine bodyPost_ret (hd_cells3 rfl _ _ (w.heap.size + 1) (msC fst0 (.slice none 0 0)) (.int .i64 0) (.int .i64 3) rfl rfl rfl rfl (setRow_heap _ _ _ _ _ _ HR5.out)) rfl ?_
          exact ⟨.slice none 0 0, [], rfl, rfl, OwnF.nil _ _, below_setRow12 HB5.out (Nat.le_refl _) _ (by omega) _⟩
        · have HRr : Hid (r = (mm, ((headT Bs).length : Int), 0)) := Lib.hid (by rw [← Hr.out]; exact readD_some HE0.out HMM.out (by rw [← HFl.out]; exact hbig))
          have hbI : ¬ (256 : Int) < (F.length : Int) := by omega
          go_wp2_with (first
            | (refine wpL_store_row rfl 26 _ _ rfl w4.heap.size (msC mm.1 (.slice vp F.length vc)) ?_ ?_ 26 (msC fst0 (.slice none 0 0)) (heap_alloc_new _ _) infoMs rfl (msC_one _ _ HV1.out) ?_; (exact rfl); (exact rfl); (rw [World.setRow_alloc_new, HW5.out]))
            | (refine wpList_load_row rfl 26 _ rfl w4.heap.size ?_ 26 (msC mm.1 (.slice vp F.length vc)) (0, 0) _ HN5.out Tryd.underlying26 rfl infoMs ?_; (exact rfl))
            | (refine wpL_store_row rfl 26 _ _ rfl (w.heap.size + 1) (msC mm.1 (.slice vp F.length vc)) ?_ ?_ 26 (msC fst0 (.slice none 0 0)) HR5.out infoMs rfl (msC_one _ _ HV1.out) ?_; (exact rfl); (exact rfl)))
          rw [HRr.out, ← HTs.out]
          refine bodyPost_ret (hd_cells3 rfl _ _ (w.heap.size + 1) (msC mm.1 (.slice vp F.length vc)) (.int .i64 (T.size : Int)) (.int .i64 0) rfl rfl rfl rfl (setRow_heap _ _ _ _ _ _ HR5.out)) rfl ?_
          exact ⟨_, F, HF.out, rfl, OwnF.mono ⟨own_kept HO5.out.h (hd_setRow_kp (X := fun q => q = w.heap.size + 1) W5 _ _ rfl) fun q hq e => by have e : q = w.heap.size + 1 := e; have := lt_of_block HR3.out; omega⟩ HZ3.out, below_setRow12 HB5.out (Nat.le_refl _) _ (by omega) _⟩
  · have HRr : Hid (r = (msg0, 0, E)) := Lib.hid (by rw [← Hr.out, ← HE.out]; exact readD_err (by rw [HE.out]; exact h0))
    have hne : (E != 0) = true := bne_iff_ne.2 h0
    clear HMg
    go_enter Tryd.func59, Tryd.ntmps59
    go_wp2_with fail
    rw [HW3.out]
    refine HA2.out.mono ?_
    rintro e w3 ⟨rfl, b3⟩
    have HB3 := Lib.hid (HB2.out.trans (b3.mono HB2.out.size))
    have HR3 := Lib.hid ((b3.block _ (lt_of_block HR1.out)).trans HR1.out)
    clear b3
    go_wp2_with (refine wpL_store_row rfl 26 _ _ rfl (w.heap.size + 1) (msC fst0 (.slice none 0 0)) ?_ ?_ 26 (msC fst0 (.slice none 0 0)) HR3.out infoMs rfl (msC_one _ _ rfl) ?_; (exact rfl); (exact rfl))
    rw [HRr.out]
    refine bodyPost_ret (hd_cells3 rfl _ _ (w.heap.size + 1) (msC fst0 (.slice none 0 0)) (.int .i64 0) (.int .i64 E) rfl rfl rfl rfl (setRow_heap _ _ _ _ _ _ HR3.out)) rfl ?_
    exact ⟨.slice none 0 0, [], rfl, rfl, OwnF.nil _ _, below_setRow12 HB3.out (Nat.le_refl _) _ (by omega) _⟩
set_option maxRecDepth 100000 in
set_option maxHeartbeats 4000000 in
theorem Get_any (Bs : List UInt8) (a : Option Addr) (cap b o : Nat) (m : Int) (w : World) (hB : BxAt Bs a cap b o w) (hn : cap ≤ maxLen) (hm : MxAt m w) :
    Calls Tryd.prog 24 #[.slice a Bs.length cap] w (ReadR w (readD resD Bs)) := by
  have HR := Lib.hid fun w (hB : BxAt Bs a cap b o w) hm => read_any12 60 resD Bs a cap b o m w (.inl rfl) (Lib.hid fun b l w h1 h2 h3 => response_any b l m w h1 h2 h3) hB hn hm
  obtain ⟨r, Hr⟩ : ∃ r, Hid (readD resD Bs = r) := ⟨_, Lib.hid rfl⟩
  rw [Hr.out] at HR ⊢
  obtain ⟨L, HL⟩ : ∃ L, Hid (Bs.length = L) := ⟨_, Lib.hid rfl⟩
  rw [HL.out] at HR ⊢
  obtain ⟨W2, HW2⟩ : ∃ W, Hid (w.alloc (.cells (msC fst0 (.slice none 0 0)) 26) = W) := ⟨_, Lib.hid rfl⟩
  have HB2 : Hid (Below w.heap.size w W2) := Lib.hid (by rw [← HW2.out]; exact (Below.refl _ _).alloc (Nat.le_refl _) _)
  have HR1 : Hid (W2.heap[w.heap.size]? = some (.cells (msC fst0 (.slice none 0 0)) 26 (0, 0))) := Lib.hid (by rw [← HW2.out]; exact at_new _ _ _ rfl)
  have HC := Lib.hid (HR.out W2 (hB.later HB2.out) (hm.later HB2.out))
  have hW2 : w.alloc (.cells #[.string { data := #[] }, .string { data := #[] }, .int .i64 0, .slice none 0 0, .slice none 0 0] 26) = W2 := HW2.out
  have HW3 := Lib.hid hW2
  clear hW2 hB hm
  go_enter Tryd.func24, Tryd.ntmps24
  go_wp2_with fail
  rw [HW3.out]
  refine HC.out.mono ?_
  rintro e w3 ⟨v, F, hF, rfl, ho, b3⟩
  have HB3 := Lib.hid (HB2.out.trans (b3.mono HB2.out.size))
  have HR3 := Lib.hid ((b3.block _ (lt_of_block HR1.out)).trans HR1.out)
  have HO := Lib.hid ho
  have HF := Lib.hid hF
  have HV1 := Lib.hid (own_one ho)
  have HZ : Hid (w.heap.size < W2.heap.size) := Lib.hid (lt_of_block HR1.out)
  clear b3 ho hF
  go_wp2_with (refine wpL_store_row rfl 26 _ _ rfl w.heap.size (msC r.1.1 v) ?_ ?_ 26 (msC fst0 (.slice none 0 0)) HR3.out infoMs rfl (msC_one _ _ HV1.out) ?_; (exact rfl); (exact rfl))
  refine bodyPost_ret (hd_cells3 rfl _ _ w.heap.size (msC r.1.1 v) (.int .i64 r.2.1) (.int .i64 r.2.2) rfl rfl rfl rfl (setRow_heap _ _ _ _ _ _ HR3.out)) rfl ?_
  exact ⟨v, F, HF.out, rfl, OwnF.mono ⟨own_kept HO.out.h (hd_setRow_kp (X := fun q => q = w.heap.size) w3 _ _ rfl) fun q hq e => by have e : q = w.heap.size := e; have := HZ.out; omega⟩ (Nat.le_of_lt HZ.out), below_setRow12 HB3.out (Nat.le_refl _) _ (Nat.le_refl _) _⟩
set_option maxRecDepth 100000 in
set_option maxHeartbeats 4000000 in
theorem Request_any (Bs : List UInt8) (a : Option Addr) (cap b o : Nat) (m : Int) (w : World) (hB : BxAt Bs a cap b o w) (hn : cap ≤ maxLen) (hm : MxAt m w) :
    Calls Tryd.prog 22 #[.slice a Bs.length cap] w (ReadR w (readD reqD Bs)) := by
  have HR := Lib.hid fun w (hB : BxAt Bs a cap b o w) hm => read_any12 58 reqD Bs a cap b o m w (.inr rfl) (Lib.hid fun b l w h1 h2 h3 => request_any b l m w h1 h2 h3) hB hn hm
  obtain ⟨r, Hr⟩ : ∃ r, Hid (readD reqD Bs = r) := ⟨_, Lib.hid rfl⟩
  rw [Hr.out] at HR ⊢
  obtain ⟨L, HL⟩ : ∃ L, Hid (Bs.length = L) := ⟨_, Lib.hid rfl⟩
  rw [HL.out] at HR ⊢
  obtain ⟨W2, HW2⟩ : ∃ W, Hid (w.alloc (.cells (msC fst0 (.slice none 0 0)) 26) = W) := ⟨_, Lib.hid rfl⟩
  have HB2 : Hid (Below w.heap.size w W2) := Lib.hid (by rw [← HW2.out]; exact (Below.refl _ _).alloc (Nat.le_refl _) _)
  have HR1 : Hid (W2.heap[w.heap.size]? = some (.cells (msC fst0 (.slice none 0 0)) 26 (0, 0))) := Lib.hid (by rw [← HW2.out]; exact at_new _ _ _ rfl)
  have HC := Lib.hid (HR.out W2 (hB.later HB2.out) (hm.later HB2.out))
  have hW2 : w.alloc (.cells #[.string { data := #[] }, .string { data := #[] }, .int .i64 0, .slice none 0 0, .slice none 0 0] 26) = W2 := HW2.out
  have HW3 := Lib.hid hW2
  clear hW2 hB hm
  go_enter Tryd.func22, Tryd.ntmps22
  go_wp2_with fail
  rw [HW3.out]
  refine HC.out.mono ?_
  rintro e w3 ⟨v, F, hF, rfl, ho, b3⟩
  have HB3 := Lib.hid (HB2.out.trans (b3.mono HB2.out.size))
  have HR3 := Lib.hid ((b3.block _ (lt_of_block HR1.out)).trans HR1.out)
  have HO := Lib.hid ho
  have HF := Lib.hid hF
  have HV1 := Lib.hid (own_one ho)
  have HZ : Hid (w.heap.size < W2.heap.size) := Lib.hid (lt_of_block HR1.out)
  clear b3 ho hF
  go_wp2_with (refine wpL_store_row rfl 26 _ _ rfl w.heap.size (msC r.1.1 v) ?_ ?_ 26 (msC fst0 (.slice none 0 0)) HR3.out infoMs rfl (msC_one _ _ HV1.out) ?_; (exact rfl); (exact rfl))
  refine bodyPost_ret (hd_cells3 rfl _ _ w.heap.size (msC r.1.1 v) (.int .i64 r.2.1) (.int .i64 r.2.2) rfl rfl rfl rfl (setRow_heap _ _ _ _ _ _ HR3.out)) rfl ?_
  exact ⟨v, F, HF.out, rfl, OwnF.mono ⟨own_kept HO.out.h (hd_setRow_kp (X := fun q => q = w.heap.size) w3 _ _ rfl) fun q hq e => by have e : q = w.heap.size := e; have := HZ.out; omega⟩ (Nat.le_of_lt HZ.out), below_setRow12 HB3.out (Nat.le_refl _) _ (Nat.le_refl _) _⟩

end Go.Proofs.YtbfnbjffobhllaaDoor
