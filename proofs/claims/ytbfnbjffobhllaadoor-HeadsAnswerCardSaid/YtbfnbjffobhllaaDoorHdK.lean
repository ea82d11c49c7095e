/-
  Package heads: message, walked.
-/
import Derived.Test.YtbfnbjffobhllaaDoorHdJ
import Derived.Deep.Cut
namespace Go.Proofs.YtbfnbjffobhllaaDoor
open Go.RowKit Go.Shelf
attribute [local go_sem] Oper.semAt_some

theorem infoRd : (Tryd.prog.info? 73).map (·.size) = some 1 := by kernel_rfl
theorem kpB_b {n₀ Bp : Nat} {w : World} (hn : n₀ ≤ w.heap.size) (hp : Bp < w.heap.size) (W : World) (l : Nat) (o o' : Obj) (hl : w.heap.size ≤ l) (h : W.heap[l]? = some o) (h1 : o.isCells = false) (h2 : o.isWalk = false) : KpB n₀ Bp W (W.putObj l o') :=
  ⟨belowK_b hn W l o o' hl h h1 h2, World.putObj_heap_other (by omega)⟩
theorem OwnF.mono {b base : Nat} {v : Value} {F : List BF} {w : World} (h : OwnF base v F w) (hb : b ≤ base) : OwnF b v F w := by
  obtain ⟨h1, h2⟩ := h.h
  refine ⟨⟨h1, ?_⟩⟩
  rcases h2 with h2 | ⟨g, cap, cur, hv, hg, r⟩
  · exact .inl h2
  · exact .inr ⟨g, cap, cur, hv, by omega, r⟩
theorem at_new (w : World) (cs : Array Value) (t : TypeId) {n : Nat} (h : n = w.heap.size) : (w.alloc (.cells cs t)).heap[n]? = some (.cells cs t (0, 0)) := by rw [h]; exact heap_alloc_new w _
theorem at_old {w : World} {k : Nat} {o : Obj} (h : w.heap[k]? = some o) (o' : Obj) : (w.alloc o').heap[k]? = some o := (Below.heap_alloc _ _ _ (lt_of_block h)).trans h
theorem msC0 : msC fst0 (.slice none 0 0) = #[.string { data := #[] }, .string { data := #[] }, .int .i64 0, .slice none 0 0, .slice none 0 0] := rfl
/-- What message has laid ahead of its loop. -/
def msW (w : World) (g : Nat) (hd : ByteArray) : World :=
  (((((w.alloc (.cells #[.func (.func g) #[] #[]] 73)).alloc (.cells (msC fst0 (.slice none 0 0)) 26)).alloc (.cells #[.bool false] 4)).alloc (.cells (msC fst0 (.slice none 0 0)) 26)).alloc (.cells #[.func (.func g) #[] #[]] 71)).alloc (.cells #[.string hd] 9)
structure MsW (w : World) (A g : Nat) (hd : ByteArray) (W : World) : Prop where
  s : W.heap.size = A + 6
  a1 : W.heap[A + 1]? = some (.cells (msC fst0 (.slice none 0 0)) 26 (0, 0))
  a2 : Boxed W (A + 2) 4 (.bool false)
  a3 : MsAt W (A + 3) fst0 (.slice none 0 0)
  a4 : Boxed W (A + 4) 71 (.func (.func g) #[] #[])
  a5 : W.heap[A + 5]? = some (.cells #[.string hd] 9 (0, 0))
  be : Below A w W
theorem msW_facts (w : World) (g : Nat) (hd : ByteArray) : MsW w w.heap.size g hd (msW w g hd) := by
  unfold msW
  refine ⟨by simp, ?_, ?_, ?_, ?_, ?_, ?_⟩
  · exact at_old (at_old (at_old (at_old (at_new _ _ _ (by simp)) _) _) _) _
  · exact at_old (at_old (at_old (at_new _ _ _ (by simp)) _) _) _
  · exact at_old (at_old (at_new _ _ _ (by simp)) _) _
  · exact at_old (at_new _ _ _ (by simp)) _
  · exact at_new _ _ _ (by simp)
  · exact ((((((Below.refl _ w).alloc (Nat.le_refl _) _).alloc (by simp) _).alloc (by simp; omega) _).alloc (by simp; omega) _).alloc (by simp; omega) _).alloc (by simp; omega) _
theorem msC_one (x : Fst12) (v : Value) (hv : v.oneCell' = true) : (msC x v).all (·.oneCell') = true := by simp [msC, Value.oneCell'] at hv ⊢; exact hv
theorem own_one {base : Nat} {v : Value} {F : List BF} {W : World} (h : OwnF base v F W) : v.oneCell' = true := by
  obtain ⟨_, h2 | ⟨g, cap, cur, rfl, _⟩⟩ := h.h
  · rw [h2.1]; rfl
  · rfl
theorem hd_setRow_kp {X : Nat → Prop} (w : World) (g : Nat) (cs : Array Value) (hX : X g) : Kp X w (w.setRow g cs) := by
  refine ⟨?_, ?_, ?_, ?_, fun k _ hx => setRow_other w g k cs (fun e => hx (e ▸ hX))⟩ <;> unfold World.setRow <;> simp
theorem keeps_kp {X : Nat → Prop} {W W' : World} (k : Kp X W W') (hx : ∀ q, X q → ∀ o : Obj, W.heap[q]? = some o → o.isCells = true) : KeepsOthers W W' :=
  ⟨k.size, fun q o hq hc => (k.at hq fun h => by rw [hx q h o hq] at hc; cases hc)⟩
theorem own_cells {base : Nat} {v : Value} {F : List BF} {W : World} (h : OwnF base v F W) {q : Nat} (hq : v.ownBlock = some q) {o : Obj} (ho : W.heap[q]? = some o) : o.isCells = true := by
  obtain ⟨_, h2 | ⟨g, cap, cur, rfl, hb, hh, _⟩⟩ := h.h
  · rw [h2.1] at hq; cases hq
  · cases hq
    rw [hh] at ho; cases ho; rfl
theorem below_kp {A : Nat} {w W W' : World} {X : Nat → Prop} (h : Below A w W) (hA : A ≤ w.heap.size) (k : Kp X W W') (hX : ∀ q, X q → A ≤ q) : Below A w W' :=
  ⟨k.os.trans h.os, k.tape.trans h.tape, k.output.trans h.output, Nat.le_trans h.size k.size, fun q hq => (k.block q (Nat.lt_of_lt_of_le hq (Nat.le_trans hA h.size)) fun hx => by have := hX q hx; omega).trans (h.block q hq)⟩
/-- A line more. -/
theorem msI_first {rd : List UInt8 → Option Fst12} {g : Nat} {w W W' : World} {A : Nat} {l : List UInt8} {x : Fst12} (h : MsI rd g w A [] W) (hA : A ≤ w.heap.size) (hx : rd l = some x) (hm : MsAt W' (A + 3) x (.slice none 0 0)) (hk : Kp (Only (A + 3)) W W') :
    MsI rd g w A ([] ++ [l]) (W'.setCell ⟨A + 4, 0, none⟩ (.func (.func 102) #[] #[])) := by
  have hk2 : Kp (fun q => q = A + 3 ∨ q = A + 4) W (W'.setCell ⟨A + 4, 0, none⟩ (.func (.func 102) #[] #[])) := (hk.mono fun q e => .inl e).setCell (p := ⟨A + 4, 0, none⟩) (.inr rfl) _
  refine ⟨⟨(x, []), .slice none 0 0, [], ?_, rfl, Nat.zero_le _, ?_, OwnF.nil _ _, fun h => by cases h⟩, ?_, hk2.at h.r1 (by omega), hk2.at h.r2 (by omega), Nat.le_trans h.sz hk2.size, below_kp h.be hA hk2 fun q e => by omega⟩
  · rw [List.nil_append, msgD_cons, hx]; rfl
  · exact (Below.heap_setCell _ _ _ _ (by show A + 3 ≠ A + 4; omega)).trans hm
  · have := one_setCell (u := .func (.func 102) #[] #[]) (hk.at h.fn (by show ¬ A + 4 = A + 3; omega))
    exact this
theorem msI_field {rd : List UInt8 → Option Fst12} {g : Nat} {w W W' : World} {A : Nat} {k l : List UInt8} {pre : List (List UInt8)} {mm : Msg12} {v v' : Value} {F : List BF} {f : Fld} (h : MsI rd g w A (k :: pre) W) (hA : A ≤ w.heap.size)
    (h1 : msgD rd (k :: pre) = some mm) (h2 : flL F = mm.2) (h3 : F.length ≤ (k :: pre).length) (ho : OwnF (A + 6) v F W) (hf : fldD l = some f) (hm : MsAt W' (A + 3) mm.1 v') (ho' : OwnF (A + 6) v' (F ++ [bfF f]) W') (hk : Kp (fun q => q = A + 3 ∨ v.ownBlock = some q) W W') :
    MsI rd g w A (k :: pre ++ [l]) (W'.setCell ⟨A + 4, 0, none⟩ (.func (.func 102) #[] #[])) := by
  have hv : ∀ q, v.ownBlock = some q → A + 6 ≤ q := fun q e => (ho.h.lt q e).1
  have hk2 : Kp (fun q => q = A + 3 ∨ v.ownBlock = some q ∨ q = A + 4) W (W'.setCell ⟨A + 4, 0, none⟩ (.func (.func 102) #[] #[])) := (hk.mono fun q e => by rcases e with e | e; exact .inl e; exact .inr (.inl e)).setCell (p := ⟨A + 4, 0, none⟩) (.inr (.inr rfl)) _
  refine ⟨⟨(mm.1, mm.2 ++ [f]), v', F ++ [bfF f], ?_, ?_, by simp at h3 ⊢; omega, ?_, ho'.setCell (by omega) _, fun h => by cases h⟩, ?_, hk2.at h.r1 ?_, hk2.at h.r2 ?_, Nat.le_trans h.sz hk2.size, below_kp h.be hA hk2 fun q e => ?_⟩
  · rw [msgD_snoc, h1]
    show stepD rd (k :: pre) mm l = _
    unfold stepD
    rw [if_neg (by simp), hf]; rfl
  · unfold flL at h2 ⊢
    rw [List.map_append, h2]; rfl
  · exact (Below.heap_setCell _ _ _ _ (by show A + 3 ≠ A + 4; omega)).trans hm
  · have := one_setCell (u := .func (.func 102) #[] #[]) (hk.at h.fn (by rintro (e | e); omega; have := hv _ e; omega))
    exact this
  · rintro (e | e | e)
    · omega
    · have := hv _ e; omega
    · omega
  · rintro (e | e | e)
    · omega
    · have := hv _ e; omega
    · omega
  · rcases e with e | e | e
    · omega
    · have := hv _ e; omega
    · omega
set_option maxHeartbeats 4000000 in
set_option maxRecDepth 1000000 in
theorem message_any (g : Nat) (rd : List UInt8 → Option Fst12) (hd : ByteArray) (D : List UInt8) (m : Int) (w : World) (hg : g = 60 ∨ g = 58)
    (HG : Hid (∀ (b : Nat) (l : List UInt8) (w : World), l.length ≤ 70000 → MxAt m w → MsAt w b fst0 (.slice none 0 0) → Calls Tryd.prog g #[.pointer (some ⟨b, 0, none⟩), .string (asB l)] w (FstR b w (rd l))))
    (hD : D.length ≤ 70000) (HT : Hid (∀ w, Calls Tryd.prog 113 #[.string hd, .string ⟨#[13, 10]⟩] w fun e w' => e = .returned (.string (asB D)) ∧ w = w')) (hm : MxAt m w) :
    Calls Tryd.prog 87 #[.agg #[.func (.func g) #[] #[]], .string hd] w (MsgR w (msgD rd (linT D))) := by
  have HL := Lib.hid (fun w => (callsIn_wide (n := 3 - 1)).2 (lines_any hd w))
  obtain ⟨A, HA⟩ : ∃ A, Hid (w.heap.size = A) := ⟨_, Lib.hid rfl⟩
  have HM := Lib.hid hm
  have HD := Lib.hid hD
  clear hm hD
  rcases hg with rfl | rfl
  · refine (callsIn_wide (n := 3)).1 ?_
    refine callsIn_of_wp_marks Tryd.func87 rfl trivial ?_ rfl
    simp only [Tryd.ntmps87, List.size_toArray, List.length_cons, List.length_nil, Nat.reduceAdd, Nat.reduceSub, Array.replicate_succ, Array.replicate_zero, List.push_toArray, List.append_toArray, List.nil_append, List.cons_append]
    gi_wp2_with fail
    refine ⟨trivial, ?_⟩
    refine (HL.out _).mono ?_
    rintro e W0 ⟨rfl, hw1⟩
    simp only [World.size_alloc]
    have HW : Hid (MsW w A 60 hd W0) := Lib.hid (by rw [← hw1, ← HA.out]; exact msW_facts w _ hd)
    clear hw1
    have hz := HW.out.s
    have hmA : 0 < A := by rw [← HA.out]; exact block_lt_of_cell HM.out
    have hstops := lin_stops (3 - 1) (by omega) (A + 5) A hd D m W0 HD.out HT (by have := HW.out.a5; exact cell_of_one this) ((HW.out.be.cell (p := ⟨0, 0, none⟩) hmA).trans HM.out) hmA
    have hb0 := HW.out.be
    rw [HA.out]
    gi_wp2
    refine wpIn_rangeFunc_ownH rfl (by omega) (gf := 112) (lb := #[.pointer (some ⟨A + 5, 0, none⟩)]) rfl trivial (enters_of Tryd.func112 (by kernel_rfl) rfl)
      hstops (fun h k => kpB_t h k) (kpB_b (by omega) (by omega)) (Below.refl _ _) (fun _ => rfl)
      (fun pre => MsI rd 60 w A (lnL pre)) (fun c pre => MsX rd w A c (lnL pre)) (fun s => msI_own rd _ w A _ (by rw [HA.out]; exact Nat.le_refl _) (by omega) (lnL s)) (fun c s => msX_own rd w A _ (by rw [HA.out]; exact Nat.le_refl _) (by omega) c (lnL s))
      ⟨⟨msg0, .slice none 0 0, [], rfl, rfl, Nat.le_refl _, HW.out.a3, OwnF.nil _ _, fun _ => rfl⟩, HW.out.a4, HW.out.a1, HW.out.a2, by omega, hb0⟩
      (fun x a' W => a' = { tmps := #[.agg #[.func (.func 60) #[] #[]], .string hd, .pointer (some ⟨A, 0, none⟩), undef, .pointer (some ⟨A + 1, 0, none⟩), .pointer (some ⟨A + 1 + 1, 0, none⟩), .pointer (some ⟨A + 1 + 1 + 1, 0, none⟩), .pointer (some ⟨A + 1 + 1 + 1 + 1, 0, none⟩), .string (asB x.1), .pointer (some ⟨A, 0, none⟩), .func (.func 60) #[] #[], .string hd, .func (.func 112) #[] #[.pointer (some ⟨A + 5, 0, none⟩)], .string (asB x.1), undef, undef, undef, undef, undef, undef], defers := [] })
      (fun x a' => fun s X Y row hs hg hr => hs) ?assign ?body ?done ?stop
    case assign =>
      rintro l pre x W K hI hK
      dsimp only [encL]
      gi_wp2
      exact hK _ _ (KeepsFrom.refl _ _) ⟨Below.refl _ _, rfl⟩ hI rfl
    case body =>
      rintro l pre ⟨x, hx⟩ a' W hl _ hI rfl hlt
      obtain ⟨P, HP⟩ : ∃ P, Hid (lnL pre = P) := ⟨_, Lib.hid rfl⟩
      have hPl : pre.length = P.length := by rw [← HP.out]; simp [lnL]
      have hNl := linT_count _ D (Nat.le_refl _)
      have hI2 : MsI rd 60 w A P W := by rw [← HP.out]; exact hI
      have HX : Hid (∀ W', MsI rd 60 w A (P ++ [x]) W' → MsI rd 60 w A (lnL (pre ++ [⟨x, hx⟩])) W') := Lib.hid fun W' h => by rw [lnL_app, HP.out]; exact h
      have HX2 : Hid (∀ W', MsX rd w A .ret (P ++ [x]) W' → MsX rd w A .ret (lnL (pre ++ [⟨x, hx⟩])) W') := Lib.hid fun W' h => by rw [lnL_app, HP.out]; exact h
      have HI := Lib.hid hI2
      have HMW : Hid (MxAt m W) := Lib.hid ((hI2.be.cell (p := ⟨0, 0, none⟩) hmA).trans HM.out)
      have HAw : Hid (A ≤ w.heap.size) := Lib.hid (by rw [HA.out]; exact Nat.le_refl _)
      have hPn : P.length ≤ 70000 := by have := HD.out; omega
      clear hI hI2 hNl
      cases P with
      | nil =>
        obtain ⟨mm, v, F, h1, h2, h3, h4, h5, h6⟩ := HI.out.st
        have hv := h6 rfl
        cases h1
        subst hv
        have HB := Lib.hid h4
        have cf : W.cell? ⟨A + 4, 0, none⟩ = some (.func (.func 60) #[] #[]) := HI.out.fn.cell
        have HC : Hid (CallsIn (Fence.wide.inRound l) (3 - 1 - 1 - 1) Tryd.prog 60 #[.pointer (some ⟨A + 3, 0, none⟩), .string (asB x)] W (FstR (A + 3) W (rd x))) := Lib.hid (CallsIn.inRound l (callsIn_wide.2 (HG.out (A + 3) x W hx HMW.out h4)))
        have hA3 : A + 1 + 1 + 1 = A + 3 := rfl
        clear h2 h3 h4 h5 h6 hlt
        gi_wp2_with fail
        refine ⟨trivial, ?_⟩
        refine HC.out.mono ?_
        rintro e w1 ⟨h1, hk⟩
        have HK := Lib.hid hk
        have hk1 : Kp (fun q => q = A + 3) W w1 := hk
        have HR1 : Hid (w1.heap[A + 1]? = some (.cells (msC fst0 (.slice none 0 0)) 26 (0, 0))) := Lib.hid (hk1.at HI.out.r1 (by omega))
        have HR2 : Hid (Boxed w1 (A + 1 + 1) 4 (.bool false)) := Lib.hid (hk1.at HI.out.r2 (by omega))
        have HR4 : Hid (w1.heap[A + 1 + 1 + 1 + 1]? = some (.cells #[.func (.func 60) #[] #[]] 71 (0, 0))) := Lib.hid (hk1.at HI.out.fn (by omega))
        have HBe : Hid (Below A w w1) := Lib.hid (below_kp HI.out.be HAw.out hk1 fun q e => by omega)
        have HKO : Hid (KeepsOthers W w1) := Lib.hid (keeps_kp hk1 fun q e o ho => by
          have e : q = A + 3 := e
          rw [e, show W.heap[A + 3]? = _ from HB.out] at ho
          cases ho; rfl)
        have HK5 : Hid (w1.heap[A + 5]? = W.heap[A + 5]? ∧ Below A W w1) := Lib.hid ⟨hk1.block _ (by have := HI.out.sz; omega) (by omega), hk1.below (by have := HI.out.sz; omega) fun q e => by have e : q = A + 3 := e; omega⟩
        clear hk hk1
        cases hrd : rd x with
        | none =>
          rw [hrd] at h1
          have h1 : e = .returned (.bool false) := h1
          subst h1
          have HNo : Hid (msgD rd ([] ++ [x]) = none) := Lib.hid (by rw [List.nil_append, msgD_cons, hrd]; rfl)
          clear hrd
          obtain ⟨W6, HW6⟩ : ∃ W6, Hid (w1.setRow (A + 1) (msC fst0 (.slice none 0 0)) = W6) := ⟨_, Lib.hid rfl⟩
          have hr6 : W6.heap[A + 1 + 1]? = some (.cells #[.bool false] 4 (0, 0)) := by rw [← HW6.out, setRow_other w1 _ _ _ (by omega)]; exact HR2.out
          have HR6 : Hid (W6.heap[A + 1]? = some (.cells (msC fst0 (.slice none 0 0)) 26 (0, 0))) := Lib.hid (by rw [← HW6.out]; exact setRow_heap _ _ _ _ _ _ HR1.out)
          have hk6 : Kp (fun q => q = A + 1) w1 W6 := by rw [← HW6.out]; exact hd_setRow_kp w1 _ _ rfl
          have HBe6 : Hid (Below A w W6) := Lib.hid (below_kp HBe.out HAw.out hk6 fun q e => by have e : q = A + 1 := e; omega)
          have HKO6 : Hid (KeepsOthers w1 W6) := Lib.hid (keeps_kp hk6 fun q e o ho => by
            have e : q = A + 1 := e
            rw [e, HR1.out] at ho
            cases ho; rfl)
          have c6 := cell_of_one hr6
          have f6 := free_of_one hr6
          have HR62 := Lib.hid hr6
          clear hk6 hr6
          gi_wp2_with (refine hdIn_store_row rfl 26 _ _ rfl (A + 1) (msC fst0 (.slice none 0 0)) ?_ ?_ 26 (msC fst0 (.slice none 0 0)) HR1.out infoMs rfl (msC_one _ _ rfl) ?_; exact rfl; exact rfl; rw [HW6.out])
          exact ⟨((HKO.out.trans HKO6.out).trans (KeepsOthers.setCell _ _ _)).from _, HX2.out _ ⟨rfl, HNo.out, (Below.heap_setCell _ _ _ _ (by show A + 1 ≠ A + 1 + 1; omega)).trans HR6.out, one_setCell HR62.out, HBe6.out.setCell (p := ⟨A + 1 + 1, 0, none⟩) (by show A ≤ A + 1 + 1; omega) _⟩⟩
        | some y =>
          rw [hrd] at h1
          obtain ⟨h1, hms⟩ := h1
          subst h1
          have HMs := Lib.hid hms
          have HRd := Lib.hid hrd
          have c4 := cell_of_one HR4.out
          have f4 := free_of_one HR4.out
          clear hms hrd
          gi_wp2
          refine ⟨(HKO.out.trans (KeepsOthers.setCell _ _ _)).from _, ⟨HK5.out.2.setCell (p := ⟨A + 1 + 1 + 1 + 1, 0, none⟩) (by show A ≤ A + 1 + 1 + 1 + 1; omega) _, (Below.heap_setCell _ _ _ _ (by show A + 5 ≠ A + 1 + 1 + 1 + 1; omega)).trans HK5.out.1⟩, HX.out _ (msI_first HI.out HAw.out HRd.out HMs.out HK.out)⟩
      | cons k P =>
        obtain ⟨mm, v, F, h1, h2, h3, h4, h5, -⟩ := HI.out.st
        have HB := Lib.hid h4
        have HO := Lib.hid h5
        have H1 := Lib.hid h1
        have H2 := Lib.hid h2
        have H3 := Lib.hid h3
        have cf : W.cell? ⟨A + 4, 0, none⟩ = some (.func (.func 102) #[] #[]) := HI.out.fn.cell
        have HC : Hid (CallsIn (Fence.wide.inRound l) (3 - 1 - 1 - 1) Tryd.prog 102 #[.pointer (some ⟨A + 3, 0, none⟩), .string (asB x)] W (FldR (A + 3) (A + 6) mm.1 v F W (fldD x))) :=
          Lib.hid (CallsIn.inRound l (callsIn_wide.2 (field_any (A + 3) (A + 6) x mm.1 v F m W hx HMW.out h4 h5 (by omega) HI.out.sz (by omega))))
        have HV : Hid (∀ q, v.ownBlock = some q → A + 6 ≤ q) := Lib.hid fun q e => (h5.h.lt q e).1
        have hA3 : A + 1 + 1 + 1 = A + 3 := rfl
        clear h1 h2 h3 h4 h5 hlt
        gi_wp2_with fail
        refine ⟨trivial, ?_⟩
        refine HC.out.mono ?_
        rintro e w1 ⟨h1, hk⟩
        have HK := Lib.hid hk
        have hnx : ∀ j, j < A + 6 → j ≠ A + 3 → ¬ (j = A + 3 ∨ v.ownBlock = some j) := fun j h1 h2 h3 => by
          rcases h3 with e | e
          · exact h2 e
          · have := HV.out j e; omega
        have HR1 : Hid (w1.heap[A + 1]? = some (.cells (msC fst0 (.slice none 0 0)) 26 (0, 0))) := Lib.hid (hk.at HI.out.r1 (hnx _ (by omega) (by omega)))
        have HR2 : Hid (Boxed w1 (A + 1 + 1) 4 (.bool false)) := Lib.hid (hk.at HI.out.r2 (hnx _ (by omega) (by omega)))
        have HR4 : Hid (w1.heap[A + 1 + 1 + 1 + 1]? = some (.cells #[.func (.func 102) #[] #[]] 71 (0, 0))) := Lib.hid (hk.at HI.out.fn (hnx _ (by omega) (by omega)))
        have hX : ∀ q, (q = A + 3 ∨ v.ownBlock = some q) → A ≤ q := fun q e => by
          rcases e with e | e
          · omega
          · have := HV.out q e; omega
        have HBe : Hid (Below A w w1) := Lib.hid (below_kp HI.out.be HAw.out hk hX)
        have HKO : Hid (KeepsOthers W w1) := Lib.hid (keeps_kp hk fun q e o ho => by
          rcases e with e | e
          · rw [e, show W.heap[A + 3]? = _ from HB.out] at ho
            cases ho; rfl
          · exact own_cells HO.out e ho)
        have HK5 : Hid (w1.heap[A + 5]? = W.heap[A + 5]? ∧ Below A W w1) := Lib.hid ⟨hk.block _ (by have := HI.out.sz; omega) (hnx _ (by omega) (by omega)), hk.below (by have := HI.out.sz; omega) hX⟩
        clear hk hX hnx
        cases hrd : fldD x with
        | none =>
          rw [hrd] at h1
          have h1 : e = .returned (.bool false) := h1
          subst h1
          have HNo : Hid (msgD rd (k :: P ++ [x]) = none) := Lib.hid (by
            rw [msgD_snoc, H1.out]
            show stepD rd (k :: P) mm x = none
            unfold stepD
            rw [if_neg (by simp), hrd]; rfl)
          clear hrd
          obtain ⟨W6, HW6⟩ : ∃ W6, Hid (w1.setRow (A + 1) (msC fst0 (.slice none 0 0)) = W6) := ⟨_, Lib.hid rfl⟩
          have hr6 : W6.heap[A + 1 + 1]? = some (.cells #[.bool false] 4 (0, 0)) := by rw [← HW6.out, setRow_other w1 _ _ _ (by omega)]; exact HR2.out
          have HR6 : Hid (W6.heap[A + 1]? = some (.cells (msC fst0 (.slice none 0 0)) 26 (0, 0))) := Lib.hid (by rw [← HW6.out]; exact setRow_heap _ _ _ _ _ _ HR1.out)
          have hk6 : Kp (fun q => q = A + 1) w1 W6 := by rw [← HW6.out]; exact hd_setRow_kp w1 _ _ rfl
          have HBe6 : Hid (Below A w W6) := Lib.hid (below_kp HBe.out HAw.out hk6 fun q e => by have e : q = A + 1 := e; omega)
          have HKO6 : Hid (KeepsOthers w1 W6) := Lib.hid (keeps_kp hk6 fun q e o ho => by
            have e : q = A + 1 := e
            rw [e, HR1.out] at ho
            cases ho; rfl)
          have c6 := cell_of_one hr6
          have f6 := free_of_one hr6
          have HR62 := Lib.hid hr6
          clear hk6 hr6
          gi_wp2_with (refine hdIn_store_row rfl 26 _ _ rfl (A + 1) (msC fst0 (.slice none 0 0)) ?_ ?_ 26 (msC fst0 (.slice none 0 0)) HR1.out infoMs rfl (msC_one _ _ rfl) ?_; exact rfl; exact rfl; rw [HW6.out])
          exact ⟨((HKO.out.trans HKO6.out).trans (KeepsOthers.setCell _ _ _)).from _, HX2.out _ ⟨rfl, HNo.out, (Below.heap_setCell _ _ _ _ (by show A + 1 ≠ A + 1 + 1; omega)).trans HR6.out, one_setCell HR62.out, HBe6.out.setCell (p := ⟨A + 1 + 1, 0, none⟩) (by show A ≤ A + 1 + 1; omega) _⟩⟩
        | some f =>
          rw [hrd] at h1
          obtain ⟨h1, v', hms, ho'⟩ := h1
          subst h1
          have HMs := Lib.hid hms
          have HO' := Lib.hid ho'
          have HRd := Lib.hid hrd
          have c4 := cell_of_one HR4.out
          have f4 := free_of_one HR4.out
          clear hms ho' hrd
          gi_wp2
          exact ⟨(HKO.out.trans (KeepsOthers.setCell _ _ _)).from _, ⟨HK5.out.2.setCell (p := ⟨A + 1 + 1 + 1 + 1, 0, none⟩) (by show A ≤ A + 1 + 1 + 1 + 1; omega) _, (Below.heap_setCell _ _ _ _ (by show A + 5 ≠ A + 1 + 1 + 1 + 1; omega)).trans HK5.out.1⟩, HX.out _ (msI_field HI.out HAw.out H1.out H2.out H3.out HO.out HRd.out HMs.out HO'.out HK.out)⟩
    case done =>
      rintro Dd ys W hDd hS hI hK
      obtain ⟨P, HP⟩ : ∃ P, Hid (lnL ys = P) := ⟨_, Lib.hid rfl⟩
      have hI2 : MsI rd 60 w A P W := by rw [← HP.out]; exact hI
      have hPD : P = linT D := by rw [← HP.out]; exact hS
      obtain ⟨mm, v, F, h1, h2, -, h4, h5, -⟩ := hI2.st
      rw [hPD] at h1
      have H1 := Lib.hid h1
      have H2 := Lib.hid h2
      have HO := Lib.hid h5
      have HI := Lib.hid hI2
      have HB := Lib.hid h4
      have HK := Lib.hid hK
      have HAw : Hid (A ≤ w.heap.size) := Lib.hid (by rw [HA.out]; exact Nat.le_refl _)
      have HV : Hid (∀ q, v.ownBlock = some q → A + 6 ≤ q) := Lib.hid fun q e => (h5.h.lt q e).1
      obtain ⟨W6, HW6⟩ : ∃ W6, Hid (W.setRow (A + 1) (msC mm.1 v) = W6) := ⟨_, Lib.hid rfl⟩
      have hk6 : Kp (fun q => q = A + 1) W W6 := by rw [← HW6.out]; exact hd_setRow_kp W _ _ rfl
      have hr6 : W6.heap[A + 1 + 1]? = some (.cells #[.bool false] 4 (0, 0)) := by rw [← HW6.out, setRow_other W _ _ _ (by omega)]; exact HI.out.r2
      have HR6 : Hid (W6.heap[A + 1]? = some (.cells (msC mm.1 v) 26 (0, 0))) := Lib.hid (by rw [← HW6.out]; exact setRow_heap _ _ _ _ _ _ HI.out.r1)
      have HBe6 : Hid (Below A w W6) := Lib.hid (below_kp HI.out.be HAw.out hk6 fun q e => by have e : q = A + 1 := e; omega)
      have HO6 : Hid (OwnF (A + 6) v F W6) := Lib.hid ⟨own_kept HO.out.h hk6 fun q hq e => by have e : q = A + 1 := e; omega⟩
      have HK6 : Hid (W6.heap[Dd]? = some (.deferred (some []))) := Lib.hid (by rw [hk6.block Dd (lt_of_block hK) (by have := HW.out.s; omega)]; exact hK)
      have c6 := cell_of_one hr6
      have f6 := free_of_one hr6
      have HR62 := Lib.hid hr6
      clear hk6 hr6 hI hI2 h1 h2 h4 h5 hK hS
      gi_wp2_with (first
        | (refine hdIn_load_row rfl 26 _ rfl (A + 3) ?_ 26 (msC mm.1 v) (0, 0) _ HB.out Tryd.underlying26 rfl infoMs ?_; (exact rfl))
        | (refine hdIn_store_row rfl 26 _ _ rfl (A + 1) (msC mm.1 v) ?_ ?_ 26 (msC fst0 (.slice none 0 0)) HI.out.r1 infoMs rfl (msC_one _ _ (own_one HO.out)) ?_; (exact rfl); (exact rfl); (rw [HW6.out])))
      have hK7 : (W6.setCell ⟨A + 1 + 1, 0, none⟩ (.bool true)).heap[Dd]? = some (.deferred (some [])) := (KeepsOthers.setCell W6 ⟨A + 1 + 1, 0, none⟩ (.bool true)).same Dd _ HK6.out rfl
      have hr1 : (W6.setCell ⟨A + 1 + 1, 0, none⟩ (.bool true)).heap[A + 1]? = some (.cells (msC mm.1 v) 26 (0, 0)) := (Below.heap_setCell _ _ _ _ (by show A + 1 ≠ A + 1 + 1; omega)).trans HR6.out
      have hr2 : (W6.setCell ⟨A + 1 + 1, 0, none⟩ (.bool true)).heap[A + 1 + 1]? = some (.cells #[.bool true] 4 (0, 0)) := one_setCell HR62.out
      have hg := grownBy_putObj' (W6.setCell ⟨A + 1 + 1, 0, none⟩ (.bool true)) Dd (.deferred none)
      have hrr : ∀ r, some Dd = some r → ∃ o : Obj, (W6.setCell ⟨A + 1 + 1, 0, none⟩ (.bool true)).heap[r]? = some o ∧ o.isCells = false := fun r e => by cases e; exact ⟨_, hK7, rfl⟩
      have hoF := (HO6.out.setCell (b := A + 1 + 1) (k := 0) (by omega) (.bool true))
      refine ⟨by simp, .inl ⟨_, _, rfl, run_takeDeferred hK7, ?_⟩⟩
      refine ⟨_, hd_cells2 rfl _ _ (A + 1) (A + 1 + 1) (msC mm.1 v) true rfl rfl rfl (at_grown hr1 hg hrr) (at_grown hr2 hg hrr), ?_⟩
      unfold MsgR
      rw [H1.out]
      refine ⟨⟨v, F, H2.out, rfl, ?_⟩, ?_⟩
      · rw [HA.out]
        exact (ownF_grown hoF hg hrr).mono (by omega)
      · rw [HA.out]
        exact (HBe6.out.setCell (p := ⟨A + 1 + 1, 0, none⟩) (by show A ≤ A + 1 + 1; omega) _).trans (belowK_b (w := W0) (by omega) _ Dd _ _ hDd hK7 rfl rfl)
    case stop =>
      rintro Dd c pre W hDd hSp ⟨rfl, hno, hr1, hr2, hbe⟩ hK
      have HNo : Hid (msgD rd (linT D) = none) := Lib.hid (by
        obtain ⟨T, hT⟩ := hSp
        rw [← hT]; exact msgD_none rd T _ hno)
      have hg := grownBy_putObj' W Dd (.deferred none)
      have hrr : ∀ r, some Dd = some r → ∃ o : Obj, W.heap[r]? = some o ∧ o.isCells = false := fun r e => by cases e; exact ⟨_, hK, rfl⟩
      gi_wp2
      refine ⟨by simp, .inl ⟨_, _, rfl, run_takeDeferred hK, ?_⟩⟩
      refine ⟨_, hd_cells2 rfl _ _ (A + 1) (A + 1 + 1) (msC fst0 (.slice none 0 0)) false rfl rfl rfl (at_grown hr1 hg hrr) (at_grown hr2 hg hrr), ?_⟩
      unfold MsgR
      rw [HNo.out]
      refine ⟨rfl, ?_⟩
      rw [HA.out]
      exact hbe.trans (belowK_b (w := W0) (by omega) W Dd _ _ hDd hK rfl rfl)
  · refine (callsIn_wide (n := 3)).1 ?_
    refine callsIn_of_wp_marks Tryd.func87 rfl trivial ?_ rfl
    simp only [Tryd.ntmps87, List.size_toArray, List.length_cons, List.length_nil, Nat.reduceAdd, Nat.reduceSub, Array.replicate_succ, Array.replicate_zero, List.push_toArray, List.append_toArray, List.nil_append, List.cons_append]
    gi_wp2_with fail
    refine ⟨trivial, ?_⟩
    refine (HL.out _).mono ?_
    rintro e W0 ⟨rfl, hw1⟩
    simp only [World.size_alloc]
    have HW : Hid (MsW w A 58 hd W0) := Lib.hid (by rw [← hw1, ← HA.out]; exact msW_facts w _ hd)
    clear hw1
    have hz := HW.out.s
    have hmA : 0 < A := by rw [← HA.out]; exact block_lt_of_cell HM.out
    have hstops := lin_stops (3 - 1) (by omega) (A + 5) A hd D m W0 HD.out HT (by have := HW.out.a5; exact cell_of_one this) ((HW.out.be.cell (p := ⟨0, 0, none⟩) hmA).trans HM.out) hmA
    have hb0 := HW.out.be
    rw [HA.out]
    gi_wp2
    refine wpIn_rangeFunc_ownH rfl (by omega) (gf := 112) (lb := #[.pointer (some ⟨A + 5, 0, none⟩)]) rfl trivial (enters_of Tryd.func112 (by kernel_rfl) rfl)
      hstops (fun h k => kpB_t h k) (kpB_b (by omega) (by omega)) (Below.refl _ _) (fun _ => rfl)
      (fun pre => MsI rd 58 w A (lnL pre)) (fun c pre => MsX rd w A c (lnL pre)) (fun s => msI_own rd _ w A _ (by rw [HA.out]; exact Nat.le_refl _) (by omega) (lnL s)) (fun c s => msX_own rd w A _ (by rw [HA.out]; exact Nat.le_refl _) (by omega) c (lnL s))
      ⟨⟨msg0, .slice none 0 0, [], rfl, rfl, Nat.le_refl _, HW.out.a3, OwnF.nil _ _, fun _ => rfl⟩, HW.out.a4, HW.out.a1, HW.out.a2, by omega, hb0⟩
      (fun x a' W => a' = { tmps := #[.agg #[.func (.func 58) #[] #[]], .string hd, .pointer (some ⟨A, 0, none⟩), undef, .pointer (some ⟨A + 1, 0, none⟩), .pointer (some ⟨A + 1 + 1, 0, none⟩), .pointer (some ⟨A + 1 + 1 + 1, 0, none⟩), .pointer (some ⟨A + 1 + 1 + 1 + 1, 0, none⟩), .string (asB x.1), .pointer (some ⟨A, 0, none⟩), .func (.func 58) #[] #[], .string hd, .func (.func 112) #[] #[.pointer (some ⟨A + 5, 0, none⟩)], .string (asB x.1), undef, undef, undef, undef, undef, undef], defers := [] })
      (fun x a' => fun s X Y row hs hg hr => hs) ?assign ?body ?done ?stop
    case assign =>
      rintro l pre x W K hI hK
      dsimp only [encL]
      gi_wp2
      exact hK _ _ (KeepsFrom.refl _ _) ⟨Below.refl _ _, rfl⟩ hI rfl
    case body =>
      rintro l pre ⟨x, hx⟩ a' W hl _ hI rfl hlt
      obtain ⟨P, HP⟩ : ∃ P, Hid (lnL pre = P) := ⟨_, Lib.hid rfl⟩
      have hPl : pre.length = P.length := by rw [← HP.out]; simp [lnL]
      have hNl := linT_count _ D (Nat.le_refl _)
      have hI2 : MsI rd 58 w A P W := by rw [← HP.out]; exact hI
      have HX : Hid (∀ W', MsI rd 58 w A (P ++ [x]) W' → MsI rd 58 w A (lnL (pre ++ [⟨x, hx⟩])) W') := Lib.hid fun W' h => by rw [lnL_app, HP.out]; exact h
      have HX2 : Hid (∀ W', MsX rd w A .ret (P ++ [x]) W' → MsX rd w A .ret (lnL (pre ++ [⟨x, hx⟩])) W') := Lib.hid fun W' h => by rw [lnL_app, HP.out]; exact h
      have HI := Lib.hid hI2
      have HMW : Hid (MxAt m W) := Lib.hid ((hI2.be.cell (p := ⟨0, 0, none⟩) hmA).trans HM.out)
      have HAw : Hid (A ≤ w.heap.size) := Lib.hid (by rw [HA.out]; exact Nat.le_refl _)
      have hPn : P.length ≤ 70000 := by have := HD.out; omega
      clear hI hI2 hNl
      cases P with
      | nil =>
        obtain ⟨mm, v, F, h1, h2, h3, h4, h5, h6⟩ := HI.out.st
        have hv := h6 rfl
        cases h1
        subst hv
        have HB := Lib.hid h4
        have cf : W.cell? ⟨A + 4, 0, none⟩ = some (.func (.func 58) #[] #[]) := HI.out.fn.cell
        have HC : Hid (CallsIn (Fence.wide.inRound l) (3 - 1 - 1 - 1) Tryd.prog 58 #[.pointer (some ⟨A + 3, 0, none⟩), .string (asB x)] W (FstR (A + 3) W (rd x))) := Lib.hid (CallsIn.inRound l (callsIn_wide.2 (HG.out (A + 3) x W hx HMW.out h4)))
        have hA3 : A + 1 + 1 + 1 = A + 3 := rfl
        clear h2 h3 h4 h5 h6 hlt
        gi_wp2_with fail
        refine ⟨trivial, ?_⟩
        refine HC.out.mono ?_
        rintro e w1 ⟨h1, hk⟩
        have HK := Lib.hid hk
        have hk1 : Kp (fun q => q = A + 3) W w1 := hk
        have HR1 : Hid (w1.heap[A + 1]? = some (.cells (msC fst0 (.slice none 0 0)) 26 (0, 0))) := Lib.hid (hk1.at HI.out.r1 (by omega))
        have HR2 : Hid (Boxed w1 (A + 1 + 1) 4 (.bool false)) := Lib.hid (hk1.at HI.out.r2 (by omega))
        have HR4 : Hid (w1.heap[A + 1 + 1 + 1 + 1]? = some (.cells #[.func (.func 58) #[] #[]] 71 (0, 0))) := Lib.hid (hk1.at HI.out.fn (by omega))
        have HBe : Hid (Below A w w1) := Lib.hid (below_kp HI.out.be HAw.out hk1 fun q e => by omega)
        have HKO : Hid (KeepsOthers W w1) := Lib.hid (keeps_kp hk1 fun q e o ho => by
          have e : q = A + 3 := e
          rw [e, show W.heap[A + 3]? = _ from HB.out] at ho
          cases ho; rfl)
        have HK5 : Hid (w1.heap[A + 5]? = W.heap[A + 5]? ∧ Below A W w1) := Lib.hid ⟨hk1.block _ (by have := HI.out.sz; omega) (by omega), hk1.below (by have := HI.out.sz; omega) fun q e => by have e : q = A + 3 := e; omega⟩
        clear hk hk1
        cases hrd : rd x with
        | none =>
          rw [hrd] at h1
          have h1 : e = .returned (.bool false) := h1
          subst h1
          have HNo : Hid (msgD rd ([] ++ [x]) = none) := Lib.hid (by rw [List.nil_append, msgD_cons, hrd]; rfl)
          clear hrd
          obtain ⟨W6, HW6⟩ : ∃ W6, Hid (w1.setRow (A + 1) (msC fst0 (.slice none 0 0)) = W6) := ⟨_, Lib.hid rfl⟩
          have hr6 : W6.heap[A + 1 + 1]? = some (.cells #[.bool false] 4 (0, 0)) := by rw [← HW6.out, setRow_other w1 _ _ _ (by omega)]; exact HR2.out
          have HR6 : Hid (W6.heap[A + 1]? = some (.cells (msC fst0 (.slice none 0 0)) 26 (0, 0))) := Lib.hid (by rw [← HW6.out]; exact setRow_heap _ _ _ _ _ _ HR1.out)
          have hk6 : Kp (fun q => q = A + 1) w1 W6 := by rw [← HW6.out]; exact hd_setRow_kp w1 _ _ rfl
          have HBe6 : Hid (Below A w W6) := Lib.hid (below_kp HBe.out HAw.out hk6 fun q e => by have e : q = A + 1 := e; omega)
          have HKO6 : Hid (KeepsOthers w1 W6) := Lib.hid (keeps_kp hk6 fun q e o ho => by
            have e : q = A + 1 := e
            rw [e, HR1.out] at ho
            cases ho; rfl)
          have c6 := cell_of_one hr6
          have f6 := free_of_one hr6
          have HR62 := Lib.hid hr6
          clear hk6 hr6
          gi_wp2_with (refine hdIn_store_row rfl 26 _ _ rfl (A + 1) (msC fst0 (.slice none 0 0)) ?_ ?_ 26 (msC fst0 (.slice none 0 0)) HR1.out infoMs rfl (msC_one _ _ rfl) ?_; exact rfl; exact rfl; rw [HW6.out])
          exact ⟨((HKO.out.trans HKO6.out).trans (KeepsOthers.setCell _ _ _)).from _, HX2.out _ ⟨rfl, HNo.out, (Below.heap_setCell _ _ _ _ (by show A + 1 ≠ A + 1 + 1; omega)).trans HR6.out, one_setCell HR62.out, HBe6.out.setCell (p := ⟨A + 1 + 1, 0, none⟩) (by show A ≤ A + 1 + 1; omega) _⟩⟩
        | some y =>
          rw [hrd] at h1
          obtain ⟨h1, hms⟩ := h1
          subst h1
          have HMs := Lib.hid hms
          have HRd := Lib.hid hrd
          have c4 := cell_of_one HR4.out
          have f4 := free_of_one HR4.out
          clear hms hrd
          gi_wp2
          refine ⟨(HKO.out.trans (KeepsOthers.setCell _ _ _)).from _, ⟨HK5.out.2.setCell (p := ⟨A + 1 + 1 + 1 + 1, 0, none⟩) (by show A ≤ A + 1 + 1 + 1 + 1; omega) _, (Below.heap_setCell _ _ _ _ (by show A + 5 ≠ A + 1 + 1 + 1 + 1; omega)).trans HK5.out.1⟩, HX.out _ (msI_first HI.out HAw.out HRd.out HMs.out HK.out)⟩
      | cons k P =>
        obtain ⟨mm, v, F, h1, h2, h3, h4, h5, -⟩ := HI.out.st
        have HB := Lib.hid h4
        have HO := Lib.hid h5
        have H1 := Lib.hid h1
        have H2 := Lib.hid h2
        have H3 := Lib.hid h3
        have cf : W.cell? ⟨A + 4, 0, none⟩ = some (.func (.func 102) #[] #[]) := HI.out.fn.cell
        have HC : Hid (CallsIn (Fence.wide.inRound l) (3 - 1 - 1 - 1) Tryd.prog 102 #[.pointer (some ⟨A + 3, 0, none⟩), .string (asB x)] W (FldR (A + 3) (A + 6) mm.1 v F W (fldD x))) :=
          Lib.hid (CallsIn.inRound l (callsIn_wide.2 (field_any (A + 3) (A + 6) x mm.1 v F m W hx HMW.out h4 h5 (by omega) HI.out.sz (by omega))))
        have HV : Hid (∀ q, v.ownBlock = some q → A + 6 ≤ q) := Lib.hid fun q e => (h5.h.lt q e).1
        have hA3 : A + 1 + 1 + 1 = A + 3 := rfl
        clear h1 h2 h3 h4 h5 hlt
        gi_wp2_with fail
        refine ⟨trivial, ?_⟩
        refine HC.out.mono ?_
        rintro e w1 ⟨h1, hk⟩
        have HK := Lib.hid hk
        have hnx : ∀ j, j < A + 6 → j ≠ A + 3 → ¬ (j = A + 3 ∨ v.ownBlock = some j) := fun j h1 h2 h3 => by
          rcases h3 with e | e
          · exact h2 e
          · have := HV.out j e; omega
        have HR1 : Hid (w1.heap[A + 1]? = some (.cells (msC fst0 (.slice none 0 0)) 26 (0, 0))) := Lib.hid (hk.at HI.out.r1 (hnx _ (by omega) (by omega)))
        have HR2 : Hid (Boxed w1 (A + 1 + 1) 4 (.bool false)) := Lib.hid (hk.at HI.out.r2 (hnx _ (by omega) (by omega)))
        have HR4 : Hid (w1.heap[A + 1 + 1 + 1 + 1]? = some (.cells #[.func (.func 102) #[] #[]] 71 (0, 0))) := Lib.hid (hk.at HI.out.fn (hnx _ (by omega) (by omega)))
        have hX : ∀ q, (q = A + 3 ∨ v.ownBlock = some q) → A ≤ q := fun q e => by
          rcases e with e | e
          · omega
          · have := HV.out q e; omega
        have HBe : Hid (Below A w w1) := Lib.hid (below_kp HI.out.be HAw.out hk hX)
        have HKO : Hid (KeepsOthers W w1) := Lib.hid (keeps_kp hk fun q e o ho => by
          rcases e with e | e
          · rw [e, show W.heap[A + 3]? = _ from HB.out] at ho
            cases ho; rfl
          · exact own_cells HO.out e ho)
        have HK5 : Hid (w1.heap[A + 5]? = W.heap[A + 5]? ∧ Below A W w1) := Lib.hid ⟨hk.block _ (by have := HI.out.sz; omega) (hnx _ (by omega) (by omega)), hk.below (by have := HI.out.sz; omega) hX⟩
        clear hk hX hnx
        cases hrd : fldD x with
        | none =>
          rw [hrd] at h1
          have h1 : e = .returned (.bool false) := h1
          subst h1
          have HNo : Hid (msgD rd (k :: P ++ [x]) = none) := Lib.hid (by
            rw [msgD_snoc, H1.out]
            show stepD rd (k :: P) mm x = none
            unfold stepD
            rw [if_neg (by simp), hrd]; rfl)
          clear hrd
          obtain ⟨W6, HW6⟩ : ∃ W6, Hid (w1.setRow (A + 1) (msC fst0 (.slice none 0 0)) = W6) := ⟨_, Lib.hid rfl⟩
          have hr6 : W6.heap[A + 1 + 1]? = some (.cells #[.bool false] 4 (0, 0)) := by rw [← HW6.out, setRow_other w1 _ _ _ (by omega)]; exact HR2.out
          have HR6 : Hid (W6.heap[A + 1]? = some (.cells (msC fst0 (.slice none 0 0)) 26 (0, 0))) := Lib.hid (by rw [← HW6.out]; exact setRow_heap _ _ _ _ _ _ HR1.out)
          have hk6 : Kp (fun q => q = A + 1) w1 W6 := by rw [← HW6.out]; exact hd_setRow_kp w1 _ _ rfl
          have HBe6 : Hid (Below A w W6) := Lib.hid (below_kp HBe.out HAw.out hk6 fun q e => by have e : q = A + 1 := e; omega)
          have HKO6 : Hid (KeepsOthers w1 W6) := Lib.hid (keeps_kp hk6 fun q e o ho => by
            have e : q = A + 1 := e
            rw [e, HR1.out] at ho
            cases ho; rfl)
          have c6 := cell_of_one hr6
          have f6 := free_of_one hr6
          have HR62 := Lib.hid hr6
          clear hk6 hr6
          gi_wp2_with (refine hdIn_store_row rfl 26 _ _ rfl (A + 1) (msC fst0 (.slice none 0 0)) ?_ ?_ 26 (msC fst0 (.slice none 0 0)) HR1.out infoMs rfl (msC_one _ _ rfl) ?_; exact rfl; exact rfl; rw [HW6.out])
          exact ⟨((HKO.out.trans HKO6.out).trans (KeepsOthers.setCell _ _ _)).from _, HX2.out _ ⟨rfl, HNo.out, (Below.heap_setCell _ _ _ _ (by show A + 1 ≠ A + 1 + 1; omega)).trans HR6.out, one_setCell HR62.out, HBe6.out.setCell (p := ⟨A + 1 + 1, 0, none⟩) (by show A ≤ A + 1 + 1; omega) _⟩⟩
        | some f =>
          rw [hrd] at h1
          obtain ⟨h1, v', hms, ho'⟩ := h1
          subst h1
          have HMs := Lib.hid hms
          have HO' := Lib.hid ho'
          have HRd := Lib.hid hrd
          have c4 := cell_of_one HR4.out
          have f4 := free_of_one HR4.out
          clear hms ho' hrd
          gi_wp2
          exact ⟨(HKO.out.trans (KeepsOthers.setCell _ _ _)).from _, ⟨HK5.out.2.setCell (p := ⟨A + 1 + 1 + 1 + 1, 0, none⟩) (by show A ≤ A + 1 + 1 + 1 + 1; omega) _, (Below.heap_setCell _ _ _ _ (by show A + 5 ≠ A + 1 + 1 + 1 + 1; omega)).trans HK5.out.1⟩, HX.out _ (msI_field HI.out HAw.out H1.out H2.out H3.out HO.out HRd.out HMs.out HO'.out HK.out)⟩
    case done =>
      rintro Dd ys W hDd hS hI hK
      obtain ⟨P, HP⟩ : ∃ P, Hid (lnL ys = P) := ⟨_, Lib.hid rfl⟩
      have hI2 : MsI rd 58 w A P W := by rw [← HP.out]; exact hI
      have hPD : P = linT D := by rw [← HP.out]; exact hS
      obtain ⟨mm, v, F, h1, h2, -, h4, h5, -⟩ := hI2.st
      rw [hPD] at h1
      have H1 := Lib.hid h1
      have H2 := Lib.hid h2
      have HO := Lib.hid h5
      have HI := Lib.hid hI2
      have HB := Lib.hid h4
      have HK := Lib.hid hK
      have HAw : Hid (A ≤ w.heap.size) := Lib.hid (by rw [HA.out]; exact Nat.le_refl _)
      have HV : Hid (∀ q, v.ownBlock = some q → A + 6 ≤ q) := Lib.hid fun q e => (h5.h.lt q e).1
      obtain ⟨W6, HW6⟩ : ∃ W6, Hid (W.setRow (A + 1) (msC mm.1 v) = W6) := ⟨_, Lib.hid rfl⟩
      have hk6 : Kp (fun q => q = A + 1) W W6 := by rw [← HW6.out]; exact hd_setRow_kp W _ _ rfl
      have hr6 : W6.heap[A + 1 + 1]? = some (.cells #[.bool false] 4 (0, 0)) := by rw [← HW6.out, setRow_other W _ _ _ (by omega)]; exact HI.out.r2
      have HR6 : Hid (W6.heap[A + 1]? = some (.cells (msC mm.1 v) 26 (0, 0))) := Lib.hid (by rw [← HW6.out]; exact setRow_heap _ _ _ _ _ _ HI.out.r1)
      have HBe6 : Hid (Below A w W6) := Lib.hid (below_kp HI.out.be HAw.out hk6 fun q e => by have e : q = A + 1 := e; omega)
      have HO6 : Hid (OwnF (A + 6) v F W6) := Lib.hid ⟨own_kept HO.out.h hk6 fun q hq e => by have e : q = A + 1 := e; omega⟩
      have HK6 : Hid (W6.heap[Dd]? = some (.deferred (some []))) := Lib.hid (by rw [hk6.block Dd (lt_of_block hK) (by have := HW.out.s; omega)]; exact hK)
      have c6 := cell_of_one hr6
      have f6 := free_of_one hr6
      have HR62 := Lib.hid hr6
      clear hk6 hr6 hI hI2 h1 h2 h4 h5 hK hS
      gi_wp2_with (first
        | (refine hdIn_load_row rfl 26 _ rfl (A + 3) ?_ 26 (msC mm.1 v) (0, 0) _ HB.out Tryd.underlying26 rfl infoMs ?_; (exact rfl))
        | (refine hdIn_store_row rfl 26 _ _ rfl (A + 1) (msC mm.1 v) ?_ ?_ 26 (msC fst0 (.slice none 0 0)) HI.out.r1 infoMs rfl (msC_one _ _ (own_one HO.out)) ?_; (exact rfl); (exact rfl); (rw [HW6.out])))
      have hK7 : (W6.setCell ⟨A + 1 + 1, 0, none⟩ (.bool true)).heap[Dd]? = some (.deferred (some [])) := (KeepsOthers.setCell W6 ⟨A + 1 + 1, 0, none⟩ (.bool true)).same Dd _ HK6.out rfl
      have hr1 : (W6.setCell ⟨A + 1 + 1, 0, none⟩ (.bool true)).heap[A + 1]? = some (.cells (msC mm.1 v) 26 (0, 0)) := (Below.heap_setCell _ _ _ _ (by show A + 1 ≠ A + 1 + 1; omega)).trans HR6.out
      have hr2 : (W6.setCell ⟨A + 1 + 1, 0, none⟩ (.bool true)).heap[A + 1 + 1]? = some (.cells #[.bool true] 4 (0, 0)) := one_setCell HR62.out
      have hg := grownBy_putObj' (W6.setCell ⟨A + 1 + 1, 0, none⟩ (.bool true)) Dd (.deferred none)
      have hrr : ∀ r, some Dd = some r → ∃ o : Obj, (W6.setCell ⟨A + 1 + 1, 0, none⟩ (.bool true)).heap[r]? = some o ∧ o.isCells = false := fun r e => by cases e; exact ⟨_, hK7, rfl⟩
      have hoF := (HO6.out.setCell (b := A + 1 + 1) (k := 0) (by omega) (.bool true))
      refine ⟨by simp, .inl ⟨_, _, rfl, run_takeDeferred hK7, ?_⟩⟩
      refine ⟨_, hd_cells2 rfl _ _ (A + 1) (A + 1 + 1) (msC mm.1 v) true rfl rfl rfl (at_grown hr1 hg hrr) (at_grown hr2 hg hrr), ?_⟩
      unfold MsgR
      rw [H1.out]
      refine ⟨⟨v, F, H2.out, rfl, ?_⟩, ?_⟩
      · rw [HA.out]
        exact (ownF_grown hoF hg hrr).mono (by omega)
      · rw [HA.out]
        exact (HBe6.out.setCell (p := ⟨A + 1 + 1, 0, none⟩) (by show A ≤ A + 1 + 1; omega) _).trans (belowK_b (w := W0) (by omega) _ Dd _ _ hDd hK7 rfl rfl)
    case stop =>
      rintro Dd c pre W hDd hSp ⟨rfl, hno, hr1, hr2, hbe⟩ hK
      have HNo : Hid (msgD rd (linT D) = none) := Lib.hid (by
        obtain ⟨T, hT⟩ := hSp
        rw [← hT]; exact msgD_none rd T _ hno)
      have hg := grownBy_putObj' W Dd (.deferred none)
      have hrr : ∀ r, some Dd = some r → ∃ o : Obj, W.heap[r]? = some o ∧ o.isCells = false := fun r e => by cases e; exact ⟨_, hK, rfl⟩
      gi_wp2
      refine ⟨by simp, .inl ⟨_, _, rfl, run_takeDeferred hK, ?_⟩⟩
      refine ⟨_, hd_cells2 rfl _ _ (A + 1) (A + 1 + 1) (msC fst0 (.slice none 0 0)) false rfl rfl rfl (at_grown hr1 hg hrr) (at_grown hr2 hg hrr), ?_⟩
      unfold MsgR
      rw [HNo.out]
      refine ⟨rfl, ?_⟩
      rw [HA.out]
      exact hbe.trans (belowK_b (w := W0) (by omega) W Dd _ _ hDd hK rfl rfl)

end Go.Proofs.YtbfnbjffobhllaaDoor
