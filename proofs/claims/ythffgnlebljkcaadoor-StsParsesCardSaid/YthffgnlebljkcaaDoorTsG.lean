/-
  Package sts: Parse.
-/
import Derived.Test.YthffgnlebljkcaaDoorTsF
import Derived.Recover
namespace Go.Proofs.YthffgnlebljkcaaDoor
open Go.RowKit

def wz : Array Value := #[.int .i64 0, .bool false]
theorem ts_setRow_kp {X : Nat → Prop} (w : World) (g : Nat) (cs : Array Value) (hX : X g) : Kp X w (w.setRow g cs) := by
  refine ⟨?_, ?_, ?_, ?_, fun k _ hx => setRow_other w g k cs (fun e => hx (e ▸ hX))⟩ <;> unfold World.setRow <;> simp
set_option maxRecDepth 100000 in
set_option maxHeartbeats 2000000 in
theorem tsCatch_yes (q r : Nat) (c d : Int) (old : Array Value) (older : List PanicEntry) (w : World) (hq : w.heap[q]? = some (.cells old 24 (0, 0))) (ho : old.size = 2) (hr : w.heap[r]? = some (.cells #[.int .i64 d] 25 (0, 0))) (hqr : q ≠ r) :
    CallsD Tryd.prog 20 #[.pointer (some ⟨q, 0, none⟩), .pointer (some ⟨r, 0, none⟩)] (.panicking ({ v := .iface 25 (.int .i64 c), recovered := false } :: older)) w fun e u' w' =>
      e = .returned (.tuple #[]) ∧ u' = .panicking ({ v := .iface 25 (.int .i64 c), recovered := true } :: older) ∧ w'.heap[q]? = some (.cells wz 24 (0, 0)) ∧ w'.heap[r]? = some (.cells #[.int .i64 4] 25 (0, 0)) ∧ Kp (fun k => k = q ∨ k = r) w w' := by
  have HQ := Lib.hid hq
  have HO : Hid (old.size = wz.size) := Lib.hid ho
  have HI := Lib.hid infoWish
  obtain ⟨W1, HW1⟩ : ∃ W, Hid (w.setRow q wz = W) := ⟨_, Lib.hid rfl⟩
  have HQ1 : Hid (W1.heap[q]? = some (.cells wz 24 (0, 0))) := Lib.hid (by rw [← HW1.out]; exact setRow_heap w q old _ _ _ hq)
  have hr1 : W1.heap[r]? = some (.cells #[.int .i64 d] 25 (0, 0)) := by rw [← HW1.out, setRow_other w q r _ hqr.symm]; exact hr
  have HK1 : Hid (Kp (fun k => k = q ∨ k = r) w W1) := Lib.hid (by rw [← HW1.out]; exact ts_setRow_kp w q _ (.inl rfl))
  have c1 := cell_of_one hr1
  have f1 := free_of_one hr1
  have HR1 := Lib.hid hr1
  clear hq ho hr hr1
  refine callsD_of_wpS Tryd.func20 rfl fun c₀ cs hu => ?_
  apply wpS_seq
  apply wpS_region
  simp [wpOpsS, go_sem, recoverD, hu, Tryd.ntmps20, Exit.thenS, Array.replicate]
  clear hu
  refine wpS_of_wp ?_
  go_wp2_with (refine wpL_store_row rfl 24 _ _ rfl q wz ?_ ?_ 24 old ?_ ?_ ?_ ?_ ?_; exact rfl; exact rfl; exact HQ.out; exact HI.out; exact HO.out; (simp [wz, Value.oneCell']); rw [HW1.out])
  exact ⟨rfl, _, rfl, _, results_none rfl _ _ _, rfl, rfl, by rw [Below.heap_setCell _ _ _ _ (by first | (show q ≠ r; exact hqr) | (show r ≠ q; exact hqr.symm))]; exact HQ1.out, one_setCell HR1.out, HK1.out.setCell (p := ⟨r, 0, none⟩) (.inr rfl) _⟩
set_option maxRecDepth 100000 in
set_option maxHeartbeats 2000000 in
theorem tsCatch_no (q r : Nat) (w : World) :
    CallsD Tryd.prog 20 #[.pointer (some ⟨q, 0, none⟩), .pointer (some ⟨r, 0, none⟩)] .returning w fun e u' w' => e = .returned (.tuple #[]) ∧ u' = .returning ∧ w' = w := by
  refine callsD_of_wpS Tryd.func20 rfl fun c₀ cs hu => ?_
  apply wpS_seq
  apply wpS_region
  simp [wpOpsS, go_sem, recoverD, hu, Tryd.ntmps20, Exit.thenS, Array.replicate]
  refine wpS_of_wp ?_
  go_wp2
  have hc : c₀ = { c₀ with mode := .returning } := by cases c₀; simp_all
  exact ⟨rfl, .returning, by rw [← hc], _, results_none rfl _ _ _, rfl, rfl, rfl⟩

theorem ts_errno (w : World) (g : Nat) (v : Value) (h : w.cell? ⟨g, 0, none⟩ = some v) : (loadVar 25 ⟨g, 0, none⟩).run Tryd.prog w = .ok v w := by
  simp [loadVar, Sem.run_bind, go_sem, h]
theorem ts_cells2 {fn : Func} {p u : Tmp} (h : fn.results = #[.cell p 24, .cell u 25]) (tmps : Array Value) (w : World) (g k : Nat) (cs : Array Value) (c : Int) (hs : cs.size = 2)
    (hp : tmps.getD p undef = .pointer (some ⟨g, 0, none⟩)) (hk : tmps.getD u undef = .pointer (some ⟨k, 0, none⟩)) (hg : w.heap[g]? = some (.cells cs 24 (0, 0))) (hc : w.heap[k]? = some (.cells #[.int .i64 c] 25 (0, 0))) :
    (results fn tmps).run Tryd.prog w = .ok (.tuple #[.agg cs, .int .i64 c]) w := by
  have hp' : tmps[p]?.getD undef = .pointer (some ⟨g, 0, none⟩) := by simpa using hp
  have hk' : tmps[u]?.getD undef = .pointer (some ⟨k, 0, none⟩) := by simpa using hk
  have h1 := run_loadVar_row (P := Tryd.prog) w g 24 24 cs (0, 0) _ hg Tryd.underlying24 rfl (by rw [hs]; exact infoWish)
  have h2 := ts_errno w k _ (cell_of_one hc)
  simp [results, h, hp', hk', asAddr, Sem.run_bind, h1, h2]
/-- What Parse's own new variables hold, and all else. -/
structure Bx11 (w W : World) : Prop where
  q : W.heap[w.heap.size]? = some (.cells wz 24 (0, 0))
  r : W.heap[w.heap.size + 1]? = some (.cells #[.int .i64 0] 25 (0, 0))
  k : Below w.heap.size w W
def PrsQ (w : World) (cs : Array Value) (c : Int) (e : Ending) (w' : World) : Prop := e = .returned (.tuple #[.agg cs, .int .i64 c]) ∧ Below w.heap.size w w'
theorem prs_caught (w W : World) (tmps : Array Value) (h : Bx11 w W) (h2 : tmps.getD 2 undef = .pointer (some ⟨w.heap.size, 0, none⟩)) (h3 : tmps.getD 3 undef = .pointer (some ⟨w.heap.size + 1, 0, none⟩)) :
    bodyPostD Tryd.prog Tryd.f10 (PrsQ w wz 4) (.panic [{ v := .iface 25 (.int .i64 4), recovered := false }])
      { tmps := tmps, defers := [{ target := Target.fn (Fn.func 20) #[.pointer (some ⟨w.heap.size, 0, none⟩), .pointer (some ⟨w.heap.size + 1, 0, none⟩)], args := #[] }] } W := by
  refine leaves_cons (f := 20) (args := #[.pointer (some ⟨w.heap.size, 0, none⟩), .pointer (some ⟨w.heap.size + 1, 0, none⟩)]) (by simp) (by simp [go_sem]) ?_
  refine (tsCatch_yes w.heap.size (w.heap.size + 1) 4 0 _ [] W h.q rfl h.r (by omega)).mono ?_
  rintro e u' w'' ⟨rfl, rfl, hq, hr, hk⟩
  exact ⟨_, ts_cells2 rfl tmps w'' w.heap.size (w.heap.size + 1) wz 4 rfl h2 h3 hq hr, rfl, h.k.trans (hk.below h.k.size fun k e => by omega)⟩
theorem prs_done (w W : World) (cs : Array Value) (hs : cs.size = 2) (tmps : Array Value) (hq : W.heap[w.heap.size]? = some (.cells cs 24 (0, 0))) (hr : W.heap[w.heap.size + 1]? = some (.cells #[.int .i64 0] 25 (0, 0))) (hk : Below w.heap.size w W)
    (h2 : tmps.getD 2 undef = .pointer (some ⟨w.heap.size, 0, none⟩)) (h3 : tmps.getD 3 undef = .pointer (some ⟨w.heap.size + 1, 0, none⟩)) :
    bodyPostD Tryd.prog Tryd.f10 (PrsQ w cs 0) .ret
      { tmps := tmps, defers := [{ target := Target.fn (Fn.func 20) #[.pointer (some ⟨w.heap.size, 0, none⟩), .pointer (some ⟨w.heap.size + 1, 0, none⟩)], args := #[] }] } W := by
  refine leaves_cons (f := 20) (args := #[.pointer (some ⟨w.heap.size, 0, none⟩), .pointer (some ⟨w.heap.size + 1, 0, none⟩)]) (by simp) (by simp [go_sem]) ?_
  refine (tsCatch_no w.heap.size (w.heap.size + 1) W).mono ?_
  rintro e u' w'' ⟨rfl, rfl, rfl⟩
  exact ⟨_, ts_cells2 rfl tmps _ w.heap.size (w.heap.size + 1) cs 0 hs h2 h3 hq hr, rfl, hk⟩
def P2 (w : World) : World := (w.alloc (.cells wz 24)).alloc (.cells #[.int .i64 0] 25)
theorem p2_bx (w : World) : Bx11 w (P2 w) := by
  refine ⟨?_, ?_, ((Below.refl _ _).alloc (Nat.le_refl _) _).alloc (by simp) _⟩
  · exact ((Kp.refl (fun _ => False) _).alloc _).at (heap_alloc_new w _) id
  · have := heap_alloc_new (w.alloc (.cells wz 24)) (.cells #[.int .i64 0] 25)
    rwa [World.size_alloc] at this
theorem mkMap11 (w : World) : (Instr.makeMap 42 none).run Tryd.prog w = .ok (.map (some w.heap.size)) (w.alloc (.map #[] 0)) := by kernel_rfl
theorem p3_bx (w : World) : ((w.alloc (.cells wz 24)).alloc (.cells #[.int .i64 3] 25)).heap[w.heap.size]? = some (.cells wz 24 (0, 0)) ∧ ((w.alloc (.cells wz 24)).alloc (.cells #[.int .i64 3] 25)).heap[w.heap.size + 1]? = some (.cells #[.int .i64 3] 25 (0, 0)) ∧ Below w.heap.size w ((w.alloc (.cells wz 24)).alloc (.cells #[.int .i64 3] 25)) := by
  refine ⟨?_, ?_, ((Below.refl _ _).alloc (Nat.le_refl _) _).alloc (by simp) _⟩
  · exact ((Kp.refl (fun _ => False) _).alloc _).at (heap_alloc_new w _) id
  · have := heap_alloc_new (w.alloc (.cells wz 24)) (.cells #[.int .i64 3] 25)
    rwa [World.size_alloc] at this
set_option maxRecDepth 100000 in
set_option maxHeartbeats 2000000 in
theorem tsParse_long (s : ByteArray) (w : World) (hs : 65536 < s.size) :
    Calls Tryd.prog 10 #[.string s] w (PrsQ w wz 3) := by
  have hsI : (65536 : Int) < (s.size : Int) := by omega
  obtain ⟨h1, h2, h3⟩ := p3_bx w
  have H1 := Lib.hid h1
  have H2 := Lib.hid h2
  have H3 := Lib.hid h3
  clear hs h1 h2 h3
  go_enter_defers Tryd.func10, Tryd.ntmps10
  go_wp2
  exact ⟨_, ts_cells2 (fn := Tryd.f10) rfl _ _ w.heap.size (w.heap.size + 1) wz 3 rfl rfl rfl H1.out H2.out, rfl, H3.out⟩
/-- The reader, as it is made. -/
def P4 (w : World) (s : ByteArray) : World := ((P2 w).alloc (.map #[] 0)).alloc (.cells #[.string s, .map (some (w.heap.size + 2))] 44)
theorem p4_facts (w : World) (s : ByteArray) : RsAt (P4 w s) (w.heap.size + 3) (w.heap.size + 2) s.data.toList ∧ MapAt (P4 w s) (w.heap.size + 2) [] ∧ Bx11 w (P4 w s) := by
  have hs2 : (P2 w).heap.size = w.heap.size + 2 := by simp [P2]
  have hs3 : ((P2 w).alloc (.map #[] 0)).heap.size = w.heap.size + 3 := by rw [World.size_alloc, hs2]
  have k : Below (P2 w).heap.size (P2 w) (P4 w s) := ((Below.refl _ _).alloc (Nat.le_refl _) _).alloc (by simp) _
  have hb := p2_bx w
  refine ⟨?_, ?_, ⟨(k.block _ (by omega)).trans hb.q, (k.block _ (by omega)).trans hb.r, hb.k.trans (k.mono (by omega))⟩⟩
  · have := heap_alloc_new ((P2 w).alloc (.map #[] 0)) (.cells #[.string s, .map (some (w.heap.size + 2))] 44)
    rw [hs3] at this
    exact this
  · refine ⟨#[], 0, ?_, rfl⟩
    have h1 := heap_alloc_new (P2 w) (.map #[] 0)
    rw [hs2] at h1
    exact ((Kp.refl (fun _ => False) _).alloc _).at h1 id
set_option maxRecDepth 100000 in
set_option maxHeartbeats 2000000 in
theorem tsParse_some (s : ByteArray) (w : World) (hs : ¬ 65536 < s.size) :
    Calls Tryd.prog 10 #[.string s] w (PrsQ w #[.int .i64 (prsT s.data.toList).1.1, .bool (prsT s.data.toList).1.2] (prsT s.data.toList).2) := by
  have hsI : ¬ (65536 : Int) < (s.size : Int) := by omega
  have hmf := mkfK
  have hmm := mkMap11
  obtain ⟨q1, q2, q3⟩ := p4_facts w s
  have HW := Lib.hid (wish_any (w.heap.size + 3) (w.heap.size + 2) s.data.toList (P4 w s) q1 q2 (by omega) (by rw [lenB]; omega))
  have HB := Lib.hid q3
  have HIw := Lib.hid infoWish
  have HX : Hid (P4 w s = (((w.alloc (.cells #[.int .i64 0, .bool false] 24)).alloc (.cells #[.int .i64 0] 25)).alloc (.map #[] 0)).alloc (.cells #[.string s, .map (some (w.heap.size + 1 + 1))] 44)) := Lib.hid rfl
  have HP : Hid (prsT s.data.toList = match (runT s.data.toList []).bind wishT with
    | none => ((0, false), 4)
    | some x => (x, 0)) := Lib.hid rfl
  obtain ⟨O, HO⟩ : ∃ O, Hid ((runT s.data.toList []).bind wishT = O) := ⟨_, Lib.hid rfl⟩
  rw [HO.out] at HW HP
  obtain ⟨R, HR⟩ : ∃ R, Hid (prsT s.data.toList = R) := ⟨_, Lib.hid rfl⟩
  rw [HR.out] at HP ⊢
  obtain ⟨W4, HW4⟩ : ∃ W, Hid (P4 w s = W) := ⟨_, Lib.hid rfl⟩
  rw [HW4.out] at HW HB HX
  clear hs q1 q2 q3
  go_enter_defers Tryd.func10, Tryd.ntmps10
  go_wp2_with fail
  rw [← HX.out]
  refine (show Calls Tryd.prog 21 #[.pointer (some ⟨w.heap.size + 1 + 1 + 1, 0, none⟩)] W4 _ from HW.out).mono ?_
  rintro e w5 ⟨h1, hk⟩
  have HB5 : Hid (Bx11 w w5) := Lib.hid (by
    have hb := HB.out
    have hlt := lt_of_block hb.r
    exact ⟨hk.at hb.q (by rintro (e | e) <;> omega), hk.at hb.r (by rintro (e | e) <;> omega), hb.k.trans (hk.below hb.k.size (by rintro k (e | e) <;> omega))⟩)
  clear hk HX HW HB HW4
  cases O with
  | none =>
    have h1 : e = stsP := h1
    subst h1
    have hR : R = ((0, false), 4) := HP.out
    rw [hR]
    exact prs_caught w w5 _ HB5.out rfl rfl
  | some x =>
    have h1 : e = .returned (.agg #[.int .i64 x.1, .bool x.2]) := h1
    subst h1
    have hR : R = (x, 0) := HP.out
    obtain ⟨a, f⟩ := x
    have HRR := Lib.hid hR
    obtain ⟨W6, HW6⟩ : ∃ W, Hid (w5.setRow w.heap.size #[.int .i64 a, .bool f] = W) := ⟨_, Lib.hid rfl⟩
    have HQ6 : Hid (W6.heap[w.heap.size]? = some (.cells #[.int .i64 a, .bool f] 24 (0, 0))) := Lib.hid (by rw [← HW6.out]; exact setRow_heap w5 _ _ _ _ _ HB5.out.q)
    have hr6 : W6.heap[w.heap.size + 1]? = some (.cells #[.int .i64 0] 25 (0, 0)) := by rw [← HW6.out, setRow_other w5 _ _ _ (by omega)]; exact HB5.out.r
    have HK6 : Hid (Kp (fun k => k = w.heap.size) w5 W6) := Lib.hid (by rw [← HW6.out]; exact ts_setRow_kp w5 _ _ rfl)
    have HB6 : Hid (Below w.heap.size w W6) := Lib.hid (HB5.out.k.trans (HK6.out.below HB5.out.k.size fun k e => by omega))
    have c1 := cell_of_one hr6
    have f1 := free_of_one hr6
    have HR6 := Lib.hid hr6
    clear hR hr6 HP HR HO HK6
    go_wp2_with (refine wpL_store_row rfl 24 _ _ rfl w.heap.size #[.int .i64 a, .bool f] ?_ ?_ 24 wz ?_ ?_ ?_ ?_ ?_; exact rfl; exact rfl; exact HB5.out.q; exact HIw.out; exact rfl; (simp [Value.oneCell']); rw [HW6.out])
    rw [HRR.out]
    exact prs_done w _ #[.int .i64 a, .bool f] rfl _ (by rw [Below.heap_setCell _ _ _ _ (by first | (show w.heap.size ≠ w.heap.size + 1; omega) | (show w.heap.size + 1 ≠ w.heap.size; omega))]; exact HQ6.out) (one_setCell HR6.out)
      (((Kp.of_below (X := fun k => k = w.heap.size + 1) HB6.out).setCell (p := ⟨w.heap.size + 1, 0, none⟩) rfl _).below (Nat.le_refl _) fun k e => by omega) rfl rfl
theorem tsParse_any (s : ByteArray) (w : World) :
    Calls Tryd.prog 10 #[.string s] w fun e w' => e = .returned (.tuple #[.agg #[.int .i64 (prsW s).1.1, .bool (prsW s).1.2], .int .i64 (prsW s).2]) ∧ Below w.heap.size w w' := by
  unfold prsW
  by_cases h : 65536 < s.size
  · rw [if_pos h]; exact tsParse_long s w h
  · rw [if_neg h]; exact tsParse_some s w h

end Go.Proofs.YthffgnlebljkcaaDoor
