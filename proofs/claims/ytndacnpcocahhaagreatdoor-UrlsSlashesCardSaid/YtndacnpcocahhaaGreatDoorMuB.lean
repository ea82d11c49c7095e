/-
  urls: contracts: Check, Parse seen from a base.
  urls: what the statements' own alive asks: alone, is; constants.
  urls: constants that the statements' own alive asks, by the kernel.
  urls: plain words: a reader of a text of at most 1000 bytes, seen from a base, may be walked.
  urls: the statements' own alive answers true.
  urls: a text whose slashes are turned ahead of a query and a mark says the same.
-/
import Derived.Test.YtndacnpcocahhaaGreatDoorMuA
namespace Go.Proofs.YtndacnpcocahhaaGreatDoor
open Go.RowKit

theorem wpW_step {P : Program} {ops : Array Oper} {Q : Exit → Act → World → Prop} {a : Act} {w : World} {rest : List Oper} {o : Oper} (hw : Region.wanted o (yielded ops a.tmps) = true)
    (h : ∀ K : Act → World → Prop, (∀ a w, wpList P ops Q rest a w → K a w) → o.wp P a w K Q) : wpList P ops Q (o :: rest) a w :=
  wpList_step fun K hK => by rw [if_pos hw]; exact h K hK
/-- A row is read, guarded or not. -/
theorem wpW_load_row {P : Program} {ops : Array Oper} {rest : List Oper} {o : Oper} {a : Act} {w : World} {Q : Exit → Act → World → Prop} (hw : Region.wanted o (yielded ops a.tmps) = true) (ty : TypeId) (x : Operand) (ho : o.op = .load ty x)
    (g : Nat) (hx : a.eval x = .pointer (some ⟨g, 0, none⟩)) (t : TypeId) (cs : Array Value) (fr : Nat × Nat) (d : TypeDesc) (hg : w.heap[g]? = some (.cells cs t fr))
    (hu : P.underlying ty = some d) (hd : (match d with | .struct _ | .array _ _ => true | _ => false) = true) (hi : (P.info? ty).map (·.size) = some cs.size)
    (h : wpList P ops Q rest (a.put o.dst (.agg cs)) w) : wpList P ops Q (o :: rest) a w :=
  wpW_step hw fun _ hK => wp_load_row ty x ho g hx t cs fr d hg hu hd hi (hK _ _ h)
/-- What Parse answers without a base. -/
def paT (s : ByteArray) : UrS × Int := if 4096 < s.size then (u0, 3) else ansU (aloneT (drpS s 3))
/-- Its cuts can be walked. -/
def PaOk (s : ByteArray) : Prop := s.size ≤ 4096 → RdOk (rd0 s u0)
theorem paOk_small {s : ByteArray} (h : s.size ≤ 1000) : PaOk s := fun _ => alone_ok s h
theorem Parse0_any (s : ByteArray) (B : UrS) (w : World) (hO : PaOk s) (hW : Uw w) :
    Calls Tryz.prog 13 #[.string s, .agg B.cells.toArray, .bool false] w fun e w' => e = .returned (.tuple #[.agg (paT s).1.cells.toArray, .int .i64 (paT s).2]) ∧ Below w.heap.size w w' := by
  unfold paT
  by_cases h : 4096 < s.size
  · rw [if_pos h]; exact ParseLong_any s B false w h
  · rw [if_neg h, ← alone_read]; exact ParseAlone_any s B w (by omega) hW (hO (by omega))
/-- May an address be? -/
def ckT (u : UrS) : Bool := ((paT (textT u)).2 == 0) && eqC (paT (textT u)).1 u
set_option maxRecDepth 100000 in
set_option maxHeartbeats 4000000 in
theorem Check_any (u : UrS) (w : World) (h : Sm u) (hO : PaOk (textT u)) (hW : Uw w) :
    Calls Tryz.prog 19 #[.agg u.cells.toArray] w fun e w' => e = .returned (.bool (ckT u)) ∧ Below w.heap.size w w' := by
  have HP : Hid (∀ w', Below w.heap.size w w' → Calls Tryz.prog 13 #[.string (textT u), .agg u0.cells.toArray, .bool false] w' fun e w'' => e = .returned (.tuple #[.agg (paT (textT u)).1.cells.toArray, .int .i64 (paT (textT u)).2]) ∧ Below w'.heap.size w' w'') := Lib.hid (fun w' hb => Parse0_any _ u0 w' hO (hW.later hb))
  have HTx : Hid (∀ w', Below w.heap.size w w' → Calls Tryz.prog 17 #[.agg u.cells.toArray] w' fun e w'' => e = .returned (.string (textT u)) ∧ Below w'.heap.size w' w'') := Lib.hid (fun w' hb => Text_of u w' h (hW.later hb).dc)
  have HV := Lib.hid (show ckT u = (((paT (textT u)).2 == 0) && eqC (paT (textT u)).1 u) from rfl)
  obtain ⟨A, c, HA⟩ : ∃ A c, Hid (paT (textT u) = (A, c)) := ⟨_, _, Lib.hid rfl⟩
  rw [HA.out] at HP HV
  dsimp only at HP HV
  obtain ⟨T, HT⟩ : ∃ T, Hid (textT u = T) := ⟨_, Lib.hid rfl⟩
  rw [HT.out] at HP HTx
  have heq : ∀ w, (binOp .eql 24 (.agg A.cells.toArray) (.agg u.cells.toArray)).run Tryz.prog w = .ok (.bool (eqC A u)) w := fun w => eqU A u w
  obtain ⟨B, HB⟩ : ∃ B, Hid (eqC A u = B) := ⟨_, Lib.hid rfl⟩
  rw [HB.out] at heq HV
  have HI1 : Hid ((Tryz.prog.info? 24).map (·.size) = some A.cells.toArray.size) := Lib.hid infoU
  have HO1 : Hid (A.cells.toArray.all (·.oneCell') = true) := Lib.hid (cells_one A)
  have HS1 : Hid (u0.cells.toArray.size = A.cells.toArray.size) := Lib.hid rfl
  have HI2 : Hid ((Tryz.prog.info? 24).map (·.size) = some u.cells.toArray.size) := Lib.hid infoU
  obtain ⟨V, HVv⟩ : ∃ V, Hid (A.cells.toArray = V) := ⟨_, Lib.hid rfl⟩
  obtain ⟨C, HC⟩ : ∃ V, Hid (u.cells.toArray = V) := ⟨_, Lib.hid rfl⟩
  rw [HVv.out] at HP HI1 HO1 HS1 heq
  rw [HC.out] at HTx HI2 heq
  rw [HC.out, HV.out]
  obtain ⟨W, HWw⟩ : ∃ W, Hid (UBox w C = W) := ⟨_, Lib.hid rfl⟩
  have HBw : Hid (Below w.heap.size w W) := Lib.hid (by rw [← HWw.out]; exact ubox_below w C)
  have HG : Hid (W.heap[w.heap.size]? = some (.cells C 24 (0, 0))) := Lib.hid (by rw [← HWw.out]; exact heap_alloc_new w _)
  obtain ⟨g, Hg⟩ : ∃ g, Hid (w.heap.size = g) := ⟨_, Lib.hid rfl⟩
  rw [Hg.out] at HG
  clear h hO hW HV HVv HC HB
  go_enter Tryz.func19, Tryz.ntmps19
  go_upto_region 1 with (fail)
  rw [show w.alloc (.cells C 24) = W from HWw.out, Hg.out]
  go_wp2_with (refine wpList_load_row rfl 24 _ rfl g ?_ 24 C (0, 0) _ ?_ Tryz.underlying24 rfl HI2.out ?_; (exact rfl); (exact HG.out))
  refine (HTx.out W HBw.out).mono ?_
  rintro e w1 ⟨rfl, b1⟩
  have HB1 : Hid (Below w.heap.size w w1) := Lib.hid (us_keep HBw.out b1)
  have HG1 : Hid (w1.heap[g]? = some (.cells C 24 (0, 0))) := Lib.hid ((b1.block _ (lt_of_block HG.out)).trans HG.out)
  clear b1
  go_wp2_with fail
  refine (show Calls Tryz.prog 13 #[.string T, .agg u0.cells.toArray, .bool false] w1 _ from HP.out w1 HB1.out).mono ?_
  rintro e w2 ⟨rfl, b2⟩
  have HB2 : Hid (Below w.heap.size w w2) := Lib.hid (us_keep HB1.out b2)
  have HG2 : Hid (w2.heap[g]? = some (.cells C 24 (0, 0))) := Lib.hid ((b2.block _ (lt_of_block HG1.out)).trans HG1.out)
  obtain ⟨W4, HW4⟩ : ∃ W, Hid (w2.alloc (.cells V 24) = W) := ⟨_, Lib.hid rfl⟩
  have B4 : Hid (Below w.heap.size w W4) := Lib.hid (by rw [← HW4.out]; exact HB2.out.alloc HB2.out.size _)
  have G4 : Hid (W4.heap[g]? = some (.cells C 24 (0, 0))) := Lib.hid (by rw [← HW4.out]; exact ((Kp.refl (fun _ => False) _).alloc _).at HG2.out id)
  have G5 : Hid (W4.heap[w2.heap.size]? = some (.cells V 24 (0, 0))) := Lib.hid (by rw [← HW4.out]; exact heap_alloc_new w2 _)
  clear b2
  go_upto_region 2 with (refine wpL_store_row rfl 24 _ _ rfl w2.heap.size V ?_ ?_ 24 u0.cells.toArray ?_ ?_ ?_ ?_ ?_; exact rfl; exact rfl; exact heap_alloc_new w2 _; exact HI1.out; exact HS1.out; exact HO1.out; rw [World.setRow_alloc_new, HW4.out])
  by_cases hc : c = 0
  · subst hc
    have ec : ((0 : Int) == 0) = true := rfl
    go_wp2_with (first
      | (refine wpW_load_row rfl 24 _ rfl g ?_ 24 C (0, 0) _ ?_ Tryz.underlying24 rfl HI2.out ?_; (exact rfl); (exact G4.out))
      | (refine wpW_load_row rfl 24 _ rfl w2.heap.size ?_ 24 V (0, 0) _ ?_ Tryz.underlying24 rfl HI1.out ?_; (exact rfl); (exact G5.out)))
    go_ret
    exact ⟨rfl, B4.out⟩
  · have ec : (c == 0) = false := beq_eq_false_iff_ne.2 hc
    clear hc
    go_wp2
    go_ret
    exact ⟨by rw [ec]; rfl, B4.out⟩

/-- What Parse answers, seen from a base. -/
def seenU (s : ByteArray) (B : UrS) : UrS × Int := if 4096 < s.size then (u0, 3) else if ckT B = true then readU (rd0 s B) else (u0, 1)
set_option maxRecDepth 100000 in
set_option maxHeartbeats 4000000 in
theorem ParseSeen_any (s : ByteArray) (u : UrS) (w : World) (hB : Sm u) (hC : PaOk (textT u)) (hO : s.size ≤ 4096 → ckT u = true → RdOk (rd0 s u) ∧ u.pth.size ≤ 8000) (hW : Uw w) :
    Calls Tryz.prog 13 #[.string s, .agg u.cells.toArray, .bool true] w fun e w' => e = .returned (.tuple #[.agg (seenU s u).1.cells.toArray, .int .i64 (seenU s u).2]) ∧ Below w.heap.size w w' := by
  by_cases hs : 4096 < s.size
  · unfold seenU
    rw [if_pos hs]; exact ParseLong_any s u true w hs
  have hsI : ¬ (4096 : Int) < (s.size : Int) := by omega
  have HR := Lib.hid (urReaderOf_any s u)
  have HCk : Hid (∀ w', Below w.heap.size w w' → Calls Tryz.prog 19 #[.agg u.cells.toArray] w' fun e w'' => e = .returned (.bool (ckT u)) ∧ Below w'.heap.size w' w'') := Lib.hid (fun w' hb => Check_any u w' hB hC (hW.later hb))
  have HN : Hid (ckT u = true → ∀ (b : Nat) (w1 w2 : World), Below w.heap.size w w1 → w1.heap.size ≤ b → RdAt w2 b (rd0 s u) → Below w1.heap.size w1 w2 → Calls Tryz.prog 31 #[.pointer (some ⟨b, 0, none⟩)] w2 fun e w' => e = .returned (.tuple #[.agg (readU (rd0 s u)).1.cells.toArray, .int .i64 (readU (rd0 s u)).2]) ∧ Below w1.heap.size w1 w') := Lib.hid (fun hk b w1 w2 h1 hb h k =>
    read_new s u b w1 w2 (hW.later h1) (by omega) hb h k (hO (by omega) hk).2 (hO (by omega) hk).1)
  have HV : Hid (seenU s u = if ckT u = true then readU (rd0 s u) else (u0, 1)) := Lib.hid (by unfold seenU; rw [if_neg hs])
  obtain ⟨U, c, HU⟩ : ∃ U c, Hid (seenU s u = (U, c)) := ⟨_, _, Lib.hid rfl⟩
  rw [HU.out] at HV ⊢
  dsimp only
  obtain ⟨K, HK⟩ : ∃ K, Hid (ckT u = K) := ⟨_, Lib.hid rfl⟩
  rw [HK.out] at HCk HN HV
  obtain ⟨C, HCc⟩ : ∃ C, Hid (u.cells.toArray = C) := ⟨_, Lib.hid rfl⟩
  have HIc : Hid ((Tryz.prog.info? 24).map (·.size) = some C.size) := Lib.hid (by rw [← HCc.out]; exact infoU)
  rw [HCc.out] at HCk HR
  rw [HCc.out]
  have HB2 : Hid (Below w.heap.size w (PBox w C)) := Lib.hid (pbox_below w C)
  have HA : Hid ((PBox w C).heap[w.heap.size + 1]? = some (.cells u0.cells.toArray 24 (0, 0))) := Lib.hid (pbox_ans w C)
  have HG : Hid ((PBox w C).heap[w.heap.size]? = some (.cells C 24 (0, 0))) := Lib.hid (pbox_base w C)
  have HZ : Hid ((PBox w C).heap.size = w.heap.size + 2) := Lib.hid (pbox_size w C)
  obtain ⟨W2, HW2⟩ : ∃ W, Hid (PBox w C = W) := ⟨_, Lib.hid rfl⟩
  rw [HW2.out] at HB2 HA HZ HG
  clear hs hB hC hO hW
  go_enter Tryz.func13, Tryz.ntmps13
  go_upto_region 5 with (fail)
  rw [show (w.alloc (.cells C 24)).alloc (.cells #[.string ⟨#[]⟩, .string ⟨#[]⟩, .string ⟨#[]⟩, .string ⟨#[]⟩, .int .i64 0, .string ⟨#[]⟩, .string ⟨#[]⟩, .bool false, .string ⟨#[]⟩, .bool false] 24) = W2 from HW2.out]
  go_wp2_with (refine wpList_load_row rfl 24 _ rfl w.heap.size ?_ 24 C (0, 0) _ ?_ Tryz.underlying24 rfl HIc.out ?_; (exact rfl); (exact HG.out))
  refine (HCk.out W2 HB2.out).mono ?_
  rintro e w1 ⟨rfl, b1⟩
  have HB1 : Hid (Below w.heap.size w w1) := Lib.hid (us_keep HB2.out b1)
  have HA1 : Hid (w1.heap[w.heap.size + 1]? = some (.cells u0.cells.toArray 24 (0, 0))) := Lib.hid ((b1.block _ (by rw [HZ.out]; omega)).trans HA.out)
  have HG1 : Hid (w1.heap[w.heap.size]? = some (.cells C 24 (0, 0))) := Lib.hid ((b1.block _ (by rw [HZ.out]; omega)).trans HG.out)
  have hz1 : w.heap.size + 2 ≤ w1.heap.size := by have := b1.size; rw [HZ.out] at this; exact this
  clear b1
  cases K
  · have hR := HV.out
    rw [if_neg (by simp)] at hR
    injection hR with e1 e2
    subst e1 e2
    obtain ⟨W9, HW9⟩ : ∃ W, Hid (w1.setRow (w.heap.size + 1) u0.cells.toArray = W) := ⟨_, Lib.hid rfl⟩
    have HA9 : Hid (W9.heap[w.heap.size + 1]? = some (.cells u0.cells.toArray 24 (0, 0))) := Lib.hid (by rw [← HW9.out]; exact setRow_heap _ _ _ _ _ _ HA1.out)
    have HB9 : Hid (Below w.heap.size w W9) := Lib.hid (by rw [← HW9.out]; exact setRow_below HB1.out _ _ (by omega))
    go_wp2_with (refine wpL_store_row rfl 24 _ _ rfl (w.heap.size + 1) u0.cells.toArray ?_ ?_ 24 u0.cells.toArray ?_ ?_ ?_ ?_ ?_; exact rfl; exact rfl; exact HA1.out; exact infoU; exact rfl; exact u0_one; rw [HW9.out])
    exact bodyPost_ret (v := .tuple #[.agg u0.cells.toArray, .int .i64 1]) (results_row2 (P := Tryz.prog) Tryz.results13 _ _ (w.heap.size + 1) _ _ (0, 0) _ rfl HA9.out Tryz.underlying24 rfl infoU) rfl ⟨rfl, HB9.out⟩
  · have hR := HV.out
    rw [if_pos rfl] at hR
    have HRd := Lib.hid (HN.out rfl)
    rw [← hR] at HRd
    dsimp only at HRd
    have HI : Hid ((Tryz.prog.info? 24).map (·.size) = some U.cells.toArray.size) := Lib.hid infoU
    have HO : Hid (U.cells.toArray.all (·.oneCell') = true) := Lib.hid (cells_one U)
    have HS : Hid (u0.cells.toArray.size = U.cells.toArray.size) := Lib.hid rfl
    obtain ⟨V, HVv⟩ : ∃ V, Hid (U.cells.toArray = V) := ⟨_, Lib.hid rfl⟩
    rw [HVv.out] at HRd HI HO HS
    clear hR HN
    go_wp2_with (refine wpList_load_row rfl 24 _ rfl w.heap.size ?_ 24 C (0, 0) _ ?_ Tryz.underlying24 rfl HIc.out ?_; (exact rfl); (exact HG1.out))
    refine (HR.out w1).mono ?_
    rintro e w3 ⟨b, rfl, hb, hRd, hB⟩
    have HR3 := Lib.hid hRd
    have HB3 := Lib.hid hB
    have HBb := Lib.hid hb
    clear hb hRd hB
    go_wp2_with fail
    refine (HRd.out b w1 w3 HB1.out HBb.out HR3.out HB3.out).mono ?_
    rintro e w4 ⟨rfl, b4⟩
    have HB4 : Hid (Below w.heap.size w w4) := Lib.hid (us_keep HB1.out b4)
    have HA4 : Hid (w4.heap[w.heap.size + 1]? = some (.cells u0.cells.toArray 24 (0, 0))) := Lib.hid ((b4.block _ (by omega)).trans HA1.out)
    obtain ⟨W5, HW5⟩ : ∃ W, Hid (w4.setRow (w.heap.size + 1) V = W) := ⟨_, Lib.hid rfl⟩
    have HA5 : Hid (W5.heap[w.heap.size + 1]? = some (.cells V 24 (0, 0))) := Lib.hid (by rw [← HW5.out]; exact setRow_heap w4 _ _ _ _ _ HA4.out)
    have HB5 : Hid (Below w.heap.size w W5) := Lib.hid (by rw [← HW5.out]; exact setRow_below HB4.out _ _ (by omega))
    clear b4
    go_wp2_with (refine wpL_store_row rfl 24 _ _ rfl (w.heap.size + 1) V ?_ ?_ 24 u0.cells.toArray ?_ ?_ ?_ ?_ ?_; exact rfl; exact rfl; exact HA4.out; exact HI.out; exact HS.out; exact HO.out; rw [HW5.out])
    exact bodyPost_ret (v := .tuple #[.agg V, .int .i64 c]) (results_row2 (P := Tryz.prog) Tryz.results13 _ _ (w.heap.size + 1) _ _ (0, 0) _ rfl HA5.out Tryz.underlying24 rfl HI.out) rfl ⟨by rw [HVv.out], HB5.out⟩

end Go.Proofs.YtndacnpcocahhaaGreatDoor
namespace Go.Proofs.YtndacnpcocahhaaGreatDoor
open Go.RowKit

theorem results_row2b {P : Program} {fn : Func} {p u : Tmp} {ty : TypeId} (h : fn.results = #[.cell p ty, .tmp u]) (tmps : Array Value) (w : World) (g : Nat) (t : TypeId) (cs : Array Value) (fr : Nat × Nat) (d : TypeDesc)
    (hp : tmps.getD p undef = .pointer (some ⟨g, 0, none⟩)) (hg : w.heap[g]? = some (.cells cs t fr))
    (hu : P.underlying ty = some d) (hd : (match d with | .struct _ | .array _ _ => true | _ => false) = true) (hi : (P.info? ty).map (·.size) = some cs.size) (v : Value) (hv : tmps.getD u undef = v) :
    (results fn tmps).run P w = .ok (.tuple #[.agg cs, v]) w := by
  rw [← hv]; exact results_row2 h tmps w g t cs fr d hp hg hu hd hi
set_option maxRecDepth 100000 in
set_option maxHeartbeats 4000000 in
theorem alone6_any (s : ByteArray) (w : World) (hO : PaOk s) (hW : Uw w) :
    Calls Tryz.prog 29 #[.string s] w fun e w' => e = .returned (.tuple #[.agg (paT s).1.cells.toArray, .bool ((paT s).2 == 0)]) ∧ Below w.heap.size w w' := by
  have HP : Hid (∀ w', Below w.heap.size w w' → Calls Tryz.prog 13 #[.string s, .agg u0.cells.toArray, .bool false] w' fun e w'' => e = .returned (.tuple #[.agg (paT s).1.cells.toArray, .int .i64 (paT s).2]) ∧ Below w'.heap.size w' w'') := Lib.hid (fun w' hb => Parse0_any _ u0 w' hO (hW.later hb))
  obtain ⟨A, c, HA⟩ : ∃ A c, Hid (paT s = (A, c)) := ⟨_, _, Lib.hid rfl⟩
  rw [HA.out] at HP ⊢
  dsimp only at HP ⊢
  have HI : Hid ((Tryz.prog.info? 24).map (·.size) = some A.cells.toArray.size) := Lib.hid infoU
  have HO : Hid (A.cells.toArray.all (·.oneCell') = true) := Lib.hid (cells_one A)
  have HS : Hid (u0.cells.toArray.size = A.cells.toArray.size) := Lib.hid rfl
  obtain ⟨V, HV⟩ : ∃ V, Hid (A.cells.toArray = V) := ⟨_, Lib.hid rfl⟩
  rw [HV.out] at HP HI HO HS ⊢
  obtain ⟨W, HWw⟩ : ∃ W, Hid (w.alloc (.cells u0.cells.toArray 24) = W) := ⟨_, Lib.hid rfl⟩
  have HB : Hid (Below w.heap.size w W) := Lib.hid (by rw [← HWw.out]; exact (Below.refl _ _).alloc (Nat.le_refl _) _)
  have HG : Hid (W.heap[w.heap.size]? = some (.cells u0.cells.toArray 24 (0, 0))) := Lib.hid (by rw [← HWw.out]; exact heap_alloc_new w _)
  clear hO hW
  go_enter Tryz.func29, Tryz.ntmps29
  go_wp2_with fail
  refine (show Calls Tryz.prog 13 #[.string s, .agg u0.cells.toArray, .bool false] (w.alloc (.cells u0.cells.toArray 24)) _ from by rw [HWw.out]; exact HP.out W HB.out).mono ?_
  rintro e w1 ⟨rfl, b1⟩
  have HB1 : Hid (Below w.heap.size w w1) := Lib.hid (us_keep HB.out b1)
  have HG1 : Hid (w1.heap[w.heap.size]? = some (.cells u0.cells.toArray 24 (0, 0))) := Lib.hid ((b1.block _ (lt_of_block HG.out)).trans HG.out)
  have hl1 : w.heap.size < w1.heap.size := lt_of_block HG1.out
  obtain ⟨W2, HW2⟩ : ∃ W, Hid (w1.alloc (.cells V 24) = W) := ⟨_, Lib.hid rfl⟩
  have HB2 : Hid (Below w.heap.size w W2) := Lib.hid (by rw [← HW2.out]; exact HB1.out.alloc HB1.out.size _)
  have HG2 : Hid (W2.heap[w.heap.size]? = some (.cells u0.cells.toArray 24 (0, 0))) := Lib.hid (by rw [← HW2.out]; exact ((Kp.refl (fun _ => False) _).alloc _).at HG1.out id)
  have HQ2 : Hid (W2.heap[w1.heap.size]? = some (.cells V 24 (0, 0))) := Lib.hid (by rw [← HW2.out]; exact heap_alloc_new w1 _)
  obtain ⟨W3, HW3⟩ : ∃ W, Hid (W2.setRow w.heap.size V = W) := ⟨_, Lib.hid rfl⟩
  have HA3 : Hid (W3.heap[w.heap.size]? = some (.cells V 24 (0, 0))) := Lib.hid (by rw [← HW3.out]; exact setRow_heap _ _ _ _ _ _ HG2.out)
  have HB3 : Hid (Below w.heap.size w W3) := Lib.hid (by rw [← HW3.out]; exact setRow_below HB2.out _ _ (Nat.le_refl _))
  clear b1
  go_wp2_with (first
    | (refine wpL_store_row rfl 24 _ _ rfl w1.heap.size V ?_ ?_ 24 u0.cells.toArray ?_ ?_ ?_ ?_ ?_; exact rfl; exact rfl; exact heap_alloc_new w1 _; exact HI.out; exact HS.out; exact HO.out; rw [World.setRow_alloc_new, HW2.out])
    | (refine wpL_store_row rfl 24 _ _ rfl w.heap.size V ?_ ?_ 24 u0.cells.toArray ?_ ?_ ?_ ?_ ?_; exact rfl; exact rfl; exact HG2.out; exact HI.out; exact HS.out; exact HO.out; rw [HW3.out])
    | (refine wpList_load_row rfl 24 _ rfl w1.heap.size ?_ 24 V (0, 0) _ ?_ Tryz.underlying24 rfl HI.out ?_; (exact rfl); (exact HQ2.out)))
  exact bodyPost_ret (v := .tuple #[.agg V, .bool (c == 0)]) (results_row2b (P := Tryz.prog) Tryz.results29 _ _ w.heap.size _ _ (0, 0) _ rfl HA3.out Tryz.underlying24 rfl HI.out _ rfl) rfl ⟨rfl, HB3.out⟩
set_option maxRecDepth 100000 in
set_option maxHeartbeats 4000000 in
theorem is6_any (s fr wa : ByteArray) (B : UrS) (w : World) (hO : PaOk fr) (hW : Uw w) (hB : Sm B) (hT : textT B = wa)
    (hP : ∀ w', Uw w' → Calls Tryz.prog 13 #[.string s, .agg (paT fr).1.cells.toArray, .bool ((paT fr).2 == 0)] w' fun e w'' => e = .returned (.tuple #[.agg B.cells.toArray, .int .i64 0]) ∧ Below w'.heap.size w' w'') :
    Calls Tryz.prog 38 #[.string s, .string fr, .string wa] w fun e w' => e = .returned (.bool true) ∧ Below w.heap.size w w' := by
  have HAl := Lib.hid (alone6_any fr w hO hW)
  have HP : Hid (∀ w', Below w.heap.size w w' → Calls Tryz.prog 13 #[.string s, .agg (paT fr).1.cells.toArray, .bool ((paT fr).2 == 0)] w' fun e w'' => e = .returned (.tuple #[.agg B.cells.toArray, .int .i64 0]) ∧ Below w'.heap.size w' w'') := Lib.hid (fun w' hb => hP w' (hW.later hb))
  have HTx : Hid (∀ w', Below w.heap.size w w' → Calls Tryz.prog 17 #[.agg B.cells.toArray] w' fun e w'' => e = .returned (.string wa) ∧ Below w'.heap.size w' w'') := Lib.hid (fun w' hb => by rw [← hT]; exact Text_of B w' hB (hW.later hb).dc)
  obtain ⟨A, c, HA⟩ : ∃ A c, Hid (paT fr = (A, c)) := ⟨_, _, Lib.hid rfl⟩
  rw [HA.out] at HAl HP
  dsimp only at HAl HP
  obtain ⟨K, HK⟩ : ∃ K, Hid ((c == 0) = K) := ⟨_, Lib.hid rfl⟩
  rw [HK.out] at HAl HP
  have HI1 : Hid ((Tryz.prog.info? 24).map (·.size) = some A.cells.toArray.size) := Lib.hid infoU
  have HO1 : Hid (A.cells.toArray.all (·.oneCell') = true) := Lib.hid (cells_one A)
  have HS1 : Hid (u0.cells.toArray.size = A.cells.toArray.size) := Lib.hid rfl
  have HI2 : Hid ((Tryz.prog.info? 24).map (·.size) = some B.cells.toArray.size) := Lib.hid infoU
  have HO2 : Hid (B.cells.toArray.all (·.oneCell') = true) := Lib.hid (cells_one B)
  have HS2 : Hid (u0.cells.toArray.size = B.cells.toArray.size) := Lib.hid rfl
  obtain ⟨V, HV⟩ : ∃ V, Hid (A.cells.toArray = V) := ⟨_, Lib.hid rfl⟩
  obtain ⟨D, HD⟩ : ∃ V, Hid (B.cells.toArray = V) := ⟨_, Lib.hid rfl⟩
  rw [HV.out] at HAl HP HI1 HO1 HS1
  rw [HD.out] at HP HTx HI2 HO2 HS2
  clear hO hW hB hT hP
  go_enter Tryz.func38, Tryz.ntmps38
  go_wp2_with fail
  refine HAl.out.mono ?_
  rintro e w1 ⟨rfl, b1⟩
  have HB1 := Lib.hid b1
  obtain ⟨W2, HW2⟩ : ∃ W, Hid (w1.alloc (.cells V 24) = W) := ⟨_, Lib.hid rfl⟩
  have HB2 : Hid (Below w.heap.size w W2) := Lib.hid (by rw [← HW2.out]; exact HB1.out.alloc HB1.out.size _)
  have HQ2 : Hid (W2.heap[w1.heap.size]? = some (.cells V 24 (0, 0))) := Lib.hid (by rw [← HW2.out]; exact heap_alloc_new w1 _)
  clear b1
  go_wp2_with (first
    | (refine wpL_store_row rfl 24 _ _ rfl w1.heap.size V ?_ ?_ 24 u0.cells.toArray ?_ ?_ ?_ ?_ ?_; exact rfl; exact rfl; exact heap_alloc_new w1 _; exact HI1.out; exact HS1.out; exact HO1.out; rw [World.setRow_alloc_new, HW2.out])
    | (refine wpList_load_row rfl 24 _ rfl w1.heap.size ?_ 24 V (0, 0) _ ?_ Tryz.underlying24 rfl HI1.out ?_; (exact rfl); (exact HQ2.out)))
  refine (HP.out W2 HB2.out).mono ?_
  rintro e w3 ⟨rfl, b3⟩
  have HB3 : Hid (Below w.heap.size w w3) := Lib.hid (us_keep HB2.out b3)
  obtain ⟨W4, HW4⟩ : ∃ W, Hid (w3.alloc (.cells D 24) = W) := ⟨_, Lib.hid rfl⟩
  have HB4 : Hid (Below w.heap.size w W4) := Lib.hid (by rw [← HW4.out]; exact HB3.out.alloc HB3.out.size _)
  have HQ4 : Hid (W4.heap[w3.heap.size]? = some (.cells D 24 (0, 0))) := Lib.hid (by rw [← HW4.out]; exact heap_alloc_new w3 _)
  clear b3
  go_wp2_with (first
    | (refine wpL_store_row rfl 24 _ _ rfl w3.heap.size D ?_ ?_ 24 u0.cells.toArray ?_ ?_ ?_ ?_ ?_; exact rfl; exact rfl; exact heap_alloc_new w3 _; exact HI2.out; exact HS2.out; exact HO2.out; rw [World.setRow_alloc_new, HW4.out])
    | (refine wpW_load_row rfl 24 _ rfl w3.heap.size ?_ 24 D (0, 0) _ ?_ Tryz.underlying24 rfl HI2.out ?_; (exact rfl); (exact HQ4.out)))
  refine (HTx.out W4 HB4.out).mono ?_
  rintro e w5 ⟨rfl, b5⟩
  have HB5 : Hid (Below w.heap.size w w5) := Lib.hid (us_keep HB4.out b5)
  have hw : (wa.toList == wa.toList) = true := beq_self_eq_true _
  clear b5
  go_wp2
  go_ret
  exact ⟨rfl, HB5.out⟩

end Go.Proofs.YtndacnpcocahhaaGreatDoor
namespace Go.Proofs.YtndacnpcocahhaaGreatDoor
open Go.RowKit

def eqK (u v : UrS) : Bool := u.sch.data.toList == v.sch.data.toList && u.usr.data.toList == v.usr.data.toList && u.pas.data.toList == v.pas.data.toList && u.hst.data.toList == v.hst.data.toList && u.prt == v.prt && u.pth.data.toList == v.pth.data.toList && u.qry.data.toList == v.qry.data.toList && u.hq == v.hq && u.mrk.data.toList == v.mrk.data.toList && u.hm == v.hm
theorem eqK_eq {u v : UrS} (h : eqK u v = true) : u = v := by
  obtain ⟨a, b, c, d, e, f, g, i, j, k⟩ := u
  obtain ⟨a', b', c', d', e', f', g', i', j', k'⟩ := v
  simp only [eqK, Bool.and_eq_true, beq_iff_eq] at h
  obtain ⟨⟨⟨⟨⟨⟨⟨⟨⟨h0, h1⟩, h2⟩, h3⟩, h4⟩, h5⟩, h6⟩, h7⟩, h8⟩, h9⟩ := h
  rw [ba_of h0, ba_of h1, ba_of h2, ba_of h3, h4, ba_of h5, ba_of h6, h7, ba_of h8, h9]
def eqR (p : UrS × Int) (v : UrS) (c : Int) : Bool := eqK p.1 v && p.2 == c
theorem eqR_eq {p : UrS × Int} {v : UrS} {c : Int} (h : eqR p v c = true) : p = (v, c) := by
  simp only [eqR, Bool.and_eq_true, beq_iff_eq] at h
  obtain ⟨h1, h2⟩ := h
  rw [← eqK_eq h1, ← h2]
def c_xS : ByteArray := ⟨#[120]⟩
def c_xU : UrS := u0
theorem c_x : eqR (ansU (aloneT (drpS c_xS 3))) c_xU 4 = true := by decide +kernel
def c_ftpS : ByteArray := ⟨#[102, 116, 112, 58, 47, 47, 104]⟩
def c_ftpU : UrS := u0
theorem c_ftp : eqR (ansU (aloneT (drpS c_ftpS 3))) c_ftpU 6 = true := by decide +kernel
def c_portS : ByteArray := ⟨#[104, 116, 116, 112, 58, 47, 47, 104, 58, 57, 57, 57, 57, 57, 47]⟩
def c_portU : UrS := u0
theorem c_port : eqR (ansU (aloneT (drpS c_portS 3))) c_portU 4 = true := by decide +kernel
def c_noneS : ByteArray := ⟨#[104, 116, 116, 112, 58, 47, 47]⟩
def c_noneU : UrS := u0
theorem c_none : eqR (ansU (aloneT (drpS c_noneS 3))) c_noneU 5 = true := by decide +kernel
def c_emptyS : ByteArray := ⟨#[]⟩
def c_emptyU : UrS := u0
theorem c_empty : eqR (ansU (aloneT (drpS c_emptyS 3))) c_emptyU 4 = true := by decide +kernel
def c_bS : ByteArray := ⟨#[104, 116, 116, 112, 58, 47, 47, 97, 47, 98, 47, 99, 47, 100, 59, 112, 63, 113]⟩
def c_bU : UrS := ⟨⟨#[104, 116, 116, 112]⟩, ⟨#[]⟩, ⟨#[]⟩, ⟨#[97]⟩, -1, ⟨#[47, 98, 47, 99, 47, 100, 59, 112]⟩, ⟨#[113]⟩, true, ⟨#[]⟩, false⟩
theorem c_b : eqR (ansU (aloneT (drpS c_bS 3))) c_bU 0 = true := by decide +kernel
def c_longS : ByteArray := ⟨#[32, 72, 84, 84, 80, 58, 47, 47, 85, 115, 101, 114, 64, 69, 120, 65, 109, 112, 108, 101, 46, 99, 111, 109, 58, 56, 48, 47, 97, 47, 46, 47, 98, 47, 46, 46, 47, 99, 63, 120, 35, 121, 32]⟩
def c_longU : UrS := ⟨⟨#[104, 116, 116, 112]⟩, ⟨#[85, 115, 101, 114]⟩, ⟨#[]⟩, ⟨#[101, 120, 97, 109, 112, 108, 101, 46, 99, 111, 109]⟩, -1, ⟨#[47, 97, 47, 99]⟩, ⟨#[120]⟩, true, ⟨#[121]⟩, true⟩
theorem c_long : eqR (ansU (aloneT (drpS c_longS 3))) c_longU 0 = true := by decide +kernel
def c_hS : ByteArray := ⟨#[104, 116, 116, 112, 58, 104]⟩
def c_hU : UrS := ⟨⟨#[104, 116, 116, 112]⟩, ⟨#[]⟩, ⟨#[]⟩, ⟨#[104]⟩, -1, ⟨#[47]⟩, ⟨#[]⟩, false, ⟨#[]⟩, false⟩
theorem c_h : eqR (ansU (aloneT (drpS c_hS 3))) c_hU 0 = true := by decide +kernel
theorem c_bT : textT c_bU = c_bS := by decide +kernel
def s_gS : ByteArray := ⟨#[103]⟩
def s_gU : UrS := ⟨⟨#[104, 116, 116, 112]⟩, ⟨#[]⟩, ⟨#[]⟩, ⟨#[97]⟩, -1, ⟨#[47, 98, 47, 99, 47, 103]⟩, ⟨#[]⟩, false, ⟨#[]⟩, false⟩
theorem s_g : eqR (readU (rd0 s_gS c_bU)) s_gU 0 = true := by decide +kernel
def s_upS : ByteArray := ⟨#[46, 46, 47, 46, 46, 47, 46, 46, 47, 103]⟩
def s_upU : UrS := ⟨⟨#[104, 116, 116, 112]⟩, ⟨#[]⟩, ⟨#[]⟩, ⟨#[97]⟩, -1, ⟨#[47, 103]⟩, ⟨#[]⟩, false, ⟨#[]⟩, false⟩
theorem s_up : eqR (readU (rd0 s_upS c_bU)) s_upU 0 = true := by decide +kernel
def s_qS : ByteArray := ⟨#[63, 121]⟩
def s_qU : UrS := ⟨⟨#[104, 116, 116, 112]⟩, ⟨#[]⟩, ⟨#[]⟩, ⟨#[97]⟩, -1, ⟨#[47, 98, 47, 99, 47, 100, 59, 112]⟩, ⟨#[121]⟩, true, ⟨#[]⟩, false⟩
theorem s_q : eqR (readU (rd0 s_qS c_bU)) s_qU 0 = true := by decide +kernel
def s_slS : ByteArray := ⟨#[47, 47, 103]⟩
def s_slU : UrS := ⟨⟨#[104, 116, 116, 112]⟩, ⟨#[]⟩, ⟨#[]⟩, ⟨#[103]⟩, -1, ⟨#[47]⟩, ⟨#[]⟩, false, ⟨#[]⟩, false⟩
theorem s_sl : eqR (readU (rd0 s_slS c_bU)) s_slU 0 = true := by decide +kernel
def s_eS : ByteArray := ⟨#[]⟩
def s_eU : UrS := ⟨⟨#[104, 116, 116, 112]⟩, ⟨#[]⟩, ⟨#[]⟩, ⟨#[97]⟩, -1, ⟨#[47, 98, 47, 99, 47, 100, 59, 112]⟩, ⟨#[113]⟩, true, ⟨#[]⟩, false⟩
theorem s_e : eqR (readU (rd0 s_eS c_bU)) s_eU 0 = true := by decide +kernel
def s_yS : ByteArray := ⟨#[103, 59, 120, 61, 49, 47, 46, 46, 47, 121]⟩
def s_yU : UrS := ⟨⟨#[104, 116, 116, 112]⟩, ⟨#[]⟩, ⟨#[]⟩, ⟨#[97]⟩, -1, ⟨#[47, 98, 47, 99, 47, 121]⟩, ⟨#[]⟩, false, ⟨#[]⟩, false⟩
theorem s_y : eqR (readU (rd0 s_yS c_bU)) s_yU 0 = true := by decide +kernel
theorem s_gT : textT s_gU = (⟨#[104, 116, 116, 112, 58, 47, 47, 97, 47, 98, 47, 99, 47, 103]⟩ : ByteArray) := by decide +kernel
theorem s_upT : textT s_upU = (⟨#[104, 116, 116, 112, 58, 47, 47, 97, 47, 103]⟩ : ByteArray) := by decide +kernel
theorem s_qT : textT s_qU = (⟨#[104, 116, 116, 112, 58, 47, 47, 97, 47, 98, 47, 99, 47, 100, 59, 112, 63, 121]⟩ : ByteArray) := by decide +kernel
theorem s_slT : textT s_slU = (⟨#[104, 116, 116, 112, 58, 47, 47, 103, 47]⟩ : ByteArray) := by decide +kernel
theorem s_eT : textT s_eU = (⟨#[104, 116, 116, 112, 58, 47, 47, 97, 47, 98, 47, 99, 47, 100, 59, 112, 63, 113]⟩ : ByteArray) := by decide +kernel
theorem s_yT : textT s_yU = (⟨#[104, 116, 116, 112, 58, 47, 47, 97, 47, 98, 47, 99, 47, 121]⟩ : ByteArray) := by decide +kernel
theorem c_longT : textT c_longU = (⟨#[104, 116, 116, 112, 58, 47, 47, 85, 115, 101, 114, 64, 101, 120, 97, 109, 112, 108, 101, 46, 99, 111, 109, 47, 97, 47, 99, 63, 120, 35, 121]⟩ : ByteArray) := by decide +kernel
theorem c_hT : textT c_hU = (⟨#[104, 116, 116, 112, 58, 47, 47, 104, 47]⟩ : ByteArray) := by decide +kernel

end Go.Proofs.YtndacnpcocahhaaGreatDoor
namespace Go.Proofs.YtndacnpcocahhaaGreatDoor
open Go.RowKit

theorem slJ_cons (p : ByteArray) (M : List ByteArray) : (slJ (p :: M)).size = 1 + p.size + (slJ M).size := by
  show ((p :: M).flatMap fun p => 47 :: p.data.toList).length = _
  rw [List.flatMap_cons, List.length_append, List.length_cons, lenB]
  show _ = 1 + p.size + (M.flatMap fun p => 47 :: p.data.toList).length
  omega
theorem slJ_raw (p : ByteArray) : (slJ (rawB 47 p)).size = p.size + 1 := by
  have h := slJ_join (rawB 47 p) (rawB_ne 47 p)
  rw [rawB_data, join_pts] at h
  have := congrArg List.length h
  rw [List.length_cons, lenB, lenB] at this
  omega
theorem slJ_bparts (p : ByteArray) : (slJ (bparts p)).size ≤ p.size + 1 := by
  unfold bparts
  refine Nat.le_trans (slJ_drop _) ?_
  rw [← slJ_raw p]
  cases rawB 47 p with
  | nil => exact Nat.le_refl _
  | cons x L => rw [slJ_cons, List.tail_cons]; omega
theorem path_size (S : List ByteArray) (r : ByteArray) (l : List UInt8) (h : r.data.toList = l.map turnB) : (slJ (pathB (encS 4) S (rawB 47 r))).size ≤ (slJ S).size + (4 * l.length + 1) := by
  have h1 := pathB_sum S (rawB 47 r)
  have h2 := ptsS_wgtS l
  rw [raw_turn r l h] at h1 ⊢
  omega
theorem slash_turn (t : RdS) (l : List UInt8) (h : t.rest.data.toList = l.map turnB) : (slashS t).rest.data.toList = (l.dropWhile slB).map turnB := by
  show Lib.trimLeftB t.rest.data.toList 47 = _
  rw [h, drop_turn]
theorem sm_mix {u b : UrS} (hu : Sm u) (hb : Sm b) {p : ByteArray} (hp : p.size ≤ 9000000) : Sm { u with usr := b.usr, pas := b.pas, hst := b.hst, prt := b.prt, pth := p } :=
  ⟨hu.h0, hb.h1, hb.h2, hb.h3, hp, hu.h5, hu.h6, hb.h7⟩
theorem seen_ok (s : ByteArray) (B : UrS) (hs : s.size ≤ 1000) (hB : Sm B) (hp : B.pth.size ≤ 8000) (h2 : 2 ≤ (rawB 47 B.pth).length) : RdOk (rd0 s B) := by
  have hr : (rd0 s B).rest.size = s.size := rfl
  refine ⟨fun t h e => ?_, fun t h => ?_, fun t x h hx => ?_⟩
  · obtain ⟨_, k2, _⟩ := first_keep h
    rw [k2]; exact h2
  · obtain ⟨sch, r, rfl, h1, _⟩ := first_cases h
    have h2 := hh_le (behT (rd0 s B) sch r)
    have h3 := (behT_sizes (rd0 s B) sch r).1
    omega
  · obtain ⟨sch, r, rfl, h1, hc⟩ := first_cases h
    have hsch : sch.size ≤ 9000000 := by
      rcases hc with hc | hc
      · omega
      · rw [hc.1]; exact hB.h0
    have hz := (behT_sizes (rd0 s B) sch r).2
    have hd := dropw_le (cutA 63 (cutA 35 r)).data.toList
    have hsm := behT_sm (rd0 s B) sch r sm_u0 hsch (by omega)
    have htb : (behT (rd0 s B) sch r).b = B := rfl
    have htr := behT_turn (rd0 s B) sch r
    obtain ⟨t, ht⟩ : ∃ t, behT (rd0 s B) sch r = t := ⟨_, rfl⟩
    obtain ⟨l, hl⟩ : ∃ l, (cutA 63 (cutA 35 r)).data.toList = l := ⟨_, rfl⟩
    rw [ht] at hx hsm htb htr
    rw [hl] at hz hd htr
    unfold restS at hx
    split at hx
    · have hpp := place_prog t l htr
      rcases exc_cases (hpS t) with ⟨y, hy⟩ | ⟨c, hy⟩
      rotate_left
      · rw [hy] at hx; cases hx
      rw [hy] at hx hpp
      injection hx with hx
      subst hx
      refine sm_place hpp.symm hsm (by omega) ?_
      refine Nat.le_trans (hostT_size ?_) (by omega)
      have h5 := hst_size (asB (placL (l.dropWhile slB)))
      have h6 := plac_le (l.dropWhile slB)
      rw [asB_size] at h5
      rw [ByteArray.size_extract]; omega
    · split at hx
      · injection hx with hx
        subst hx
        have h5 := path_size [] (slashS t).rest _ (slash_turn t l htr)
        have h0 : (slJ []).size = 0 := rfl
        have hbb : (slashS t).b = B := htb
        have := sm_mix (p := slJ (pathB (encS 4) [] (rawB 47 (slashS t).rest))) hsm hB (by omega)
        rw [← hbb] at this
        exact this
      · split at hx
        · injection hx with hx
          subst hx
          have h5 := path_size (bparts t.b.pth) t.rest l htr
          have h6 := slJ_bparts t.b.pth
          rw [htb] at h6 h5
          have := sm_mix (p := slJ (pathB (encS 4) (bparts B.pth) (rawB 47 t.rest))) hsm hB (by omega)
          rw [← htb] at this
          exact this
        · injection hx with hx
          subst hx
          unfold takePathS takePlaceS
          dsimp only
          rw [htb]
          split
          · exact ⟨hsm.h0, hB.h1, hB.h2, hB.h3, hB.h4, hsm.h5, hsm.h6, hB.h7⟩
          · exact ⟨hsm.h0, hB.h1, hB.h2, hB.h3, hB.h4, hB.h5, hsm.h6, hB.h7⟩

end Go.Proofs.YtndacnpcocahhaaGreatDoor
namespace Go.Proofs.YtndacnpcocahhaaGreatDoor
open Go.RowKit

theorem paT_of {s : ByteArray} {U : UrS} {c : Int} (h : eqR (ansU (aloneT (drpS s 3))) U c = true) (hs : s.size ≤ 4096) : paT s = (U, c) := by
  rw [paT, if_neg (by omega)]; exact eqR_eq h
theorem pc6 {s : ByteArray} {U : UrS} {c : Int} (h : eqR (ansU (aloneT (drpS s 3))) U c = true) (hs : s.size ≤ 1000) (w : World) (hW : Uw w) :
    Calls Tryz.prog 13 #[.string s, .agg u0.cells.toArray, .bool false] w fun e w' => e = .returned (.tuple #[.agg U.cells.toArray, .int .i64 c]) ∧ Below w.heap.size w w' := by
  have := Parse0_any s u0 w (paOk_small hs) hW
  rwa [paT_of h (by omega)] at this
theorem sm_small (u : UrS) (h : (decide (u.sch.size ≤ 1000) && decide (u.usr.size ≤ 1000) && decide (u.pas.size ≤ 1000) && decide (u.hst.size ≤ 1000) && decide (u.pth.size ≤ 1000) && decide (u.qry.size ≤ 1000) && decide (u.mrk.size ≤ 1000) && decide (u.prt ≤ 65535)) = true) : Sm u := by
  simp only [Bool.and_eq_true, decide_eq_true_eq] at h
  obtain ⟨⟨⟨⟨⟨⟨⟨h0, h1⟩, h2⟩, h3⟩, h4⟩, h5⟩, h6⟩, h7⟩ := h
  exact ⟨by omega, by omega, by omega, by omega, by omega, by omega, by omega, by omega⟩
theorem ck_b : ckT c_bU = true := by
  unfold ckT
  rw [c_bT, paT_of c_b (by decide)]
  dsimp only
  rw [eqC_self]; rfl
/-- The statements' own base. -/
theorem ps6 {s : ByteArray} {U : UrS} (h : eqR (readU (rd0 s c_bU)) U 0 = true) (hs : s.size ≤ 1000) (w : World) (hW : Uw w) :
    Calls Tryz.prog 13 #[.string s, .agg c_bU.cells.toArray, .bool true] w fun e w' => e = .returned (.tuple #[.agg U.cells.toArray, .int .i64 0]) ∧ Below w.heap.size w w' := by
  have hB : Sm c_bU := sm_small _ (by decide +kernel)
  have := ParseSeen_any s c_bU w hB (by rw [c_bT]; exact paOk_small (by decide)) (fun _ _ => ⟨seen_ok s c_bU hs hB (by decide) (by decide +kernel), by decide⟩) hW
  rwa [seenU, if_neg (by omega), if_pos ck_b, eqR_eq h] at this
theorem is_b (s wa : ByteArray) (U : UrS) (h : eqR (readU (rd0 s c_bU)) U 0 = true) (hs : s.size ≤ 1000) (hU : Sm U) (hT : textT U = wa) (w : World) (hW : Uw w) :
    Calls Tryz.prog 38 #[.string s, .string c_bS, .string wa] w fun e w' => e = .returned (.bool true) ∧ Below w.heap.size w w' :=
  is6_any s c_bS wa U w (paOk_small (by decide)) hW hU hT (fun w' hW' => by
    rw [paT_of c_b (by decide)]
    exact ps6 h hs w' hW')
theorem is_e (s wa : ByteArray) (U : UrS) (h : eqR (ansU (aloneT (drpS s 3))) U 0 = true) (hs : s.size ≤ 1000) (hU : Sm U) (hT : textT U = wa) (w : World) (hW : Uw w) :
    Calls Tryz.prog 38 #[.string s, .string c_emptyS, .string wa] w fun e w' => e = .returned (.bool true) ∧ Below w.heap.size w w' :=
  is6_any s c_emptyS wa U w (paOk_small (by decide)) hW hU hT (fun w' hW' => by
    rw [paT_of c_empty (by decide)]
    exact pc6 h hs w' hW')
set_option maxRecDepth 100000 in
set_option maxHeartbeats 8000000 in
theorem alive6u_any (w : World) (hW : Uw w) : Calls Tryz.prog 27 #[] w fun e w' => e = .returned (.bool true) ∧ Below w.heap.size w w' := by
  have HL : Hid (∀ w', Below w.heap.size w w' → Uw w') := Lib.hid (fun w' hb => hW.later hb)
  have HZ : Hid (u0.cells.toArray.size = u0.cells.toArray.size) := Lib.hid rfl
  have P1 : Hid (∀ w', Below w.heap.size w w' → Calls Tryz.prog 13 #[.string c_xS, .agg u0.cells.toArray, .bool false] w' fun e w'' => e = .returned (.tuple #[.agg u0.cells.toArray, .int .i64 4]) ∧ Below w'.heap.size w' w'') := Lib.hid (fun w' hb => pc6 c_x (by decide) w' (HL.out w' hb))
  have P2 : Hid (∀ w', Below w.heap.size w w' → Calls Tryz.prog 13 #[.string c_ftpS, .agg u0.cells.toArray, .bool false] w' fun e w'' => e = .returned (.tuple #[.agg u0.cells.toArray, .int .i64 6]) ∧ Below w'.heap.size w' w'') := Lib.hid (fun w' hb => pc6 c_ftp (by decide) w' (HL.out w' hb))
  have P3 : Hid (∀ w', Below w.heap.size w w' → Calls Tryz.prog 13 #[.string c_portS, .agg u0.cells.toArray, .bool false] w' fun e w'' => e = .returned (.tuple #[.agg u0.cells.toArray, .int .i64 4]) ∧ Below w'.heap.size w' w'') := Lib.hid (fun w' hb => pc6 c_port (by decide) w' (HL.out w' hb))
  have P4 : Hid (∀ w', Below w.heap.size w w' → Calls Tryz.prog 13 #[.string c_noneS, .agg u0.cells.toArray, .bool false] w' fun e w'' => e = .returned (.tuple #[.agg u0.cells.toArray, .int .i64 5]) ∧ Below w'.heap.size w' w'') := Lib.hid (fun w' hb => pc6 c_none (by decide) w' (HL.out w' hb))
  have I0 : Hid (∀ w', Below w.heap.size w w' → Calls Tryz.prog 38 #[.string c_longS, .string c_emptyS, .string (⟨#[104, 116, 116, 112, 58, 47, 47, 85, 115, 101, 114, 64, 101, 120, 97, 109, 112, 108, 101, 46, 99, 111, 109, 47, 97, 47, 99, 63, 120, 35, 121]⟩ : ByteArray)] w' fun e w'' => e = .returned (.bool true) ∧ Below w'.heap.size w' w'') := Lib.hid (fun w' hb => is_e c_longS _ c_longU c_long (by decide) (sm_small _ (by decide +kernel)) c_longT w' (HL.out w' hb))
  have I1 : Hid (∀ w', Below w.heap.size w w' → Calls Tryz.prog 38 #[.string s_gS, .string c_bS, .string (⟨#[104, 116, 116, 112, 58, 47, 47, 97, 47, 98, 47, 99, 47, 103]⟩ : ByteArray)] w' fun e w'' => e = .returned (.bool true) ∧ Below w'.heap.size w' w'') := Lib.hid (fun w' hb => is_b s_gS _ s_gU s_g (by decide) (sm_small _ (by decide +kernel)) s_gT w' (HL.out w' hb))
  have I2 : Hid (∀ w', Below w.heap.size w w' → Calls Tryz.prog 38 #[.string s_upS, .string c_bS, .string (⟨#[104, 116, 116, 112, 58, 47, 47, 97, 47, 103]⟩ : ByteArray)] w' fun e w'' => e = .returned (.bool true) ∧ Below w'.heap.size w' w'') := Lib.hid (fun w' hb => is_b s_upS _ s_upU s_up (by decide) (sm_small _ (by decide +kernel)) s_upT w' (HL.out w' hb))
  have I3 : Hid (∀ w', Below w.heap.size w w' → Calls Tryz.prog 38 #[.string s_qS, .string c_bS, .string (⟨#[104, 116, 116, 112, 58, 47, 47, 97, 47, 98, 47, 99, 47, 100, 59, 112, 63, 121]⟩ : ByteArray)] w' fun e w'' => e = .returned (.bool true) ∧ Below w'.heap.size w' w'') := Lib.hid (fun w' hb => is_b s_qS _ s_qU s_q (by decide) (sm_small _ (by decide +kernel)) s_qT w' (HL.out w' hb))
  have I4 : Hid (∀ w', Below w.heap.size w w' → Calls Tryz.prog 38 #[.string s_slS, .string c_bS, .string (⟨#[104, 116, 116, 112, 58, 47, 47, 103, 47]⟩ : ByteArray)] w' fun e w'' => e = .returned (.bool true) ∧ Below w'.heap.size w' w'') := Lib.hid (fun w' hb => is_b s_slS _ s_slU s_sl (by decide) (sm_small _ (by decide +kernel)) s_slT w' (HL.out w' hb))
  have I5 : Hid (∀ w', Below w.heap.size w w' → Calls Tryz.prog 38 #[.string s_eS, .string c_bS, .string (⟨#[104, 116, 116, 112, 58, 47, 47, 97, 47, 98, 47, 99, 47, 100, 59, 112, 63, 113]⟩ : ByteArray)] w' fun e w'' => e = .returned (.bool true) ∧ Below w'.heap.size w' w'') := Lib.hid (fun w' hb => is_b s_eS _ s_eU s_e (by decide) (sm_small _ (by decide +kernel)) s_eT w' (HL.out w' hb))
  have I6 : Hid (∀ w', Below w.heap.size w w' → Calls Tryz.prog 38 #[.string c_hS, .string c_emptyS, .string (⟨#[104, 116, 116, 112, 58, 47, 47, 104, 47]⟩ : ByteArray)] w' fun e w'' => e = .returned (.bool true) ∧ Below w'.heap.size w' w'') := Lib.hid (fun w' hb => is_e c_hS _ c_hU c_h (by decide) (sm_small _ (by decide +kernel)) c_hT w' (HL.out w' hb))
  have I7 : Hid (∀ w', Below w.heap.size w w' → Calls Tryz.prog 38 #[.string s_yS, .string c_bS, .string (⟨#[104, 116, 116, 112, 58, 47, 47, 97, 47, 98, 47, 99, 47, 121]⟩ : ByteArray)] w' fun e w'' => e = .returned (.bool true) ∧ Below w'.heap.size w' w'') := Lib.hid (fun w' hb => is_b s_yS _ s_yU s_y (by decide) (sm_small _ (by decide +kernel)) s_yT w' (HL.out w' hb))
  clear hW
  go_enter Tryz.func27, Tryz.ntmps27
  go_wp2_with fail
  refine (show Calls Tryz.prog 13 #[.string c_xS, .agg u0.cells.toArray, .bool false] w _ from P1.out w (Below.refl _ _)).mono ?_
  rintro e w1 ⟨rfl, b1⟩
  have B1 : Hid (Below w.heap.size w w1) := Lib.hid b1
  obtain ⟨V1, HV1⟩ : ∃ W, Hid (w1.alloc (.cells u0.cells.toArray 24) = W) := ⟨_, Lib.hid rfl⟩
  have BV1 : Hid (Below w.heap.size w V1) := Lib.hid (by rw [← HV1.out]; exact B1.out.alloc B1.out.size _)
  clear b1
  go_wp2_with (refine wpL_store_row rfl 24 _ _ rfl w1.heap.size u0.cells.toArray ?_ ?_ 24 u0.cells.toArray ?_ ?_ ?_ ?_ ?_; exact rfl; exact rfl; exact heap_alloc_new w1 _; exact infoU; exact rfl; exact u0_one; rw [World.setRow_alloc_new, HV1.out])
  refine (show Calls Tryz.prog 13 #[.string c_ftpS, .agg u0.cells.toArray, .bool false] V1 _ from P2.out V1 BV1.out).mono ?_
  rintro e w2 ⟨rfl, b2⟩
  have B2 : Hid (Below w.heap.size w w2) := Lib.hid (us_keep BV1.out b2)
  obtain ⟨V2, HV2⟩ : ∃ W, Hid (w2.alloc (.cells u0.cells.toArray 24) = W) := ⟨_, Lib.hid rfl⟩
  have BV2 : Hid (Below w.heap.size w V2) := Lib.hid (by rw [← HV2.out]; exact B2.out.alloc B2.out.size _)
  clear b2
  go_wp2_with (refine wpL_store_row rfl 24 _ _ rfl w2.heap.size u0.cells.toArray ?_ ?_ 24 u0.cells.toArray ?_ ?_ ?_ ?_ ?_; exact rfl; exact rfl; exact heap_alloc_new w2 _; exact infoU; exact rfl; exact u0_one; rw [World.setRow_alloc_new, HV2.out])
  refine (show Calls Tryz.prog 13 #[.string c_portS, .agg u0.cells.toArray, .bool false] V2 _ from P3.out V2 BV2.out).mono ?_
  rintro e w3 ⟨rfl, b3⟩
  have B3 : Hid (Below w.heap.size w w3) := Lib.hid (us_keep BV2.out b3)
  obtain ⟨V3, HV3⟩ : ∃ W, Hid (w3.alloc (.cells u0.cells.toArray 24) = W) := ⟨_, Lib.hid rfl⟩
  have BV3 : Hid (Below w.heap.size w V3) := Lib.hid (by rw [← HV3.out]; exact B3.out.alloc B3.out.size _)
  clear b3
  go_wp2_with (refine wpL_store_row rfl 24 _ _ rfl w3.heap.size u0.cells.toArray ?_ ?_ 24 u0.cells.toArray ?_ ?_ ?_ ?_ ?_; exact rfl; exact rfl; exact heap_alloc_new w3 _; exact infoU; exact rfl; exact u0_one; rw [World.setRow_alloc_new, HV3.out])
  refine (show Calls Tryz.prog 13 #[.string c_noneS, .agg u0.cells.toArray, .bool false] V3 _ from P4.out V3 BV3.out).mono ?_
  rintro e w4 ⟨rfl, b4⟩
  have B4 : Hid (Below w.heap.size w w4) := Lib.hid (us_keep BV3.out b4)
  obtain ⟨V4, HV4⟩ : ∃ W, Hid (w4.alloc (.cells u0.cells.toArray 24) = W) := ⟨_, Lib.hid rfl⟩
  have BV4 : Hid (Below w.heap.size w V4) := Lib.hid (by rw [← HV4.out]; exact B4.out.alloc B4.out.size _)
  clear b4
  go_wp2_with (refine wpL_store_row rfl 24 _ _ rfl w4.heap.size u0.cells.toArray ?_ ?_ 24 u0.cells.toArray ?_ ?_ ?_ ?_ ?_; exact rfl; exact rfl; exact heap_alloc_new w4 _; exact infoU; exact rfl; exact u0_one; rw [World.setRow_alloc_new, HV4.out])
  refine (show Calls Tryz.prog 38 #[.string c_longS, .string c_emptyS, .string (⟨#[104, 116, 116, 112, 58, 47, 47, 85, 115, 101, 114, 64, 101, 120, 97, 109, 112, 108, 101, 46, 99, 111, 109, 47, 97, 47, 99, 63, 120, 35, 121]⟩ : ByteArray)] V4 _ from I0.out V4 BV4.out).mono ?_
  rintro e x0 ⟨rfl, b0⟩
  have X0 : Hid (Below w.heap.size w x0) := Lib.hid (us_keep BV4.out b0)
  clear b0
  go_wp2_with fail
  refine (show Calls Tryz.prog 38 #[.string s_gS, .string c_bS, .string (⟨#[104, 116, 116, 112, 58, 47, 47, 97, 47, 98, 47, 99, 47, 103]⟩ : ByteArray)] x0 _ from I1.out x0 X0.out).mono ?_
  rintro e x1 ⟨rfl, b1⟩
  have X1 : Hid (Below w.heap.size w x1) := Lib.hid (us_keep X0.out b1)
  clear b1
  go_wp2_with fail
  refine (show Calls Tryz.prog 38 #[.string s_upS, .string c_bS, .string (⟨#[104, 116, 116, 112, 58, 47, 47, 97, 47, 103]⟩ : ByteArray)] x1 _ from I2.out x1 X1.out).mono ?_
  rintro e x2 ⟨rfl, b2⟩
  have X2 : Hid (Below w.heap.size w x2) := Lib.hid (us_keep X1.out b2)
  clear b2
  go_wp2_with fail
  refine (show Calls Tryz.prog 38 #[.string s_qS, .string c_bS, .string (⟨#[104, 116, 116, 112, 58, 47, 47, 97, 47, 98, 47, 99, 47, 100, 59, 112, 63, 121]⟩ : ByteArray)] x2 _ from I3.out x2 X2.out).mono ?_
  rintro e x3 ⟨rfl, b3⟩
  have X3 : Hid (Below w.heap.size w x3) := Lib.hid (us_keep X2.out b3)
  clear b3
  go_wp2_with fail
  refine (show Calls Tryz.prog 38 #[.string s_slS, .string c_bS, .string (⟨#[104, 116, 116, 112, 58, 47, 47, 103, 47]⟩ : ByteArray)] x3 _ from I4.out x3 X3.out).mono ?_
  rintro e x4 ⟨rfl, b4⟩
  have X4 : Hid (Below w.heap.size w x4) := Lib.hid (us_keep X3.out b4)
  clear b4
  go_wp2_with fail
  refine (show Calls Tryz.prog 38 #[.string s_eS, .string c_bS, .string (⟨#[104, 116, 116, 112, 58, 47, 47, 97, 47, 98, 47, 99, 47, 100, 59, 112, 63, 113]⟩ : ByteArray)] x4 _ from I5.out x4 X4.out).mono ?_
  rintro e x5 ⟨rfl, b5⟩
  have X5 : Hid (Below w.heap.size w x5) := Lib.hid (us_keep X4.out b5)
  clear b5
  go_wp2_with fail
  refine (show Calls Tryz.prog 38 #[.string c_hS, .string c_emptyS, .string (⟨#[104, 116, 116, 112, 58, 47, 47, 104, 47]⟩ : ByteArray)] x5 _ from I6.out x5 X5.out).mono ?_
  rintro e x6 ⟨rfl, b6⟩
  have X6 : Hid (Below w.heap.size w x6) := Lib.hid (us_keep X5.out b6)
  clear b6
  go_wp2_with fail
  refine (show Calls Tryz.prog 38 #[.string s_yS, .string c_bS, .string (⟨#[104, 116, 116, 112, 58, 47, 47, 97, 47, 98, 47, 99, 47, 121]⟩ : ByteArray)] x6 _ from I7.out x6 X6.out).mono ?_
  rintro e x7 ⟨rfl, b7⟩
  have X7 : Hid (Below w.heap.size w x7) := Lib.hid (us_keep X6.out b7)
  clear b7
  go_wp2
  go_ret
  exact ⟨rfl, X7.out⟩

end Go.Proofs.YtndacnpcocahhaaGreatDoor
namespace Go.Proofs.YtndacnpcocahhaaGreatDoor
open Go.RowKit

def flB (c : UInt8) : UInt8 := if c = 47 then 92 else c
def flipL : List UInt8 → List UInt8
  | [] => []
  | c :: l => if c = 63 ∨ c = 35 then c :: l else flB c :: flipL l
theorem flB_fact : ∀ n : Fin 256, (blankB (flB (UInt8.ofNat n.1)) = blankB (UInt8.ofNat n.1) ∧ keptB (flB (UInt8.ofNat n.1)) = keptB (UInt8.ofNat n.1) ∧ schB (flB (UInt8.ofNat n.1)) = schB (UInt8.ofNat n.1) ∧ letB (flB (UInt8.ofNat n.1)) = letB (UInt8.ofNat n.1) ∧ turnB (flB (UInt8.ofNat n.1)) = turnB (UInt8.ofNat n.1)) ∧
    ((flB (UInt8.ofNat n.1) = 58 ↔ UInt8.ofNat n.1 = 58) ∧ (flB (UInt8.ofNat n.1) = 63 ↔ UInt8.ofNat n.1 = 63) ∧ (flB (UInt8.ofNat n.1) = 35 ↔ UInt8.ofNat n.1 = 35)) ∧ (schB (UInt8.ofNat n.1) = true → flB (UInt8.ofNat n.1) = UInt8.ofNat n.1) := by decide +kernel
theorem flB_facts (c : UInt8) : (blankB (flB c) = blankB c ∧ keptB (flB c) = keptB c ∧ schB (flB c) = schB c ∧ letB (flB c) = letB c ∧ turnB (flB c) = turnB c) ∧
    ((flB c = 58 ↔ c = 58) ∧ (flB c = 63 ↔ c = 63) ∧ (flB c = 35 ↔ c = 35)) ∧ (schB c = true → flB c = c) := by
  have := flB_fact ⟨c.toNat, c.toNat_lt⟩
  simpa using this
theorem flip_len : ∀ l : List UInt8, (flipL l).length = l.length
  | [] => rfl
  | c :: l => by
    rw [flipL]; split
    · rfl
    · rw [List.length_cons, List.length_cons, flip_len l]
theorem flip_take : ∀ (n : Nat) (l : List UInt8), flipL (l.take n) = (flipL l).take n
  | 0, l => by rw [List.take_zero, List.take_zero]; rfl
  | n + 1, [] => rfl
  | n + 1, c :: l => by
    rw [List.take_succ_cons, flipL, flipL]; split
    · rfl
    · rw [List.take_succ_cons, flip_take n l]
theorem flip_front : ∀ l : List UInt8, flipL (l.dropWhile blankB) = (flipL l).dropWhile blankB
  | [] => rfl
  | c :: l => by
    have hc := (flB_facts c).1.1
    rw [List.dropWhile_cons, flipL]
    split
    · rename_i h
      rw [flip_front l]
      split
      · rename_i h2
        rcases h2 with h2 | h2 <;> (subst h2; exact absurd h (by decide))
      · rw [List.dropWhile_cons, hc, if_pos h]
    · rename_i h
      rw [flipL]
      split
      · rw [List.dropWhile_cons, if_neg h]
      · rw [List.dropWhile_cons, hc, if_neg h]
/-- How much stands before the blanks at the end. -/
def endN (l : List UInt8) : Nat := (l.reverse.dropWhile blankB).length
theorem end_take (l : List UInt8) : (l.reverse.dropWhile blankB).reverse = l.take (endN l) := by
  have h := List.takeWhile_append_dropWhile (p := blankB) (l := l.reverse)
  have h2 : l = (l.reverse.dropWhile blankB).reverse ++ (l.reverse.takeWhile blankB).reverse := by
    rw [← List.reverse_append, h, List.reverse_reverse]
  unfold endN
  conv => rhs; rw [h2]
  rw [List.take_append_of_le_length (by simp), List.take_of_length_le (by simp)]
theorem dw_map (f : UInt8 → Bool) : ∀ (a b : List UInt8), a.map f = b.map f → ∀ p : Bool → Bool, (a.dropWhile (fun c => p (f c))).length = (b.dropWhile (fun c => p (f c))).length
  | [], [], _, _ => rfl
  | [], _ :: _, h, _ => by cases h
  | _ :: _, [], h, _ => by cases h
  | x :: a, y :: b, h, p => by
    simp only [List.map_cons, List.cons.injEq] at h
    have ih := dw_map f a b h.2 p
    have hl : a.length = b.length := by have := congrArg List.length h.2; simpa using this
    rw [List.dropWhile_cons, List.dropWhile_cons, h.1]
    split
    · exact ih
    · simp [hl]
theorem flip_blank : ∀ l : List UInt8, (flipL l).map blankB = l.map blankB
  | [] => rfl
  | c :: l => by
    rw [flipL]; split
    · rfl
    · rw [List.map_cons, List.map_cons, flip_blank l, (flB_facts c).1.1]
theorem flip_end (l : List UInt8) : endN (flipL l) = endN l := by
  unfold endN
  refine dw_map blankB _ _ ?_ id
  rw [List.map_reverse, List.map_reverse, flip_blank]
theorem flip_trim (l : List UInt8) : flipL (trimU l) = trimU (flipL l) := by
  show flipL ((l.dropWhile blankB).reverse.dropWhile blankB).reverse = (((flipL l).dropWhile blankB).reverse.dropWhile blankB).reverse
  rw [end_take, end_take, flip_take, flip_front, ← flip_front, flip_end]
theorem flip_kept : ∀ l : List UInt8, flipL (l.filter keptB) = (flipL l).filter keptB
  | [] => rfl
  | c :: l => by
    have hc := (flB_facts c).1.2.1
    rw [List.filter_cons, flipL]
    split
    · rename_i h
      rw [flipL]
      split
      · rw [List.filter_cons, if_pos h]
      · rw [List.filter_cons, hc, if_pos h, flip_kept l]
    · rename_i h
      split
      · rename_i h2
        rcases h2 with h2 | h2 <;> (subst h2; exact absurd rfl h)
      · rw [List.filter_cons, hc, if_neg h, flip_kept l]
theorem flip_drop (l : List UInt8) : dropL (flipL l) = flipL (dropL l) := by
  unfold dropL
  rw [flip_kept, flip_trim]
theorem flip_turn : ∀ l : List UInt8, (flipL l).map turnB = l.map turnB
  | [] => rfl
  | c :: l => by
    rw [flipL]; split
    · rfl
    · rw [List.map_cons, List.map_cons, flip_turn l, (flB_facts c).1.2.2.2.2]
theorem flip_sch : ∀ l : List UInt8, (flipL l).all schB = l.all schB
  | [] => rfl
  | c :: l => by
    rw [flipL]; split
    · rfl
    · rw [List.all_cons, List.all_cons, flip_sch l, (flB_facts c).1.2.2.1]
theorem flip_ok (l : List UInt8) : schOk (flipL l) = schOk l := by
  cases l with
  | nil => rfl
  | cons c l =>
    rw [flipL]; split
    · rfl
    · show (letB (flB c) && (flipL l).all schB) = (letB c && l.all schB)
      rw [flip_sch, (flB_facts c).1.2.2.2.1]
theorem flip_self : ∀ l : List UInt8, l.all schB = true → flipL l = l
  | [], _ => rfl
  | c :: l, h => by
    rw [List.all_cons, Bool.and_eq_true] at h
    rw [flipL]; split
    · rfl
    · rw [flip_self l h.2, (flB_facts c).2.2 h.1]
theorem sch_all {l : List UInt8} (h : schOk l = true) : l.all schB = true := by
  cases l with
  | nil => rfl
  | cons c l =>
    have h : (letB c && l.all schB) = true := h
    rw [Bool.and_eq_true] at h
    rw [List.all_cons, h.2, Bool.and_true]
    unfold schB
    rw [h.1]; rfl
/-- A cut at a sign that stays. -/
theorem flip_cut {a : UInt8} (ha : ∀ c, flB c = a ↔ c = a) : ∀ l : List UInt8, (cutP a (flipL l)).1 = flipL (cutP a l).1 ∧ (cutP a (flipL l)).2.2 = (cutP a l).2.2
  | [] => ⟨rfl, rfl⟩
  | c :: l => by
    have ih := flip_cut ha l
    by_cases h : c = 63 ∨ c = 35
    · rw [flipL, if_pos h, cutP]
      split
      · exact ⟨rfl, rfl⟩
      · exact ⟨by rw [flipL, if_pos h], rfl⟩
    · rw [flipL, if_neg h, cutP, cutP]
      by_cases e : c = a
      · rw [if_pos ((ha c).2 e), if_pos e]; exact ⟨rfl, rfl⟩
      · rw [if_neg (fun x => e ((ha c).1 x)), if_neg e]
        exact ⟨by rw [flipL, if_neg h, ih.1], ih.2⟩
theorem flip_rest {a : UInt8} (ha : ∀ c, flB c = a ↔ c = a) (hm : a = 63 ∨ a = 35) : ∀ l : List UInt8, (cutP a (flipL l)).2.1 = (cutP a l).2.1
  | [] => rfl
  | c :: l => by
    have ih := flip_rest ha hm l
    by_cases h : c = 63 ∨ c = 35
    · rw [flipL, if_pos h]
    · rw [flipL, if_neg h, cutP, cutP]
      by_cases e : c = a
      · subst e; exact absurd hm h
      · rw [if_neg (fun x => e ((ha c).1 x)), if_neg e]
        exact ih
theorem flip_behind : ∀ l : List UInt8, (cutP 58 l).1.all schB = true → (cutP 58 (flipL l)).2.1 = flipL (cutP 58 l).2.1
  | [], _ => rfl
  | c :: l, hq => by
    by_cases e : c = 58
    · subst e
      rw [flipL, if_neg (by decide), cutP, cutP, if_pos (by decide), if_pos rfl]
    · rw [cutP, if_neg e] at hq ⊢
      rw [List.all_cons, Bool.and_eq_true] at hq
      have h : ¬ (c = 63 ∨ c = 35) := by
        rintro (h | h) <;> (subst h; exact absurd hq.1 (by decide))
      rw [flipL, if_neg h, cutP, if_neg (fun x => e ((flB_facts c).2.1.1.1 x))]
      exact flip_behind l hq.2
theorem place_same (u : UrS) {l m : List UInt8} (h : m.map turnB = l.map turnB) : placeT u (m.dropWhile slB) = placeT u (l.dropWhile slB) := by
  have hd : ({ rd0 (asB (l.map turnB)) u0 with u := u } : RdS).rest.data.toList = l.map turnB := rfl
  rw [← place_prog { rd0 (asB (l.map turnB)) u0 with u := u } l hd, ← place_prog { rd0 (asB (l.map turnB)) u0 with u := u } m (hd.trans h.symm)]
theorem alone_flip {r q : ByteArray} (h : q.data.toList = flipL r.data.toList) : aloneT q = aloneT r := by
  have c58 := flip_cut (a := 58) (fun c => (flB_facts c).2.1.1) r.data.toList
  have hA : (cutA 58 q).data.toList = flipL (cutA 58 r).data.toList := by rw [cutA_data, h, c58.1, cutA_data]
  have hF : cutF 58 q = cutF 58 r := by rw [cutF_eq, h, c58.2, cutF_eq]
  have hS : schT q = schT r := by unfold schT; rw [hF, hA, flip_ok]
  unfold aloneT
  rw [hS]
  by_cases hs : schT r = true
  · rw [if_pos hs, if_pos hs]
    have hal : (cutA 58 r).data.toList.all schB = true := by
      unfold schT at hs
      rw [Bool.and_eq_true] at hs
      exact sch_all hs.2
    have eA : cutA 58 q = cutA 58 r := ba_of (by rw [hA, flip_self _ hal])
    have hB : (cutB 58 q).data.toList = flipL (cutB 58 r).data.toList := by
      rw [cutB_data, h, cutB_data]
      rw [cutA_data] at hal
      exact flip_behind _ hal
    have f35 : ∀ c, flB c = 35 ↔ c = 35 := fun c => (flB_facts c).2.1.2.2
    have f63 : ∀ c, flB c = 63 ↔ c = 63 := fun c => (flB_facts c).2.1.2.1
    have g1 : cutB 35 (cutB 58 q) = cutB 35 (cutB 58 r) := ba_of (by rw [cutB_data, hB, flip_rest f35 (.inr rfl), ← cutB_data])
    have g2 : cutF 35 (cutB 58 q) = cutF 35 (cutB 58 r) := by rw [cutF_eq, hB, (flip_cut f35 _).2, ← cutF_eq]
    have g3 : (cutA 35 (cutB 58 q)).data.toList = flipL (cutA 35 (cutB 58 r)).data.toList := by rw [cutA_data, hB, (flip_cut f35 _).1, ← cutA_data]
    have g4 : cutB 63 (cutA 35 (cutB 58 q)) = cutB 63 (cutA 35 (cutB 58 r)) := ba_of (by rw [cutB_data, g3, flip_rest f63 (.inl rfl), ← cutB_data])
    have g5 : cutF 63 (cutA 35 (cutB 58 q)) = cutF 63 (cutA 35 (cutB 58 r)) := by rw [cutF_eq, g3, (flip_cut f63 _).2, ← cutF_eq]
    have g6 : (cutA 63 (cutA 35 (cutB 58 q))).data.toList = flipL (cutA 63 (cutA 35 (cutB 58 r))).data.toList := by rw [cutA_data, g3, (flip_cut f63 _).1, ← cutA_data]
    have g7 : tailT { u0 with sch := lowS (cutA 58 r) } (cutB 58 q) = tailT { u0 with sch := lowS (cutA 58 r) } (cutB 58 r) := by
      unfold tailT; rw [g1, g2, g4, g5]
    rw [eA]
    split
    · rfl
    · rw [g7, place_same _ (show (cutA 63 (cutA 35 (cutB 58 q))).data.toList.map turnB = (cutA 63 (cutA 35 (cutB 58 r))).data.toList.map turnB by rw [g6, flip_turn])]
  · rw [if_neg hs, if_neg hs]
/-- The text with its slashes turned. -/
def flipS (s : ByteArray) : ByteArray := ⟨(flipL s.data.toList).toArray⟩
theorem flipS_size (s : ByteArray) : (flipS s).size = s.size := by
  show (flipL s.data.toList).toArray.size = s.data.size
  rw [List.size_toArray, flip_len, Array.length_toList]
theorem aloneT_flip (s : ByteArray) : aloneT (drpS (flipS s) 3) = aloneT (drpS s 3) :=
  alone_flip (by rw [drpS_data, drpS_data]; exact flip_drop s.data.toList)

end Go.Proofs.YtndacnpcocahhaaGreatDoor
