/-
  urls: contracts: Check, Parse seen from a base.
  urls: constants that the statements' own alive asks, by the kernel.
  urls: plain words: a reader of a text of at most 1000 bytes, seen from a base, may be walked.
  urls: answers at given texts.
  urls: a text whose slashes are turned ahead of a query and a mark says the same.
-/
import Derived.Test.YtcphokaamkalfaaGreatDoorMuA
namespace Go.Proofs.YtcphokaamkalfaaGreatDoor
open Go.RowKit

theorem wpW_step {P : Program} {ops : Array Oper} {Q : Exit → Act → World → Prop} {a : Act} {w : World} {rest : List Oper} {o : Oper} (hw : Region.wanted o (yielded ops a.tmps) = true)
  (h : ∀ K : Act → World → Prop, (∀ a w, wpList P ops Q rest a w → K a w) → o.wp P a w K Q) : wpList P ops Q (o :: rest) a w :=
 wpList_step fun K hK => by rw [if_pos hw]; exact h K hK
/-- A row is read, guarded or not. -/
theorem wpW_load_row {P : Program} {ops : Array Oper} {rest : List Oper} {o : Oper} {a : Act} {w : World} {Q : Exit → Act → World → Prop} (hw : Region.wanted o (yielded ops a.tmps) = true) (ty : TypeId) (x : Operand) (ho : o.op = .load ty x)
  (g : Nat) (hx : a.eval x = .pointer (some ⟨g, 0, none⟩)) (t : TypeId) (cs : Array Value) (fr : Nat × Nat) (d : TypeDesc) (hg : w.heap[g]? = some (.cells cs t fr))
  (hu : P.underlying ty = some d) (hd : (match d with | .struct _ | .array _ _ => true | _ => false) = true) (hi : (P.info? ty).map (·.size) = some cs.size)
  (h : wpList P ops Q rest (a.put o.dst (.agg cs)) w) : wpList P ops Q (o :: rest) a w :=
 wpW_step hw fun _ hK => wp_load_row ty x ho g hx t cs fr d hg hu hd hi (hK _ _ h)
/-- What Parse answers without a base. -/
def paT (s : ByteArray) : UrS × Int := if 4096 < s.size then (u0, 3) else ansU (aloneT (drpS s 3))
/-- Its cuts can be walked. -/
def PaOk (s : ByteArray) : Prop := s.size ≤ 4096 → RdOk (rd0 s u0)
theorem paOk (s : ByteArray) : PaOk s := fun h => alone_ok s (by omega)
theorem paOk_small {s : ByteArray} (_ : s.size ≤ 1000) : PaOk s := paOk s
theorem Parse0_any (s : ByteArray) (B : UrS) (w : World) (hO : PaOk s) (hW : Uw w) :
  Calls Tryz.prog 7 #[.string s, .agg B.cells.toArray, .bool false] w fun e w' => e = .returned (.tuple #[.agg (paT s).1.cells.toArray, .int .i64 (paT s).2]) ∧ Below w.heap.size w w' := by
 unfold paT
 by_cases h : 4096 < s.size
 ·rw [if_pos h]; exact ParseLong_any s B false w h
 ·rw [if_neg h, ← alone_read]; exact ParseAlone_any s B w (by omega) hW (hO (by omega))
/-- May an address be? -/
def ckT (u : UrS) : Bool := ((paT (textT u)).2 == 0) && eqC (paT (textT u)).1 u
set_option maxRecDepth 100000 in
set_option maxHeartbeats 4000000 in
theorem UCheck_any (u : UrS) (w : World) (h : Sm u) (hO : PaOk (textT u)) (hW : Uw w) :
  Calls Tryz.prog 10 #[.agg u.cells.toArray] w fun e w' => e = .returned (.bool (ckT u)) ∧ Below w.heap.size w w' := by
 have HP : Hid (∀ w', Below w.heap.size w w' → Calls Tryz.prog 7 #[.string (textT u), .agg u0.cells.toArray, .bool false] w' fun e w'' => e = .returned (.tuple #[.agg (paT (textT u)).1.cells.toArray, .int .i64 (paT (textT u)).2]) ∧ Below w'.heap.size w' w'') := Lib.hid (fun w' hb => Parse0_any _ u0 w' hO (hW.later hb))
 have HTx : Hid (∀ w', Below w.heap.size w w' → Calls Tryz.prog 8 #[.agg u.cells.toArray] w' fun e w'' => e = .returned (.string (textT u)) ∧ Below w'.heap.size w' w'') := Lib.hid (fun w' hb => Text_of u w' h (hW.later hb).dc)
 have HV := Lib.hid (show ckT u = (((paT (textT u)).2 == 0) && eqC (paT (textT u)).1 u) from rfl)
 obtain ⟨A, c, HA⟩ : ∃ A c, Hid (paT (textT u) = (A, c)) := ⟨_, _, Lib.hid rfl⟩
 rw [HA.out] at HP HV
 dsimp only at HP HV
 obtain ⟨T, HT⟩ : ∃ T, Hid (textT u = T) := ⟨_, Lib.hid rfl⟩
 rw [HT.out] at HP HTx
 have heq : ∀ w, (binOp .eql 23 (.agg A.cells.toArray) (.agg u.cells.toArray)).run Tryz.prog w = .ok (.bool (eqC A u)) w := fun w => eqU A u w
 obtain ⟨B, HB⟩ : ∃ B, Hid (eqC A u = B) := ⟨_, Lib.hid rfl⟩
 rw [HB.out] at heq HV
 have HI1 : Hid ((Tryz.prog.info? 23).map (·.size) = some A.cells.toArray.size) := Lib.hid infoU
 have HO1 : Hid (A.cells.toArray.all (·.oneCell') = true) := Lib.hid (cells_one A)
 have HS1 : Hid (u0.cells.toArray.size = A.cells.toArray.size) := Lib.hid rfl
 have HI2 : Hid ((Tryz.prog.info? 23).map (·.size) = some u.cells.toArray.size) := Lib.hid infoU
 obtain ⟨V, HVv⟩ : ∃ V, Hid (A.cells.toArray = V) := ⟨_, Lib.hid rfl⟩
 obtain ⟨C, HC⟩ : ∃ V, Hid (u.cells.toArray = V) := ⟨_, Lib.hid rfl⟩
 rw [HVv.out] at HP HI1 HO1 HS1 heq
 rw [HC.out] at HTx HI2 heq
 rw [HC.out, HV.out]
 obtain ⟨W, HWw⟩ : ∃ W, Hid (UBox w C = W) := ⟨_, Lib.hid rfl⟩
 have HBw : Hid (Below w.heap.size w W) := Lib.hid (by rw [← HWw.out]; exact ubox_below w C)
 have HG : Hid (W.heap[w.heap.size]? = some (.cells C 23 (0, 0))) := Lib.hid (by rw [← HWw.out]; exact heap_alloc_new w _)
 obtain ⟨g, Hg⟩ : ∃ g, Hid (w.heap.size = g) := ⟨_, Lib.hid rfl⟩
 rw [Hg.out] at HG
 clear h hO hW HV HVv HC HB
 go_enter Tryz.func10, Tryz.ntmps10
 go_upto_region 1 with (fail)
 rw [show w.alloc (.cells C 23) = W from HWw.out, Hg.out]
 go_wp2_with (refine wpList_load_row rfl 23 _ rfl g ?_ 23 C (0, 0) _ ?_ Tryz.underlying23 rfl HI2.out ?_; (exact rfl); (exact HG.out))
 refine (HTx.out W HBw.out).mono ?_
 rintro e w1 ⟨rfl, b1⟩
 have HB1 : Hid (Below w.heap.size w w1) := Lib.hid (us_keep HBw.out b1)
 have HG1 : Hid (w1.heap[g]? = some (.cells C 23 (0, 0))) := Lib.hid ((b1.block _ (lt_of_block HG.out)).trans HG.out)
 clear b1
 go_wp2_with fail
 refine (show Calls Tryz.prog 7 #[.string T, .agg u0.cells.toArray, .bool false] w1 _ from HP.out w1 HB1.out).mono ?_
 rintro e w2 ⟨rfl, b2⟩
 have HB2 : Hid (Below w.heap.size w w2) := Lib.hid (us_keep HB1.out b2)
 have HG2 : Hid (w2.heap[g]? = some (.cells C 23 (0, 0))) := Lib.hid ((b2.block _ (lt_of_block HG1.out)).trans HG1.out)
 obtain ⟨W4, HW4⟩ : ∃ W, Hid (w2.alloc (.cells V 23) = W) := ⟨_, Lib.hid rfl⟩
 have B4 : Hid (Below w.heap.size w W4) := Lib.hid (by rw [← HW4.out]; exact HB2.out.alloc HB2.out.size _)
 have G4 : Hid (W4.heap[g]? = some (.cells C 23 (0, 0))) := Lib.hid (by rw [← HW4.out]; exact ((Kp.refl (fun _ => False) _).alloc _).at HG2.out id)
 have G5 : Hid (W4.heap[w2.heap.size]? = some (.cells V 23 (0, 0))) := Lib.hid (by rw [← HW4.out]; exact heap_alloc_new w2 _)
 clear b2
 go_upto_region 2 with (refine wpL_store_row rfl 23 _ _ rfl w2.heap.size V ?_ ?_ 23 u0.cells.toArray ?_ ?_ ?_ ?_ ?_; exact rfl; exact rfl; exact heap_alloc_new w2 _; exact HI1.out; exact HS1.out; exact HO1.out; rw [World.setRow_alloc_new, HW4.out])
 by_cases hc : c = 0
 ·subst hc
  have ec : ((0 : Int) == 0) = true := rfl
  go_wp2_with (first
   | (refine wpW_load_row rfl 23 _ rfl g ?_ 23 C (0, 0) _ ?_ Tryz.underlying23 rfl HI2.out ?_; (exact rfl); (exact G4.out))
   | (refine wpW_load_row rfl 23 _ rfl w2.heap.size ?_ 23 V (0, 0) _ ?_ Tryz.underlying23 rfl HI1.out ?_; (exact rfl); (exact G5.out)))
  go_ret
  exact ⟨rfl, B4.out⟩
 ·have ec : (c == 0) = false := beq_eq_false_iff_ne.2 hc
  clear hc
  go_wp2
  go_ret
  exact ⟨by rw [ec]; rfl, B4.out⟩

/-- What Parse answers, seen from a base. -/
def seenU (s : ByteArray) (B : UrS) : UrS × Int := if 4096 < s.size then (u0, 3) else if ckT B = true then readU (rd0 s B) else (u0, 1)
set_option maxRecDepth 100000 in
set_option maxHeartbeats 4000000 in
theorem ParseSeen_any (s : ByteArray) (u : UrS) (w : World) (hB : Sm u) (hC : PaOk (textT u)) (hO : s.size ≤ 4096 → ckT u = true → RdOk (rd0 s u) ∧ u.pth.size ≤ 8000) (hW : Uw w) :
  Calls Tryz.prog 7 #[.string s, .agg u.cells.toArray, .bool true] w fun e w' => e = .returned (.tuple #[.agg (seenU s u).1.cells.toArray, .int .i64 (seenU s u).2]) ∧ Below w.heap.size w w' := by
 by_cases hs : 4096 < s.size
 ·unfold seenU
  rw [if_pos hs]; exact ParseLong_any s u true w hs
 have hsI : ¬ (4096 : Int) < (s.size : Int) := by omega
 have HR := Lib.hid (urReaderOf_any s u)
 have HCk : Hid (∀ w', Below w.heap.size w w' → Calls Tryz.prog 10 #[.agg u.cells.toArray] w' fun e w'' => e = .returned (.bool (ckT u)) ∧ Below w'.heap.size w' w'') := Lib.hid (fun w' hb => UCheck_any u w' hB hC (hW.later hb))
 have HN : Hid (ckT u = true → ∀ (b : Nat) (w1 w2 : World), Below w.heap.size w w1 → w1.heap.size ≤ b → RdAt w2 b (rd0 s u) → Below w1.heap.size w1 w2 → Calls Tryz.prog 15 #[.pointer (some ⟨b, 0, none⟩)] w2 fun e w' => e = .returned (.tuple #[.agg (readU (rd0 s u)).1.cells.toArray, .int .i64 (readU (rd0 s u)).2]) ∧ Below w1.heap.size w1 w') := Lib.hid (fun hk b w1 w2 h1 hb h k =>
  read_new s u b w1 w2 (hW.later h1) (by omega) hb h k (hO (by omega) hk).2 (hO (by omega) hk).1)
 have HV : Hid (seenU s u = if ckT u = true then readU (rd0 s u) else (u0, 1)) := Lib.hid (by unfold seenU; rw [if_neg hs])
 obtain ⟨U, c, HU⟩ : ∃ U c, Hid (seenU s u = (U, c)) := ⟨_, _, Lib.hid rfl⟩
 rw [HU.out] at HV ⊢
 dsimp only
 obtain ⟨K, HK⟩ : ∃ K, Hid (ckT u = K) := ⟨_, Lib.hid rfl⟩
 rw [HK.out] at HCk HN HV
 obtain ⟨C, HCc⟩ : ∃ C, Hid (u.cells.toArray = C) := ⟨_, Lib.hid rfl⟩
 have HIc : Hid ((Tryz.prog.info? 23).map (·.size) = some C.size) := Lib.hid (by rw [← HCc.out]; exact infoU)
 rw [HCc.out] at HCk HR
 rw [HCc.out]
 have HB2 : Hid (Below w.heap.size w (PBox w C)) := Lib.hid (pbox_below w C)
 have HA : Hid ((PBox w C).heap[w.heap.size + 1]? = some (.cells u0.cells.toArray 23 (0, 0))) := Lib.hid (pbox_ans w C)
 have HG : Hid ((PBox w C).heap[w.heap.size]? = some (.cells C 23 (0, 0))) := Lib.hid (pbox_base w C)
 have HZ : Hid ((PBox w C).heap.size = w.heap.size + 2) := Lib.hid (pbox_size w C)
 obtain ⟨W2, HW2⟩ : ∃ W, Hid (PBox w C = W) := ⟨_, Lib.hid rfl⟩
 rw [HW2.out] at HB2 HA HZ HG
 clear hs hB hC hO hW
 go_enter Tryz.func7, Tryz.ntmps7
 go_upto_region 5 with (fail)
 rw [show (w.alloc (.cells C 23)).alloc (.cells #[.string ⟨#[]⟩, .string ⟨#[]⟩, .string ⟨#[]⟩, .string ⟨#[]⟩, .int .i64 0, .string ⟨#[]⟩, .string ⟨#[]⟩, .bool false, .string ⟨#[]⟩, .bool false] 23) = W2 from HW2.out]
 go_wp2_with (refine wpList_load_row rfl 23 _ rfl w.heap.size ?_ 23 C (0, 0) _ ?_ Tryz.underlying23 rfl HIc.out ?_; (exact rfl); (exact HG.out))
 refine (HCk.out W2 HB2.out).mono ?_
 rintro e w1 ⟨rfl, b1⟩
 have HB1 : Hid (Below w.heap.size w w1) := Lib.hid (us_keep HB2.out b1)
 have HA1 : Hid (w1.heap[w.heap.size + 1]? = some (.cells u0.cells.toArray 23 (0, 0))) := Lib.hid ((b1.block _ (by rw [HZ.out]; omega)).trans HA.out)
 have HG1 : Hid (w1.heap[w.heap.size]? = some (.cells C 23 (0, 0))) := Lib.hid ((b1.block _ (by rw [HZ.out]; omega)).trans HG.out)
 have hz1 : w.heap.size + 2 ≤ w1.heap.size := by have := b1.size; rw [HZ.out] at this; exact this
 clear b1
 cases K
 ·have hR := HV.out
  rw [if_neg (by simp)] at hR
  injection hR with e1 e2
  subst e1 e2
  obtain ⟨W9, HW9⟩ : ∃ W, Hid (w1.setRow (w.heap.size + 1) u0.cells.toArray = W) := ⟨_, Lib.hid rfl⟩
  have HA9 : Hid (W9.heap[w.heap.size + 1]? = some (.cells u0.cells.toArray 23 (0, 0))) := Lib.hid (by rw [← HW9.out]; exact setRow_heap _ _ _ _ _ _ HA1.out)
  have HB9 : Hid (Below w.heap.size w W9) := Lib.hid (by rw [← HW9.out]; exact setRow_below HB1.out _ _ (by omega))
  go_wp2_with (refine wpL_store_row rfl 23 _ _ rfl (w.heap.size + 1) u0.cells.toArray ?_ ?_ 23 u0.cells.toArray ?_ ?_ ?_ ?_ ?_; exact rfl; exact rfl; exact HA1.out; exact infoU; exact rfl; exact u0_one; rw [HW9.out])
  exact bodyPost_ret (v := .tuple #[.agg u0.cells.toArray, .int .i64 1]) (results_row2 (P := Tryz.prog) Tryz.results7 _ _ (w.heap.size + 1) _ _ (0, 0) _ rfl HA9.out Tryz.underlying23 rfl infoU) rfl ⟨rfl, HB9.out⟩
 ·have hR := HV.out
  rw [if_pos rfl] at hR
  have HRd := Lib.hid (HN.out rfl)
  rw [← hR] at HRd
  dsimp only at HRd
  have HI : Hid ((Tryz.prog.info? 23).map (·.size) = some U.cells.toArray.size) := Lib.hid infoU
  have HO : Hid (U.cells.toArray.all (·.oneCell') = true) := Lib.hid (cells_one U)
  have HS : Hid (u0.cells.toArray.size = U.cells.toArray.size) := Lib.hid rfl
  obtain ⟨V, HVv⟩ : ∃ V, Hid (U.cells.toArray = V) := ⟨_, Lib.hid rfl⟩
  rw [HVv.out] at HRd HI HO HS
  clear hR HN
  go_wp2_with (refine wpList_load_row rfl 23 _ rfl w.heap.size ?_ 23 C (0, 0) _ ?_ Tryz.underlying23 rfl HIc.out ?_; (exact rfl); (exact HG1.out))
  refine (HR.out w1).mono ?_
  rintro e w3 ⟨b, rfl, hb, hRd, hB⟩
  have HR3 := Lib.hid hRd
  have HB3 := Lib.hid hB
  have HBb := Lib.hid hb
  clear hb hRd hB
  go_wp2_with fail
  refine (HRd.out b w1 w3 HB1.out HBb.out HR3.out HB3.out).mono ?_
  rintro e w4 ⟨rfl, b4⟩
  have HB4 : Hid (Below w.heap.size w w4) := Lib.hid (us_keep HB1.out b4)
  have HA4 : Hid (w4.heap[w.heap.size + 1]? = some (.cells u0.cells.toArray 23 (0, 0))) := Lib.hid ((b4.block _ (by omega)).trans HA1.out)
  obtain ⟨W5, HW5⟩ : ∃ W, Hid (w4.setRow (w.heap.size + 1) V = W) := ⟨_, Lib.hid rfl⟩
  have HA5 : Hid (W5.heap[w.heap.size + 1]? = some (.cells V 23 (0, 0))) := Lib.hid (by rw [← HW5.out]; exact setRow_heap w4 _ _ _ _ _ HA4.out)
  have HB5 : Hid (Below w.heap.size w W5) := Lib.hid (by rw [← HW5.out]; exact setRow_below HB4.out _ _ (by omega))
  clear b4
  go_wp2_with (refine wpL_store_row rfl 23 _ _ rfl (w.heap.size + 1) V ?_ ?_ 23 u0.cells.toArray ?_ ?_ ?_ ?_ ?_; exact rfl; exact rfl; exact HA4.out; exact HI.out; exact HS.out; exact HO.out; rw [HW5.out])
  exact bodyPost_ret (v := .tuple #[.agg V, .int .i64 c]) (results_row2 (P := Tryz.prog) Tryz.results7 _ _ (w.heap.size + 1) _ _ (0, 0) _ rfl HA5.out Tryz.underlying23 rfl HI.out) rfl ⟨by rw [HVv.out], HB5.out⟩

end Go.Proofs.YtcphokaamkalfaaGreatDoor
namespace Go.Proofs.YtcphokaamkalfaaGreatDoor
open Go.RowKit

def eqK (u v : UrS) : Bool := u.sch.data.toList == v.sch.data.toList && u.usr.data.toList == v.usr.data.toList && u.pas.data.toList == v.pas.data.toList && u.hst.data.toList == v.hst.data.toList && u.prt == v.prt && u.pth.data.toList == v.pth.data.toList && u.qry.data.toList == v.qry.data.toList && u.hq == v.hq && u.mrk.data.toList == v.mrk.data.toList && u.hm == v.hm
theorem eqK_eq {u v : UrS} (h : eqK u v = true) : u = v := by
 obtain ⟨a, b, c, d, e, f, g, i, j, k⟩ := u
 obtain ⟨a', b', c', d', e', f', g', i', j', k'⟩ := v
 simp only [eqK, Bool.and_eq_true, beq_iff_eq] at h
 obtain ⟨⟨⟨⟨⟨⟨⟨⟨⟨h0, h1⟩, h2⟩, h3⟩, h4⟩, h5⟩, h6⟩, h7⟩, h8⟩, h9⟩ := h
 rw [ba_of h0, ba_of h1, ba_of h2, ba_of h3, h4, ba_of h5, ba_of h6, h7, ba_of h8, h9]
def eqR (p : UrS × Int) (v : UrS) (c : Int) : Bool := eqK p.1 v && p.2 == c
theorem eqR_eq {p : UrS × Int} {v : UrS} {c : Int} (h : eqR p v c = true) : p = (v, c) := by
 simp only [eqR, Bool.and_eq_true, beq_iff_eq] at h
 obtain ⟨h1, h2⟩ := h
 rw [← eqK_eq h1, ← h2]
def c_xS : ByteArray := ⟨#[120]⟩
def c_xU : UrS := u0
theorem c_x : eqR (ansU (aloneT (drpS c_xS 3))) c_xU 4 = true := by decide +kernel
def c_ftpS : ByteArray := ⟨#[102, 116, 112, 58, 47, 47, 104]⟩
def c_ftpU : UrS := u0
theorem c_ftp : eqR (ansU (aloneT (drpS c_ftpS 3))) c_ftpU 6 = true := by decide +kernel
def c_portS : ByteArray := ⟨#[104, 116, 116, 112, 58, 47, 47, 104, 58, 57, 57, 57, 57, 57, 47]⟩
def c_portU : UrS := u0
theorem c_port : eqR (ansU (aloneT (drpS c_portS 3))) c_portU 4 = true := by decide +kernel
def c_noneS : ByteArray := ⟨#[104, 116, 116, 112, 58, 47, 47]⟩
def c_noneU : UrS := u0
theorem c_none : eqR (ansU (aloneT (drpS c_noneS 3))) c_noneU 5 = true := by decide +kernel
def c_emptyS : ByteArray := ⟨#[]⟩
def c_emptyU : UrS := u0
theorem c_empty : eqR (ansU (aloneT (drpS c_emptyS 3))) c_emptyU 4 = true := by decide +kernel
def c_bS : ByteArray := ⟨#[104, 116, 116, 112, 58, 47, 47, 97, 47, 98, 47, 99, 47, 100, 59, 112, 63, 113]⟩
def c_bU : UrS := ⟨⟨#[104, 116, 116, 112]⟩, ⟨#[]⟩, ⟨#[]⟩, ⟨#[97]⟩, -1, ⟨#[47, 98, 47, 99, 47, 100, 59, 112]⟩, ⟨#[113]⟩, true, ⟨#[]⟩, false⟩
theorem c_b : eqR (ansU (aloneT (drpS c_bS 3))) c_bU 0 = true := by decide +kernel
def c_longS : ByteArray := ⟨#[32, 72, 84, 84, 80, 58, 47, 47, 85, 115, 101, 114, 64, 69, 120, 65, 109, 112, 108, 101, 46, 99, 111, 109, 58, 56, 48, 47, 97, 47, 46, 47, 98, 47, 46, 46, 47, 99, 63, 120, 35, 121, 32]⟩
def c_longU : UrS := ⟨⟨#[104, 116, 116, 112]⟩, ⟨#[85, 115, 101, 114]⟩, ⟨#[]⟩, ⟨#[101, 120, 97, 109, 112, 108, 101, 46, 99, 111, 109]⟩, -1, ⟨#[47, 97, 47, 99]⟩, ⟨#[120]⟩, true, ⟨#[121]⟩, true⟩
theorem c_long : eqR (ansU (aloneT (drpS c_longS 3))) c_longU 0 = true := by decide +kernel
def c_hS : ByteArray := ⟨#[104, 116, 116, 112, 58, 104]⟩
def c_hU : UrS := ⟨⟨#[104, 116, 116, 112]⟩, ⟨#[]⟩, ⟨#[]⟩, ⟨#[104]⟩, -1, ⟨#[47]⟩, ⟨#[]⟩, false, ⟨#[]⟩, false⟩
theorem c_h : eqR (ansU (aloneT (drpS c_hS 3))) c_hU 0 = true := by decide +kernel
theorem c_bT : textT c_bU = c_bS := by decide +kernel
def s_gS : ByteArray := ⟨#[103]⟩
def s_gU : UrS := ⟨⟨#[104, 116, 116, 112]⟩, ⟨#[]⟩, ⟨#[]⟩, ⟨#[97]⟩, -1, ⟨#[47, 98, 47, 99, 47, 103]⟩, ⟨#[]⟩, false, ⟨#[]⟩, false⟩
theorem s_g : eqR (readU (rd0 s_gS c_bU)) s_gU 0 = true := by decide +kernel
def s_upS : ByteArray := ⟨#[46, 46, 47, 46, 46, 47, 46, 46, 47, 103]⟩
def s_upU : UrS := ⟨⟨#[104, 116, 116, 112]⟩, ⟨#[]⟩, ⟨#[]⟩, ⟨#[97]⟩, -1, ⟨#[47, 103]⟩, ⟨#[]⟩, false, ⟨#[]⟩, false⟩
theorem s_up : eqR (readU (rd0 s_upS c_bU)) s_upU 0 = true := by decide +kernel
def s_qS : ByteArray := ⟨#[63, 121]⟩
def s_qU : UrS := ⟨⟨#[104, 116, 116, 112]⟩, ⟨#[]⟩, ⟨#[]⟩, ⟨#[97]⟩, -1, ⟨#[47, 98, 47, 99, 47, 100, 59, 112]⟩, ⟨#[121]⟩, true, ⟨#[]⟩, false⟩
theorem s_q : eqR (readU (rd0 s_qS c_bU)) s_qU 0 = true := by decide +kernel
def s_slS : ByteArray := ⟨#[47, 47, 103]⟩
def s_slU : UrS := ⟨⟨#[104, 116, 116, 112]⟩, ⟨#[]⟩, ⟨#[]⟩, ⟨#[103]⟩, -1, ⟨#[47]⟩, ⟨#[]⟩, false, ⟨#[]⟩, false⟩
theorem s_sl : eqR (readU (rd0 s_slS c_bU)) s_slU 0 = true := by decide +kernel
def s_eS : ByteArray := ⟨#[]⟩
def s_eU : UrS := ⟨⟨#[104, 116, 116, 112]⟩, ⟨#[]⟩, ⟨#[]⟩, ⟨#[97]⟩, -1, ⟨#[47, 98, 47, 99, 47, 100, 59, 112]⟩, ⟨#[113]⟩, true, ⟨#[]⟩, false⟩
theorem s_e : eqR (readU (rd0 s_eS c_bU)) s_eU 0 = true := by decide +kernel
def s_yS : ByteArray := ⟨#[103, 59, 120, 61, 49, 47, 46, 46, 47, 121]⟩
def s_yU : UrS := ⟨⟨#[104, 116, 116, 112]⟩, ⟨#[]⟩, ⟨#[]⟩, ⟨#[97]⟩, -1, ⟨#[47, 98, 47, 99, 47, 121]⟩, ⟨#[]⟩, false, ⟨#[]⟩, false⟩
theorem s_y : eqR (readU (rd0 s_yS c_bU)) s_yU 0 = true := by decide +kernel
theorem s_gT : textT s_gU = (⟨#[104, 116, 116, 112, 58, 47, 47, 97, 47, 98, 47, 99, 47, 103]⟩ : ByteArray) := by decide +kernel
theorem s_upT : textT s_upU = (⟨#[104, 116, 116, 112, 58, 47, 47, 97, 47, 103]⟩ : ByteArray) := by decide +kernel
theorem s_qT : textT s_qU = (⟨#[104, 116, 116, 112, 58, 47, 47, 97, 47, 98, 47, 99, 47, 100, 59, 112, 63, 121]⟩ : ByteArray) := by decide +kernel
theorem s_slT : textT s_slU = (⟨#[104, 116, 116, 112, 58, 47, 47, 103, 47]⟩ : ByteArray) := by decide +kernel
theorem s_eT : textT s_eU = (⟨#[104, 116, 116, 112, 58, 47, 47, 97, 47, 98, 47, 99, 47, 100, 59, 112, 63, 113]⟩ : ByteArray) := by decide +kernel
theorem s_yT : textT s_yU = (⟨#[104, 116, 116, 112, 58, 47, 47, 97, 47, 98, 47, 99, 47, 121]⟩ : ByteArray) := by decide +kernel
theorem c_longT : textT c_longU = (⟨#[104, 116, 116, 112, 58, 47, 47, 85, 115, 101, 114, 64, 101, 120, 97, 109, 112, 108, 101, 46, 99, 111, 109, 47, 97, 47, 99, 63, 120, 35, 121]⟩ : ByteArray) := by decide +kernel
theorem c_hT : textT c_hU = (⟨#[104, 116, 116, 112, 58, 47, 47, 104, 47]⟩ : ByteArray) := by decide +kernel

end Go.Proofs.YtcphokaamkalfaaGreatDoor
namespace Go.Proofs.YtcphokaamkalfaaGreatDoor
open Go.RowKit

theorem slJ_cons (p : ByteArray) (M : List ByteArray) : (slJ (p :: M)).size = 1 + p.size + (slJ M).size := by
 show ((p :: M).flatMap fun p => 47 :: p.data.toList).length = _
 rw [List.flatMap_cons, List.length_append, List.length_cons, lenB]
 show _ = 1 + p.size + (M.flatMap fun p => 47 :: p.data.toList).length
 omega
theorem slJ_raw (p : ByteArray) : (slJ (rawB 47 p)).size = p.size + 1 := by
 have h := slJ_join (rawB 47 p) (rawB_ne 47 p)
 rw [rawB_data, join_pts] at h
 have := congrArg List.length h
 rw [List.length_cons, lenB, lenB] at this
 omega
theorem slJ_bparts (p : ByteArray) : (slJ (bparts p)).size ≤ p.size + 1 := by
 unfold bparts
 refine Nat.le_trans (slJ_drop _) ?_
 rw [← slJ_raw p]
 cases rawB 47 p with
 | nil => exact Nat.le_refl _
 | cons x L => rw [slJ_cons, List.tail_cons]; omega
theorem path_size (S : List ByteArray) (r : ByteArray) (l : List UInt8) (h : r.data.toList = l.map turnB) : (slJ (pathB (encS 4) S (rawB 47 r))).size ≤ (slJ S).size + (4 * l.length + 1) := by
 have h1 := pathB_sum S (rawB 47 r)
 have h2 := ptsS_wgtS l
 rw [raw_turn r l h] at h1 ⊢
 omega
theorem slash_turn (t : RdS) (l : List UInt8) (h : t.rest.data.toList = l.map turnB) : (slashS t).rest.data.toList = (l.dropWhile slB).map turnB := by
 show Lib.trimLeftB t.rest.data.toList 47 = _
 rw [h, drop_turn]
theorem sm_mix {u b : UrS} (hu : Sm u) (hb : Sm b) {p : ByteArray} (hp : p.size ≤ 9000000) : Sm { u with usr := b.usr, pas := b.pas, hst := b.hst, prt := b.prt, pth := p } :=
 ⟨hu.h0, hb.h1, hb.h2, hb.h3, hp, hu.h5, hu.h6, hb.h7⟩
theorem seen_ok (s : ByteArray) (B : UrS) (hs : s.size ≤ 10000) (hB : Sm B) (hp : B.pth.size ≤ 8000) (h2 : 2 ≤ (rawB 47 B.pth).length) : RdOk (rd0 s B) := by
 have hr : (rd0 s B).rest.size = s.size := rfl
 refine ⟨fun t h e => ?_, fun t h => ?_, fun t x h hx => ?_⟩
 ·obtain ⟨_, k2, _⟩ := first_keep h
  rw [k2]; exact h2
 ·obtain ⟨sch, r, rfl, h1, _⟩ := first_cases h
  have h2 := hh_le (behT (rd0 s B) sch r)
  have h3 := (behT_sizes (rd0 s B) sch r).1
  omega
 ·obtain ⟨sch, r, rfl, h1, hc⟩ := first_cases h
  have hsch : sch.size ≤ 9000000 := by
   rcases hc with hc | hc
   ·omega
   ·rw [hc.1]; exact hB.h0
  have hz := (behT_sizes (rd0 s B) sch r).2
  have hd := dropw_le (cutA 63 (cutA 35 r)).data.toList
  have hsm := behT_sm (rd0 s B) sch r sm_u0 hsch (by omega)
  have htb : (behT (rd0 s B) sch r).b = B := rfl
  have htr := behT_turn (rd0 s B) sch r
  obtain ⟨t, ht⟩ : ∃ t, behT (rd0 s B) sch r = t := ⟨_, rfl⟩
  obtain ⟨l, hl⟩ : ∃ l, (cutA 63 (cutA 35 r)).data.toList = l := ⟨_, rfl⟩
  rw [ht] at hx hsm htb htr
  rw [hl] at hz hd htr
  unfold restS at hx
  split at hx
  ·have hpp := place_prog t l htr
   rcases exc_cases (hpS t) with ⟨y, hy⟩ | ⟨c, hy⟩
   rotate_left
   ·rw [hy] at hx; cases hx
   rw [hy] at hx hpp
   injection hx with hx
   subst hx
   refine sm_place hpp.symm hsm (by omega) ?_
   refine Nat.le_trans (hostT_size ?_) (by omega)
   have h5 := hst_size (asB (placL (l.dropWhile slB)))
   have h6 := plac_le (l.dropWhile slB)
   rw [asB_size] at h5
   rw [ByteArray.size_extract]; omega
  ·split at hx
   ·injection hx with hx
    subst hx
    have h5 := path_size [] (slashS t).rest _ (slash_turn t l htr)
    have h0 : (slJ []).size = 0 := rfl
    have hbb : (slashS t).b = B := htb
    have := sm_mix (p := slJ (pathB (encS 4) [] (rawB 47 (slashS t).rest))) hsm hB (by omega)
    rw [← hbb] at this
    exact this
   ·split at hx
    ·injection hx with hx
     subst hx
     have h5 := path_size (bparts t.b.pth) t.rest l htr
     have h6 := slJ_bparts t.b.pth
     rw [htb] at h6 h5
     have := sm_mix (p := slJ (pathB (encS 4) (bparts B.pth) (rawB 47 t.rest))) hsm hB (by omega)
     rw [← htb] at this
     exact this
    ·injection hx with hx
     subst hx
     unfold takePathS takePlaceS
     dsimp only
     rw [htb]
     split
     ·exact ⟨hsm.h0, hB.h1, hB.h2, hB.h3, hB.h4, hsm.h5, hsm.h6, hB.h7⟩
     ·exact ⟨hsm.h0, hB.h1, hB.h2, hB.h3, hB.h4, hB.h5, hsm.h6, hB.h7⟩

end Go.Proofs.YtcphokaamkalfaaGreatDoor
namespace Go.Proofs.YtcphokaamkalfaaGreatDoor
open Go.RowKit

theorem results_row2b {P : Program} {fn : Func} {p u : Tmp} {ty : TypeId} (h : fn.results = #[.cell p ty, .tmp u]) (tmps : Array Value) (w : World) (g : Nat) (t : TypeId) (cs : Array Value) (fr : Nat × Nat) (d : TypeDesc)
  (hp : tmps.getD p undef = .pointer (some ⟨g, 0, none⟩)) (hg : w.heap[g]? = some (.cells cs t fr))
  (hu : P.underlying ty = some d) (hd : (match d with | .struct _ | .array _ _ => true | _ => false) = true) (hi : (P.info? ty).map (·.size) = some cs.size) (v : Value) (hv : tmps.getD u undef = v) :
  (results fn tmps).run P w = .ok (.tuple #[.agg cs, v]) w := by
 rw [← hv]; exact results_row2 h tmps w g t cs fr d hp hg hu hd hi
theorem paT_of {s : ByteArray} {U : UrS} {c : Int} (h : eqR (ansU (aloneT (drpS s 3))) U c = true) (hs : s.size ≤ 4096) : paT s = (U, c) := by
 rw [paT, if_neg (by omega)]; exact eqR_eq h
theorem pc6 {s : ByteArray} {U : UrS} {c : Int} (h : eqR (ansU (aloneT (drpS s 3))) U c = true) (hs : s.size ≤ 1000) (w : World) (hW : Uw w) :
  Calls Tryz.prog 7 #[.string s, .agg u0.cells.toArray, .bool false] w fun e w' => e = .returned (.tuple #[.agg U.cells.toArray, .int .i64 c]) ∧ Below w.heap.size w w' := by
 have := Parse0_any s u0 w (paOk_small hs) hW
 rwa [paT_of h (by omega)] at this
theorem sm_small (u : UrS) (h : (decide (u.sch.size ≤ 1000) && decide (u.usr.size ≤ 1000) && decide (u.pas.size ≤ 1000) && decide (u.hst.size ≤ 1000) && decide (u.pth.size ≤ 1000) && decide (u.qry.size ≤ 1000) && decide (u.mrk.size ≤ 1000) && decide (u.prt ≤ 65535)) = true) : Sm u := by
 simp only [Bool.and_eq_true, decide_eq_true_eq] at h
 obtain ⟨⟨⟨⟨⟨⟨⟨h0, h1⟩, h2⟩, h3⟩, h4⟩, h5⟩, h6⟩, h7⟩ := h
 exact ⟨by omega, by omega, by omega, by omega, by omega, by omega, by omega, by omega⟩

end Go.Proofs.YtcphokaamkalfaaGreatDoor
namespace Go.Proofs.YtcphokaamkalfaaGreatDoor
open Go.RowKit

end Go.Proofs.YtcphokaamkalfaaGreatDoor
