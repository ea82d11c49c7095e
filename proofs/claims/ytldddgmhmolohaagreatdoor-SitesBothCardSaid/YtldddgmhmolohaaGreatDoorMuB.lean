/-
  urls: contracts: Check, Parse seen from a base.
  urls: constants that the statements' own alive asks, by the kernel.
  urls: plain words: a reader of a text of at most 1000 bytes, seen from a base, may be walked.
  urls: answers at given texts.
  urls: a text whose slashes are turned ahead of a query and a mark says the same.
-/
import Derived.Test.YtldddgmhmolohaaGreatDoorMuA
namespace Go.Proofs.YtldddgmhmolohaaGreatDoor
open Go.RowKit

theorem wpW_step {P : Program} {ops : Array Oper} {Q : Exit → Act → World → Prop} {a : Act} {w : World} {rest : List Oper} {o : Oper} (hw : Region.wanted o (yielded ops a.tmps) = true)
  (h : ∀ K : Act → World → Prop, (∀ a w, wpList P ops Q rest a w → K a w) → o.wp P a w K Q) : wpList P ops Q (o :: rest) a w :=
 wpList_step fun K hK => by rw [if_pos hw]; exact h K hK
/-- A row is read, guarded or not. -/
theorem wpW_load_row {P : Program} {ops : Array Oper} {rest : List Oper} {o : Oper} {a : Act} {w : World} {Q : Exit → Act → World → Prop} (hw : Region.wanted o (yielded ops a.tmps) = true) (ty : TypeId) (x : Operand) (ho : o.op = .load ty x)
  (g : Nat) (hx : a.eval x = .pointer (some ⟨g, 0, none⟩)) (t : TypeId) (cs : Array Value) (fr : Nat × Nat) (d : TypeDesc) (hg : w.heap[g]? = some (.cells cs t fr))
  (hu : P.underlying ty = some d) (hd : (match d with | .struct _ | .array _ _ => true | _ => false) = true) (hi : (P.info? ty).map (·.size) = some cs.size)
  (h : wpList P ops Q rest (a.put o.dst (.agg cs)) w) : wpList P ops Q (o :: rest) a w :=
 wpW_step hw fun _ hK => wp_load_row ty x ho g hx t cs fr d hg hu hd hi (hK _ _ h)
/-- What Parse answers without a base. -/
def paT (s : ByteArray) : UrS × Int := if 4096 < s.size then (u0, 3) else ansU (aloneT (drpS s 3))
/-- Its cuts can be walked. -/
def PaOk (s : ByteArray) : Prop := s.size ≤ 4096 → RdOk (rd0 s u0)
theorem paOk (s : ByteArray) : PaOk s := fun h => alone_ok s (by omega)
theorem Parse0_any (s : ByteArray) (B : UrS) (w : World) (hO : PaOk s) (hW : Uw w) :
  Calls Tryz.prog 36 #[.string s, .agg B.cells.toArray, .bool false] w fun e w' => e = .returned (.tuple #[.agg (paT s).1.cells.toArray, .int .i64 (paT s).2]) ∧ Below w.heap.size w w' := by
 unfold paT
 by_cases h : 4096 < s.size
 ·rw [if_pos h]; exact ParseLong_any s B false w h
 ·rw [if_neg h, ← alone_read]; exact ParseAlone_any s B w (by omega) hW (hO (by omega))
/-- May an address be? -/
def ckT (u : UrS) : Bool := ((paT (textT u)).2 == 0) && eqC (paT (textT u)).1 u
set_option maxRecDepth 100000 in
set_option maxHeartbeats 4000000 in
theorem UCheck_any (u : UrS) (w : World) (h : Sm u) (hO : PaOk (textT u)) (hW : Uw w) :
  Calls Tryz.prog 22 #[.agg u.cells.toArray] w fun e w' => e = .returned (.bool (ckT u)) ∧ Below w.heap.size w w' := by
 have HP : Hid (∀ w', Below w.heap.size w w' → Calls Tryz.prog 36 #[.string (textT u), .agg u0.cells.toArray, .bool false] w' fun e w'' => e = .returned (.tuple #[.agg (paT (textT u)).1.cells.toArray, .int .i64 (paT (textT u)).2]) ∧ Below w'.heap.size w' w'') := Lib.hid (fun w' hb => Parse0_any _ u0 w' hO (hW.later hb))
 have HTx : Hid (∀ w', Below w.heap.size w w' → Calls Tryz.prog 37 #[.agg u.cells.toArray] w' fun e w'' => e = .returned (.string (textT u)) ∧ Below w'.heap.size w' w'') := Lib.hid (fun w' hb => Text_of u w' h (hW.later hb).dc)
 have HV := Lib.hid (show ckT u = (((paT (textT u)).2 == 0) && eqC (paT (textT u)).1 u) from rfl)
 obtain ⟨A, c, HA⟩ : ∃ A c, Hid (paT (textT u) = (A, c)) := ⟨_, _, Lib.hid rfl⟩
 rw [HA.out] at HP HV
 dsimp only at HP HV
 obtain ⟨T, HT⟩ : ∃ T, Hid (textT u = T) := ⟨_, Lib.hid rfl⟩
 rw [HT.out] at HP HTx
 have heq : ∀ w, (binOp .eql 24 (.agg A.cells.toArray) (.agg u.cells.toArray)).run Tryz.prog w = .ok (.bool (eqC A u)) w := fun w => eqU A u w
 obtain ⟨B, HB⟩ : ∃ B, Hid (eqC A u = B) := ⟨_, Lib.hid rfl⟩
 rw [HB.out] at heq HV
 have HI1 : Hid ((Tryz.prog.info? 24).map (·.size) = some A.cells.toArray.size) := Lib.hid infoU
 have HO1 : Hid (A.cells.toArray.all (·.oneCell') = true) := Lib.hid (cells_one A)
 have HS1 : Hid (u0.cells.toArray.size = A.cells.toArray.size) := Lib.hid rfl
 have HI2 : Hid ((Tryz.prog.info? 24).map (·.size) = some u.cells.toArray.size) := Lib.hid infoU
 obtain ⟨V, HVv⟩ : ∃ V, Hid (A.cells.toArray = V) := ⟨_, Lib.hid rfl⟩
 obtain ⟨C, HC⟩ : ∃ V, Hid (u.cells.toArray = V) := ⟨_, Lib.hid rfl⟩
 rw [HVv.out] at HP HI1 HO1 HS1 heq
 rw [HC.out] at HTx HI2 heq
 rw [HC.out, HV.out]
 obtain ⟨W, HWw⟩ : ∃ W, Hid (UBox w C = W) := ⟨_, Lib.hid rfl⟩
 have HBw : Hid (Below w.heap.size w W) := Lib.hid (by rw [← HWw.out]; exact ubox_below w C)
 have HG : Hid (W.heap[w.heap.size]? = some (.cells C 24 (0, 0))) := Lib.hid (by rw [← HWw.out]; exact heap_alloc_new w _)
 obtain ⟨g, Hg⟩ : ∃ g, Hid (w.heap.size = g) := ⟨_, Lib.hid rfl⟩
 rw [Hg.out] at HG
 clear h hO hW HV HVv HC HB
 go_enter Tryz.func22, Tryz.ntmps22
 go_upto_region 1 with (fail)
 rw [show w.alloc (.cells C 24) = W from HWw.out, Hg.out]
 go_wp2_with (refine wpList_load_row rfl 24 _ rfl g ?_ 24 C (0, 0) _ ?_ Tryz.underlying24 rfl HI2.out ?_; (exact rfl); (exact HG.out))
 refine (HTx.out W HBw.out).mono ?_
 rintro e w1 ⟨rfl, b1⟩
 have HB1 : Hid (Below w.heap.size w w1) := Lib.hid (us_keep HBw.out b1)
 have HG1 : Hid (w1.heap[g]? = some (.cells C 24 (0, 0))) := Lib.hid ((b1.block _ (lt_of_block HG.out)).trans HG.out)
 clear b1
 go_wp2_with fail
 refine (show Calls Tryz.prog 36 #[.string T, .agg u0.cells.toArray, .bool false] w1 _ from HP.out w1 HB1.out).mono ?_
 rintro e w2 ⟨rfl, b2⟩
 have HB2 : Hid (Below w.heap.size w w2) := Lib.hid (us_keep HB1.out b2)
 have HG2 : Hid (w2.heap[g]? = some (.cells C 24 (0, 0))) := Lib.hid ((b2.block _ (lt_of_block HG1.out)).trans HG1.out)
 obtain ⟨W4, HW4⟩ : ∃ W, Hid (w2.alloc (.cells V 24) = W) := ⟨_, Lib.hid rfl⟩
 have B4 : Hid (Below w.heap.size w W4) := Lib.hid (by rw [← HW4.out]; exact HB2.out.alloc HB2.out.size _)
 have G4 : Hid (W4.heap[g]? = some (.cells C 24 (0, 0))) := Lib.hid (by rw [← HW4.out]; exact ((Kp.refl (fun _ => False) _).alloc _).at HG2.out id)
 have G5 : Hid (W4.heap[w2.heap.size]? = some (.cells V 24 (0, 0))) := Lib.hid (by rw [← HW4.out]; exact heap_alloc_new w2 _)
 clear b2
 go_upto_region 2 with (refine wpL_store_row rfl 24 _ _ rfl w2.heap.size V ?_ ?_ 24 u0.cells.toArray ?_ ?_ ?_ ?_ ?_; exact rfl; exact rfl; exact heap_alloc_new w2 _; exact HI1.out; exact HS1.out; exact HO1.out; rw [World.setRow_alloc_new, HW4.out])
 by_cases hc : c = 0
 ·subst hc
  have ec : ((0 : Int) == 0) = true := rfl
  go_wp2_with (first
   | (refine wpW_load_row rfl 24 _ rfl g ?_ 24 C (0, 0) _ ?_ Tryz.underlying24 rfl HI2.out ?_; (exact rfl); (exact G4.out))
   | (refine wpW_load_row rfl 24 _ rfl w2.heap.size ?_ 24 V (0, 0) _ ?_ Tryz.underlying24 rfl HI1.out ?_; (exact rfl); (exact G5.out)))
  go_ret
  exact ⟨rfl, B4.out⟩
 ·have ec : (c == 0) = false := beq_eq_false_iff_ne.2 hc
  clear hc
  go_wp2
  go_ret
  exact ⟨by rw [ec]; rfl, B4.out⟩

end Go.Proofs.YtldddgmhmolohaaGreatDoor
namespace Go.Proofs.YtldddgmhmolohaaGreatDoor
open Go.RowKit

def eqK (u v : UrS) : Bool := u.sch.data.toList == v.sch.data.toList && u.usr.data.toList == v.usr.data.toList && u.pas.data.toList == v.pas.data.toList && u.hst.data.toList == v.hst.data.toList && u.prt == v.prt && u.pth.data.toList == v.pth.data.toList && u.qry.data.toList == v.qry.data.toList && u.hq == v.hq && u.mrk.data.toList == v.mrk.data.toList && u.hm == v.hm
theorem eqK_eq {u v : UrS} (h : eqK u v = true) : u = v := by
 obtain ⟨a, b, c, d, e, f, g, i, j, k⟩ := u
 obtain ⟨a', b', c', d', e', f', g', i', j', k'⟩ := v
 simp only [eqK, Bool.and_eq_true, beq_iff_eq] at h
 obtain ⟨⟨⟨⟨⟨⟨⟨⟨⟨h0, h1⟩, h2⟩, h3⟩, h4⟩, h5⟩, h6⟩, h7⟩, h8⟩, h9⟩ := h
 rw [ba_of h0, ba_of h1, ba_of h2, ba_of h3, h4, ba_of h5, ba_of h6, h7, ba_of h8, h9]
def eqR (p : UrS × Int) (v : UrS) (c : Int) : Bool := eqK p.1 v && p.2 == c
theorem eqR_eq {p : UrS × Int} {v : UrS} {c : Int} (h : eqR p v c = true) : p = (v, c) := by
 simp only [eqR, Bool.and_eq_true, beq_iff_eq] at h
 obtain ⟨h1, h2⟩ := h
 rw [← eqK_eq h1, ← h2]
end Go.Proofs.YtldddgmhmolohaaGreatDoor
namespace Go.Proofs.YtldddgmhmolohaaGreatDoor
open Go.RowKit

end Go.Proofs.YtldddgmhmolohaaGreatDoor
namespace Go.Proofs.YtldddgmhmolohaaGreatDoor
open Go.RowKit

theorem paT_of {s : ByteArray} {U : UrS} {c : Int} (h : eqR (ansU (aloneT (drpS s 3))) U c = true) (hs : s.size ≤ 4096) : paT s = (U, c) := by
 rw [paT, if_neg (by omega)]; exact eqR_eq h
theorem sm_small (u : UrS) (h : (decide (u.sch.size ≤ 1000) && decide (u.usr.size ≤ 1000) && decide (u.pas.size ≤ 1000) && decide (u.hst.size ≤ 1000) && decide (u.pth.size ≤ 1000) && decide (u.qry.size ≤ 1000) && decide (u.mrk.size ≤ 1000) && decide (u.prt ≤ 65535)) = true) : Sm u := by
 simp only [Bool.and_eq_true, decide_eq_true_eq] at h
 obtain ⟨⟨⟨⟨⟨⟨⟨h0, h1⟩, h2⟩, h3⟩, h4⟩, h5⟩, h6⟩, h7⟩ := h
 exact ⟨by omega, by omega, by omega, by omega, by omega, by omega, by omega, by omega⟩

end Go.Proofs.YtldddgmhmolohaaGreatDoor
namespace Go.Proofs.YtldddgmhmolohaaGreatDoor
open Go.RowKit

end Go.Proofs.YtldddgmhmolohaaGreatDoor
