/-
  The walk of SitesBoth.
-/
import Derived.Test.YtldddgmhmolohaaGreatDoorMtA
import Derived.Test.YtldddgmhmolohaaGreatDoorMuG
import Derived.Test.YtldddgmhmolohaaGreatDoorMpJ
import Derived.Deep.MidRow
namespace Go.Proofs.YtldddgmhmolohaaGreatDoor
open Go.RowKit

/-- A struct out of the middle of a block is read, in a region that draws its order. -/
theorem bw_load_mid {P : Program} {ops : Array Oper} {C : World → Prop} {Q : Act → Prop} {a : Act} {o : Oper} {rest : List Oper} (hw : Region.wanted o (yielded ops a.tmps) = true) (ty : TypeId) (x : Operand) (ho : o.op = .load ty x)
    (g off : Nat) (cs : List Value) (hx : a.eval x = .pointer (some ⟨g, off, none⟩)) (d : TypeDesc) (hg : ∀ w, C w → w.rangeAt g off cs)
    (hu : P.underlying ty = some d) (hd : d.isRow = true) (hi : (P.info? ty).map (·.size) = some cs.length)
    (h : wpQuiet P ops C Q rest (a.put o.dst (.agg cs.toArray))) : wpQuiet P ops C Q (o :: rest) a := by
  refine wpQuiet_step fun K hK => ?_
  rw [if_pos hw]
  refine ⟨_, fun w hC => ?_, hK _ h⟩
  unfold Oper.quietAt execOp
  simp only [ho, hx, Instr.loadAt, Instr.sureAddr, Sem.run_bind, Sem.run_pure, Result.andThen_ok, run_loadVar_mid w g off ty cs d (hg w hC) hu hd hi]
  exact ⟨rfl, rfl⟩
/-- Three addresses in a row. -/
def row3 (A B C : UrS) : Array Value := (A.cells ++ (B.cells ++ C.cells)).toArray
def Row3 (W : World) (g : Nat) (A B C : UrS) : Prop := W.heap[g]? = some (.cells (row3 A B C) 38 (0, 0))
theorem Row3.later {W W' : World} {g : Nat} {A B C : UrS} (h : Row3 W g A B C) (hb : Below W.heap.size W W') : Row3 W' g A B C := (hb.block _ (lt_of_block h)).trans h
theorem Row3.r0 {W : World} {g : Nat} {A B C : UrS} (h : Row3 W g A B C) : W.rangeAt g 0 A.cells := fun j v hv => by
  rw [cell_of_row W _ _ _ _ _ h, row3, List.getElem?_toArray, Nat.zero_add, List.getElem?_append_left (List.getElem?_eq_some_iff.1 hv).1]; exact hv
theorem Row3.r1 {W : World} {g : Nat} {A B C : UrS} (h : Row3 W g A B C) : W.rangeAt g 10 B.cells := fun j v hv => by
  have hA : A.cells.length = 10 := rfl
  rw [cell_of_row W _ _ _ _ _ h, row3, List.getElem?_toArray, List.getElem?_append_right (by omega), hA, Nat.add_sub_cancel_left, List.getElem?_append_left (List.getElem?_eq_some_iff.1 hv).1]; exact hv
theorem Row3.r2 {W : World} {g : Nat} {A B C : UrS} (h : Row3 W g A B C) : W.rangeAt g 20 C.cells := fun j v hv => by
  have hA : A.cells.length = 10 := rfl
  have hB : B.cells.length = 10 := rfl
  rw [cell_of_row W _ _ _ _ _ h, row3, List.getElem?_toArray, List.getElem?_append_right (by omega), hA, List.getElem?_append_right (by omega), hB, show 20 + j - 10 - 10 = j by omega]; exact hv
theorem Row3.there {W : World} {g : Nat} {A B C : UrS} (h : Row3 W g A B C) (o : Nat) (ho : o + 10 ≤ 30) : W.there g o 10 := fun j hj => by
  refine ⟨?_, frozen_of_row W _ _ _ _ h⟩
  rw [cell_of_row W _ _ _ _ _ h]
  have hl : (row3 A B C).size = 30 := rfl
  rw [Array.getElem?_eq_getElem (by omega)]; rfl
theorem Row3.set0 {W : World} {g : Nat} {A B C D : UrS} (h : Row3 W g A B C) : Row3 (W.setCells g 0 D.cells.toArray.toList) g D B C := (heap_setCells g _ _ 0 W _ h (by show 0 + 10 ≤ 30; decide)).trans rfl
theorem Row3.set1 {W : World} {g : Nat} {A B C D : UrS} (h : Row3 W g A B C) : Row3 (W.setCells g 10 D.cells.toArray.toList) g A D C := (heap_setCells g _ _ 10 W _ h (by show 10 + 10 ≤ 30; decide)).trans rfl
theorem Row3.set2 {W : World} {g : Nat} {A B C D : UrS} (h : Row3 W g A B C) : Row3 (W.setCells g 20 D.cells.toArray.toList) g A B D := (heap_setCells g _ _ 20 W _ h (by show 20 + 10 ≤ 30; decide)).trans rfl
theorem setCells_below {B : Nat} {w : World} {g : Nat} (hg : B ≤ g) : ∀ (vs : List Value) (o : Nat) (W : World), Below B w W → Below B w (W.setCells g o vs)
  | [], _, _, h => h
  | v :: vs, o, _, h => setCells_below hg vs (o + 1) _ (h.setCell hg v)

theorem setCells_other {W : World} {g k : Nat} (hne : k ≠ g) {vs : List Value} {o : Nat} : (W.setCells g o vs).heap[k]? = W.heap[k]? := by
  induction vs generalizing o W with
  | nil => rfl
  | cons v vs ih => rw [World.setCells, ih, heap_setCell_other _ _ _ _ hne]

/- What the statement asks of three addresses. -/
theorem ck_sch (s : ByteArray) : (paT s).1.sch.toList.isEmpty = !ckT (paT s).1 := by
  rcases pa_made s with h | h
  · rw [h.may]
    rcases h.sch with e | e <;> rw [e] <;> exact emF (by decide)
  · rw [h, ck_u0]; exact emT rfl
theorem same_none {R : List ByteArray} {u v : UrS} (h : same9 R u u = false) : same9 R u v = false := by
  unfold same9 at h ⊢
  rw [sameP_self] at h
  rw [Bool.eq_false_iff]
  intro e
  obtain ⟨h1, h2, _⟩ := (sameP_iff _ _ _ _ _ _ _ _).1 e
  rw [h1, h2] at h
  cases h
theorem same_turn (R : List ByteArray) (u v : UrS) : same9 R u v = same9 R v u := sameP_comm _ _ _ _ _ _ _ _
theorem same_three {R : List ByteArray} {u v x : UrS} (h1 : same9 R u v = true) (h2 : same9 R v x = true) : same9 R u x = true := sameP_trans h1 h2
theorem infoUL (u : UrS) : (Tryz.prog.info? 24).map (·.size) = some u.cells.length := infoU

set_option maxRecDepth 100000 in
set_option maxHeartbeats 8000000 in
theorem sboth_walk (R : List ByteArray) (a0 : Option Addr) (b off cap : Nat) (x y z : ByteArray) (w : World) (hT : TxAt R a0 b off w) (hn : R.length ≤ 140737488355328) (hs : ∀ r ∈ R, r.size ≤ 140737488355328)
    (hx : x.size ≤ 140737488355328) (hy : y.size ≤ 140737488355328) (hz : z.size ≤ 140737488355328) (hW : Uw w) :
    Calls Tryz.prog 7 #[.slice a0 R.length cap, .agg #[.string x, .string y, .string z]] w fun e w' => e = .returned (.bool true) ∧ Below w.heap.size w w' := by
  have HAl : Hid (∀ w', Below w.heap.size w w' → Calls Tryz.prog 17 #[] w' fun e w'' => e = .returned (.bool true) ∧ Below w'.heap.size w' w'') := Lib.hid (fun w' hb => alive9_any w' (hW.later hb))
  have CT : Hid (R.length ≤ 2000 → ∀ w', Below w.heap.size w w' → Calls Tryz.prog 9 #[.slice a0 R.length cap] w' fun e w'' => ∃ r : Nat, e = .returned (.int .i64 r) ∧ (r ≤ 1048576 → R.length + szL R = r) ∧ Below w'.heap.size w' w'') := Lib.hid (fun hl w' hb => TextsSz_any R a0 b off cap w' (hT.later hb).at0 (hT.later hb).cell (by omega) hs)
  have HT := Lib.hid hT
  have HW := Lib.hid hW
  clear hT hs hW
  obtain ⟨n, HN⟩ : ∃ n, Hid (R.length = n) := ⟨_, Lib.hid rfl⟩
  rw [HN.out] at hn CT ⊢
  obtain ⟨W0, HW0⟩ : ∃ W, Hid (w.alloc (.cells #[.string x, .string y, .string z] 37) = W) := ⟨_, Lib.hid rfl⟩
  have B0 : Hid (Below w.heap.size w W0) := Lib.hid (by rw [← HW0.out]; exact (Below.refl _ _).alloc (Nat.le_refl _) _)
  have S0 : Hid (W0.heap[w.heap.size]? = some (.cells #[.string x, .string y, .string z] 37 (0, 0))) := Lib.hid (by rw [← HW0.out]; exact heap_alloc_new w _)
  have hw0 : w.alloc (.cells #[.string x, .string y, .string z] 37) = W0 := HW0.out
  by_cases h5 : 500 < n
  · have h5I : (500 : Int) < (n : Int) := by omega
    go_enter Tryz.func7, Tryz.ntmps7
    go_wp2_with fail
    refine (HAl.out W0 B0.out).mono ?_
    rintro e v1 ⟨rfl, b1⟩
    have B1 : Hid (Below w.heap.size w v1) := Lib.hid (keepW B0.out b1)
    have S1 : Hid (v1.heap[w.heap.size]? = some (.cells #[.string x, .string y, .string z] 37 (0, 0))) := Lib.hid ((b1.block _ (lt_of_block S0.out)).trans S0.out)
    clear b1
    go_wp2_with fail
    refine (HAl.out v1 B1.out).mono ?_
    rintro e v9 ⟨rfl, b9⟩
    have B9 : Hid (Below w.heap.size w v9) := Lib.hid (keepW B1.out b9)
    clear b9
    go_wp2
    go_ret
    exact ⟨rfl, B9.out⟩
  have h5I : (n : Int) ≤ 500 := by omega
  go_enter Tryz.func7, Tryz.ntmps7
  go_wp2_with fail
  refine (HAl.out W0 B0.out).mono ?_
  rintro e v1 ⟨rfl, b1⟩
  have B1 : Hid (Below w.heap.size w v1) := Lib.hid (keepW B0.out b1)
  have S1 : Hid (v1.heap[w.heap.size]? = some (.cells #[.string x, .string y, .string z] 37 (0, 0))) := Lib.hid ((b1.block _ (lt_of_block S0.out)).trans S0.out)
  clear b1
  go_wp2_with fail
  refine (CT.out (by omega) v1 B1.out).mono ?_
  rintro e v2 ⟨r, rfl, hr, b2⟩
  have B2 : Hid (Below w.heap.size w v2) := Lib.hid (keepW B1.out b2)
  have S2 : Hid (v2.heap[w.heap.size]? = some (.cells #[.string x, .string y, .string z] 37 (0, 0))) := Lib.hid ((b2.block _ (lt_of_block S1.out)).trans S1.out)
  clear b2 hw0
  by_cases h2 : 20000 < r
  · have hrI : (20000 : Int) < (r : Int) := by omega
    clear hr
    go_wp2_with fail
    refine (HAl.out v2 B2.out).mono ?_
    rintro e v9 ⟨rfl, b9⟩
    have B9 : Hid (Below w.heap.size w v9) := Lib.hid (keepW B2.out b9)
    clear b9
    go_wp2
    go_ret
    exact ⟨rfl, B9.out⟩
  have hrI : (r : Int) ≤ 20000 := by omega
  have hsum := hr (by omega)
  have HRs : Hid (∀ q ∈ R, q.size ≤ 50000) := Lib.hid (fun q hq => by have := szL_mem hq; omega)
  clear hr hsum h2
  have hs0 : v2.cell? ⟨w.heap.size, 0, none⟩ = some (.string x) := by rw [cell_of_row v2 _ _ _ _ _ S2.out]; rfl
  have hs1 : v2.cell? ⟨w.heap.size, 1, none⟩ = some (.string y) := by rw [cell_of_row v2 _ _ _ _ _ S2.out]; rfl
  have hs2 : v2.cell? ⟨w.heap.size, 2, none⟩ = some (.string z) := by rw [cell_of_row v2 _ _ _ _ _ S2.out]; rfl
  by_cases h3 : 2000 < x.size + y.size + z.size
  · have h3I : (2000 : Int) < (x.size : Int) + (y.size : Int) + (z.size : Int) := by omega
    go_wp2_with fail
    refine (HAl.out v2 B2.out).mono ?_
    rintro e v9 ⟨rfl, b9⟩
    have B9 : Hid (Below w.heap.size w v9) := Lib.hid (keepW B2.out b9)
    clear b9
    go_wp2
    go_ret
    exact ⟨rfl, B9.out⟩
  have h3I : (x.size : Int) + (y.size : Int) + (z.size : Int) ≤ 2000 := by omega
  have hRl : R.length ≤ 2000 := by rw [HN.out]; omega
  have CO0 : Hid (∀ w', Below w.heap.size w w' → Calls Tryz.prog 21 #[.string x] w' fun e w'' => e = .returned (.agg (paT x).1.cells.toArray) ∧ Below w'.heap.size w' w'') := Lib.hid (fun w' hb => of9_any x w' (HW.out.later hb))
  have hm0 := pa_sm x
  have HE0 := Lib.hid (ck_sch x)
  have CO1 : Hid (∀ w', Below w.heap.size w w' → Calls Tryz.prog 21 #[.string y] w' fun e w'' => e = .returned (.agg (paT y).1.cells.toArray) ∧ Below w'.heap.size w' w'') := Lib.hid (fun w' hb => of9_any y w' (HW.out.later hb))
  have hm1 := pa_sm y
  have HE1 := Lib.hid (ck_sch y)
  have CO2 : Hid (∀ w', Below w.heap.size w w' → Calls Tryz.prog 21 #[.string z] w' fun e w'' => e = .returned (.agg (paT z).1.cells.toArray) ∧ Below w'.heap.size w' w'') := Lib.hid (fun w' hb => of9_any z w' (HW.out.later hb))
  have hm2 := pa_sm z
  have HE2 := Lib.hid (ck_sch z)
  generalize (paT x).1 = U0 at CO0 hm0 HE0
  generalize (paT y).1 = U1 at CO1 hm1 HE1
  generalize (paT z).1 = U2 at CO2 hm2 HE2
  have CK0 : Hid (∀ w', Below w.heap.size w w' → Calls Tryz.prog 22 #[.agg U0.cells.toArray] w' fun e w'' => e = .returned (.bool (ckT U0)) ∧ Below w'.heap.size w' w'') := Lib.hid (fun w' hb => UCheck_any U0 w' hm0.1 (paOk _) (HW.out.later hb))
  have CK1 : Hid (∀ w', Below w.heap.size w w' → Calls Tryz.prog 22 #[.agg U1.cells.toArray] w' fun e w'' => e = .returned (.bool (ckT U1)) ∧ Below w'.heap.size w' w'') := Lib.hid (fun w' hb => UCheck_any U1 w' hm1.1 (paOk _) (HW.out.later hb))
  have CK2 : Hid (∀ w', Below w.heap.size w w' → Calls Tryz.prog 22 #[.agg U2.cells.toArray] w' fun e w'' => e = .returned (.bool (ckT U2)) ∧ Below w'.heap.size w' w'') := Lib.hid (fun w' hb => UCheck_any U2 w' hm2.1 (paOk _) (HW.out.later hb))
  have SA00 : Hid (∀ w', Below w.heap.size w w' → Calls Tryz.prog 12 #[.slice a0 n cap, .agg U0.cells.toArray, .agg U0.cells.toArray] w' fun e w'' => e = .returned (.bool (same9 R U0 U0)) ∧ Below w'.heap.size w' w'') := Lib.hid (fun w' hb => by
    have := Same9_any R a0 b off cap U0 U0 w' (HT.out.later hb) hRl HRs.out hm0.1 hm0.1 (fun _ => hm0.2) (fun _ => hm0.2) (HW.out.later hb)
    rwa [HN.out] at this)
  have SA01 : Hid (∀ w', Below w.heap.size w w' → Calls Tryz.prog 12 #[.slice a0 n cap, .agg U0.cells.toArray, .agg U1.cells.toArray] w' fun e w'' => e = .returned (.bool (same9 R U0 U1)) ∧ Below w'.heap.size w' w'') := Lib.hid (fun w' hb => by
    have := Same9_any R a0 b off cap U0 U1 w' (HT.out.later hb) hRl HRs.out hm0.1 hm1.1 (fun _ => hm0.2) (fun _ => hm1.2) (HW.out.later hb)
    rwa [HN.out] at this)
  have SA12 : Hid (∀ w', Below w.heap.size w w' → Calls Tryz.prog 12 #[.slice a0 n cap, .agg U1.cells.toArray, .agg U2.cells.toArray] w' fun e w'' => e = .returned (.bool (same9 R U1 U2)) ∧ Below w'.heap.size w' w'') := Lib.hid (fun w' hb => by
    have := Same9_any R a0 b off cap U1 U2 w' (HT.out.later hb) hRl HRs.out hm1.1 hm2.1 (fun _ => hm1.2) (fun _ => hm2.2) (HW.out.later hb)
    rwa [HN.out] at this)
  have SA02 : Hid (∀ w', Below w.heap.size w w' → Calls Tryz.prog 12 #[.slice a0 n cap, .agg U0.cells.toArray, .agg U2.cells.toArray] w' fun e w'' => e = .returned (.bool (same9 R U0 U2)) ∧ Below w'.heap.size w' w'') := Lib.hid (fun w' hb => by
    have := Same9_any R a0 b off cap U0 U2 w' (HT.out.later hb) hRl HRs.out hm0.1 hm2.1 (fun _ => hm0.2) (fun _ => hm2.2) (HW.out.later hb)
    rwa [HN.out] at this)
  have SA10 : Hid (∀ w', Below w.heap.size w w' → Calls Tryz.prog 12 #[.slice a0 n cap, .agg U1.cells.toArray, .agg U0.cells.toArray] w' fun e w'' => e = .returned (.bool (same9 R U1 U0)) ∧ Below w'.heap.size w' w'') := Lib.hid (fun w' hb => by
    have := Same9_any R a0 b off cap U1 U0 w' (HT.out.later hb) hRl HRs.out hm1.1 hm0.1 (fun _ => hm1.2) (fun _ => hm0.2) (HW.out.later hb)
    rwa [HN.out] at this)
  have F1 : Hid (same9 R U0 U0 = false → same9 R U0 U1 = false ∧ same9 R U0 U2 = false) := Lib.hid (fun h => ⟨same_none h, same_none h⟩)
  have F2 : Hid (same9 R U1 U0 = same9 R U0 U1) := Lib.hid (same_turn R _ _)
  have F3 : Hid (same9 R U0 U1 = true → same9 R U1 U2 = true → same9 R U0 U2 = true) := Lib.hid same_three
  rw [F2.out] at SA10
  clear F2 HT HW HN HRs hRl hm0 hm1 hm2 CT
  obtain ⟨k00, Hk00⟩ : ∃ q, Hid (same9 R U0 U0 = q) := ⟨_, Lib.hid rfl⟩
  obtain ⟨k01, Hk01⟩ : ∃ q, Hid (same9 R U0 U1 = q) := ⟨_, Lib.hid rfl⟩
  obtain ⟨k12, Hk12⟩ : ∃ q, Hid (same9 R U1 U2 = q) := ⟨_, Lib.hid rfl⟩
  obtain ⟨k02, Hk02⟩ : ∃ q, Hid (same9 R U0 U2 = q) := ⟨_, Lib.hid rfl⟩
  rw [Hk00.out] at SA00 F1
  rw [Hk01.out] at SA01 SA10 F1 F3
  rw [Hk12.out] at SA12 F3
  rw [Hk02.out] at SA02 F1 F3
  clear Hk00 Hk01 Hk12 Hk02
  obtain ⟨c0, Hc0⟩ : ∃ q, Hid (ckT U0 = q) := ⟨_, Lib.hid rfl⟩
  rw [Hc0.out] at CK0 HE0
  clear Hc0
  obtain ⟨su0, Hsu0⟩ : ∃ q, Hid (U0.sch = q) := ⟨_, Lib.hid rfl⟩
  rw [Hsu0.out] at HE0
  have HQ0 : Hid (U0.cells[0]? = some (.string su0)) := Lib.hid (by rw [← Hsu0.out]; rfl)
  clear Hsu0
  have HI0 : Hid ((Tryz.prog.info? 24).map (·.size) = some U0.cells.toArray.size) := Lib.hid infoU
  have HO0 : Hid (U0.cells.toArray.all (·.oneCell') = true) := Lib.hid (cells_one U0)
  have HL0 : Hid ((Tryz.prog.info? 24).map (·.size) = some U0.cells.length) := Lib.hid (infoUL U0)
  have he0 := HE0.out
  obtain ⟨c1, Hc1⟩ : ∃ q, Hid (ckT U1 = q) := ⟨_, Lib.hid rfl⟩
  rw [Hc1.out] at CK1 HE1
  clear Hc1
  obtain ⟨su1, Hsu1⟩ : ∃ q, Hid (U1.sch = q) := ⟨_, Lib.hid rfl⟩
  rw [Hsu1.out] at HE1
  have HQ1 : Hid (U1.cells[0]? = some (.string su1)) := Lib.hid (by rw [← Hsu1.out]; rfl)
  clear Hsu1
  have HI1 : Hid ((Tryz.prog.info? 24).map (·.size) = some U1.cells.toArray.size) := Lib.hid infoU
  have HO1 : Hid (U1.cells.toArray.all (·.oneCell') = true) := Lib.hid (cells_one U1)
  have HL1 : Hid ((Tryz.prog.info? 24).map (·.size) = some U1.cells.length) := Lib.hid (infoUL U1)
  have he1 := HE1.out
  obtain ⟨c2, Hc2⟩ : ∃ q, Hid (ckT U2 = q) := ⟨_, Lib.hid rfl⟩
  rw [Hc2.out] at CK2 HE2
  clear Hc2
  obtain ⟨su2, Hsu2⟩ : ∃ q, Hid (U2.sch = q) := ⟨_, Lib.hid rfl⟩
  rw [Hsu2.out] at HE2
  have HQ2 : Hid (U2.cells[0]? = some (.string su2)) := Lib.hid (by rw [← Hsu2.out]; rfl)
  clear Hsu2
  have HI2 : Hid ((Tryz.prog.info? 24).map (·.size) = some U2.cells.toArray.size) := Lib.hid infoU
  have HO2 : Hid (U2.cells.toArray.all (·.oneCell') = true) := Lib.hid (cells_one U2)
  have HL2 : Hid ((Tryz.prog.info? 24).map (·.size) = some U2.cells.length) := Lib.hid (infoUL U2)
  have he2 := HE2.out
  obtain ⟨V0, HV0⟩ : ∃ W, Hid (v2.alloc (.cells #[.string ⟨#[]⟩, .string ⟨#[]⟩, .string ⟨#[]⟩, .string ⟨#[]⟩, .int .i64 0, .string ⟨#[]⟩, .string ⟨#[]⟩, .bool false, .string ⟨#[]⟩, .bool false, .string ⟨#[]⟩, .string ⟨#[]⟩, .string ⟨#[]⟩, .string ⟨#[]⟩, .int .i64 0, .string ⟨#[]⟩, .string ⟨#[]⟩, .bool false, .string ⟨#[]⟩, .bool false, .string ⟨#[]⟩, .string ⟨#[]⟩, .string ⟨#[]⟩, .string ⟨#[]⟩, .int .i64 0, .string ⟨#[]⟩, .string ⟨#[]⟩, .bool false, .string ⟨#[]⟩, .bool false] 38) = W) := ⟨_, Lib.hid rfl⟩
  obtain ⟨gu, Hgu⟩ : ∃ g, Hid (v2.heap.size = g) := ⟨_, Lib.hid rfl⟩
  have D0 : Hid (Below w.heap.size w V0) := Lib.hid (by rw [← HV0.out]; exact B2.out.alloc B2.out.size _)
  have R0 : Hid (Row3 V0 gu u0 u0 u0) := Lib.hid (by rw [← HV0.out, ← Hgu.out]; exact heap_alloc_new v2 _)
  have T0 : Hid (V0.heap[w.heap.size]? = some (.cells #[.string x, .string y, .string z] 37 (0, 0))) := Lib.hid (by rw [← HV0.out]; exact ((Kp.refl (fun _ => False) _).alloc _).at S2.out id)
  have HG : Hid (w.heap.size ≤ gu) := Lib.hid (by rw [← Hgu.out]; exact B2.out.size)
  have HNG : Hid (w.heap.size ≠ gu) := Lib.hid (by rw [← Hgu.out]; exact Nat.ne_of_lt (lt_of_block S2.out))
  have hv0 : v2.alloc (.cells #[.string ⟨#[]⟩, .string ⟨#[]⟩, .string ⟨#[]⟩, .string ⟨#[]⟩, .int .i64 0, .string ⟨#[]⟩, .string ⟨#[]⟩, .bool false, .string ⟨#[]⟩, .bool false, .string ⟨#[]⟩, .string ⟨#[]⟩, .string ⟨#[]⟩, .string ⟨#[]⟩, .int .i64 0, .string ⟨#[]⟩, .string ⟨#[]⟩, .bool false, .string ⟨#[]⟩, .bool false, .string ⟨#[]⟩, .string ⟨#[]⟩, .string ⟨#[]⟩, .string ⟨#[]⟩, .int .i64 0, .string ⟨#[]⟩, .string ⟨#[]⟩, .bool false, .string ⟨#[]⟩, .bool false] 38) = V0 := HV0.out
  have hgu : v2.heap.size = gu := Hgu.out
  go_upto_region 4 with (fail)
  clear hs0 hs1 hs2 hv0 hgu
  go_wp2
  refine wp_loop_rounds 4 ?_
  rw [rounds_succ]
  have hsi0 : V0.cell? ⟨w.heap.size, 0, none⟩ = some (.string x) := by rw [cell_of_row V0 _ _ _ _ _ T0.out]; rfl
  go_wp2_with fail
  refine (CO0.out V0 D0.out).mono ?_
  rintro e a0 ⟨rfl, b0⟩
  have DA0 : Hid (Below w.heap.size w a0) := Lib.hid (keepW D0.out b0)
  have RA0 : Hid (Row3 a0 gu u0 u0 u0) := Lib.hid (R0.out.later b0)
  have TA0 : Hid (a0.heap[w.heap.size]? = some (.cells #[.string x, .string y, .string z] 37 (0, 0))) := Lib.hid ((b0.block _ (lt_of_block T0.out)).trans T0.out)
  obtain ⟨E0, HE_0⟩ : ∃ W, Hid (a0.setCells gu 0 U0.cells.toArray.toList = W) := ⟨_, Lib.hid rfl⟩
  have DE0 : Hid (Below w.heap.size w E0) := Lib.hid (by rw [← HE_0.out]; exact setCells_below HG.out _ _ _ DA0.out)
  have RE0 : Hid (Row3 E0 gu U0 u0 u0) := Lib.hid (by rw [← HE_0.out]; exact RA0.out.set0)
  have TE0 : Hid (E0.heap[w.heap.size]? = some (.cells #[.string x, .string y, .string z] 37 (0, 0))) := Lib.hid (by rw [← HE_0.out, setCells_other HNG.out]; exact TA0.out)
  clear b0 hsi0
  have QK0 : Hid (∀ q : BW E0, Calls Tryz.prog 22 #[.agg U0.cells.toArray] q.w fun e w'' => e = .returned (.bool c0) ∧ Below q.w.heap.size q.w w'') := Lib.hid (fun q => CK0.out q.w (keepW DE0.out q.h))
  have qs0 : ∀ q : BW E0, q.w.cell? ⟨gu, 0, none⟩ = some (.string su0) := fun q => by have := (RE0.out.later q.h).r0 0 _ HQ0.out; simpa using this
  go_upto_region 8 with (refine wpList_store_mid rfl 24 _ _ rfl gu 0 U0.cells.toArray ?_ ?_ (RA0.out.there 0 (by decide)) HI0.out HO0.out ?_; (exact rfl); (exact rfl); (rw [HE_0.out]))
  refine bw_region (by kernel_rfl) (by kernel_rfl) ?_
  repeat (first
    | (refine bw_load_mid rfl 24 _ rfl gu 0 U0.cells ?_ _ ?_ Tryz.underlying24 rfl HL0.out ?_; (exact rfl); (intro w hw; obtain ⟨q, rfl⟩ := hw; exact (RE0.out.later q.h).r0))
    | (quiet_step ((with_reducible exact Calls.bw_of (QK0.out _)))))
  refine wpQuiet_nil ?_
  intro V1 hw'
  have b0 : Below E0.heap.size E0 V1 := by obtain ⟨q, hq⟩ := hw'; rw [hq]; exact q.h
  have D1 : Hid (Below w.heap.size w V1) := Lib.hid (keepW DE0.out b0)
  have R1 : Hid (Row3 V1 gu U0 u0 u0) := Lib.hid (RE0.out.later b0)
  have T1 : Hid (V1.heap[w.heap.size]? = some (.cells #[.string x, .string y, .string z] 37 (0, 0))) := Lib.hid ((b0.block _ (lt_of_block TE0.out)).trans TE0.out)
  clear b0 hw' qs0
  have hsi1 : V1.cell? ⟨w.heap.size, 1, none⟩ = some (.string y) := by rw [cell_of_row V1 _ _ _ _ _ T1.out]; rfl
  go_wp2
  rw [rounds_succ]
  go_wp2_with fail
  refine (CO1.out V1 D1.out).mono ?_
  rintro e a1 ⟨rfl, b1⟩
  have DA1 : Hid (Below w.heap.size w a1) := Lib.hid (keepW D1.out b1)
  have RA1 : Hid (Row3 a1 gu U0 u0 u0) := Lib.hid (R1.out.later b1)
  have TA1 : Hid (a1.heap[w.heap.size]? = some (.cells #[.string x, .string y, .string z] 37 (0, 0))) := Lib.hid ((b1.block _ (lt_of_block T1.out)).trans T1.out)
  obtain ⟨E1, HE_1⟩ : ∃ W, Hid (a1.setCells gu 10 U1.cells.toArray.toList = W) := ⟨_, Lib.hid rfl⟩
  have DE1 : Hid (Below w.heap.size w E1) := Lib.hid (by rw [← HE_1.out]; exact setCells_below HG.out _ _ _ DA1.out)
  have RE1 : Hid (Row3 E1 gu U0 U1 u0) := Lib.hid (by rw [← HE_1.out]; exact RA1.out.set1)
  have TE1 : Hid (E1.heap[w.heap.size]? = some (.cells #[.string x, .string y, .string z] 37 (0, 0))) := Lib.hid (by rw [← HE_1.out, setCells_other HNG.out]; exact TA1.out)
  clear b1 hsi1
  have QK1 : Hid (∀ q : BW E1, Calls Tryz.prog 22 #[.agg U1.cells.toArray] q.w fun e w'' => e = .returned (.bool c1) ∧ Below q.w.heap.size q.w w'') := Lib.hid (fun q => CK1.out q.w (keepW DE1.out q.h))
  have qs1 : ∀ q : BW E1, q.w.cell? ⟨gu, 10, none⟩ = some (.string su1) := fun q => by have := (RE1.out.later q.h).r1 0 _ HQ1.out; simpa using this
  go_upto_region 8 with (refine wpList_store_mid rfl 24 _ _ rfl gu 10 U1.cells.toArray ?_ ?_ (RA1.out.there 10 (by decide)) HI1.out HO1.out ?_; (exact rfl); (exact rfl); (rw [HE_1.out]))
  refine bw_region (by kernel_rfl) (by kernel_rfl) ?_
  repeat (first
    | (refine bw_load_mid rfl 24 _ rfl gu 10 U1.cells ?_ _ ?_ Tryz.underlying24 rfl HL1.out ?_; (exact rfl); (intro w hw; obtain ⟨q, rfl⟩ := hw; exact (RE1.out.later q.h).r1))
    | (quiet_step ((with_reducible exact Calls.bw_of (QK1.out _)))))
  refine wpQuiet_nil ?_
  intro V2 hw'
  have b1 : Below E1.heap.size E1 V2 := by obtain ⟨q, hq⟩ := hw'; rw [hq]; exact q.h
  have D2 : Hid (Below w.heap.size w V2) := Lib.hid (keepW DE1.out b1)
  have R2 : Hid (Row3 V2 gu U0 U1 u0) := Lib.hid (RE1.out.later b1)
  have T2 : Hid (V2.heap[w.heap.size]? = some (.cells #[.string x, .string y, .string z] 37 (0, 0))) := Lib.hid ((b1.block _ (lt_of_block TE1.out)).trans TE1.out)
  clear b1 hw' qs1
  have hsi2 : V2.cell? ⟨w.heap.size, 2, none⟩ = some (.string z) := by rw [cell_of_row V2 _ _ _ _ _ T2.out]; rfl
  go_wp2
  rw [rounds_succ]
  go_wp2_with fail
  refine (CO2.out V2 D2.out).mono ?_
  rintro e a2 ⟨rfl, b2⟩
  have DA2 : Hid (Below w.heap.size w a2) := Lib.hid (keepW D2.out b2)
  have RA2 : Hid (Row3 a2 gu U0 U1 u0) := Lib.hid (R2.out.later b2)
  have TA2 : Hid (a2.heap[w.heap.size]? = some (.cells #[.string x, .string y, .string z] 37 (0, 0))) := Lib.hid ((b2.block _ (lt_of_block T2.out)).trans T2.out)
  obtain ⟨E2, HE_2⟩ : ∃ W, Hid (a2.setCells gu 20 U2.cells.toArray.toList = W) := ⟨_, Lib.hid rfl⟩
  have DE2 : Hid (Below w.heap.size w E2) := Lib.hid (by rw [← HE_2.out]; exact setCells_below HG.out _ _ _ DA2.out)
  have RE2 : Hid (Row3 E2 gu U0 U1 U2) := Lib.hid (by rw [← HE_2.out]; exact RA2.out.set2)
  have TE2 : Hid (E2.heap[w.heap.size]? = some (.cells #[.string x, .string y, .string z] 37 (0, 0))) := Lib.hid (by rw [← HE_2.out, setCells_other HNG.out]; exact TA2.out)
  clear b2 hsi2
  have QK2 : Hid (∀ q : BW E2, Calls Tryz.prog 22 #[.agg U2.cells.toArray] q.w fun e w'' => e = .returned (.bool c2) ∧ Below q.w.heap.size q.w w'') := Lib.hid (fun q => CK2.out q.w (keepW DE2.out q.h))
  have qs2 : ∀ q : BW E2, q.w.cell? ⟨gu, 20, none⟩ = some (.string su2) := fun q => by have := (RE2.out.later q.h).r2 0 _ HQ2.out; simpa using this
  go_upto_region 8 with (refine wpList_store_mid rfl 24 _ _ rfl gu 20 U2.cells.toArray ?_ ?_ (RA2.out.there 20 (by decide)) HI2.out HO2.out ?_; (exact rfl); (exact rfl); (rw [HE_2.out]))
  refine bw_region (by kernel_rfl) (by kernel_rfl) ?_
  repeat (first
    | (refine bw_load_mid rfl 24 _ rfl gu 20 U2.cells ?_ _ ?_ Tryz.underlying24 rfl HL2.out ?_; (exact rfl); (intro w hw; obtain ⟨q, rfl⟩ := hw; exact (RE2.out.later q.h).r2))
    | (quiet_step ((with_reducible exact Calls.bw_of (QK2.out _)))))
  refine wpQuiet_nil ?_
  intro V3 hw'
  have b2 : Below E2.heap.size E2 V3 := by obtain ⟨q, hq⟩ := hw'; rw [hq]; exact q.h
  have D3 : Hid (Below w.heap.size w V3) := Lib.hid (keepW DE2.out b2)
  have R3 : Hid (Row3 V3 gu U0 U1 U2) := Lib.hid (RE2.out.later b2)
  have T3 : Hid (V3.heap[w.heap.size]? = some (.cells #[.string x, .string y, .string z] 37 (0, 0))) := Lib.hid ((b2.block _ (lt_of_block TE2.out)).trans TE2.out)
  clear b2 hw' qs2
  clear CO0 CO1 CO2 CK0 CK1 CK2 HAl
  go_wp2
  rw [rounds_succ]
  go_wp2_with (first
    | (refine wpList_load_mid rfl 24 _ rfl gu 0 ?_ U0.cells _ R3.out.r0 Tryz.underlying24 rfl HL0.out ?_; (exact rfl)))
  refine (SA00.out V3 D3.out).mono ?_
  rintro e V4 ⟨rfl, b⟩
  have D4 : Hid (Below w.heap.size w V4) := Lib.hid (keepW D3.out b)
  have R4 : Hid (Row3 V4 gu U0 U1 U2) := Lib.hid (R3.out.later b)
  clear b
  go_wp2_with (first
    | (refine wpList_load_mid rfl 24 _ rfl gu 0 ?_ U0.cells _ R4.out.r0 Tryz.underlying24 rfl HL0.out ?_; (exact rfl))
    | (refine wpList_load_mid rfl 24 _ rfl gu 10 ?_ U1.cells _ R4.out.r1 Tryz.underlying24 rfl HL1.out ?_; (exact rfl)))
  refine (SA01.out V4 D4.out).mono ?_
  rintro e V5 ⟨rfl, b⟩
  have D5 : Hid (Below w.heap.size w V5) := Lib.hid (keepW D4.out b)
  have R5 : Hid (Row3 V5 gu U0 U1 U2) := Lib.hid (R4.out.later b)
  clear b
  go_wp2_with (first
    | (refine wpList_load_mid rfl 24 _ rfl gu 10 ?_ U1.cells _ R5.out.r1 Tryz.underlying24 rfl HL1.out ?_; (exact rfl))
    | (refine wpList_load_mid rfl 24 _ rfl gu 20 ?_ U2.cells _ R5.out.r2 Tryz.underlying24 rfl HL2.out ?_; (exact rfl)))
  refine (SA12.out V5 D5.out).mono ?_
  rintro e V6 ⟨rfl, b⟩
  have D6 : Hid (Below w.heap.size w V6) := Lib.hid (keepW D5.out b)
  have R6 : Hid (Row3 V6 gu U0 U1 U2) := Lib.hid (R5.out.later b)
  clear b
  go_wp2_with (first
    | (refine wpList_load_mid rfl 24 _ rfl gu 0 ?_ U0.cells _ R6.out.r0 Tryz.underlying24 rfl HL0.out ?_; (exact rfl))
    | (refine wpList_load_mid rfl 24 _ rfl gu 20 ?_ U2.cells _ R6.out.r2 Tryz.underlying24 rfl HL2.out ?_; (exact rfl)))
  refine (SA02.out V6 D6.out).mono ?_
  rintro e V7 ⟨rfl, b⟩
  have D7 : Hid (Below w.heap.size w V7) := Lib.hid (keepW D6.out b)
  have R7 : Hid (Row3 V7 gu U0 U1 U2) := Lib.hid (R6.out.later b)
  clear b
  cases k00
  · obtain ⟨e1, e2⟩ := F1.out rfl
    subst e1 e2
    go_wp2
    go_ret
    exact ⟨rfl, D7.out⟩
  clear F1
  go_wp2_with (first
    | (refine wpList_load_mid rfl 24 _ rfl gu 0 ?_ U0.cells _ R7.out.r0 Tryz.underlying24 rfl HL0.out ?_; (exact rfl))
    | (refine wpList_load_mid rfl 24 _ rfl gu 10 ?_ U1.cells _ R7.out.r1 Tryz.underlying24 rfl HL1.out ?_; (exact rfl)))
  refine (SA10.out V7 D7.out).mono ?_
  rintro e V8 ⟨rfl, b⟩
  have D8 : Hid (Below w.heap.size w V8) := Lib.hid (keepW D7.out b)
  clear b
  cases k01
  · go_wp2
    go_ret
    exact ⟨rfl, D8.out⟩
  cases k12
  · go_wp2
    go_ret
    exact ⟨rfl, D8.out⟩
  obtain rfl : k02 = true := F3.out rfl rfl
  go_wp2
  go_ret
  exact ⟨rfl, D8.out⟩

end Go.Proofs.YtldddgmhmolohaaGreatDoor
