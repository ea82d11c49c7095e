/-
  The reader of a cookie's date: the hour of a word.
-/
import Derived.Test.YtllpdnmhabpbcaaGreatDoorDtW
namespace Go.Proofs.YtllpdnmhabpbcaaGreatDoor
open Go.RowKit

/-- What the hour's parts have told, so far. -/
def ClK (a b c : List UInt8) : Nat → Array Value → Prop
  | 0, C => C = #[.int .i64 0, .int .i64 0, .int .i64 0]
  | 1, C => ∃ h, toldN 1 2 a = some (h, []) ∧ C = #[.int .i64 h, .int .i64 0, .int .i64 0]
  | 2, C => ∃ h m, toldN 1 2 a = some (h, []) ∧ toldN 1 2 b = some (m, []) ∧ C = #[.int .i64 h, .int .i64 m, .int .i64 0]
  | _, C => ∃ h m x r, toldN 1 2 a = some (h, []) ∧ toldN 1 2 b = some (m, []) ∧ toldN 1 2 c = some (x, r) ∧ C = #[.int .i64 h, .int .i64 m, .int .i64 x]
/-- All that was there is as it was. -/
def None0 : Nat → Prop := fun _ => False
theorem row_set {w : World} {g k : Nat} {C : Array Value} {t : TypeId} (h : w.heap[g]? = some (.cells C t (0, 0))) (v : Value) : (w.setCell ⟨g, k, none⟩ v).heap[g]? = some (.cells (C.setIfInBounds k v) t (0, 0)) := heap_setCell_same _ _ _ _ _ _ h
theorem row_other {w : World} {g g' k : Nat} {o : Obj} (h : w.heap[g]? = some o) (hne : g ≠ g') (v : Value) : (w.setCell ⟨g', k, none⟩ v).heap[g]? = some o := by
  rw [Below.heap_setCell _ _ _ _ (fun e => hne e)]; exact h
theorem MaxOf {w w' : World} {m : Int} (h : w.cell? ⟨2, 0, none⟩ = some (.int .i64 m)) (k : Below w.heap.size w w') : w'.cell? ⟨2, 0, none⟩ = some (.int .i64 m) :=
  (World.cell?_of_block (w := w) (k.block _ (block_lt_of_cell h))).trans h
theorem cells3 (a b c : ByteArray) : Lib.cellsOf [a, b, c] 3 = #[.string a, .string b, .string c] := rfl
theorem clock3_no1 {a b c : List UInt8} (h : toldN 1 2 a = none) : clock3 a b c = none := by unfold clock3; rw [h]
theorem clock3_no1' {a b c : List UInt8} {n : Int} {x : UInt8} {r : List UInt8} (h : toldN 1 2 a = some (n, x :: r)) : clock3 a b c = none := by unfold clock3; rw [h]
theorem clock3_no2 {a b c : List UInt8} {n : Int} (g : toldN 1 2 a = some (n, [])) (h : toldN 1 2 b = none) : clock3 a b c = none := by unfold clock3; rw [g]; simp only; rw [h]
theorem clock3_no2' {a b c : List UInt8} {n m : Int} {x : UInt8} {r : List UInt8} (g : toldN 1 2 a = some (n, [])) (h : toldN 1 2 b = some (m, x :: r)) : clock3 a b c = none := by unfold clock3; rw [g]; simp only; rw [h]
theorem clock3_no3 {a b c : List UInt8} {n m : Int} (g : toldN 1 2 a = some (n, [])) (h : toldN 1 2 b = some (m, [])) (k : toldN 1 2 c = none) : clock3 a b c = none := by unfold clock3; rw [g]; simp only; rw [h]; simp only; rw [k]
theorem clock3_yes {a b c : List UInt8} {n m x : Int} {r : List UInt8} (g : toldN 1 2 a = some (n, [])) (h : toldN 1 2 b = some (m, [])) (k : toldN 1 2 c = some (x, r)) : clock3 a b c = some (n, m, x) := by unfold clock3; rw [g]; simp only; rw [h]; simp only; rw [k]

set_option maxHeartbeats 4000000 in
set_option maxRecDepth 100000 in
theorem readTime_any (b : Nat) (s : DrS) (t : ByteArray) (ht : t.size ≤ 1048600) (m : Int) (w : World) (h : DrAt w b s) (hm : w.cell? ⟨2, 0, none⟩ = some (.int .i64 m)) :
    Calls Tryz.prog 115 #[.pointer (some ⟨b, 0, none⟩), .string t] w (WayC w b (clockP t.data.toList).isSome (timeS s t.data.toList)) := by
  have HR := Lib.hid h
  have HS := Lib.hid (Tryz.strings_SplitN t ⟨#[58]⟩ 3 m w (by omega) hm (by decide) (by omega) (by omega))
  clear h hm
  unfold timeS
  rcases split3 t with ⟨h1, h2⟩ | ⟨p0, p1, p2, h1, h2, z0, z1, z2, h3⟩
  · rw [h2]
    obtain ⟨P, HP⟩ : ∃ P, Hid (Lib.splitB ⟨#[58]⟩ 0 (min 3 (t.size + 1) - 1) t = P) := ⟨_, Lib.hid rfl⟩
    rw [HP.out] at HS h1
    have hl : (P.length : Int) < 3 := by omega
    go_enter Tryz.func115, Tryz.ntmps115
    go_wp2_with fail
    refine HS.out.mono ?_
    rintro e w1 ⟨rfl, rfl⟩
    have HB : Hid (Below w.heap.size w (w.alloc (.cells (Lib.cellsOf P (min 3 (t.size + 1))) 9))) := Lib.hid ((Below.refl _ _).alloc (Nat.le_refl _) _)
    generalize w.alloc (.cells (Lib.cellsOf P (min 3 (t.size + 1))) 9) = w1 at HB ⊢
    go_wp2
    go_ret
    exact ⟨rfl, HR.out.below HB.out, .of_below HB.out⟩
  · rw [h2]
    rw [h1, h3, cells3] at HS
    clear h1 h2 h3
    have HC0 := Lib.hid (fun w => cutNumber_any p0 1 2 (by omega) (by omega) (by omega) w)
    have HC1 := Lib.hid (fun w => cutNumber_any p1 1 2 (by omega) (by omega) (by omega) w)
    have HC2 := Lib.hid (fun w => cutNumber_any p2 1 2 (by omega) (by omega) (by omega) w)
    obtain ⟨o0, Ho0⟩ : ∃ o, Hid (toldN 1 2 p0.data.toList = o) := ⟨_, Lib.hid rfl⟩
    obtain ⟨o1, Ho1⟩ : ∃ o, Hid (toldN 1 2 p1.data.toList = o) := ⟨_, Lib.hid rfl⟩
    obtain ⟨o2, Ho2⟩ : ∃ o, Hid (toldN 1 2 p2.data.toList = o) := ⟨_, Lib.hid rfl⟩
    rw [Ho0.out] at HC0
    rw [Ho1.out] at HC1
    rw [Ho2.out] at HC2
    clear z0 z1 z2
    obtain ⟨K3, HK3⟩ : ∃ o, Hid (clock3 p0.data.toList p1.data.toList p2.data.toList = o) := ⟨_, Lib.hid rfl⟩
    rw [HK3.out]
    have hem : (asB []).toList.isEmpty = true := by rw [ByteArray.toList_eq]; rfl
    have hem2 : ∀ x r, (asB (x :: r)).toList.isEmpty = false := fun x r => by rw [ByteArray.toList_eq]; rfl
    go_enter Tryz.func115, Tryz.ntmps115
    go_wp2_with fail
    refine HS.out.mono ?_
    rintro e w1 ⟨rfl, rfl⟩
    obtain ⟨w1, hw1⟩ : ∃ w1, w.alloc (.cells #[.string p0, .string p1, .string p2] 9) = w1 := ⟨_, rfl⟩
    rw [hw1]
    have hz1 : w1.heap.size = w.heap.size + 1 := by rw [← hw1]; simp
    have HP1 : Hid (w1.heap[w.heap.size]? = some (.cells #[.string p0, .string p1, .string p2] 9 (0, 0))) := Lib.hid (by rw [← hw1]; exact heap_alloc_new w _)
    have HB1 : Hid (Below w.heap.size w w1) := Lib.hid (by rw [← hw1]; exact (Below.refl _ _).alloc (Nat.le_refl _) _)
    clear hw1 HS
    go_wp2
    go_loopw [20] (fun v wr => ∃ (k : Nat) (C : Array Value), k ≤ 3 ∧ v = .int .i64 (k : Int) ∧ Hid (ClK p0.data.toList p1.data.toList p2.data.toList k C) ∧ Hid (wr.heap[w.heap.size]? = some (.cells #[.string p0, .string p1, .string p2] 9 (0, 0))) ∧ Hid (wr.heap[(w.heap.size + 1)]? = some (.cells C 122 (0, 0))) ∧ Hid (Kp None0 w wr)) (fun v _ => 3 - (intOf v).toNat)
    case atStart => exact ⟨0, _, by omega, rfl, Lib.hid rfl, Lib.hid ((((Below.refl w1.heap.size w1).alloc (Nat.le_refl _) _).block _ (by omega)).trans HP1.out), Lib.hid (hz1 ▸ heap_alloc_new w1 _), Lib.hid ((Kp.of_below HB1.out).alloc _)⟩
    case round =>
      obtain ⟨k, C, hk, hv, HK, HP, HC, HB⟩ := hrel
      have q0 := cell_of_row wr w.heap.size 0 _ _ _ HP.out
      have q1 := cell_of_row wr w.heap.size 1 _ _ _ HP.out
      have q2 := cell_of_row wr w.heap.size 2 _ _ _ HP.out
      simp only [List.getElem?_toArray, List.getElem?_cons_zero, List.getElem?_cons_succ] at q0 q1 q2
      rcases (show k = 0 ∨ k = 1 ∨ k = 2 ∨ k = 3 by omega) with rfl | rfl | rfl | rfl
      · have hv0 : _ = Value.int .i64 0 := hv
        subst hv0
        have HKc := HK.out
        obtain rfl : C = #[.int .i64 0, .int .i64 0, .int .i64 0] := HKc
        cases o0 with
        | none =>
          have hK3 : K3 = none := by rw [← HK3.out]; exact clock3_no1 Ho0.out
          subst hK3
          go_wp2_with fail
          refine (HC0.out _).mono ?_
          rintro e w2 ⟨rfl, bel⟩
          unfold cutV
          have k2 := HB.out.trans (Kp.of_below (X := None0) bel)
          have HP2 := Lib.hid ((bel.block _ (lt_of_block HP.out)).trans HP.out)
          have HD2 := Lib.hid ((bel.block _ (lt_of_block HC.out)).trans HC.out)
          have HK2 := Lib.hid k2
          clear bel k2
          go_wp2
          go_ret
          exact ⟨rfl, HR.out.below (HK2.out.below (Nat.le_refl _) (fun _ h => h.elim)), HK2.out.mono (fun _ h => h.elim)⟩
        | some x =>
          obtain ⟨n, r⟩ := x
          cases r with
          | cons x r =>
            have hK3 : K3 = none := by rw [← HK3.out]; exact clock3_no1' Ho0.out
            subst hK3
            have hem3 := hem2 x r
            go_wp2_with fail
            refine (HC0.out _).mono ?_
            rintro e w2 ⟨rfl, bel⟩
            unfold cutV
            have k2 := HB.out.trans (Kp.of_below (X := None0) bel)
            have HP2 := Lib.hid ((bel.block _ (lt_of_block HP.out)).trans HP.out)
            have HD2 := Lib.hid ((bel.block _ (lt_of_block HC.out)).trans HC.out)
            have HK2 := Lib.hid k2
            clear bel k2
            go_wp2
            go_ret
            exact ⟨rfl, HR.out.below (HK2.out.below (Nat.le_refl _) (fun _ h => h.elim)), HK2.out.mono (fun _ h => h.elim)⟩
          | nil =>
            go_wp2_with fail
            refine (HC0.out _).mono ?_
            rintro e w2 ⟨rfl, bel⟩
            unfold cutV
            have k2 := HB.out.trans (Kp.of_below (X := None0) bel)
            have HP2 := Lib.hid ((bel.block _ (lt_of_block HP.out)).trans HP.out)
            have HD2 := Lib.hid ((bel.block _ (lt_of_block HC.out)).trans HC.out)
            have HK2 := Lib.hid k2
            clear bel k2
            have fz := frozen_of_row w2 (w.heap.size + 1) 0 _ _ HD2.out
            have cz := cell_of_row w2 (w.heap.size + 1) 0 _ _ _ HD2.out
            simp only [List.getElem?_toArray, List.getElem?_cons_zero] at cz
            go_wp2
            go_roundw
            case rel => exact ⟨1, _, by omega, rfl, Lib.hid ⟨n, Ho0.out, rfl⟩, Lib.hid (row_other HP2.out (by omega) _), Lib.hid (row_set HD2.out _), Lib.hid (HK2.out.setNew (by show w.heap.size ≤ (w.heap.size + 1); omega) _)⟩
            case measure => simp [intOf]
      · have hv0 : _ = Value.int .i64 1 := hv
        subst hv0
        have HKc := HK.out
        obtain ⟨n0, g0, rfl⟩ := HKc
        cases o1 with
        | none =>
          have hK3 : K3 = none := by rw [← HK3.out]; exact clock3_no2 g0 Ho1.out
          subst hK3
          go_wp2_with fail
          refine (HC1.out _).mono ?_
          rintro e w2 ⟨rfl, bel⟩
          unfold cutV
          have k2 := HB.out.trans (Kp.of_below (X := None0) bel)
          have HP2 := Lib.hid ((bel.block _ (lt_of_block HP.out)).trans HP.out)
          have HD2 := Lib.hid ((bel.block _ (lt_of_block HC.out)).trans HC.out)
          have HK2 := Lib.hid k2
          clear bel k2
          go_wp2
          go_ret
          exact ⟨rfl, HR.out.below (HK2.out.below (Nat.le_refl _) (fun _ h => h.elim)), HK2.out.mono (fun _ h => h.elim)⟩
        | some x =>
          obtain ⟨n, r⟩ := x
          cases r with
          | cons x r =>
            have hK3 : K3 = none := by rw [← HK3.out]; exact clock3_no2' g0 Ho1.out
            subst hK3
            have hem3 := hem2 x r
            go_wp2_with fail
            refine (HC1.out _).mono ?_
            rintro e w2 ⟨rfl, bel⟩
            unfold cutV
            have k2 := HB.out.trans (Kp.of_below (X := None0) bel)
            have HP2 := Lib.hid ((bel.block _ (lt_of_block HP.out)).trans HP.out)
            have HD2 := Lib.hid ((bel.block _ (lt_of_block HC.out)).trans HC.out)
            have HK2 := Lib.hid k2
            clear bel k2
            go_wp2
            go_ret
            exact ⟨rfl, HR.out.below (HK2.out.below (Nat.le_refl _) (fun _ h => h.elim)), HK2.out.mono (fun _ h => h.elim)⟩
          | nil =>
            go_wp2_with fail
            refine (HC1.out _).mono ?_
            rintro e w2 ⟨rfl, bel⟩
            unfold cutV
            have k2 := HB.out.trans (Kp.of_below (X := None0) bel)
            have HP2 := Lib.hid ((bel.block _ (lt_of_block HP.out)).trans HP.out)
            have HD2 := Lib.hid ((bel.block _ (lt_of_block HC.out)).trans HC.out)
            have HK2 := Lib.hid k2
            clear bel k2
            have fz := frozen_of_row w2 (w.heap.size + 1) 1 _ _ HD2.out
            have cz := cell_of_row w2 (w.heap.size + 1) 1 _ _ _ HD2.out
            simp only [List.getElem?_toArray, List.getElem?_cons_zero, List.getElem?_cons_succ] at cz
            go_wp2
            go_roundw
            case rel => exact ⟨2, _, by omega, rfl, Lib.hid ⟨n0, n, g0, Ho1.out, rfl⟩, Lib.hid (row_other HP2.out (by omega) _), Lib.hid (row_set HD2.out _), Lib.hid (HK2.out.setNew (by show w.heap.size ≤ (w.heap.size + 1); omega) _)⟩
            case measure => simp [intOf]
      · have hv0 : _ = Value.int .i64 2 := hv
        subst hv0
        have HKc := HK.out
        obtain ⟨n0, n1, g0, g1, rfl⟩ := HKc
        cases o2 with
        | none =>
          have hK3 : K3 = none := by rw [← HK3.out]; exact clock3_no3 g0 g1 Ho2.out
          subst hK3
          go_wp2_with fail
          refine (HC2.out _).mono ?_
          rintro e w2 ⟨rfl, bel⟩
          unfold cutV
          have k2 := HB.out.trans (Kp.of_below (X := None0) bel)
          have HP2 := Lib.hid ((bel.block _ (lt_of_block HP.out)).trans HP.out)
          have HD2 := Lib.hid ((bel.block _ (lt_of_block HC.out)).trans HC.out)
          have HK2 := Lib.hid k2
          clear bel k2
          go_wp2
          go_ret
          exact ⟨rfl, HR.out.below (HK2.out.below (Nat.le_refl _) (fun _ h => h.elim)), HK2.out.mono (fun _ h => h.elim)⟩
        | some x =>
          obtain ⟨n, r⟩ := x
          cases r with
          | cons x r =>
            have hem3 := hem2 x r
            go_wp2_with fail
            refine (HC2.out _).mono ?_
            rintro e w2 ⟨rfl, bel⟩
            unfold cutV
            have k2 := HB.out.trans (Kp.of_below (X := None0) bel)
            have HP2 := Lib.hid ((bel.block _ (lt_of_block HP.out)).trans HP.out)
            have HD2 := Lib.hid ((bel.block _ (lt_of_block HC.out)).trans HC.out)
            have HK2 := Lib.hid k2
            clear bel k2
            have fz := frozen_of_row w2 (w.heap.size + 1) 2 _ _ HD2.out
            have cz := cell_of_row w2 (w.heap.size + 1) 2 _ _ _ HD2.out
            simp only [List.getElem?_toArray, List.getElem?_cons_zero, List.getElem?_cons_succ] at cz
            go_wp2
            go_roundw
            case rel => exact ⟨3, _, by omega, rfl, Lib.hid ⟨n0, n1, n, _, g0, g1, Ho2.out, rfl⟩, Lib.hid (row_other HP2.out (by omega) _), Lib.hid (row_set HD2.out _), Lib.hid (HK2.out.setNew (by show w.heap.size ≤ (w.heap.size + 1); omega) _)⟩
            case measure => simp [intOf]
          | nil =>
            go_wp2_with fail
            refine (HC2.out _).mono ?_
            rintro e w2 ⟨rfl, bel⟩
            unfold cutV
            have k2 := HB.out.trans (Kp.of_below (X := None0) bel)
            have HP2 := Lib.hid ((bel.block _ (lt_of_block HP.out)).trans HP.out)
            have HD2 := Lib.hid ((bel.block _ (lt_of_block HC.out)).trans HC.out)
            have HK2 := Lib.hid k2
            clear bel k2
            have fz := frozen_of_row w2 (w.heap.size + 1) 2 _ _ HD2.out
            have cz := cell_of_row w2 (w.heap.size + 1) 2 _ _ _ HD2.out
            simp only [List.getElem?_toArray, List.getElem?_cons_zero, List.getElem?_cons_succ] at cz
            go_wp2
            go_roundw
            case rel => exact ⟨3, _, by omega, rfl, Lib.hid ⟨n0, n1, n, _, g0, g1, Ho2.out, rfl⟩, Lib.hid (row_other HP2.out (by omega) _), Lib.hid (row_set HD2.out _), Lib.hid (HK2.out.setNew (by show w.heap.size ≤ (w.heap.size + 1); omega) _)⟩
            case measure => simp [intOf]
      · have hv0 : _ = Value.int .i64 3 := hv
        subst hv0
        have HKc := HK.out
        obtain ⟨n0, n1, n2, r, g0, g1, g2, rfl⟩ := HKc
        have hK3 : K3 = some (n0, n1, n2) := by rw [← HK3.out]; exact clock3_yes g0 g1 g2
        subst hK3
        have HR2 := Lib.hid (HR.out.below (HB.out.below (Nat.le_refl _) (fun _ h => h.elim)))
        have z0 := cell_of_row wr (w.heap.size + 1) 0 _ _ _ HC.out
        have z1 := cell_of_row wr (w.heap.size + 1) 1 _ _ _ HC.out
        have z2 := cell_of_row wr (w.heap.size + 1) 2 _ _ _ HC.out
        simp only [List.getElem?_toArray, List.getElem?_cons_zero, List.getElem?_cons_succ] at z0 z1 z2
        have f5 := HR2.out.free 5
        have f6 := HR2.out.free 6
        have f7 := HR2.out.free 7
        have c5 := HR2.out.cell 5 (v := .int .i64 s.h) rfl
        have c6 := HR2.out.cell 6 (v := .int .i64 s.i) rfl
        have c7 := HR2.out.cell 7 (v := .int .i64 s.s) rfl
        go_wp2
        go_ret
        refine ⟨rfl, ?_, (((HB.out.mono (fun _ h => h.elim)).set1 5 _).set1 6 _).set1 7 _⟩
        exact ((HR2.out.set (s' := { s with h := n0 }) 5 _ rfl).set (s' := { s with h := n0, i := n1 }) 6 _ rfl).set (s' := { s with h := n0, i := n1, s := n2 }) 7 _ rfl

end Go.Proofs.YtllpdnmhabpbcaaGreatDoor
