/-
  What is told of a cookie comes in: a struct of eleven fields.
-/
import Derived.Test.YtblofndehbagnaaGreatDoorMath
import Derived.Test.YtblofndehbagnaaGreatDoorRows
import Derived.ProofKit
import Derived.OpenShut
import Derived.ShutString
import Derived.ChangeOld
import Derived.Below
import Derived.SizedLaws
namespace Go.Proofs.YtblofndehbagnaaGreatDoor
open Go.ChangeShapes Go.WideShapes Go.ChangeAt Go.RowKit

set_option maxRecDepth 100000 in
theorem structT : ∃ f0 f1 f2 f3 f4 f5 f6 f7 f8 f9 f10 : Field, Tryz.prog.underlying 24 = some (.struct #[f0, f1, f2, f3, f4, f5, f6, f7, f8, f9, f10]) ∧ (f0.type = 9 ∧ f0.offset = 0) ∧ (f1.type = 9 ∧ f1.offset = 1) ∧ (f2.type = 9 ∧ f2.offset = 2) ∧ (f3.type = 9 ∧ f3.offset = 3) ∧ (f4.type = 3 ∧ f4.offset = 4) ∧ (f5.type = 4 ∧ f5.offset = 5) ∧ (f6.type = 3 ∧ f6.offset = 6) ∧ (f7.type = 4 ∧ f7.offset = 7) ∧ (f8.type = 4 ∧ f8.offset = 8) ∧ (f9.type = 4 ∧ f9.offset = 9) ∧ (f10.type = 22 ∧ f10.offset = 10) :=
  ⟨_, _, _, _, _, _, _, _, _, _, _, Tryz.underlying24, ⟨rfl, rfl⟩, ⟨rfl, rfl⟩, ⟨rfl, rfl⟩, ⟨rfl, rfl⟩, ⟨rfl, rfl⟩, ⟨rfl, rfl⟩, ⟨rfl, rfl⟩, ⟨rfl, rfl⟩, ⟨rfl, rfl⟩, ⟨rfl, rfl⟩, ⟨rfl, rfl⟩⟩
theorem elev {α : Type} : ∀ {l : List α}, l.length = 11 → ∃ a b c d e f g h i j k, l = [a, b, c, d, e, f, g, h, i, j, k]
  | [a, b, c, d, e, f, g, h, i, j, k], _ => ⟨a, b, c, d, e, f, g, h, i, j, k, rfl⟩
theorem cellsOfT : Tryz.prog.cellsOf 24 = 11 ∧ Tryz.prog.cellsOf 9 = 1 ∧ Tryz.prog.cellsOf 3 = 1 ∧ Tryz.prog.cellsOf 4 = 1 ∧ Tryz.prog.cellsOf 22 = 1 := ⟨by kernel_rfl, by kernel_rfl, by kernel_rfl, by kernel_rfl, by kernel_rfl⟩
set_option maxRecDepth 100000 in
set_option maxHeartbeats 1000000 in
theorem open_told {H : Type} {enc : TypeId × Value → H} {W : World} {r : Reach} {b0 : Nat} {v : Value} {d : DataW H} {ps : List MemPlace} (hv : Value.okWide Tryz.prog W r b0 24 v)
    (h : DataW.Trod enc Tryz.prog W 0 (fun _ => true) true 24 v d ps) (hw : ∀ n ∈ DataW.weights Tryz.prog 24 d, n ≤ reachBytes) :
    ∃ (nm vl dm pa : ByteArray) (ex ag si : Int) (hx ha se hi : Bool), v = .agg #[.string nm, .string vl, .string dm, .string pa, .int .i64 ex, .bool hx, .int .i64 ag, .bool ha, .bool se, .bool hi, .int .u8 si] ∧ (nm.size ≤ 140737488355328 ∧ vl.size ≤ 140737488355328 ∧ dm.size ≤ 140737488355328 ∧ pa.size ≤ 140737488355328) ∧ (Lit.int .i64 ex).wf = true ∧ (Lit.int .i64 ag).wf = true ∧ (Lit.int .u8 si).wf = true := by
  obtain ⟨f0, f1, f2, f3, f4, f5, f6, f7, f8, f9, f10, hs, ⟨t0, o0⟩, ⟨t1, o1⟩, ⟨t2, o2⟩, ⟨t3, o3⟩, ⟨t4, o4⟩, ⟨t5, o5⟩, ⟨t6, o6⟩, ⟨t7, o7⟩, ⟨t8, o8⟩, ⟨t9, o9⟩, ⟨t10, o10⟩⟩ := structT
  obtain ⟨cu, cS, cI, cB, cU⟩ := cellsOfT
  obtain ⟨cs, rfl, hsz⟩ := okWide_struct hs hv
  obtain ⟨fuel, hf⟩ := h
  obtain ⟨xs, n, _, hx, hl, hn, hf2⟩ := DataW.trod_struct hs hf
  rw [cu] at hl hsz
  have hn' : xs.length = 11 := hn
  obtain ⟨y0, y1, y2, y3, y4, y5, y6, y7, y8, y9, y10, rfl⟩ := elev hn'
  obtain ⟨c0, c1, c2, c3, c4, c5, c6, c7, c8, c9, c10, hc⟩ := elev (show cs.toList.length = 11 by simpa using hsz)
  have hd := (Prod.mk.inj hx).1
  have hcl : (Value.agg cs).cells.toList = cs.toList := rfl
  rw [hcl, hc] at hf2
  have g0 := hf2 0 f0 rfl
  rw [t0, o0, cS] at g0
  obtain ⟨nm, e0, z0, _⟩ := DataW.trod_string Tryz.underlying9 g0
  obtain rfl := (List.cons.inj (show [c0] = [_] from e0)).1
  have g1 := hf2 1 f1 rfl
  rw [t1, o1, cS] at g1
  obtain ⟨vl, e1, z1, _⟩ := DataW.trod_string Tryz.underlying9 g1
  obtain rfl := (List.cons.inj (show [c1] = [_] from e1)).1
  have g2 := hf2 2 f2 rfl
  rw [t2, o2, cS] at g2
  obtain ⟨dm, e2, z2, _⟩ := DataW.trod_string Tryz.underlying9 g2
  obtain rfl := (List.cons.inj (show [c2] = [_] from e2)).1
  have g3 := hf2 3 f3 rfl
  rw [t3, o3, cS] at g3
  obtain ⟨pa, e3, z3, _⟩ := DataW.trod_string Tryz.underlying9 g3
  obtain rfl := (List.cons.inj (show [c3] = [_] from e3)).1
  have g4 := hf2 4 f4 rfl
  rw [t4, o4, cI] at g4
  obtain ⟨ex, e4, z4, w4⟩ := DataW.trod_int Tryz.underlying3 g4
  obtain rfl := (List.cons.inj (show [c4] = [_] from e4)).1
  have g5 := hf2 5 f5 rfl
  rw [t5, o5, cB] at g5
  obtain ⟨hx_, e5, z5⟩ := DataW.trod_bool Tryz.underlying4 g5
  obtain rfl := (List.cons.inj (show [c5] = [_] from e5)).1
  have g6 := hf2 6 f6 rfl
  rw [t6, o6, cI] at g6
  obtain ⟨ag, e6, z6, w6⟩ := DataW.trod_int Tryz.underlying3 g6
  obtain rfl := (List.cons.inj (show [c6] = [_] from e6)).1
  have g7 := hf2 7 f7 rfl
  rw [t7, o7, cB] at g7
  obtain ⟨ha, e7, z7⟩ := DataW.trod_bool Tryz.underlying4 g7
  obtain rfl := (List.cons.inj (show [c7] = [_] from e7)).1
  have g8 := hf2 8 f8 rfl
  rw [t8, o8, cB] at g8
  obtain ⟨se, e8, z8⟩ := DataW.trod_bool Tryz.underlying4 g8
  obtain rfl := (List.cons.inj (show [c8] = [_] from e8)).1
  have g9 := hf2 9 f9 rfl
  rw [t9, o9, cB] at g9
  obtain ⟨hi, e9, z9⟩ := DataW.trod_bool Tryz.underlying4 g9
  obtain rfl := (List.cons.inj (show [c9] = [_] from e9)).1
  have g10 := hf2 10 f10 rfl
  rw [t10, o10, cU] at g10
  obtain ⟨si, e10, z10, w10⟩ := DataW.trod_int Tryz.underlying22 g10
  obtain rfl := (List.cons.inj (show [c10] = [_] from e10)).1
  subst hd
  have hW : ∀ s : ByteArray, s.data.toList.length ≤ reachBytes → s.size ≤ 140737488355328 := fun s h => by
    unfold reachBytes at h
    have e : s.data.toList.length = s.size := by simp
    omega
  have hm : DataW.weights Tryz.prog 24 (DataW.agg (List.map (·.1) [y0, y1, y2, y3, y4, y5, y6, y7, y8, y9, y10])) = [nm.data.toList.length, vl.data.toList.length, dm.data.toList.length, pa.data.toList.length] := by
    simp [DataW.weights, hs, DataW.weightsEach, z0, z1, z2, z3, z4, z5, z6, z7, z8, z9, z10]
  rw [hm] at hw
  refine ⟨nm, vl, dm, pa, ex, ag, si, hx_, ha, se, hi, ?_, ⟨hW _ (hw _ (by simp)), hW _ (hw _ (by simp)), hW _ (hw _ (by simp)), hW _ (hw _ (by simp))⟩, w4, w6, w10⟩
  show Value.agg cs = _
  rw [← Array.toArray_toList (xs := cs), hc]

end Go.Proofs.YtblofndehbagnaaGreatDoor
