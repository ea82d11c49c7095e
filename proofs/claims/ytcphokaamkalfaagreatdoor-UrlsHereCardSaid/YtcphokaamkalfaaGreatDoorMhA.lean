/-
  Addresses that are compared.
  Plain words on hosts: a machine, below another one.
-/
import Derived.Test.YtcphokaamkalfaaGreatDoorMaC
import Derived.Laws.StructEq
import Derived.ChangeKeysEq
import Derived.Test.YtcphokaamkalfaaGreatDoorMaF
import Derived.Test.YtcphokaamkalfaaGreatDoorMrA
import Derived.Test.YtcphokaamkalfaaGreatDoorMaA
namespace Go.Proofs.YtcphokaamkalfaaGreatDoor
open Go.RowKit

theorem eqItems_self (d : Nat) (xs : Array Value) (w : World) (hx : ∀ i, i < 16 → ∃ n : Int, xs[i]? = some (.int .u8 n)) : ∀ is : List Nat, (∀ i ∈ is, i < 16) → (Op.eqItems (d + 1) 5 1 xs xs is).run Tryz.prog w = .ok true w
 | [], _ => by simp [Op.eqItems]
 | i :: is, h => by
  obtain ⟨n, hn⟩ := hx i (h i List.mem_cons_self)
  have hp : (part 5 xs (i * 1)).run Tryz.prog w = .ok (.int .u8 n) w := by
   rw [Nat.mul_one]
   have ha : (isAgg 5).run Tryz.prog w = .ok false w := by go_simp
   simp [part, Sem.run_bind, ha, Result.andThen, hn]
  simp only [Op.eqItems, Sem.run_bind, hp, Result.andThen_ok, run_equalIn_int w d 5 .u8 .u8 n n Tryz.underlying5]
  simp only [beq_self_eq_true, Bool.not_true, Bool.false_eq_true, if_false]
  exact eqItems_self d xs w hx is (fun j hj => h j (List.mem_cons_of_mem _ hj))
theorem part_six (six : Bool) (l : List Nat) (w : World) : (part 4 (cellsA six l) 0).run Tryz.prog w = .ok (.bool six) w := by
 have ha : (isAgg 4).run Tryz.prog w = .ok false w := by go_simp
 simp [part, Sem.run_bind, ha, Result.andThen, cellsA_zero]
theorem part_bytes (six : Bool) (l : List Nat) (w : World) : (part 52 (cellsA six l) 1).run Tryz.prog w = .ok (.agg ((cellsA six l).extract 1 17)) w := by
 have ha : (isAgg 52).run Tryz.prog w = .ok true w := by go_simp
 have hs : (sizeOf 52).run Tryz.prog w = .ok 16 w := by go_simp
 simp [part, Sem.run_bind, ha, hs, Result.andThen]
theorem fieldsA : (Tryz.prog.fieldsOf 54).toList.map (fun f => (f.name == "_", f.type, f.offset)) = [(false, 4, 0), (false, 52, 1)] := by kernel_rfl
theorem fields2 : ∃ f1 f2 : Field, (Tryz.prog.fieldsOf 54).toList = [f1, f2] ∧ (f1.name ≠ "_" ∧ f1.type = 4 ∧ f1.offset = 0) ∧ (f2.name ≠ "_" ∧ f2.type = 52 ∧ f2.offset = 1) := by
 have hf := fieldsA
 generalize (Tryz.prog.fieldsOf 54).toList = L at hf
 cases L with
 | nil => cases hf
 | cons f1 L =>
  cases L with
  | nil => simp at hf
  | cons f2 L =>
   cases L with
   | cons f3 L => simp at hf
   | nil =>
    simp only [List.map_cons, List.map_nil, List.cons.injEq, Prod.mk.injEq, and_true, beq_eq_false_iff_ne] at hf
    exact ⟨f1, f2, rfl, hf.1, hf.2⟩
theorem eqA_self (six : Bool) (l : List Nat) (hl : l.length = 16) (w : World) : (binOp .eql 54 (.agg (cellsA six l)) (.agg (cellsA six l))).run Tryz.prog w = .ok (.bool true) w := by
 have hS : Tryz.prog.underlying 54 = some (.struct (Tryz.prog.fieldsOf 54)) := by kernel_rfl
 have hp : Tryz.prog.stoodInHeld 54 = false := by kernel_rfl
 rw [run_eql_struct, show (10000 : Nat) = 9998 + 1 + 1 from rfl, run_equalIn_struct w (9998 + 1) 54 _ _ hS hp]
 obtain ⟨f1, f2, hF, ⟨n1, t1, o1⟩, n2, t2, o2⟩ := fields2
 rw [hF]
 have hx : ∀ i, i < 16 → ∃ n : Int, ((cellsA six l).extract 1 17)[i]? = some (.int .u8 n) := by
  intro i hi
  refine ⟨(l[i]'(by omega) : Nat), ?_⟩
  rw [Array.getElem?_extract, if_pos (by rw [cellsA_size]; omega), Nat.add_comm 1 i, cellsA_at, List.getElem?_eq_getElem (by omega)]; rfl
 have ha : (Op.equalIn (9998 + 1) 52 (.agg ((cellsA six l).extract 1 17)) (.agg ((cellsA six l).extract 1 17))).run Tryz.prog w = .ok true w := by
  obtain ⟨i0, hi0⟩ : ∃ i0, Tryz.prog.info? 5 = some i0 := by
   cases hq : Tryz.prog.info? 5 with
   | none => have : (Tryz.prog.info? 5).isSome = true := by kernel_rfl
             rw [hq] at this; cases this
   | some i0 => exact ⟨i0, rfl⟩
  have hc : Tryz.prog.cellsOf 5 = 1 := by kernel_rfl
  rw [run_equalIn_array w 9998 _ _ Tryz.underlying52 hi0, hc]
  exact eqItems_self 9997 _ w hx _ (fun i hi => List.mem_range.1 hi)
 simp only [Op.eqFields, n1, n2, ne_eq, not_false_eq_true, if_true, t1, t2, o1, o2, Sem.run_bind, part_six, part_bytes, Result.andThen_ok, run_equalIn_bool w 9998 4 six six Tryz.underlying4, ha, beq_self_eq_true, Bool.not_true, Bool.false_eq_true, if_false, Sem.run_pure]
theorem eqA_other (l m : List Nat) (w : World) : (binOp .eql 54 (.agg (cellsA true l)) (.agg (cellsA false m))).run Tryz.prog w = .ok (.bool false) w := by
 have hS : Tryz.prog.underlying 54 = some (.struct (Tryz.prog.fieldsOf 54)) := by kernel_rfl
 have hp : Tryz.prog.stoodInHeld 54 = false := by kernel_rfl
 rw [run_eql_struct, show (10000 : Nat) = 9998 + 1 + 1 from rfl, run_equalIn_struct w (9998 + 1) 54 _ _ hS hp]
 obtain ⟨f1, f2, hF, ⟨n1, t1, o1⟩, n2, t2, o2⟩ := fields2
 rw [hF]
 simp only [Op.eqFields, n1, ne_eq, not_false_eq_true, if_true, t1, o1, Sem.run_bind, part_six, Result.andThen_ok, run_equalIn_bool w 9998 4 true false Tryz.underlying4]
 rfl

end Go.Proofs.YtcphokaamkalfaaGreatDoor
namespace Go.Proofs.YtcphokaamkalfaaGreatDoor
open Go.RowKit

theorem ba_of {s t : ByteArray} (h : s.data.toList = t.data.toList) : s = t := ByteArray.ext (Array.toList_inj.1 h)
theorem keepW {w w' w'' : World} (h : Below w.heap.size w w') (k : Below w'.heap.size w' w'') : Below w.heap.size w w'' := h.trans (k.mono h.size)
theorem pre_one (l : List UInt8) (a : UInt8) : Lib.hasPrefix l [a] = decide (l.head? = some a) := by
 cases l with
 | nil => rfl
 | cons c l =>
  by_cases e : a = c
  ·subst e; simp [Lib.hasPrefix, List.isPrefixOf]
  ·simp [Lib.hasPrefix, List.isPrefixOf, e, Ne.symm e]
end Go.Proofs.YtcphokaamkalfaaGreatDoor
