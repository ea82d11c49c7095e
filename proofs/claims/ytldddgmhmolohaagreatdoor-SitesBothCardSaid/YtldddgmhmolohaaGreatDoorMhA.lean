/-
  Addresses that are compared.
  Plain words on hosts: a machine, below another one.
-/
import Derived.Test.YtldddgmhmolohaaGreatDoorMaC
import Derived.Laws.StructEq
import Derived.ChangeKeysEq
import Derived.Test.YtldddgmhmolohaaGreatDoorMaF
import Derived.Test.YtldddgmhmolohaaGreatDoorMrA
import Derived.Test.YtldddgmhmolohaaGreatDoorMaA
namespace Go.Proofs.YtldddgmhmolohaaGreatDoor
open Go.RowKit

theorem eqItems_self (d : Nat) (xs : Array Value) (w : World) (hx : ∀ i, i < 16 → ∃ n : Int, xs[i]? = some (.int .u8 n)) : ∀ is : List Nat, (∀ i ∈ is, i < 16) → (Op.eqItems (d + 1) 5 1 xs xs is).run Tryz.prog w = .ok true w
 | [], _ => by simp [Op.eqItems]
 | i :: is, h => by
  obtain ⟨n, hn⟩ := hx i (h i List.mem_cons_self)
  have hp : (part 5 xs (i * 1)).run Tryz.prog w = .ok (.int .u8 n) w := by
   rw [Nat.mul_one]
   have ha : (isAgg 5).run Tryz.prog w = .ok false w := by go_simp
   simp [part, Sem.run_bind, ha, Result.andThen, hn]
  simp only [Op.eqItems, Sem.run_bind, hp, Result.andThen_ok, run_equalIn_int w d 5 .u8 .u8 n n Tryz.underlying5]
  simp only [beq_self_eq_true, Bool.not_true, Bool.false_eq_true, if_false]
  exact eqItems_self d xs w hx is (fun j hj => h j (List.mem_cons_of_mem _ hj))
theorem part_six (six : Bool) (l : List Nat) (w : World) : (part 4 (cellsA six l) 0).run Tryz.prog w = .ok (.bool six) w := by
 have ha : (isAgg 4).run Tryz.prog w = .ok false w := by go_simp
 simp [part, Sem.run_bind, ha, Result.andThen, cellsA_zero]
theorem part_bytes (six : Bool) (l : List Nat) (w : World) : (part 70 (cellsA six l) 1).run Tryz.prog w = .ok (.agg ((cellsA six l).extract 1 17)) w := by
 have ha : (isAgg 70).run Tryz.prog w = .ok true w := by go_simp
 have hs : (sizeOf 70).run Tryz.prog w = .ok 16 w := by go_simp
 simp [part, Sem.run_bind, ha, hs, Result.andThen]
theorem fieldsA : (Tryz.prog.fieldsOf 72).toList.map (fun f => (f.name == "_", f.type, f.offset)) = [(false, 4, 0), (false, 70, 1)] := by kernel_rfl
theorem fields2 : ∃ f1 f2 : Field, (Tryz.prog.fieldsOf 72).toList = [f1, f2] ∧ (f1.name ≠ "_" ∧ f1.type = 4 ∧ f1.offset = 0) ∧ (f2.name ≠ "_" ∧ f2.type = 70 ∧ f2.offset = 1) := by
 have hf := fieldsA
 generalize (Tryz.prog.fieldsOf 72).toList = L at hf
 cases L with
 | nil => cases hf
 | cons f1 L =>
  cases L with
  | nil => simp at hf
  | cons f2 L =>
   cases L with
   | cons f3 L => simp at hf
   | nil =>
    simp only [List.map_cons, List.map_nil, List.cons.injEq, Prod.mk.injEq, and_true, beq_eq_false_iff_ne] at hf
    exact ⟨f1, f2, rfl, hf.1, hf.2⟩
theorem eqA_self (six : Bool) (l : List Nat) (hl : l.length = 16) (w : World) : (binOp .eql 72 (.agg (cellsA six l)) (.agg (cellsA six l))).run Tryz.prog w = .ok (.bool true) w := by
 have hS : Tryz.prog.underlying 72 = some (.struct (Tryz.prog.fieldsOf 72)) := by kernel_rfl
 have hp : Tryz.prog.stoodInHeld 72 = false := by kernel_rfl
 rw [run_eql_struct, show (10000 : Nat) = 9998 + 1 + 1 from rfl, run_equalIn_struct w (9998 + 1) 72 _ _ hS hp]
 obtain ⟨f1, f2, hF, ⟨n1, t1, o1⟩, n2, t2, o2⟩ := fields2
 rw [hF]
 have hx : ∀ i, i < 16 → ∃ n : Int, ((cellsA six l).extract 1 17)[i]? = some (.int .u8 n) := by
  intro i hi
  refine ⟨(l[i]'(by omega) : Nat), ?_⟩
  rw [Array.getElem?_extract, if_pos (by rw [cellsA_size]; omega), Nat.add_comm 1 i, cellsA_at, List.getElem?_eq_getElem (by omega)]; rfl
 have ha : (Op.equalIn (9998 + 1) 70 (.agg ((cellsA six l).extract 1 17)) (.agg ((cellsA six l).extract 1 17))).run Tryz.prog w = .ok true w := by
  obtain ⟨i0, hi0⟩ : ∃ i0, Tryz.prog.info? 5 = some i0 := by
   cases hq : Tryz.prog.info? 5 with
   | none => have : (Tryz.prog.info? 5).isSome = true := by kernel_rfl
             rw [hq] at this; cases this
   | some i0 => exact ⟨i0, rfl⟩
  have hc : Tryz.prog.cellsOf 5 = 1 := by kernel_rfl
  rw [run_equalIn_array w 9998 _ _ Tryz.underlying70 hi0, hc]
  exact eqItems_self 9997 _ w hx _ (fun i hi => List.mem_range.1 hi)
 simp only [Op.eqFields, n1, n2, ne_eq, not_false_eq_true, if_true, t1, t2, o1, o2, Sem.run_bind, part_six, part_bytes, Result.andThen_ok, run_equalIn_bool w 9998 4 six six Tryz.underlying4, ha, beq_self_eq_true, Bool.not_true, Bool.false_eq_true, if_false, Sem.run_pure]
theorem eqA_other (l m : List Nat) (w : World) : (binOp .eql 72 (.agg (cellsA true l)) (.agg (cellsA false m))).run Tryz.prog w = .ok (.bool false) w := by
 have hS : Tryz.prog.underlying 72 = some (.struct (Tryz.prog.fieldsOf 72)) := by kernel_rfl
 have hp : Tryz.prog.stoodInHeld 72 = false := by kernel_rfl
 rw [run_eql_struct, show (10000 : Nat) = 9998 + 1 + 1 from rfl, run_equalIn_struct w (9998 + 1) 72 _ _ hS hp]
 obtain ⟨f1, f2, hF, ⟨n1, t1, o1⟩, n2, t2, o2⟩ := fields2
 rw [hF]
 simp only [Op.eqFields, n1, ne_eq, not_false_eq_true, if_true, t1, o1, Sem.run_bind, part_six, Result.andThen_ok, run_equalIn_bool w 9998 4 true false Tryz.underlying4]
 rfl

end Go.Proofs.YtldddgmhmolohaaGreatDoor
namespace Go.Proofs.YtldddgmhmolohaaGreatDoor
open Go.RowKit

theorem ba_of {s t : ByteArray} (h : s.data.toList = t.data.toList) : s = t := ByteArray.ext (Array.toList_inj.1 h)
theorem keepW {w w' w'' : World} (h : Below w.heap.size w w') (k : Below w'.heap.size w' w'') : Below w.heap.size w w'' := h.trans (k.mono h.size)
/-- What Four answers, and whether it is four bytes. -/
theorem fourV_mach (l : List UInt8) : ∃ (C : Array Value) (b : Bool) (c : Int), fourV (fourD l) = .tuple #[.agg C, .bool b, .int .i64 c] ∧ C.size = 17 ∧ C.all (·.oneCell') = true ∧
  (b = false ∧ c = 0 ∨ b = true ∧ c = 5 ∨ b = true ∧ c = 0) ∧ (fourD l).1 = b ∧ ((fourD l).2.isSome && b) = (b && (c == 0)) := by
 match h : fourD l with
 | (false, o) => exact ⟨_, _, _, rfl, zeroA_size, zeroA_one, .inl ⟨rfl, rfl⟩, rfl, by simp⟩
 | (true, none) => exact ⟨_, _, _, rfl, zeroA_size, zeroA_one, .inr (.inl ⟨rfl, rfl⟩), rfl, rfl⟩
 | (true, some a) =>
  have hl : a.length = 4 := by
   unfold fourD at h
   split at h
   ·injection h with _ h
    split at h
    ·cases h
    ·rename_i h4
     split at h
     ·cases h
     ·rename_i ns hns
      have hl := evs_num_len _ _ hns
      exact (lay4_len ns 4 a (by omega) h).1
   ·injection h with h _; cases h
  exact ⟨_, _, _, rfl, by rw [cellsA_size, List.length_append, hl]; rfl, cellsA_one _ _, .inr (.inr ⟨rfl, rfl⟩), rfl, rfl⟩
/-- Is a host a machine? -/
def machB (s : ByteArray) : Bool := decide (s.data.toList.head? = some 91) || ((fourD s.data.toList).1 && (fourD s.data.toList).2.isSome)
theorem pre_one (l : List UInt8) (a : UInt8) : Lib.hasPrefix l [a] = decide (l.head? = some a) := by
 cases l with
 | nil => rfl
 | cons c l =>
  by_cases e : a = c
  ·subst e; simp [Lib.hasPrefix, List.isPrefixOf]
  ·simp [Lib.hasPrefix, List.isPrefixOf, e, Ne.symm e]
/-- Is a host another one, or below it? -/
def belowB (a b : ByteArray) : Bool := decide (a = b) || (decide (0 < b.size) && !machB a && !machB b && Lib.hasSuffix a.data.toList (46 :: b.data.toList))
theorem suf_short {a b : ByteArray} (h : a.size ≤ b.size) : Lib.hasSuffix a.data.toList (46 :: b.data.toList) = false := by
 rw [← Bool.not_eq_true]
 intro hs
 have := (List.isSuffixOf_iff_suffix.1 hs).length_le
 have h1 := lenB a
 have h2 := lenB b
 simp only [List.length_cons] at this
 omega
theorem below_self (a : ByteArray) : belowB a a = true := by simp [belowB]
theorem below_ne {a b : ByteArray} (h : a ≠ b) : belowB a b = (decide (0 < b.size) && !machB a && !machB b && Lib.hasSuffix a.data.toList (46 :: b.data.toList)) := by simp [belowB, h]
theorem neL {a b : ByteArray} (h : a ≠ b) : (a.toList == b.toList) = false := by
 rw [beq_eq_false_iff_ne, ByteArray.toList_eq, ByteArray.toList_eq]
 exact fun e => h (ba_of e)
theorem emF {s : ByteArray} (h : 0 < s.size) : s.toList.isEmpty = false := by
 rw [ByteArray.toList_eq, List.isEmpty_eq_false_iff, ← List.length_pos_iff, lenB]; exact h
theorem emT {s : ByteArray} (h : s.size = 0) : s.toList.isEmpty = true := by
 rw [ByteArray.toList_eq, List.isEmpty_iff, ← List.length_eq_zero_iff, lenB]; omega

end Go.Proofs.YtldddgmhmolohaaGreatDoor
