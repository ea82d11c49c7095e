/-
  alive: some answers that the document fixes; all of them hold.
-/
import Derived.Test.YtgmjfnddeogfdabDoorTxZ
import Derived.Test.YtgmjfnddeogfdabDoorRdO
import Derived.Test.YtgmjfnddeogfdabDoorAdE
namespace Go.Proofs.YtgmjfnddeogfdabDoor
open Go.RowKit

theorem al_d0 : fourD [48, 120, 55, 102, 46, 49] = (true, some [127, 0, 0, 1]) := by decide +kernel
theorem al_0 (w : World) : Calls Tryd.prog 10 #[.string ⟨#[48, 120, 55, 102, 46, 49]⟩] w fun e w' => e = .returned (.tuple #[.agg #[.bool false, .int .u8 127, .int .u8 0, .int .u8 0, .int .u8 1, .int .u8 0, .int .u8 0, .int .u8 0, .int .u8 0, .int .u8 0, .int .u8 0, .int .u8 0, .int .u8 0, .int .u8 0, .int .u8 0, .int .u8 0, .int .u8 0], .bool true, .int .i64 0]) ∧ Below w.heap.size w w' := by
  have h := Four_any ⟨#[48, 120, 55, 102, 46, 49]⟩ w (by decide)
  rw [show (⟨#[48, 120, 55, 102, 46, 49]⟩ : ByteArray).data.toList = [48, 120, 55, 102, 46, 49] from rfl, al_d0] at h
  exact h
theorem al_d1 : fourD [97, 46, 98] = (false, none) := by decide +kernel
theorem al_1 (w : World) : Calls Tryd.prog 10 #[.string ⟨#[97, 46, 98]⟩] w fun e w' => e = .returned (.tuple #[.agg #[.bool false, .int .u8 0, .int .u8 0, .int .u8 0, .int .u8 0, .int .u8 0, .int .u8 0, .int .u8 0, .int .u8 0, .int .u8 0, .int .u8 0, .int .u8 0, .int .u8 0, .int .u8 0, .int .u8 0, .int .u8 0, .int .u8 0], .bool false, .int .i64 0]) ∧ Below w.heap.size w w' := by
  have h := Four_any ⟨#[97, 46, 98]⟩ w (by decide)
  rw [show (⟨#[97, 46, 98]⟩ : ByteArray).data.toList = [97, 46, 98] from rfl, al_d1] at h
  exact h
theorem al_d2 : fourD [50, 53, 54, 46, 49] = (true, none) := by decide +kernel
theorem al_2 (w : World) : Calls Tryd.prog 10 #[.string ⟨#[50, 53, 54, 46, 49]⟩] w fun e w' => e = .returned (.tuple #[.agg #[.bool false, .int .u8 0, .int .u8 0, .int .u8 0, .int .u8 0, .int .u8 0, .int .u8 0, .int .u8 0, .int .u8 0, .int .u8 0, .int .u8 0, .int .u8 0, .int .u8 0, .int .u8 0, .int .u8 0, .int .u8 0, .int .u8 0], .bool true, .int .i64 5]) ∧ Below w.heap.size w w' := by
  have h := Four_any ⟨#[50, 53, 54, 46, 49]⟩ w (by decide)
  rw [show (⟨#[50, 53, 54, 46, 49]⟩ : ByteArray).data.toList = [50, 53, 54, 46, 49] from rfl, al_d2] at h
  exact h
theorem al_d3 : sixD [50, 48, 48, 49, 58, 68, 66, 56, 58, 58, 48, 58, 49] = some [8193, 3512, 0, 0, 0, 0, 0, 1] := by decide +kernel
theorem al_3 (w : World) : Calls Tryd.prog 8 #[.string ⟨#[50, 48, 48, 49, 58, 68, 66, 56, 58, 58, 48, 58, 49]⟩] w fun e w' => e = .returned (.tuple #[.agg #[.bool true, .int .u8 32, .int .u8 1, .int .u8 13, .int .u8 184, .int .u8 0, .int .u8 0, .int .u8 0, .int .u8 0, .int .u8 0, .int .u8 0, .int .u8 0, .int .u8 0, .int .u8 0, .int .u8 0, .int .u8 0, .int .u8 1], .int .i64 0]) ∧ Below w.heap.size w w' := by
  have h := Six_any ⟨#[50, 48, 48, 49, 58, 68, 66, 56, 58, 58, 48, 58, 49]⟩ w (by decide)
  rw [show (⟨#[50, 48, 48, 49, 58, 68, 66, 56, 58, 58, 48, 58, 49]⟩ : ByteArray).data.toList = [50, 48, 48, 49, 58, 68, 66, 56, 58, 58, 48, 58, 49] from rfl, al_d3] at h
  exact h
theorem al_d4 : sixD [49, 58, 58, 50, 58, 58, 51] = none := by decide +kernel
theorem al_4 (w : World) : Calls Tryd.prog 8 #[.string ⟨#[49, 58, 58, 50, 58, 58, 51]⟩] w fun e w' => e = .returned (.tuple #[.agg #[.bool false, .int .u8 0, .int .u8 0, .int .u8 0, .int .u8 0, .int .u8 0, .int .u8 0, .int .u8 0, .int .u8 0, .int .u8 0, .int .u8 0, .int .u8 0, .int .u8 0, .int .u8 0, .int .u8 0, .int .u8 0, .int .u8 0], .int .i64 5]) ∧ Below w.heap.size w w' := by
  have h := Six_any ⟨#[49, 58, 58, 50, 58, 58, 51]⟩ w (by decide)
  rw [show (⟨#[49, 58, 58, 50, 58, 58, 51]⟩ : ByteArray).data.toList = [49, 58, 58, 50, 58, 58, 51] from rfl, al_d4] at h
  exact h
theorem al_d5 : sixD [49, 58, 48, 58, 48, 58, 50, 58, 48, 58, 48, 58, 48, 58, 51] = some [1, 0, 0, 2, 0, 0, 0, 3] := by decide +kernel
theorem al_5 (w : World) : Calls Tryd.prog 8 #[.string ⟨#[49, 58, 48, 58, 48, 58, 50, 58, 48, 58, 48, 58, 48, 58, 51]⟩] w fun e w' => e = .returned (.tuple #[.agg #[.bool true, .int .u8 0, .int .u8 1, .int .u8 0, .int .u8 0, .int .u8 0, .int .u8 0, .int .u8 0, .int .u8 2, .int .u8 0, .int .u8 0, .int .u8 0, .int .u8 0, .int .u8 0, .int .u8 0, .int .u8 0, .int .u8 3], .int .i64 0]) ∧ Below w.heap.size w w' := by
  have h := Six_any ⟨#[49, 58, 48, 58, 48, 58, 50, 58, 48, 58, 48, 58, 48, 58, 51]⟩ w (by decide)
  rw [show (⟨#[49, 58, 48, 58, 48, 58, 50, 58, 48, 58, 48, 58, 48, 58, 51]⟩ : ByteArray).data.toList = [49, 58, 48, 58, 48, 58, 50, 58, 48, 58, 48, 58, 48, 58, 51] from rfl, al_d5] at h
  exact h
theorem al_t0 : textD false [127, 0, 0, 1, 0, 0, 0, 0, 0, 0, 0, 0, 0, 0, 0, 0] = [49, 50, 55, 46, 48, 46, 48, 46, 49] := by decide +kernel
theorem al_text0 (w : World) (h10 : Fmt 10 256 w) (h16 : Fmt 16 65536 w) : Calls Tryd.prog 9 #[.agg #[.bool false, .int .u8 127, .int .u8 0, .int .u8 0, .int .u8 1, .int .u8 0, .int .u8 0, .int .u8 0, .int .u8 0, .int .u8 0, .int .u8 0, .int .u8 0, .int .u8 0, .int .u8 0, .int .u8 0, .int .u8 0, .int .u8 0]] w fun e w' => e = .returned (.string ⟨#[49, 50, 55, 46, 48, 46, 48, 46, 49]⟩) ∧ Below w.heap.size w w' := by
  have h := Text_any false [127, 0, 0, 1, 0, 0, 0, 0, 0, 0, 0, 0, 0, 0, 0, 0] w rfl (by decide) h10 h16
  rw [al_t0] at h
  exact h
theorem al_t3 : textD true [32, 1, 13, 184, 0, 0, 0, 0, 0, 0, 0, 0, 0, 0, 0, 1] = [50, 48, 48, 49, 58, 100, 98, 56, 58, 58, 49] := by decide +kernel
theorem al_text3 (w : World) (h10 : Fmt 10 256 w) (h16 : Fmt 16 65536 w) : Calls Tryd.prog 9 #[.agg #[.bool true, .int .u8 32, .int .u8 1, .int .u8 13, .int .u8 184, .int .u8 0, .int .u8 0, .int .u8 0, .int .u8 0, .int .u8 0, .int .u8 0, .int .u8 0, .int .u8 0, .int .u8 0, .int .u8 0, .int .u8 0, .int .u8 1]] w fun e w' => e = .returned (.string ⟨#[50, 48, 48, 49, 58, 100, 98, 56, 58, 58, 49]⟩) ∧ Below w.heap.size w w' := by
  have h := Text_any true [32, 1, 13, 184, 0, 0, 0, 0, 0, 0, 0, 0, 0, 0, 0, 1] w rfl (by decide) h10 h16
  rw [al_t3] at h
  exact h
theorem al_t5 : textD true [0, 1, 0, 0, 0, 0, 0, 2, 0, 0, 0, 0, 0, 0, 0, 3] = [49, 58, 48, 58, 48, 58, 50, 58, 58, 51] := by decide +kernel
theorem al_text5 (w : World) (h10 : Fmt 10 256 w) (h16 : Fmt 16 65536 w) : Calls Tryd.prog 9 #[.agg #[.bool true, .int .u8 0, .int .u8 1, .int .u8 0, .int .u8 0, .int .u8 0, .int .u8 0, .int .u8 0, .int .u8 2, .int .u8 0, .int .u8 0, .int .u8 0, .int .u8 0, .int .u8 0, .int .u8 0, .int .u8 0, .int .u8 3]] w fun e w' => e = .returned (.string ⟨#[49, 58, 48, 58, 48, 58, 50, 58, 58, 51]⟩) ∧ Below w.heap.size w w' := by
  have h := Text_any true [0, 1, 0, 0, 0, 0, 0, 2, 0, 0, 0, 0, 0, 0, 0, 3] w rfl (by decide) h10 h16
  rw [al_t5] at h
  exact h

theorem wpL_build {P : Program} {ops : Array Oper} {rest : List Oper} {o : Oper} {a : Act} {w : World} {Q : Exit → Act → World → Prop} (hgd : o.guard = none) (t : TypeId) (l : List (Nat × Operand)) (ho : o.op = .build t l.toArray)
    (cells : Array Value) (hc : P.built t (l.map fun p => (p.1, a.eval p.2)) = some cells)
    (h : wpList P ops Q rest (a.put o.dst (.agg cells)) w) : wpList P ops Q (o :: rest) a w := by
  have e : (l.toArray.map fun (i, x) => (i, a.eval x)).toList = l.map fun p => (p.1, a.eval p.2) := by simp
  exact wpList_plain hgd fun _ hK => wp_build t l.toArray ho (by rw [e, hc]; rfl) (by rw [e, hc]; exact hK _ _ h)
theorem built_B (a b c d : Int) : Tryd.prog.built 22 [(0, .int .u8 a), (1, .int .u8 b), (2, .int .u8 c), (3, .int .u8 d)] = some #[.int .u8 a, .int .u8 b, .int .u8 c, .int .u8 d, .int .u8 0, .int .u8 0, .int .u8 0, .int .u8 0, .int .u8 0, .int .u8 0, .int .u8 0, .int .u8 0, .int .u8 0, .int .u8 0, .int .u8 0, .int .u8 0] := by kernel_rfl
theorem built_A (x0 x1 x2 x3 x4 x5 x6 x7 x8 x9 y0 y1 y2 y3 y4 y5 : Value) : Tryd.prog.built 24 [(1, .agg #[x0, x1, x2, x3, x4, x5, x6, x7, x8, x9, y0, y1, y2, y3, y4, y5])] = some #[.bool false, x0, x1, x2, x3, x4, x5, x6, x7, x8, x9, y0, y1, y2, y3, y4, y5] := by kernel_rfl
theorem built_S (v : Bool) (x0 x1 x2 x3 x4 x5 x6 x7 x8 x9 y0 y1 y2 y3 y4 y5 : Value) : Tryd.prog.built 24 [(0, .bool v), (1, .agg #[x0, x1, x2, x3, x4, x5, x6, x7, x8, x9, y0, y1, y2, y3, y4, y5])] = some #[.bool v, x0, x1, x2, x3, x4, x5, x6, x7, x8, x9, y0, y1, y2, y3, y4, y5] := by kernel_rfl
set_option maxRecDepth 100000 in
set_option maxHeartbeats 1000000 in
theorem four_any2 (a b c d : Nat) (w : World) : Calls Tryd.prog 11 #[.int .u8 (a : Int), .int .u8 (b : Int), .int .u8 (c : Int), .int .u8 (d : Int)] w fun e w' => e = .returned (.agg #[.bool false, .int .u8 (a : Int), .int .u8 (b : Int), .int .u8 (c : Int), .int .u8 (d : Int), .int .u8 0, .int .u8 0, .int .u8 0, .int .u8 0, .int .u8 0, .int .u8 0, .int .u8 0, .int .u8 0, .int .u8 0, .int .u8 0, .int .u8 0, .int .u8 0]) ∧ Below w.heap.size w w' := by
  obtain ⟨hz, hi⟩ := zero_of_info infoA
  have HI := Lib.hid hi; clear hi
  have HZs : Hid (zeroA.size = 17) := Lib.hid zeroA_size
  have HO : Hid ((#[.bool false, .int .u8 (a : Int), .int .u8 (b : Int), .int .u8 (c : Int), .int .u8 (d : Int), .int .u8 0, .int .u8 0, .int .u8 0, .int .u8 0, .int .u8 0, .int .u8 0, .int .u8 0, .int .u8 0, .int .u8 0, .int .u8 0, .int .u8 0, .int .u8 0] : Array Value).all (·.oneCell') = true) := Lib.hid (cellsA_one false [a, b, c, d, 0, 0, 0, 0, 0, 0, 0, 0, 0, 0, 0, 0])
  have H22 := Lib.hid (built_B a b c d)
  have H24 := Lib.hid (built_A (.int .u8 (a : Int)) (.int .u8 (b : Int)) (.int .u8 (c : Int)) (.int .u8 (d : Int)) (.int .u8 0) (.int .u8 0) (.int .u8 0) (.int .u8 0) (.int .u8 0) (.int .u8 0) (.int .u8 0) (.int .u8 0) (.int .u8 0) (.int .u8 0) (.int .u8 0) (.int .u8 0))
  go_enter Tryd.func11, Tryd.ntmps11
  go_wp2_with (first | (refine wpL_build rfl 22 _ rfl #[.int .u8 (a : Int), .int .u8 (b : Int), .int .u8 (c : Int), .int .u8 (d : Int), .int .u8 0, .int .u8 0, .int .u8 0, .int .u8 0, .int .u8 0, .int .u8 0, .int .u8 0, .int .u8 0, .int .u8 0, .int .u8 0, .int .u8 0, .int .u8 0] ?_ ?_; exact H22.out) | (refine wpL_build rfl 24 _ rfl #[.bool false, .int .u8 (a : Int), .int .u8 (b : Int), .int .u8 (c : Int), .int .u8 (d : Int), .int .u8 0, .int .u8 0, .int .u8 0, .int .u8 0, .int .u8 0, .int .u8 0, .int .u8 0, .int .u8 0, .int .u8 0, .int .u8 0, .int .u8 0, .int .u8 0] ?_ ?_; exact H24.out) | (refine wpL_store_row rfl 24 _ _ rfl w.heap.size #[.bool false, .int .u8 (a : Int), .int .u8 (b : Int), .int .u8 (c : Int), .int .u8 (d : Int), .int .u8 0, .int .u8 0, .int .u8 0, .int .u8 0, .int .u8 0, .int .u8 0, .int .u8 0, .int .u8 0, .int .u8 0, .int .u8 0, .int .u8 0, .int .u8 0] ?_ ?_ 24 zeroA ?_ ?_ ?_ ?_ ?_; exact rfl; exact rfl; exact heap_alloc_new w _; exact HI.out; exact HZs.out; exact HO.out; rw [World.setRow_alloc_new]))
  refine bodyPost_ret (v := .agg #[.bool false, .int .u8 (a : Int), .int .u8 (b : Int), .int .u8 (c : Int), .int .u8 (d : Int), .int .u8 0, .int .u8 0, .int .u8 0, .int .u8 0, .int .u8 0, .int .u8 0, .int .u8 0, .int .u8 0, .int .u8 0, .int .u8 0, .int .u8 0, .int .u8 0]) (results_cell_row (P := Tryd.prog) Tryd.results11 _ _ w.heap.size _ _ (0, 0) _ rfl (heap_alloc_new w _) Tryd.underlying24 rfl HI.out) rfl ⟨rfl, ?_⟩
  exact (Below.refl _ _).alloc (Nat.le_refl _) _


end Go.Proofs.YtgmjfnddeogfdabDoor
