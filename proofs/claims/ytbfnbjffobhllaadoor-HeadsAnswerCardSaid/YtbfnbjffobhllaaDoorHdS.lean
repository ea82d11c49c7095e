/-
  Package heads: a head's lines as they are written, one by one.
-/
import Derived.Test.YtbfnbjffobhllaaDoorHdK
import Derived.Lib.AppendStr
namespace Go.Proofs.YtbfnbjffobhllaaDoor
open Go.RowKit Go.Shelf
attribute [local go_sem] Oper.semAt_some

theorem infoBx : (Tryd.prog.info? 5).map (fun i => (i.zero, i.size, i.bytes)) = some (some (.int .u8 0), 1, 1) := by kernel_rfl
def bvV (c : UInt8) : Value := .int .u8 (c.toNat : Int)
/-- Bytes in a row of the call's own. -/
structure OwnB (base : Nat) (v : Value) (l : List UInt8) (w : World) : Prop where
  h : w.ownsRow base 5 1 v l.length (l.map bvV)
theorem OwnB.nil (base : Nat) (w : World) : OwnB base (.slice none 0 0) [] w := ⟨World.ownsRow_nil _ _ _ _⟩
theorem OwnB.later {base : Nat} {v : Value} {l : List UInt8} {w w' : World} (h : OwnB base v l w) (hb : Below w.heap.size w w') : OwnB base v l w' := ⟨own_kept h.h (Kp.of_below (X := fun _ => False) hb) fun _ _ => id⟩
theorem OwnB.mono {b base : Nat} {v : Value} {l : List UInt8} {w : World} (h : OwnB base v l w) (hb : b ≤ base) : OwnB b v l w := by
  obtain ⟨h1, h2⟩ := h.h
  refine ⟨⟨h1, ?_⟩⟩
  rcases h2 with h2 | ⟨g, cap, cur, hv, hg, r⟩
  · exact .inl h2
  · exact .inr ⟨g, cap, cur, hv, by omega, r⟩
theorem OwnB.setCell {base : Nat} {v : Value} {l : List UInt8} {w : World} (h : OwnB base v l w) {b k : Nat} (hb : b < base) (u : Value) : OwnB base v l (w.setCell ⟨b, k, none⟩ u) :=
  ⟨own_kept h.h ((Kp.refl (Only b) w).setCell (p := ⟨b, k, none⟩) rfl u) fun q hq e => by have : q = b := e; omega⟩
theorem OwnB.step {base : Nat} {v : Value} {l : List UInt8} {w : World} (h : OwnB base v l w) (s : ByteArray) (hn : l.length + s.size ≤ 100000000) (hb : base ≤ w.heap.size) :
    ∃ v' w1, (Builtin.append_ #[24, 9] 24 #[v, .string s]).run Tryd.prog w = .ok v' w1 ∧ OwnB base v' (l ++ s.data.toList) w1 ∧ w.grownBy w1 v.ownBlock := by
  obtain ⟨i0, hi, hz0, hz1, hz2⟩ := info_parts infoBx
  obtain ⟨v', w1, hrun, hown', hgrow, _⟩ := Lib.run_append_own_string (P := Tryd.prog) w base 24 9 24 5 i0 Tryd.underlying24 Tryd.underlying9 hi hz0 hz1 hz2
    v l.length _ h.h s (by unfold maxLen; omega) (by omega) hb
  refine ⟨v', w1, hrun, ⟨?_⟩, hgrow⟩
  rw [List.length_append, lenB, List.map_append]
  exact hown'
theorem ownB_form {base : Nat} {v : Value} {l : List UInt8} {w : World} (h : OwnB base v l w) : ∃ p c, v = .slice p l.length c ∧ l.length ≤ c ∧ c ≤ maxLen ∧ (p = none → c = 0) := by
  obtain ⟨_, h2 | ⟨g, cap, cur, rfl, _, _, h3, h4, _⟩⟩ := h.h
  · exact ⟨none, 0, by rw [h2.1, h2.2], by omega, by unfold maxLen; omega, fun _ => rfl⟩
  · exact ⟨_, _, rfl, h3, h4, fun e => by cases e⟩
theorem ownB_one {base : Nat} {v : Value} {l : List UInt8} {w : World} (h : OwnB base v l w) : v.oneCell' = true := by
  obtain ⟨p, c, rfl, _⟩ := ownB_form h; rfl
theorem ownB_grown {W W' : World} {row : Option Nat} {base : Nat} {v : Value} {l : List UInt8} (h : OwnB base v l W) (hg : W.grownBy W' row) (hr : ∀ r, row = some r → ∃ o : Obj, W.heap[r]? = some o ∧ o.isCells = false) : OwnB base v l W' := by
  refine ⟨h.h.kept hg ?_⟩
  cases hv : v.ownBlock with
  | none => exact .inl rfl
  | some q =>
    refine .inr fun e => ?_
    obtain ⟨o, ho, hc⟩ := hr q e.symm
    obtain ⟨_, h2 | ⟨g, cap, cur, rfl, hb, hh, _⟩⟩ := h.h
    · rw [h2.1] at hv; cases hv
    · cases hv
      rw [hh] at ho; cases ho; cases hc
theorem ownB_cells {base : Nat} {v : Value} {l : List UInt8} {W : World} (h : OwnB base v l W) {q : Nat} (hq : v.ownBlock = some q) {o : Obj} (ho : W.heap[q]? = some o) : o.isCells = true := by
  obtain ⟨_, h2 | ⟨g, cap, cur, rfl, hb, hh, _⟩⟩ := h.h
  · rw [h2.1] at hq; cases hq
  · cases hq
    rw [hh] at ho; cases ho; rfl

set_option maxHeartbeats 400000 in
theorem written_any (me ta : ByteArray) (st : Int) (vF vB : Value) (w : World) :
    Calls Tryd.prog 57 #[.agg (msgC me ta st vF vB)] w fun e w' => e = .returned (.func (.func 84) #[] #[.pointer (some ⟨w.heap.size, 0, none⟩)]) ∧ w.alloc (.cells (msgC me ta st vF vB) 26) = w' := by
  have hmf := mkfK
  go_enter Tryd.func57, Tryd.ntmps57
  go_wp2
  go_ret
  exact ⟨rfl, rfl⟩
/-- A line that is written. -/
abbrev LnP := { l : List UInt8 // l.length ≤ 1000000 }
def lpL (pre : List LnP) : List (List UInt8) := pre.map (·.1)
theorem lpL_app (a : List LnP) (b : LnP) : lpL (a ++ [b]) = lpL a ++ [b.1] := by simp [lpL]
def encP (l : LnP) : Array Value := #[.string (asB l.1)]
theorem hdIn_load_mid {F : Fence} {n : Nat} {P : Program} {ops : Array Oper} {rest : List Oper} {op : Oper} {a : Act} {w : World} {Q : Exit → Act → World → Prop} (hw : Region.wanted op (yielded ops a.tmps) = true) (ty : TypeId) (x : Operand) (ho : op.op = .load ty x)
    (b o : Nat) (hx : a.eval x = .pointer (some ⟨b, o, none⟩)) (cs : List Value) (d : TypeDesc) (hc : w.rangeAt b o cs)
    (hu : P.underlying ty = some d) (hd : d.isRow = true) (hi : (P.info? ty).map (·.size) = some cs.length)
    (h : wpListIn F n P ops Q rest (a.put op.dst (.agg cs.toArray)) w) : wpListIn F n P ops Q (op :: rest) a w := by
  refine wpListIn_step fun K hK' => ?_
  simp only [hw, if_true]
  unfold Oper.wpIn
  refine ⟨by simp [Oper.about, ho], ?_⟩
  rw [Oper.semAt_plain F _ _ (by rw [ho]; intro c hc'; cases hc')]
  simp only [execOp, ho, hx, Instr.loadAt, Instr.sureAddr, Sem.run_bind, Sem.run_pure, Result.andThen_ok, run_loadVar_mid w b o ty cs d hc hu hd hi]
  exact hK' _ _ h
theorem hd_asB_app (a b : List UInt8) : asB (a ++ b) = asB a ++ asB b := by
  apply ByteArray.ext
  rw [ByteArray.data_append]
  apply Array.toList_inj.1
  simp [asB]
theorem cat_F (x y : ByteArray) : asB (lineF (flB (x, y))) = x ++ ⟨#[58]⟩ ++ ⟨#[32]⟩ ++ y := by
  unfold lineF
  rw [hd_asB_app, hd_asB_app, hd_asB_app]; rfl
theorem cat_R (x y : ByteArray) : asB (lineR x.data.toList y.data.toList) = x ++ ⟨#[32]⟩ ++ y ++ ⟨#[32]⟩ ++ ⟨#[72, 84, 84, 80, 47, 49, 46, 49]⟩ := by
  unfold lineR
  rw [hd_asB_app, hd_asB_app, hd_asB_app, hd_asB_app]; rfl
theorem lineR_len (x y : ByteArray) : (lineR x.data.toList y.data.toList).length = x.size + y.size + 10 := by
  unfold lineR
  simp only [List.length_append, lenB, List.length_cons, List.length_nil, http1]; omega
theorem lineF_len (x y : ByteArray) : (lineF (flB (x, y))).length = x.size + y.size + 2 := by
  unfold lineF flB
  simp only [List.length_append, lenB, List.length_cons, List.length_nil]; omega

end Go.Proofs.YtbfnbjffobhllaaDoor
