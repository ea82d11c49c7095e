/-
  The digits of a number, told one by one: the iterator's contract.
  What a body that holds ranges over functions needs: an append within a fence whose run is known; the marks that it leaves; the digits' function; what the numbers of few letters are.
  The inner loop of the numbers' telling: what lies where between two of its rounds. And how many digits a number has.
  Contract: the document's told.
  The document's Signs, plainly; what it answers.
-/
import Derived.RangeFuncNested
import Derived.RangeFuncBound
import Derived.RangeFuncCalls
import Derived.RangeFuncLeaves
import Derived.Shelf.Abstract
import Derived.Shelf.RegionOpen
import Derived.OwnWalkIn
import Derived.TacticsInMore
import Derived.LoopNIn
import Derived.LoopIn
import Derived.Test.YtcphokaamkalfaaGreatDoorMpD
import Derived.RangeFuncBox
import Derived.Test.YtcphokaamkalfaaGreatDoorMpG
import Derived.Test.YtcphokaamkalfaaGreatDoorMpC
import Derived.Lib.DecodeN
namespace Go.Proofs.YtcphokaamkalfaaGreatDoor
open Go.RowKit Go.Shelf
attribute [local go_sem] Oper.semAt_some

/-- A number's digits, from k on. -/
def digsL : Nat → Nat → Nat → Nat → List UInt8
 | 0, n, _, _ => [letL n]
 | f + 1, n, k, b => if n < stepN k b then [letL n] else letL (stepN k b + (n - stepN k b) % (36 - stepN k b)) :: digsL f ((n - stepN k b) / (36 - stepN k b)) (k + 36) b
theorem digsL_end {f n k b : Nat} (h : n < stepN k b) : digsL f n k b = [letL n] := by
 cases f with
 | zero => rfl
 | succ f => rw [digsL, if_pos h]
theorem digsL_on {f n k b : Nat} (h : ¬ n < stepN k b) : digsL (f + 1) n k b = letL (stepN k b + (n - stepN k b) % (36 - stepN k b)) :: digsL f ((n - stepN k b) / (36 - stepN k b)) (k + 36) b := by rw [digsL, if_neg h]

set_option maxHeartbeats 1000000 in
set_option maxRecDepth 1000000 in
theorem digits1_in (n : Nat) (hn : 1 ≤ n) (l Bn Bb number bias : Nat) (J Jx : List UInt8 → World → Prop) (hnum : number ≤ 1000000000000000) (hbias : bias ≤ 756)
  (hY : ∀ pre x W, J pre W → pre.length < (digsL number number 36 bias).length → YieldAt Fence.wide (n - 1) Tryz.prog l #[.int .u8 x.toNat] W fun e W' =>
   (e = .returned (.bool true) ∧ J (pre ++ [x]) W' ∧ W'.heap[Bb]? = W.heap[Bb]?) ∨ (e = .returned (.bool false) ∧ Jx (pre ++ [x]) W'))
  (W : World) (hBn : W.cell? ⟨Bn, 0, none⟩ = some (.int .i64 number)) (hBb : W.heap[Bb]? = some (.cells #[.int .i64 bias] 3 (0, 0))) (h0 : J [] W) :
  CallsIn Fence.wide n Tryz.prog 185 #[.func (.yield l) #[] #[], .pointer (some ⟨Bn, 0, none⟩), .pointer (some ⟨Bb, 0, none⟩)] W fun e W' => (∃ v, e = .returned v) ∧
   ((∃ ys, ys = digsL number number 36 bias ∧ J ys W') ∨ (∃ pre, pre <+: digsL number number 36 bias ∧ Jx pre W')) := by
 obtain ⟨T, HT⟩ : ∃ T, Hid (digsL number number 36 bias = T) := ⟨_, Lib.hid rfl⟩
 rw [HT.out] at hY ⊢
 have HBb := Lib.hid hBb
 clear hBb
 refine callsIn_of_wp Tryz.func185 rfl trivial ?_ rfl
 simp only [Tryz.ntmps185, List.size_toArray, List.length_cons, List.length_nil, Nat.reduceAdd, Nat.reduceSub, Array.replicate_succ, Array.replicate_zero, List.push_toArray, List.append_toArray, List.nil_append, List.cons_append]
 gi_wp2
 gi_loopw [4, 5] (fun vl vk wr => ∃ (f left k : Nat) (pre : List UInt8), vl = .int .i64 left ∧ vk = .int .i64 k ∧ left ≤ f ∧ left ≤ 1000000000000000 ∧ k ≤ 36 * (1000000000000001 - left) ∧ Hid (pre ++ digsL f left k bias = T) ∧ Hid (J pre wr) ∧ Hid (wr.heap[Bb]? = W.heap[Bb]?)) (fun vl _ _ => (intOf vl).toNat)
 case atStart => exact ⟨number, number, 36, [], rfl, rfl, Nat.le_refl _, hnum, by omega, Lib.hid (by rw [List.nil_append]; exact HT.out), Lib.hid h0, Lib.hid rfl⟩
 case round =>
  obtain ⟨f, left, k, pre, rfl, rfl, hlf, hll, hk, HE, HJ, HB⟩ := hrel
  have hcb : wr.cell? ⟨Bb, 0, none⟩ = some (.int .i64 bias) := cell_of_one (HB.out.trans HBb.out)
  obtain ⟨t, Ht⟩ : ∃ t, Hid (stepN k bias = t) := ⟨_, Lib.hid rfl⟩
  have htb := stepN_bd k bias
  rw [Ht.out] at htb
  obtain ⟨ht1, ht2⟩ := htb
  have HSt : Hid (∀ w, CallsIn Fence.wide (n - 1) Tryz.prog 186 #[.int .i64 k, .int .i64 bias] w fun e w' => e = .returned (.int .i64 t) ∧ w = w') := Lib.hid (fun w => by
   rw [← Ht.out]; exact callsIn_wide.2 (step_any k bias w (by omega) (by omega)))
  by_cases hlt : left < t
  ·have HLt : Hid (∀ w, CallsIn Fence.wide (n - 1) Tryz.prog 187 #[.int .i64 left] w fun e w' => e = .returned (.int .u8 (letL left).toNat) ∧ w = w') := Lib.hid (fun w => callsIn_wide.2 (letter_any left w (by omega)))
   have HT2 : Hid (pre ++ [letL left] = T) := Lib.hid (by rw [← HE.out, digsL_end (by rw [Ht.out]; exact hlt)])
   obtain ⟨fn, tmps, assign, body, hy, hR⟩ := hY pre (letL left) wr HJ.out (by rw [← HT2.out]; simp)
   gi_wp2_with (first | (refine ⟨trivial, ?_⟩; gi_at_call 186; refine (HSt.out _).mono ?_; rintro e w' ⟨rfl, rfl⟩) | (refine ⟨trivial, ?_⟩; gi_at_call 187; refine (HLt.out _).mono ?_; rintro e w' ⟨rfl, rfl⟩))
   refine hR.mono ?_
   rintro e W3 (⟨rfl, hJ3, hk3⟩ | ⟨rfl, hJx3⟩)
   ·have HJ3 := Lib.hid hJ3
    clear hJ3 hk3
    gi_wp2
    refine bodyPost_ret (results_none rfl _ _ _) rfl ?_
    exact ⟨⟨_, rfl⟩, .inl ⟨_, HT2.out, HJ3.out⟩⟩
   ·have HJ3 := Lib.hid hJx3
    clear hJx3
    gi_wp2
    refine bodyPost_ret (results_none rfl _ _ _) rfl ?_
    exact ⟨⟨_, rfl⟩, .inr ⟨_, by rw [HT2.out]; exact List.prefix_rfl, HJ3.out⟩⟩
  ·obtain ⟨f, rfl⟩ : ∃ q, f = q + 1 := ⟨f - 1, by omega⟩
   obtain ⟨d, Hd⟩ : ∃ d, Hid (d = t + (left - t) % (36 - t)) := ⟨_, Lib.hid rfl⟩
   obtain ⟨nx, Hnx⟩ : ∃ nx, Hid (nx = (left - t) / (36 - t)) := ⟨_, Lib.hid rfl⟩
   have hmod : (left - t) % (36 - t) < 36 - t := Nat.mod_lt _ (by omega)
   have hd36 : d < 36 := by rw [Hd.out]; omega
   have hdz : (t : Int) + ((left : Int) - (t : Int)) % (36 - (t : Int)) = (d : Int) := by
    have e1 : (left : Int) - (t : Int) = ((left - t : Nat) : Int) := by omega
    have e2 : 36 - (t : Int) = ((36 - t : Nat) : Int) := by omega
    rw [e1, e2, Hd.out]; simp
   have hnz : ((left : Int) - (t : Int)) / (36 - (t : Int)) = (nx : Int) := by
    have e1 : (left : Int) - (t : Int) = ((left - t : Nat) : Int) := by omega
    have e2 : 36 - (t : Int) = ((36 - t : Nat) : Int) := by omega
    rw [e1, e2, Hnx.out]; simp
   have hnx1 : nx ≤ left - t := by rw [Hnx.out]; exact Nat.div_le_self _ _
   have HLt : Hid (∀ w, CallsIn Fence.wide (n - 1) Tryz.prog 187 #[.int .i64 d] w fun e w' => e = .returned (.int .u8 (letL d).toNat) ∧ w = w') := Lib.hid (fun w => callsIn_wide.2 (letter_any d w hd36))
   have HT2 : Hid (pre ++ [letL d] ++ digsL f nx (k + 36) bias = T) := Lib.hid (by
    rw [← HE.out, digsL_on (by rw [Ht.out]; exact hlt), Ht.out, Hd.out, Hnx.out]; simp)
   obtain ⟨fn, tmps, assign, body, hy, hR⟩ := hY pre (letL d) wr HJ.out (by rw [← HT2.out]; simp)
   clear hmod
   gi_wp2_with (first | (refine ⟨trivial, ?_⟩; gi_at_call 186; refine (HSt.out _).mono ?_; rintro e w' ⟨rfl, rfl⟩) | (refine ⟨trivial, ?_⟩; gi_at_call 187; refine (HLt.out _).mono ?_; rintro e w' ⟨rfl, rfl⟩))
   refine hR.mono ?_
   rintro e W3 (⟨rfl, hJ3, hk3⟩ | ⟨rfl, hJx3⟩)
   ·have HJ3 := Lib.hid hJ3
    have HB3 := Lib.hid (hk3.trans HB.out)
    clear hJ3 hk3
    gi_wp2
    go_roundw
    case rel => exact ⟨f, nx, k + 36, pre ++ [letL d], by go_num, by go_num, by omega, by omega, by omega, HT2, HJ3, HB3⟩
    case measure => simp [intOf]; omega
   ·have HJ3 := Lib.hid hJx3
    clear hJx3
    gi_wp2
    refine bodyPost_ret (results_none rfl _ _ _) rfl ?_
    exact ⟨⟨_, rfl⟩, .inr ⟨_, ⟨_, HT2.out⟩, HJ3.out⟩⟩

end Go.Proofs.YtcphokaamkalfaaGreatDoor
namespace Go.Proofs.YtcphokaamkalfaaGreatDoor
open Go.RowKit Go.Shelf
attribute [local go_sem] Oper.semAt_some

/-- An append within a fence, its run known. -/
theorem wpListIn_append_run {F : Fence} {n : Nat} {P : Program} (w : World) {ops : Array Oper} {rest : List Oper} {o : Oper} {a : Act} {Q : Exit → Act → World → Prop}
  (hg : o.guard = none) (s x : Operand) (t : TypeId) (hop : o.op = Op.call { callee := Callee.builtin Builtin.append, args := #[s, x], argTypes := #[t, t] })
  (vs vx : Value) (hs : a.eval s = vs) (hx : a.eval x = vx) (v' : Value) (w' : World) (hrun : (Builtin.append_ #[t, t] o.type #[vs, vx]).run P w = .ok v' w')
  (hK : wpListIn F n P ops Q rest (a.put o.dst v') w') : wpListIn F n P ops Q (o :: rest) a w := by
 refine wpListIn_plain hg fun K hK' => ?_
 unfold Oper.wpIn
 refine ⟨?_, ?_⟩
 ·simp [Oper.about, hop, resolve, Target.leads, Sem.run_pure]
 ·rw [Oper.semAt_plain F _ _ (by rw [hop]; intro c hc'; cases hc')]
  simp [execOp, hop, resolve, invoke, builtin, hs, hx, hrun, Result.andThen]
  exact hK' _ _ hK

/-- The mark that a range over a function leaves. -/
def markOf (D : Nat) : Deferred := { target := .collected D, args := #[] }
/-- Marks whose blocks hold nothing are passed by. -/
theorem leaves_marks {F : Fence} {n : Nat} {P : Program} {fn : Func} {tmps : Array Value} {R : Ending → World → Prop} (n₀ : Nat) : ∀ (ds : List Nat) (W : World), ds.Nodup → (∀ D ∈ ds, n₀ ≤ D ∧ W.heap[D]? = some (.deferred (some []))) →
  (∀ W', Below n₀ W W' → LeavesInM F n P fn tmps R [] .returning W') → LeavesInM F n P fn tmps R (ds.map markOf) .returning W
 | [], W, _, _, hfin => hfin W (Below.refl _ _)
 | D :: ds, W, hnd, hk, hfin => by
  obtain ⟨hD, hkD⟩ := hk D List.mem_cons_self
  have hlt : D < W.heap.size := (Array.getElem?_eq_some_iff.1 hkD).1
  have hB : Below n₀ W (W.putObj D (.deferred none)) := (Below.refl n₀ W).grown (grownBy_putObj' W D _) (by omega) (fun k e => by cases e; exact hD)
  refine ⟨by simp, .inl ⟨D, _, rfl, run_takeDeferred hkD, ?_⟩⟩
  refine leaves_marks n₀ ds _ (List.nodup_cons.1 hnd).2 (fun E hE => ⟨(hk E (List.mem_cons_of_mem _ hE)).1, ?_⟩) (fun W' h => hfin W' (hB.trans h))
  have hne : E ≠ D := fun e => (List.nodup_cons.1 hnd).1 (e ▸ hE)
  exact (World.putObj_heap_other hne).trans (hk E (List.mem_cons_of_mem _ hE)).2

theorem mkfG (fn : Fn) (first cap : Array Value) (w : World) : (Instr.makeFunc fn first cap).run Tryz.prog w = .ok (.func fn first cap) w := rfl
set_option maxHeartbeats 400000 in
theorem digits_any (number bias : Nat) (w : World) :
  Calls Tryz.prog 169 #[.int .i64 number, .int .i64 bias] w fun e w' => e = .returned (.func (.func 185) #[] #[.pointer (some ⟨w.heap.size, 0, none⟩), .pointer (some ⟨w.heap.size + 1, 0, none⟩)]) ∧ (w.alloc (.cells #[.int .i64 number] 3)).alloc (.cells #[.int .i64 bias] 3) = w' := by
 have hmf := mkfG
 go_enter Tryz.func169, Tryz.ntmps169
 go_wp2
 go_ret
 exact ⟨rfl, rfl⟩

/-- The digits of the numbers that tell the other signs: told: the places of the signs that are told. -/
def fewN (begun : Nat) : List Pr → List Nat → Nat → Nat → Nat → Nat → List UInt8
 | [], _, _, _, _, _ => []
 | (m, p) :: R, told, i, place, last, bias =>
  digsL ((m - last) * (begun + i + 1) + cntLt told p - place) ((m - last) * (begun + i + 1) + cntLt told p - place) 36 bias ++
   fewN begun R (p :: told) (i + 1) (cntLt told p + 1) m (nb ((m - last) * (begun + i + 1) + cntLt told p - place) (begun + i + 1) (i == 0))
/-- A text's few letters. -/
def fewL (SG R : List Pr) : List UInt8 := plB SG ++ (if plB SG = [] then [] else [45]) ++ fewN (plB SG).length R (plA SG) 0 0 128 72

theorem digits_stops (n : Nat) (hn : 1 ≤ n) (Bn Bb number bias : Nat) (w : World) (hnum : number ≤ 1000000000000000) (hbias : bias ≤ 756) (hBn : w.heap[Bn]? = some (.cells #[.int .i64 number] 3 (0, 0))) (hBb : w.heap[Bb]? = some (.cells #[.int .i64 bias] 3 (0, 0))) :
  SeqStopsK Fence.wide n Tryz.prog 185 #[.pointer (some ⟨Bn, 0, none⟩), .pointer (some ⟨Bb, 0, none⟩)] (fun x : UInt8 => #[Value.int .u8 x.toNat]) (fun W W' => W'.heap[Bb]? = W.heap[Bb]?) (fun ys => ys = digsL number number 36 bias) (fun pre => pre <+: digsL number number 36 bias) (digsL number number 36 bias).length w := fun l J Jx W hW _ _ hY h0 => by
 have h1 : Bn < w.heap.size := (Array.getElem?_eq_some_iff.1 hBn).1
 have h2 : Bb < w.heap.size := (Array.getElem?_eq_some_iff.1 hBb).1
 exact digits1_in n hn l Bn Bb number bias J Jx hnum hbias hY W (cell_of_one ((hW.block Bn h1).trans hBn)) ((hW.block Bb h2).trans hBb) h0

/-- Who is told next: no smaller sign; of an equal one, no earlier place. -/
def Nxt (told : List Nat) (place last : Nat) : List Pr → Prop
 | [] => True
 | (m, p) :: _ => last ≤ m ∧ (last = m → place ≤ cntLt told p)
theorem cntLt_cons (p : Nat) (ps : List Nat) (n : Nat) : cntLt (p :: ps) n = cntLt ps n + if p < n then 1 else 0 := by
 simp [cntLt, List.countP_cons]
theorem cntLt_mono (ps : List Nat) {a b : Nat} (h : a ≤ b) : cntLt ps a ≤ cntLt ps b := by
 unfold cntLt
 exact List.countP_mono_left (fun x _ hx => by simp at hx ⊢; omega)

end Go.Proofs.YtcphokaamkalfaaGreatDoor
namespace Go.Proofs.YtcphokaamkalfaaGreatDoor
open Go.RowKit Go.Shelf

theorem digs_len (b : Nat) : ∀ (j f n k : Nat), n < 10 ^ j → (digsL f n k b).length ≤ j + 1
 | 0, f, n, k, h => by
  have hb := stepN_bd k b
  rw [digsL_end (by simp at h; omega)]; simp
 | j + 1, f, n, k, h => by
  have hb := stepN_bd k b
  by_cases hlt : n < stepN k b
  ·rw [digsL_end hlt]; simp
  ·cases f with
   | zero => simp [digsL]
   | succ f =>
    rw [digsL_on hlt, List.length_cons]
    have hd : (n - stepN k b) / (36 - stepN k b) < 10 ^ j := by
     have h1 : (n - stepN k b) / (36 - stepN k b) ≤ (n - stepN k b) / 10 := Nat.div_le_div_left (by omega) (by decide)
     have h2 : n - stepN k b < 10 ^ j * 10 := by rw [← Nat.pow_succ]; omega
     have h3 := Nat.div_lt_of_lt_mul (m := n - stepN k b) (n := 10) (k := 10 ^ j) (by rw [Nat.mul_comm]; exact h2)
     omega
    have := digs_len b j f _ (k + 36) hd
    omega

/-- All that lay, but a box and a value's own row, lies as it lay. -/
structure Keep (Bo : Nat) (v0 : Value) (W0 W : World) : Prop where
 os : W.os = W0.os
 tape : W.tape = W0.tape
 output : W.output = W0.output
 size : W0.heap.size ≤ W.heap.size
 block : ∀ q, q < W0.heap.size → q ≠ Bo → v0.ownBlock ≠ some q → W.heap[q]? = W0.heap[q]?
theorem Keep.refl (Bo : Nat) (v0 : Value) (W : World) : Keep Bo v0 W W := ⟨rfl, rfl, rfl, Nat.le_refl _, fun _ _ _ _ => rfl⟩
theorem Keep.grown {Bo : Nat} {v0 : Value} {W0 W W' : World} {row : Option Nat} (h : Keep Bo v0 W0 W) (hg : W.grownBy W' row) (hr : ∀ k, row = some k → W0.heap.size ≤ k ∨ k = Bo ∨ v0.ownBlock = some k) : Keep Bo v0 W0 W' := by
 refine ⟨hg.os.trans h.os, hg.tape.trans h.tape, hg.output.trans h.output, Nat.le_trans h.size hg.size, fun q hq hne hv => ?_⟩
 have hsz := h.size
 rw [hg.block q (by omega) (fun e => ?_)]
 ·exact h.block q hq hne hv
 ·rcases hr q e.symm with h1 | h1 | h1
  ·omega
  ·exact hne h1
  ·exact hv h1
theorem keep_own {β : Type} (Bo : Nat) (v0 : Value) (W0 : World) : OwnFrom W0.heap.size (fun (_ : β) W => Keep Bo v0 W0 W) := fun _ _ _ _ hs hg hr =>
 hs.grown hg (fun k e => .inl (hr k e).1)

/-- Between two rounds: the box holds a row of one's own with what has been told. -/
def InSt (n₀ Bo : Nat) (v0 : Value) (W0 : World) (L pre : List UInt8) (W : World) : Prop :=
 (∃ v, Boxed W Bo 81 v ∧ W.ownsRow n₀ 5 1 v (L ++ pre).length ((L ++ pre).map bv) ∧ (v.ownBlock = v0.ownBlock ∨ ∀ q, v.ownBlock = some q → W0.heap.size ≤ q)) ∧ Keep Bo v0 W0 W
theorem inst_own (n₀ Bo : Nat) (v0 : Value) (W0 : World) (L : List UInt8) : OwnFrom W0.heap.size (fun pre W => InSt n₀ Bo v0 W0 L pre W) :=
 OwnFrom.and (Own.from (holdsRow_own n₀ Bo 81 5 1 (fun pre => (L ++ pre).length) (fun pre => (L ++ pre).map bv) (fun _ v => v.ownBlock = v0.ownBlock ∨ ∀ q, v.ownBlock = some q → W0.heap.size ≤ q)) _) (keep_own Bo v0 W0)
theorem inst_start (n₀ Bo : Nat) (v0 : Value) (W0 : World) (L : List UInt8) (hb : Boxed W0 Bo 81 v0) (hr : W0.ownsRow n₀ 5 1 v0 L.length (L.map bv)) : InSt n₀ Bo v0 W0 L [] W0 :=
 ⟨⟨v0, hb, by rw [List.append_nil]; exact hr, .inl rfl⟩, Keep.refl _ _ _⟩

/-- One digit more. -/
theorem inst_step (n₀ Bo : Nat) (v0 : Value) (W0 : World) (L pre : List UInt8) (x : UInt8) (W : World) (h : InSt n₀ Bo v0 W0 L pre W) (hn : n₀ ≤ Bo) (hBo : Bo < W0.heap.size) (_hv0 : ∀ q, v0.ownBlock = some q → q < W0.heap.size) (hl : (L ++ pre).length ≤ 100000000) :
  ∃ v g cap w1, W.cell? ⟨Bo, 0, none⟩ = some v ∧ (Builtin.append_ #[81, 81] 81 #[v, .slice (some ⟨W.heap.size, 0, none⟩) 1 1]).run Tryz.prog (W.alloc (.cells #[.int .u8 (x.toNat : Int)] 5)) = .ok (.slice (some ⟨g, 0, none⟩) ((L ++ pre).length + 1) cap) w1 ∧
   w1.cell? ⟨Bo, 0, none⟩ = some v ∧ w1.frozen? ⟨Bo, 0, none⟩ = false ∧
   InSt n₀ Bo v0 W0 L (pre ++ [x]) (w1.setCell ⟨Bo, 0, none⟩ (.slice (some ⟨g, 0, none⟩) ((L ++ pre).length + 1) cap)) ∧
   KeepsOthers W (w1.setCell ⟨Bo, 0, none⟩ (.slice (some ⟨g, 0, none⟩) ((L ++ pre).length + 1) cap)) ∧
   (∀ q, q < W0.heap.size → q ≠ Bo → v0.ownBlock ≠ some q → (w1.setCell ⟨Bo, 0, none⟩ (.slice (some ⟨g, 0, none⟩) ((L ++ pre).length + 1) cap)).heap[q]? = W.heap[q]?) := by
 obtain ⟨⟨v, hb, hr, hv⟩, hk⟩ := h
 have hsz := hk.size
 obtain ⟨i0, hi, hz0, hz1, hz2⟩ := info_parts infoB
 obtain ⟨v', w1, hrun, hown, hg, hblk⟩ := app_own2 (P := Tryz.prog) (W.alloc (.cells #[.int .u8 (x.toNat : Int)] 5)) n₀ 81 81 5 i0 (.int .u8 0) 1 1 Tryz.underlying81 hi hz0 hz1 hz2 rfl (by decide)
  v (L ++ pre).length ((L ++ pre).map bv) (hr.alloc _) ⟨W.heap.size, 0, none⟩ 1 1 [.int .u8 (x.toNat : Int)] (by simp) (World.news_of_block (cs := #[.int .u8 (x.toNat : Int)]) (t := 5) (fr := (0, 0)) (heap_alloc_new W _)) (by simp [Value.oneCell']) (by unfold maxLen; omega) (by omega) (by simp; omega)
 obtain ⟨g, cap, rfl⟩ := ownsRow_succ hown
 have hn₀ : n₀ ≤ W.heap.size := by omega
 obtain ⟨q1, q2, q3, q4, q5⟩ := hb.appended (n₀ := n₀) (e := 5) (by decide) hr hn₀ hn hown hg
 have hgall : Keep Bo v0 W0 (w1.setCell ⟨Bo, 0, none⟩ (.slice (some ⟨g, 0, none⟩) ((L ++ pre).length + 1) cap)) := by
  refine ((hk.grown (World.grownBy_alloc W _ none) (fun k e => by cases e)).grown hg (fun k e => ?_)).grown (grownBy_setCell' w1 Bo _) (fun k e => by cases e; exact .inr (.inl rfl))
  rcases hv with h1 | h1
  ·exact .inr (.inr (by rw [← h1]; exact e))
  ·exact .inl (h1 k e)
 refine ⟨v, g, cap, w1, hb.cell, hrun, q1.cell, q1.frozen, ⟨⟨_, q2, ?_, ?_⟩, hgall⟩, q4, fun q hq hne hvq => (hgall.block q hq hne hvq).trans (hk.block q hq hne hvq).symm⟩
 ·have e1 : (L ++ (pre ++ [x])).length = (L ++ pre).length + 1 := by simp; omega
  have e2 : (L ++ (pre ++ [x])).map bv = (L ++ pre).map bv ++ [.int .u8 (x.toNat : Int)] := by simp [bv]
  rw [e1, e2]; exact q3
 ·rcases hblk with h1 | h1
  ·rcases hv with h2 | h2
   ·exact .inl (h1.trans h2)
   ·exact .inr (fun q hq => h2 q (h1 ▸ hq))
  ·exact .inr (fun q hq => by have := h1 q hq; simp at this; omega)

end Go.Proofs.YtcphokaamkalfaaGreatDoor
namespace Go.Proofs.YtcphokaamkalfaaGreatDoor
open Go.RowKit

end Go.Proofs.YtcphokaamkalfaaGreatDoor
namespace Go.Proofs.YtcphokaamkalfaaGreatDoor
open Go.RowKit

/-- A text's signs, if it is one in UTF-8. -/
def sgO (s : ByteArray) : Nat → Nat → Option (List Nat)
 | 0, _ => some []
 | f + 1, p => if p < s.size then (if (Utf8.decode s p).1 = 65533 ∧ (Utf8.decode s p).2 = 1 then none else (sgO s f (p + (Utf8.decode s p).2)).map fun l => (Utf8.decode s p).1 :: l) else some []
theorem sgO_end (s : ByteArray) (f p : Nat) (h : ¬ p < s.size) : sgO s f p = some [] := by
 cases f with
 | zero => rfl
 | succ f => rw [sgO, if_neg h]
theorem sgO_ok (s : ByteArray) (f p r n : Nat) (h : p < s.size) (hd : Utf8.decode s p = (r, n)) (hr : ¬ (r = 65533 ∧ n = 1)) : sgO s (f + 1) p = (sgO s f (p + n)).map fun l => r :: l := by
 rw [sgO, if_pos h, hd, if_neg hr]

end Go.Proofs.YtcphokaamkalfaaGreatDoor
