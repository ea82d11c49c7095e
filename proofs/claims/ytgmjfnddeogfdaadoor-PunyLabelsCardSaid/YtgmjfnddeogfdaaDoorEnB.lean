/-
  The digits of a number, told one by one: the iterator's contract.
-/
import Derived.RangeFuncNested
import Derived.RangeFuncBound
import Derived.RangeFuncCalls
import Derived.RangeFuncLeaves
import Derived.Shelf.Abstract
import Derived.Shelf.RegionOpen
import Derived.OwnWalkIn
import Derived.TacticsInMore
import Derived.LoopNIn
import Derived.LoopIn
import Derived.Test.YtgmjfnddeogfdaaDoorEnA
namespace Go.Proofs.YtgmjfnddeogfdaaDoor
open Go.RowKit Go.Shelf
attribute [local go_sem] Oper.semAt_some

/-- A number's digits, from k on. -/
def digsL : Nat → Nat → Nat → Nat → List UInt8
  | 0, n, _, _ => [letL n]
  | f + 1, n, k, b => if n < stepN k b then [letL n] else letL (stepN k b + (n - stepN k b) % (36 - stepN k b)) :: digsL f ((n - stepN k b) / (36 - stepN k b)) (k + 36) b
theorem digsL_end {f n k b : Nat} (h : n < stepN k b) : digsL f n k b = [letL n] := by
  cases f with
  | zero => rfl
  | succ f => rw [digsL, if_pos h]
theorem digsL_on {f n k b : Nat} (h : ¬ n < stepN k b) : digsL (f + 1) n k b = letL (stepN k b + (n - stepN k b) % (36 - stepN k b)) :: digsL f ((n - stepN k b) / (36 - stepN k b)) (k + 36) b := by rw [digsL, if_neg h]

set_option maxHeartbeats 1000000 in
set_option maxRecDepth 1000000 in
theorem digits1_in (n : Nat) (hn : 1 ≤ n) (l Bn Bb number bias : Nat) (J Jx : List UInt8 → World → Prop) (hnum : number ≤ 1000000000000000) (hbias : bias ≤ 756)
    (hY : ∀ pre x W, J pre W → pre.length < (digsL number number 36 bias).length → YieldAt Fence.wide (n - 1) Tryd.prog l #[.int .u8 x.toNat] W fun e W' =>
      (e = .returned (.bool true) ∧ J (pre ++ [x]) W' ∧ W'.heap[Bb]? = W.heap[Bb]?) ∨ (e = .returned (.bool false) ∧ Jx (pre ++ [x]) W'))
    (W : World) (hBn : W.cell? ⟨Bn, 0, none⟩ = some (.int .i64 number)) (hBb : W.heap[Bb]? = some (.cells #[.int .i64 bias] 3 (0, 0))) (h0 : J [] W) :
    CallsIn Fence.wide n Tryd.prog 53 #[.func (.yield l) #[] #[], .pointer (some ⟨Bn, 0, none⟩), .pointer (some ⟨Bb, 0, none⟩)] W fun e W' => (∃ v, e = .returned v) ∧
      ((∃ ys, ys = digsL number number 36 bias ∧ J ys W') ∨ (∃ pre, pre <+: digsL number number 36 bias ∧ Jx pre W')) := by
  obtain ⟨T, HT⟩ : ∃ T, Hid (digsL number number 36 bias = T) := ⟨_, Lib.hid rfl⟩
  rw [HT.out] at hY ⊢
  have HBb := Lib.hid hBb
  clear hBb
  refine callsIn_of_wp Tryd.func53 rfl trivial ?_ rfl
  simp only [Tryd.ntmps53, List.size_toArray, List.length_cons, List.length_nil, Nat.reduceAdd, Nat.reduceSub, Array.replicate_succ, Array.replicate_zero, List.push_toArray, List.append_toArray, List.nil_append, List.cons_append]
  gi_wp2
  gi_loopw [4, 5] (fun vl vk wr => ∃ (f left k : Nat) (pre : List UInt8), vl = .int .i64 left ∧ vk = .int .i64 k ∧ left ≤ f ∧ left ≤ 1000000000000000 ∧ k ≤ 36 * (1000000000000001 - left) ∧ Hid (pre ++ digsL f left k bias = T) ∧ Hid (J pre wr) ∧ Hid (wr.heap[Bb]? = W.heap[Bb]?)) (fun vl _ _ => (intOf vl).toNat)
  case atStart => exact ⟨number, number, 36, [], rfl, rfl, Nat.le_refl _, hnum, by omega, Lib.hid (by rw [List.nil_append]; exact HT.out), Lib.hid h0, Lib.hid rfl⟩
  case round =>
    obtain ⟨f, left, k, pre, rfl, rfl, hlf, hll, hk, HE, HJ, HB⟩ := hrel
    have hcb : wr.cell? ⟨Bb, 0, none⟩ = some (.int .i64 bias) := cell_of_one (HB.out.trans HBb.out)
    obtain ⟨t, Ht⟩ : ∃ t, Hid (stepN k bias = t) := ⟨_, Lib.hid rfl⟩
    have htb := stepN_bd k bias
    rw [Ht.out] at htb
    obtain ⟨ht1, ht2⟩ := htb
    have HSt : Hid (∀ w, CallsIn Fence.wide (n - 1) Tryd.prog 54 #[.int .i64 k, .int .i64 bias] w fun e w' => e = .returned (.int .i64 t) ∧ w = w') := Lib.hid (fun w => by
      rw [← Ht.out]; exact callsIn_wide.2 (step_any k bias w (by omega) (by omega)))
    by_cases hlt : left < t
    · have HLt : Hid (∀ w, CallsIn Fence.wide (n - 1) Tryd.prog 55 #[.int .i64 left] w fun e w' => e = .returned (.int .u8 (letL left).toNat) ∧ w = w') := Lib.hid (fun w => callsIn_wide.2 (letter_any left w (by omega)))
      have HT2 : Hid (pre ++ [letL left] = T) := Lib.hid (by rw [← HE.out, digsL_end (by rw [Ht.out]; exact hlt)])
      obtain ⟨fn, tmps, assign, body, hy, hR⟩ := hY pre (letL left) wr HJ.out (by rw [← HT2.out]; simp)
      gi_wp2_with (first | (refine ⟨trivial, ?_⟩; gi_at_call 54; refine (HSt.out _).mono ?_; rintro e w' ⟨rfl, rfl⟩) | (refine ⟨trivial, ?_⟩; gi_at_call 55; refine (HLt.out _).mono ?_; rintro e w' ⟨rfl, rfl⟩))
      refine hR.mono ?_
      rintro e W3 (⟨rfl, hJ3, hk3⟩ | ⟨rfl, hJx3⟩)
      · have HJ3 := Lib.hid hJ3
        clear hJ3 hk3
        gi_wp2
        refine bodyPost_ret (results_none rfl _ _ _) rfl ?_
        exact ⟨⟨_, rfl⟩, .inl ⟨_, HT2.out, HJ3.out⟩⟩
      · have HJ3 := Lib.hid hJx3
        clear hJx3
        gi_wp2
        refine bodyPost_ret (results_none rfl _ _ _) rfl ?_
        exact ⟨⟨_, rfl⟩, .inr ⟨_, by rw [HT2.out]; exact List.prefix_rfl, HJ3.out⟩⟩
    · obtain ⟨f, rfl⟩ : ∃ q, f = q + 1 := ⟨f - 1, by omega⟩
      obtain ⟨d, Hd⟩ : ∃ d, Hid (d = t + (left - t) % (36 - t)) := ⟨_, Lib.hid rfl⟩
      obtain ⟨nx, Hnx⟩ : ∃ nx, Hid (nx = (left - t) / (36 - t)) := ⟨_, Lib.hid rfl⟩
      have hmod : (left - t) % (36 - t) < 36 - t := Nat.mod_lt _ (by omega)
      have hd36 : d < 36 := by rw [Hd.out]; omega
      have hdz : (t : Int) + ((left : Int) - (t : Int)) % (36 - (t : Int)) = (d : Int) := by
        have e1 : (left : Int) - (t : Int) = ((left - t : Nat) : Int) := by omega
        have e2 : 36 - (t : Int) = ((36 - t : Nat) : Int) := by omega
        rw [e1, e2, Hd.out]; simp
      have hnz : ((left : Int) - (t : Int)) / (36 - (t : Int)) = (nx : Int) := by
        have e1 : (left : Int) - (t : Int) = ((left - t : Nat) : Int) := by omega
        have e2 : 36 - (t : Int) = ((36 - t : Nat) : Int) := by omega
        rw [e1, e2, Hnx.out]; simp
      have hnx1 : nx ≤ left - t := by rw [Hnx.out]; exact Nat.div_le_self _ _
      have HLt : Hid (∀ w, CallsIn Fence.wide (n - 1) Tryd.prog 55 #[.int .i64 d] w fun e w' => e = .returned (.int .u8 (letL d).toNat) ∧ w = w') := Lib.hid (fun w => callsIn_wide.2 (letter_any d w hd36))
      have HT2 : Hid (pre ++ [letL d] ++ digsL f nx (k + 36) bias = T) := Lib.hid (by
        rw [← HE.out, digsL_on (by rw [Ht.out]; exact hlt), Ht.out, Hd.out, Hnx.out]; simp)
      obtain ⟨fn, tmps, assign, body, hy, hR⟩ := hY pre (letL d) wr HJ.out (by rw [← HT2.out]; simp)
      clear hmod
      gi_wp2_with (first | (refine ⟨trivial, ?_⟩; gi_at_call 54; refine (HSt.out _).mono ?_; rintro e w' ⟨rfl, rfl⟩) | (refine ⟨trivial, ?_⟩; gi_at_call 55; refine (HLt.out _).mono ?_; rintro e w' ⟨rfl, rfl⟩))
      refine hR.mono ?_
      rintro e W3 (⟨rfl, hJ3, hk3⟩ | ⟨rfl, hJx3⟩)
      · have HJ3 := Lib.hid hJ3
        have HB3 := Lib.hid (hk3.trans HB.out)
        clear hJ3 hk3
        gi_wp2
        go_roundw
        case rel => exact ⟨f, nx, k + 36, pre ++ [letL d], by go_num, by go_num, by omega, by omega, by omega, HT2, HJ3, HB3⟩
        case measure => simp [intOf]; omega
      · have HJ3 := Lib.hid hJx3
        clear hJx3
        gi_wp2
        refine bodyPost_ret (results_none rfl _ _ _) rfl ?_
        exact ⟨⟨_, rfl⟩, .inr ⟨_, ⟨_, HT2.out⟩, HJ3.out⟩⟩

end Go.Proofs.YtgmjfnddeogfdaaDoor
