/-
  Package heads: the lines of a head, one by one.
-/
import Derived.RangeFuncNested
import Derived.RangeFuncBound
import Derived.RangeFuncCalls
import Derived.RangeFuncLeaves
import Derived.Shelf.Abstract
import Derived.Shelf.RegionOpen
import Derived.OwnWalkIn
import Derived.TacticsInMore
import Derived.LoopNIn
import Derived.LoopIn
import Derived.RangeFuncBox
import Derived.Test.YtbfnbjffobhllaaDoorHdH
namespace Go.Proofs.YtbfnbjffobhllaaDoor
open Go.RowKit Go.Shelf
attribute [local go_sem] Oper.semAt_some

set_option maxHeartbeats 400000 in
theorem lines_any (s : ByteArray) (w : World) :
    Calls Tryd.prog 101 #[.string s] w fun e w' => e = .returned (.func (.func 112) #[] #[.pointer (some ⟨w.heap.size, 0, none⟩)]) ∧ w.alloc (.cells #[.string s] 9) = w' := by
  have hmf := mkfK
  go_enter Tryd.func101, Tryd.ntmps101
  go_wp2
  go_ret
  exact ⟨rfl, rfl⟩
/-- What a round that goes on keeps. -/
def KpB (n₀ Bp : Nat) (W W' : World) : Prop := Below n₀ W W' ∧ W'.heap[Bp]? = W.heap[Bp]?
theorem grown_below {W W' : World} (h : Below W.heap.size W W') : W.grownBy W' none := ⟨h.os, h.tape, h.output, h.size, fun k hk _ => h.block k hk⟩
theorem kpB_t {n₀ Bp : Nat} {A B C : World} (h : KpB n₀ Bp A B) (k : KpB n₀ Bp B C) : KpB n₀ Bp A C := ⟨h.1.trans k.1, k.2.trans h.2⟩
/-- A line that is not too long. -/
abbrev Ln := { l : List UInt8 // l.length ≤ 70000 }
def lnL (pre : List Ln) : List (List UInt8) := pre.map (·.1)
theorem lnL_app (a : List Ln) (b : Ln) : lnL (a ++ [b]) = lnL a ++ [b.1] := by simp [lnL]
def encL (l : Ln) : Array Value := #[.string (asB l.1)]
def strSz : Value → Nat
  | .string s => s.size
  | _ => 0
theorem linT_le : ∀ (n : Nat) (l : List UInt8), l.length ≤ n → ∀ x ∈ linT l, x.length ≤ n
  | 0, l, h, x, hx => by
    have : l = [] := List.length_eq_zero_iff.1 (by omega)
    rw [this, linT_nil] at hx; cases hx
  | n + 1, l, h, x, hx => by
    by_cases h0 : l = []
    · rw [h0, linT_nil] at hx; cases hx
    · rw [linT_eq h0] at hx
      have h1 := cut_lt h0 crlf_ne
      have h2 := cut_len1 l crlf
      rcases List.mem_cons.1 hx with rfl | hx
      · omega
      · exact Nat.le_trans (linT_le n _ (by omega) x hx) (by omega)
set_option maxHeartbeats 2000000 in
set_option maxRecDepth 1000000 in
theorem lines1_in (n : Nat) (_hn : 1 ≤ n) (l Bp n₀ : Nat) (hd : ByteArray) (D : List UInt8) (m : Int) (J Jx : List Ln → World → Prop) (W : World)
    (hJ : AbidesFrom W.heap.size J) (hD : D.length ≤ 70000)
    (HT : Hid (∀ w, Calls Tryd.prog 113 #[.string hd, .string ⟨#[13, 10]⟩] w fun e w' => e = .returned (.string (asB D)) ∧ w = w'))
    (hY : ∀ pre x W1, J pre W1 → pre.length < (linT D).length → YieldAt Fence.wide (n - 1) Tryd.prog l (encL x) W1 fun e W' =>
      (e = .returned (.bool true) ∧ J (pre ++ [x]) W' ∧ KpB n₀ Bp W1 W') ∨ (e = .returned (.bool false) ∧ Jx (pre ++ [x]) W'))
    (hBp : W.cell? ⟨Bp, 0, none⟩ = some (.string hd)) (hm : MxAt m W) (hm0 : 0 < n₀) (h0 : J [] W) :
    CallsIn Fence.wide n Tryd.prog 112 #[.func (.yield l) #[] #[], .pointer (some ⟨Bp, 0, none⟩)] W fun e W' => (∃ v, e = .returned v) ∧
      ((∃ ys : List Ln, lnL ys = linT D ∧ J ys W') ∨ (∃ pre : List Ln, lnL pre <+: linT D ∧ Jx pre W')) := by
  have HM := Lib.hid hm; clear hm
  have HT2 := Lib.hid fun w => (callsIn_wide (n := n - 1)).2 (HT.out w)
  have HD := Lib.hid hD
  have H0 := Lib.hid h0
  clear hD h0
  refine callsIn_of_wp Tryd.func112 rfl trivial ?_ rfl
  simp only [Tryd.ntmps112, List.size_toArray, List.length_cons, List.length_nil, Nat.reduceAdd, Nat.reduceSub, Array.replicate_succ, Array.replicate_zero, List.push_toArray, List.append_toArray, List.nil_append, List.cons_append]
  gi_wp2_with fail
  refine ⟨trivial, ?_⟩
  refine (HT2.out _).mono ?_
  rintro e w1 ⟨rfl, rfl⟩
  gi_wp2
  gi_loopw [3, 4, 5, 6] (fun r _ _ _ wr => ∃ (R : List UInt8) (pre : List Ln), r = .string (asB R) ∧ Hid (R.length ≤ 70000) ∧ Hid (lnL pre ++ linT R = linT D) ∧ Hid (J pre wr) ∧ Hid (KpB n₀ Bp W wr)) (fun r _ _ _ _ => strSz r)
  case atStart => exact ⟨D, [], rfl, HD, Lib.hid rfl, H0, Lib.hid ⟨Below.refl _ _, rfl⟩⟩
  case round =>
    obtain ⟨R, pre, rfl, HR, HE, HJ, HK⟩ := hrel
    by_cases hR : R = []
    · have HE3 : Hid (lnL pre = linT D) := Lib.hid (by rw [← HE.out, hR, linT_nil, List.append_nil])
      have hn3 : ((asB R).toList != []) = false := by rw [Lib.toList_data, asB_data, hR]; rfl
      have hn4 : (asB R).toList = [] := by rw [Lib.toList_data, asB_data, hR]
      have hn5 : (asB R).toList.isEmpty = true := by rw [hn4]; rfl
      clear hR
      gi_wp2
      go_end0
      exact ⟨⟨_, rfl⟩, .inl ⟨_, HE3.out, HJ.out⟩⟩
    · have hn4 : ¬ (asB R).toList = [] := by rw [Lib.toList_data, asB_data]; exact hR
      have hn3 : ((asB R).toList != []) = true := bne_iff_ne.2 hn4
      have hn5 : (asB R).toList.isEmpty = false := by rw [List.isEmpty_eq_false_iff]; exact hn4
      have HM2 : Hid (MxAt m wr) := Lib.hid ((HK.out.1.cell (p := ⟨0, 0, none⟩) hm0).trans HM.out)
      have HC : Hid (CallsIn Fence.wide (n - 1) Tryd.prog 85 #[.string (asB R), .string ⟨#[13, 10]⟩] wr fun e w' => e = .returned (.tuple #[.string (asB (Lib.cut R crlf).1), .string (asB (Lib.cut R crlf).2.1), .bool (Lib.cut R crlf).2.2]) ∧ ∃ q, w' = wr.drewN q) :=
        Lib.hid (callsIn_wide.2 (Cut_any R crlf m wr (by have := HR.out; omega) HM2.out))
      have HE2 : Hid ((lnL pre ++ [(Lib.cut R crlf).1]) ++ linT (Lib.cut R crlf).2.1 = linT D) := Lib.hid (by rw [← HE.out, linT_eq hR]; simp)
      have HXl : Hid ((Lib.cut R crlf).1.length ≤ 70000) := Lib.hid (Nat.le_trans (cut_len1 R crlf) HR.out)
      have HL2 : Hid ((Lib.cut R crlf).2.1.length < R.length) := Lib.hid (cut_lt hR crlf_ne)
      have HN2 : Hid (pre.length < (linT D).length) := Lib.hid (by rw [← HE2.out]; simp [lnL])
      obtain ⟨x, Hx⟩ : ∃ V, Hid ((Lib.cut R crlf).1 = V) := ⟨_, Lib.hid rfl⟩
      obtain ⟨r1, Hr1⟩ : ∃ V, Hid ((Lib.cut R crlf).2.1 = V) := ⟨_, Lib.hid rfl⟩
      obtain ⟨ok, Hok⟩ : ∃ V, Hid ((Lib.cut R crlf).2.2 = V) := ⟨_, Lib.hid rfl⟩
      rw [Hx.out] at HC HE2 HXl
      rw [Hr1.out] at HC HE2 HL2
      rw [Hok.out] at HC
      clear hR
      gi_wp2_with fail
      refine ⟨trivial, ?_⟩
      refine HC.out.mono ?_
      rintro e w2 ⟨rfl, q, hq⟩
      have hb2 : Below wr.heap.size wr w2 := by rw [hq]; exact ⟨rfl, rfl, rfl, Nat.le_refl _, fun _ _ => rfl⟩
      have HK2 : Hid (KpB n₀ Bp W w2) := Lib.hid (by rw [hq]; exact kpB_t HK.out ⟨⟨rfl, rfl, rfl, Nat.le_refl _, fun _ _ => rfl⟩, rfl⟩)
      have HJ2 : Hid (J pre w2) := Lib.hid (hJ pre wr w2 none HJ.out (grown_below hb2) (fun r e => by cases e))
      clear hq hb2
      obtain ⟨fn, tmps, assign, body, hy, hR⟩ := hY pre ⟨x, HXl.out⟩ w2 HJ2.out HN2.out
      dsimp only [encL] at hy
      gi_wp2_with fail
      refine hR.mono ?_
      rintro e W4 (⟨rfl, hJ4, hk4⟩ | ⟨rfl, hJx4⟩)
      · have HJ4 := Lib.hid hJ4
        have HK4 : Hid (KpB n₀ Bp W W4) := Lib.hid (kpB_t HK2.out hk4)
        clear hJ4 hk4
        gi_wp2
        go_roundw
        case rel => exact ⟨r1, pre ++ [⟨x, HXl.out⟩], rfl, Lib.hid (by have := HR.out; have := HL2.out; omega), Lib.hid (by rw [lnL_app]; exact HE2.out), HJ4, HK4⟩
        case measure => show (asB r1).size < (asB R).size; rw [asB_size, asB_size]; exact HL2.out
      · have HJ4 := Lib.hid hJx4
        clear hJx4
        gi_wp2
        refine bodyPost_ret (results_none rfl _ _ _) rfl ?_
        exact ⟨⟨_, rfl⟩, .inr ⟨_, ⟨_, by rw [lnL_app]; exact HE2.out⟩, HJ4.out⟩⟩

end Go.Proofs.YtbfnbjffobhllaaDoor
