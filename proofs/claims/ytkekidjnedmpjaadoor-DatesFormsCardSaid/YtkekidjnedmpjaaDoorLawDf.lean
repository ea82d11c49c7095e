/-
  The walk of DatesForms.
-/
import Derived.Test.YtkekidjnedmpjaaDoorDtE
import Derived.Test.YtkekidjnedmpjaaDoorDrF
import Derived.Test.YtkekidjnedmpjaaDoorDtA
import Derived.Deep.AppendLies
import Derived.Deep.RegionWith
import Derived.Deep.DeepCutAuto
import Derived.ArgAppend
namespace Go.Proofs.YtkekidjnedmpjaaDoor
open Go.RowKit

set_option maxHeartbeats 1000000 in
set_option maxRecDepth 100000 in
theorem LTwo_any (n : Nat) (hn : n < 1000000) (w : World) :
    Calls Tryd.prog 20 #[.int .i64 (n : Int)] w fun e w' => e = .returned (.string (asB (d2 n))) ∧ Below w.heap.size w w' := by
  obtain ⟨A, HA⟩ : ∃ A, Hid (asB [UInt8.ofNat (48 + n / 10 % 10)] = A) := ⟨_, Lib.hid rfl⟩
  obtain ⟨B, HB⟩ : ∃ B, Hid (asB [UInt8.ofNat (48 + n % 10)] = B) := ⟨_, Lib.hid rfl⟩
  have ha : A.size = 1 := by rw [← HA.out]; rfl
  have hb : B.size = 1 := by rw [← HB.out]; rfl
  have hR : asB (d2 n) = A ++ B := by rw [← HA.out, ← HB.out, asB_app]; rfl
  have s1 := fun w => slice_dg (n / 10 % 10) (by omega) ((n : Int) / 10 % 10) ((n : Int) / 10 % 10 + 1) (by omega) (by omega) w
  have s2 := fun w => slice_dg (n % 10) (by omega) ((n : Int) % 10) ((n : Int) % 10 + 1) (by omega) (by omega) w
  rw [HA.out] at s1
  rw [HB.out] at s2
  rw [hR]
  have t1 : (n : Int).tdiv 10 = (n : Int) / 10 := Int.tdiv_eq_ediv_of_nonneg (by omega)
  have t2 : ((n : Int) / 10).tmod 10 = (n : Int) / 10 % 10 := Int.tmod_eq_emod_of_nonneg (by omega)
  have t3 : (n : Int).tmod 10 = (n : Int) % 10 := Int.tmod_eq_emod_of_nonneg (by omega)
  have q1 : IntKind.i64.wrap ((n : Int) / 10) = (n : Int) / 10 := by rw [IntKind.wrap_i64]; omega
  have q2 : IntKind.i64.wrap ((n : Int) / 10 % 10) = (n : Int) / 10 % 10 := by rw [IntKind.wrap_i64]; omega
  have q3 : IntKind.i64.wrap ((n : Int) / 10 % 10 + 1) = (n : Int) / 10 % 10 + 1 := by rw [IntKind.wrap_i64]; omega
  have q4 : IntKind.i64.wrap ((n : Int) % 10) = (n : Int) % 10 := by rw [IntKind.wrap_i64]; omega
  have q5 : IntKind.i64.wrap ((n : Int) % 10 + 1) = (n : Int) % 10 + 1 := by rw [IntKind.wrap_i64]; omega
  clear hR
  go_enter Tryd.func20, Tryd.ntmps20
  go_wp2
  go_quiet (fail)
  go_wp2
  go_ret
  exact ⟨rfl, { os := rfl, tape := rfl, output := rfl, size := Nat.le_refl _, block := fun _ _ => rfl }⟩

def MXS : ByteArray := ⟨#[106, 97, 110, 70, 69, 66, 77, 97, 114, 97, 112, 114, 77, 65, 89, 106, 117, 110, 74, 85, 76, 97, 117, 103, 83, 69, 80, 111, 99, 116, 78, 79, 86, 100, 101, 99]⟩
theorem mxs_at (k : Nat) (h1 : 1 ≤ k) (h2 : k ≤ 12) : MXS.extract (3 * k - 3) (3 * k) = asB (mixL.getD k []) := by
  have : ∀ j : Fin 12, MXS.extract (3 * (j.1 + 1) - 3) (3 * (j.1 + 1)) = asB (mixL.getD (j.1 + 1) []) := by decide +kernel
  have h := this ⟨k - 1, by omega⟩
  simp only at h
  rwa [show k - 1 + 1 = k by omega] at h
theorem slice_mx (k : Nat) (h1 : 1 ≤ k) (h2 : k ≤ 12) (w : World) : (Instr.slice 9 (.string ({ data := #[106, 97, 110, 70, 69, 66, 77, 97, 114, 97, 112, 114, 77, 65, 89, 106, 117, 110, 74, 85, 76, 97, 117, 103, 83, 69, 80, 111, 99, 116, 78, 79, 86, 100, 101, 99] } : ByteArray)) (some (.int .i64 (3 * (k : Int) - 3))) (some (.int .i64 (3 * (k : Int)))) none).run Tryd.prog w = .ok (.string (asB (mixL.getD k []))) w := by
  have h := run_slice_string_if (P := Tryd.prog) (w := w) 9 MXS .i64 .i64 (3 * (k : Int) - 3) (3 * (k : Int)) Tryd.underlying9
  have hs : MXS.size = 36 := rfl
  rw [hs, if_pos ⟨by omega, by omega⟩, if_pos ⟨by omega, by omega⟩, show (3 * (k : Int) - 3).toNat = 3 * k - 3 by omega, show (3 * (k : Int)).toNat = 3 * k by omega, mxs_at k h1 h2] at h
  exact h
theorem asB_cat (a b : List UInt8) : asB a ++ asB b = asB (a ++ b) := ba_eq (by rw [ByteArray.data_append, Array.toList_append]; rfl)

theorem fo_infoS : (Tryd.prog.info? 9).map (fun i => (i.zero, i.size, i.bytes)) = some (some (.string ⟨#[]⟩), 1, 16) := by kernel_rfl
theorem append_ranF {P : Program} {ops : Array Oper} {Q : Exit → Act → World → Prop} {a : Act} {w : World} {rest : List Oper} {o : Oper} {v' : Value} {w' : World} (hw : Region.wanted o (yielded ops a.tmps) = true)
    (s x : Operand) (t : TypeId) (hop : o.op = Op.call { callee := Callee.builtin Builtin.append, args := #[s, x], argTypes := #[t, t] }) (vs vx : Value) (hs : a.eval s = vs) (hx : a.eval x = vx)
    (hrun : (Builtin.append_ #[t, t] o.type #[vs, vx]).run P w = .ok v' w') (h : wpList P ops Q rest (a.put o.dst v') w') : wpList P ops Q (o :: rest) a w := by
  refine wpList_step fun K hK' => ?_
  rw [if_pos hw]
  unfold Oper.wp
  simp [execOp, hop, resolve, invoke, builtin, hs, hx, hrun, Result.andThen]
  exact hK' _ _ h
/-- Some texts of a row are put behind an own one. -/
theorem app_run (base : Nat) (v : Value) (D : List Value) (n : Nat) (a : Addr) (m c : Nat) (news : List Value) (w : World) (hown : w.ownsRow base 9 1 v n D) (hl : news.length = m) (hnews : ∀ j u, news[j]? = some u → w.cell? (a.add j) = some u) (h1 : ∀ u ∈ news, u.oneCell' = true) (hb : n + m ≤ 8) (hbase : base ≤ w.heap.size) :
    ∃ v' w1, (Builtin.append_ #[39, 39] 39 #[v, .slice (some a) m c]).run Tryd.prog w = .ok v' w1 ∧ w1.ownsRow base 9 1 v' (n + m) (D ++ news) ∧ Below base w w1 ∧ w.grownBy w1 v.ownBlock := by
  obtain ⟨i0, hi, hz0, hz1, hz2⟩ := info_parts fo_infoS
  obtain ⟨v', w1, hrun, hown', hgrow, _⟩ := run_append_own (P := Tryd.prog) w base 39 39 9 i0 (.string ⟨#[]⟩) 1 16 Tryd.underlying39 hi hz0 hz1 hz2 rfl (by decide)
    v n D hown a m c news (by rw [hl, Nat.mul_one]) hnews h1 (by unfold maxLen; omega) (by omega) hbase
  exact ⟨v', w1, hrun, hown', (Below.refl _ _).grown hgrow hbase (fun q hq => (hown.lt q hq).1), hgrow⟩
theorem own_row {w : World} {base n : Nat} {e : TypeId} {v : Value} {L : List Value} (hn : 0 < n) (h : w.ownsRow base e 1 v n L) :
    ∃ g cap, v = .slice (some ⟨g, 0, none⟩) n cap ∧ n ≤ cap ∧ base ≤ g ∧ g < w.heap.size ∧ ∀ j, j < n → w.cell? ⟨g, j, none⟩ = L[j]? := by
  obtain ⟨h1, h2⟩ := h
  rcases h2 with ⟨_, h2⟩ | ⟨g, cap, cur, rfl, hg, hh, hc⟩
  · omega
  · exact ⟨g, cap, rfl, hc.1, hg, lt_of_block hh, fun j hj => World.ownsRow.cellAt (base := base) (e := e) (size := 1) (cap := cap) ⟨h1, .inr ⟨g, cap, cur, rfl, hg, hh, hc⟩⟩ j (by omega)⟩
theorem addr_at (g k j : Nat) : (⟨g, k, none⟩ : Addr).add j = ⟨g, k + j, none⟩ := by unfold Addr.add; split <;> simp_all
theorem conv_at (c : UInt8) (W : World) (g : Nat) (h : W.cell? ⟨g, 0, none⟩ = some (.int .u8 (c.toNat : Int))) : (convert 30 9 (.slice (some ⟨g, 0, none⟩) 1 1)).run Tryd.prog W = .ok (.string ⟨#[c]⟩) W :=
  run_convert_bytes_back (P := Tryd.prog) _ 30 9 5 ⟨g, 0, none⟩ 1 [c] Tryd.underlying30 Tryd.underlying5 Tryd.underlying9 (fun j hj => by
    have : j = 0 := by simpa using hj
    subst this
    exact h)

set_option maxHeartbeats 80000000 in
set_option maxRecDepth 100000 in
theorem forms_walk (n : Nat) (hn : n < 18446744073709551616) (o : Nat) (ho : o < 256) (c : UInt8) (m : Int) (w : World) (hw : DtG m w) :
    Calls Tryd.prog 9 #[.int .u64 (n : Int), .int .u8 (o : Int), .int .u8 (c.toNat : Int)] w fun e w' => e = .returned (.bool true) ∧ Below w.heap.size w w' := by
  have HG := Lib.hid hw
  have HAl := Lib.hid (fun w hw => alive7_any m w hw)
  clear hw
  go_enter Tryd.func9, Tryd.ntmps9
  go_upto_region 1 with (fail)
  go_cut [57] (fun s57 wx => s57 = .bool (!btw c) ∧ w = wx)
  case first => as_aux_lemma =>
    have hk255 := c.toNat_lt
    rcases (show (0 ≤ c.toNat ∧ c.toNat ≤ 8) ∨ (9 ≤ c.toNat ∧ c.toNat ≤ 9) ∨ (10 ≤ c.toNat ∧ c.toNat ≤ 31) ∨ (32 ≤ c.toNat ∧ c.toNat ≤ 47) ∨ (48 ≤ c.toNat ∧ c.toNat ≤ 58) ∨ (59 ≤ c.toNat ∧ c.toNat ≤ 64) ∨ (65 ≤ c.toNat ∧ c.toNat ≤ 90) ∨ (91 ≤ c.toNat ∧ c.toNat ≤ 96) ∨ (97 ≤ c.toNat ∧ c.toNat ≤ 122) ∨ (123 ≤ c.toNat ∧ c.toNat ≤ 126) ∨ (127 ≤ c.toNat ∧ c.toNat ≤ 255) by omega) with ⟨h1, h2⟩ | ⟨h1, h2⟩ | ⟨h1, h2⟩ | ⟨h1, h2⟩ | ⟨h1, h2⟩ | ⟨h1, h2⟩ | ⟨h1, h2⟩ | ⟨h1, h2⟩ | ⟨h1, h2⟩ | ⟨h1, h2⟩ | ⟨h1, h2⟩
    · have hb : btw c = false := by
        have f0 : (c.toNat == 9) = false := beq_eq_false_iff_ne.2 (by omega)
        have l0 : decide (32 ≤ c.toNat) = false := decide_eq_false (by omega)
        have l1 : decide (59 ≤ c.toNat) = false := decide_eq_false (by omega)
        have l2 : decide (91 ≤ c.toNat) = false := decide_eq_false (by omega)
        have l3 : decide (123 ≤ c.toNat) = false := decide_eq_false (by omega)
        have u0 : decide (c.toNat ≤ 47) = true := decide_eq_true (by omega)
        have u1 : decide (c.toNat ≤ 64) = true := decide_eq_true (by omega)
        have u2 : decide (c.toNat ≤ 96) = true := decide_eq_true (by omega)
        have u3 : decide (c.toNat ≤ 126) = true := decide_eq_true (by omega)
        unfold btw; rw [f0, l0, l1, l2, l3, u0, u1, u2, u3]; rfl
      have g0 : ((c.toNat : Int) == 9) = false := beq_eq_false_iff_ne.2 (by omega)
      have n0 : ((c.toNat : Int) != 9) = true := by rw [bne, g0]; rfl
      have p0 : (c.toNat : Int) < 32 := by omega
      have p1 : (c.toNat : Int) < 59 := by omega
      have p2 : (c.toNat : Int) < 91 := by omega
      have p3 : (c.toNat : Int) < 123 := by omega
      have q0 : ¬ (47 : Int) < (c.toNat : Int) := by omega
      have q1 : ¬ (64 : Int) < (c.toNat : Int) := by omega
      have q2 : ¬ (96 : Int) < (c.toNat : Int) := by omega
      have q3 : ¬ (126 : Int) < (c.toNat : Int) := by omega
      clear h1 h2
      go_wp2
      go_meet
      exact ⟨by rw [hb]; rfl, rfl⟩
    · have hb : btw c = true := by
        have f0 : (c.toNat == 9) = true := beq_iff_eq.2 (by omega)
        have l0 : decide (32 ≤ c.toNat) = false := decide_eq_false (by omega)
        have l1 : decide (59 ≤ c.toNat) = false := decide_eq_false (by omega)
        have l2 : decide (91 ≤ c.toNat) = false := decide_eq_false (by omega)
        have l3 : decide (123 ≤ c.toNat) = false := decide_eq_false (by omega)
        have u0 : decide (c.toNat ≤ 47) = true := decide_eq_true (by omega)
        have u1 : decide (c.toNat ≤ 64) = true := decide_eq_true (by omega)
        have u2 : decide (c.toNat ≤ 96) = true := decide_eq_true (by omega)
        have u3 : decide (c.toNat ≤ 126) = true := decide_eq_true (by omega)
        unfold btw; rw [f0, l0, l1, l2, l3, u0, u1, u2, u3]; rfl
      have g0 : ((c.toNat : Int) == 9) = true := beq_iff_eq.2 (by omega)
      have n0 : ((c.toNat : Int) != 9) = false := by rw [bne, g0]; rfl
      have p0 : (c.toNat : Int) < 32 := by omega
      have p1 : (c.toNat : Int) < 59 := by omega
      have p2 : (c.toNat : Int) < 91 := by omega
      have p3 : (c.toNat : Int) < 123 := by omega
      have q0 : ¬ (47 : Int) < (c.toNat : Int) := by omega
      have q1 : ¬ (64 : Int) < (c.toNat : Int) := by omega
      have q2 : ¬ (96 : Int) < (c.toNat : Int) := by omega
      have q3 : ¬ (126 : Int) < (c.toNat : Int) := by omega
      clear h1 h2
      go_wp2
      go_meet
      exact ⟨by rw [hb]; rfl, rfl⟩
    · have hb : btw c = false := by
        have f0 : (c.toNat == 9) = false := beq_eq_false_iff_ne.2 (by omega)
        have l0 : decide (32 ≤ c.toNat) = false := decide_eq_false (by omega)
        have l1 : decide (59 ≤ c.toNat) = false := decide_eq_false (by omega)
        have l2 : decide (91 ≤ c.toNat) = false := decide_eq_false (by omega)
        have l3 : decide (123 ≤ c.toNat) = false := decide_eq_false (by omega)
        have u0 : decide (c.toNat ≤ 47) = true := decide_eq_true (by omega)
        have u1 : decide (c.toNat ≤ 64) = true := decide_eq_true (by omega)
        have u2 : decide (c.toNat ≤ 96) = true := decide_eq_true (by omega)
        have u3 : decide (c.toNat ≤ 126) = true := decide_eq_true (by omega)
        unfold btw; rw [f0, l0, l1, l2, l3, u0, u1, u2, u3]; rfl
      have g0 : ((c.toNat : Int) == 9) = false := beq_eq_false_iff_ne.2 (by omega)
      have n0 : ((c.toNat : Int) != 9) = true := by rw [bne, g0]; rfl
      have p0 : (c.toNat : Int) < 32 := by omega
      have p1 : (c.toNat : Int) < 59 := by omega
      have p2 : (c.toNat : Int) < 91 := by omega
      have p3 : (c.toNat : Int) < 123 := by omega
      have q0 : ¬ (47 : Int) < (c.toNat : Int) := by omega
      have q1 : ¬ (64 : Int) < (c.toNat : Int) := by omega
      have q2 : ¬ (96 : Int) < (c.toNat : Int) := by omega
      have q3 : ¬ (126 : Int) < (c.toNat : Int) := by omega
      clear h1 h2
      go_wp2
      go_meet
      exact ⟨by rw [hb]; rfl, rfl⟩
    · have hb : btw c = true := by
        have f0 : (c.toNat == 9) = false := beq_eq_false_iff_ne.2 (by omega)
        have l0 : decide (32 ≤ c.toNat) = true := decide_eq_true (by omega)
        have l1 : decide (59 ≤ c.toNat) = false := decide_eq_false (by omega)
        have l2 : decide (91 ≤ c.toNat) = false := decide_eq_false (by omega)
        have l3 : decide (123 ≤ c.toNat) = false := decide_eq_false (by omega)
        have u0 : decide (c.toNat ≤ 47) = true := decide_eq_true (by omega)
        have u1 : decide (c.toNat ≤ 64) = true := decide_eq_true (by omega)
        have u2 : decide (c.toNat ≤ 96) = true := decide_eq_true (by omega)
        have u3 : decide (c.toNat ≤ 126) = true := decide_eq_true (by omega)
        unfold btw; rw [f0, l0, l1, l2, l3, u0, u1, u2, u3]; rfl
      have g0 : ((c.toNat : Int) == 9) = false := beq_eq_false_iff_ne.2 (by omega)
      have n0 : ((c.toNat : Int) != 9) = true := by rw [bne, g0]; rfl
      have p0 : ¬ (c.toNat : Int) < 32 := by omega
      have p1 : (c.toNat : Int) < 59 := by omega
      have p2 : (c.toNat : Int) < 91 := by omega
      have p3 : (c.toNat : Int) < 123 := by omega
      have q0 : ¬ (47 : Int) < (c.toNat : Int) := by omega
      have q1 : ¬ (64 : Int) < (c.toNat : Int) := by omega
      have q2 : ¬ (96 : Int) < (c.toNat : Int) := by omega
      have q3 : ¬ (126 : Int) < (c.toNat : Int) := by omega
      clear h1 h2
      go_wp2
      go_meet
      exact ⟨by rw [hb]; rfl, rfl⟩
    · have hb : btw c = false := by
        have f0 : (c.toNat == 9) = false := beq_eq_false_iff_ne.2 (by omega)
        have l0 : decide (32 ≤ c.toNat) = true := decide_eq_true (by omega)
        have l1 : decide (59 ≤ c.toNat) = false := decide_eq_false (by omega)
        have l2 : decide (91 ≤ c.toNat) = false := decide_eq_false (by omega)
        have l3 : decide (123 ≤ c.toNat) = false := decide_eq_false (by omega)
        have u0 : decide (c.toNat ≤ 47) = false := decide_eq_false (by omega)
        have u1 : decide (c.toNat ≤ 64) = true := decide_eq_true (by omega)
        have u2 : decide (c.toNat ≤ 96) = true := decide_eq_true (by omega)
        have u3 : decide (c.toNat ≤ 126) = true := decide_eq_true (by omega)
        unfold btw; rw [f0, l0, l1, l2, l3, u0, u1, u2, u3]; rfl
      have g0 : ((c.toNat : Int) == 9) = false := beq_eq_false_iff_ne.2 (by omega)
      have n0 : ((c.toNat : Int) != 9) = true := by rw [bne, g0]; rfl
      have p0 : ¬ (c.toNat : Int) < 32 := by omega
      have p1 : (c.toNat : Int) < 59 := by omega
      have p2 : (c.toNat : Int) < 91 := by omega
      have p3 : (c.toNat : Int) < 123 := by omega
      have q0 : (47 : Int) < (c.toNat : Int) := by omega
      have q1 : ¬ (64 : Int) < (c.toNat : Int) := by omega
      have q2 : ¬ (96 : Int) < (c.toNat : Int) := by omega
      have q3 : ¬ (126 : Int) < (c.toNat : Int) := by omega
      clear h1 h2
      go_wp2
      go_meet
      exact ⟨by rw [hb]; rfl, rfl⟩
    · have hb : btw c = true := by
        have f0 : (c.toNat == 9) = false := beq_eq_false_iff_ne.2 (by omega)
        have l0 : decide (32 ≤ c.toNat) = true := decide_eq_true (by omega)
        have l1 : decide (59 ≤ c.toNat) = true := decide_eq_true (by omega)
        have l2 : decide (91 ≤ c.toNat) = false := decide_eq_false (by omega)
        have l3 : decide (123 ≤ c.toNat) = false := decide_eq_false (by omega)
        have u0 : decide (c.toNat ≤ 47) = false := decide_eq_false (by omega)
        have u1 : decide (c.toNat ≤ 64) = true := decide_eq_true (by omega)
        have u2 : decide (c.toNat ≤ 96) = true := decide_eq_true (by omega)
        have u3 : decide (c.toNat ≤ 126) = true := decide_eq_true (by omega)
        unfold btw; rw [f0, l0, l1, l2, l3, u0, u1, u2, u3]; rfl
      have g0 : ((c.toNat : Int) == 9) = false := beq_eq_false_iff_ne.2 (by omega)
      have n0 : ((c.toNat : Int) != 9) = true := by rw [bne, g0]; rfl
      have p0 : ¬ (c.toNat : Int) < 32 := by omega
      have p1 : ¬ (c.toNat : Int) < 59 := by omega
      have p2 : (c.toNat : Int) < 91 := by omega
      have p3 : (c.toNat : Int) < 123 := by omega
      have q0 : (47 : Int) < (c.toNat : Int) := by omega
      have q1 : ¬ (64 : Int) < (c.toNat : Int) := by omega
      have q2 : ¬ (96 : Int) < (c.toNat : Int) := by omega
      have q3 : ¬ (126 : Int) < (c.toNat : Int) := by omega
      clear h1 h2
      go_wp2
      go_meet
      exact ⟨by rw [hb]; rfl, rfl⟩
    · have hb : btw c = false := by
        have f0 : (c.toNat == 9) = false := beq_eq_false_iff_ne.2 (by omega)
        have l0 : decide (32 ≤ c.toNat) = true := decide_eq_true (by omega)
        have l1 : decide (59 ≤ c.toNat) = true := decide_eq_true (by omega)
        have l2 : decide (91 ≤ c.toNat) = false := decide_eq_false (by omega)
        have l3 : decide (123 ≤ c.toNat) = false := decide_eq_false (by omega)
        have u0 : decide (c.toNat ≤ 47) = false := decide_eq_false (by omega)
        have u1 : decide (c.toNat ≤ 64) = false := decide_eq_false (by omega)
        have u2 : decide (c.toNat ≤ 96) = true := decide_eq_true (by omega)
        have u3 : decide (c.toNat ≤ 126) = true := decide_eq_true (by omega)
        unfold btw; rw [f0, l0, l1, l2, l3, u0, u1, u2, u3]; rfl
      have g0 : ((c.toNat : Int) == 9) = false := beq_eq_false_iff_ne.2 (by omega)
      have n0 : ((c.toNat : Int) != 9) = true := by rw [bne, g0]; rfl
      have p0 : ¬ (c.toNat : Int) < 32 := by omega
      have p1 : ¬ (c.toNat : Int) < 59 := by omega
      have p2 : (c.toNat : Int) < 91 := by omega
      have p3 : (c.toNat : Int) < 123 := by omega
      have q0 : (47 : Int) < (c.toNat : Int) := by omega
      have q1 : (64 : Int) < (c.toNat : Int) := by omega
      have q2 : ¬ (96 : Int) < (c.toNat : Int) := by omega
      have q3 : ¬ (126 : Int) < (c.toNat : Int) := by omega
      clear h1 h2
      go_wp2
      go_meet
      exact ⟨by rw [hb]; rfl, rfl⟩
    · have hb : btw c = true := by
        have f0 : (c.toNat == 9) = false := beq_eq_false_iff_ne.2 (by omega)
        have l0 : decide (32 ≤ c.toNat) = true := decide_eq_true (by omega)
        have l1 : decide (59 ≤ c.toNat) = true := decide_eq_true (by omega)
        have l2 : decide (91 ≤ c.toNat) = true := decide_eq_true (by omega)
        have l3 : decide (123 ≤ c.toNat) = false := decide_eq_false (by omega)
        have u0 : decide (c.toNat ≤ 47) = false := decide_eq_false (by omega)
        have u1 : decide (c.toNat ≤ 64) = false := decide_eq_false (by omega)
        have u2 : decide (c.toNat ≤ 96) = true := decide_eq_true (by omega)
        have u3 : decide (c.toNat ≤ 126) = true := decide_eq_true (by omega)
        unfold btw; rw [f0, l0, l1, l2, l3, u0, u1, u2, u3]; rfl
      have g0 : ((c.toNat : Int) == 9) = false := beq_eq_false_iff_ne.2 (by omega)
      have n0 : ((c.toNat : Int) != 9) = true := by rw [bne, g0]; rfl
      have p0 : ¬ (c.toNat : Int) < 32 := by omega
      have p1 : ¬ (c.toNat : Int) < 59 := by omega
      have p2 : ¬ (c.toNat : Int) < 91 := by omega
      have p3 : (c.toNat : Int) < 123 := by omega
      have q0 : (47 : Int) < (c.toNat : Int) := by omega
      have q1 : (64 : Int) < (c.toNat : Int) := by omega
      have q2 : ¬ (96 : Int) < (c.toNat : Int) := by omega
      have q3 : ¬ (126 : Int) < (c.toNat : Int) := by omega
      clear h1 h2
      go_wp2
      go_meet
      exact ⟨by rw [hb]; rfl, rfl⟩
    · have hb : btw c = false := by
        have f0 : (c.toNat == 9) = false := beq_eq_false_iff_ne.2 (by omega)
        have l0 : decide (32 ≤ c.toNat) = true := decide_eq_true (by omega)
        have l1 : decide (59 ≤ c.toNat) = true := decide_eq_true (by omega)
        have l2 : decide (91 ≤ c.toNat) = true := decide_eq_true (by omega)
        have l3 : decide (123 ≤ c.toNat) = false := decide_eq_false (by omega)
        have u0 : decide (c.toNat ≤ 47) = false := decide_eq_false (by omega)
        have u1 : decide (c.toNat ≤ 64) = false := decide_eq_false (by omega)
        have u2 : decide (c.toNat ≤ 96) = false := decide_eq_false (by omega)
        have u3 : decide (c.toNat ≤ 126) = true := decide_eq_true (by omega)
        unfold btw; rw [f0, l0, l1, l2, l3, u0, u1, u2, u3]; rfl
      have g0 : ((c.toNat : Int) == 9) = false := beq_eq_false_iff_ne.2 (by omega)
      have n0 : ((c.toNat : Int) != 9) = true := by rw [bne, g0]; rfl
      have p0 : ¬ (c.toNat : Int) < 32 := by omega
      have p1 : ¬ (c.toNat : Int) < 59 := by omega
      have p2 : ¬ (c.toNat : Int) < 91 := by omega
      have p3 : (c.toNat : Int) < 123 := by omega
      have q0 : (47 : Int) < (c.toNat : Int) := by omega
      have q1 : (64 : Int) < (c.toNat : Int) := by omega
      have q2 : (96 : Int) < (c.toNat : Int) := by omega
      have q3 : ¬ (126 : Int) < (c.toNat : Int) := by omega
      clear h1 h2
      go_wp2
      go_meet
      exact ⟨by rw [hb]; rfl, rfl⟩
    · have hb : btw c = true := by
        have f0 : (c.toNat == 9) = false := beq_eq_false_iff_ne.2 (by omega)
        have l0 : decide (32 ≤ c.toNat) = true := decide_eq_true (by omega)
        have l1 : decide (59 ≤ c.toNat) = true := decide_eq_true (by omega)
        have l2 : decide (91 ≤ c.toNat) = true := decide_eq_true (by omega)
        have l3 : decide (123 ≤ c.toNat) = true := decide_eq_true (by omega)
        have u0 : decide (c.toNat ≤ 47) = false := decide_eq_false (by omega)
        have u1 : decide (c.toNat ≤ 64) = false := decide_eq_false (by omega)
        have u2 : decide (c.toNat ≤ 96) = false := decide_eq_false (by omega)
        have u3 : decide (c.toNat ≤ 126) = true := decide_eq_true (by omega)
        unfold btw; rw [f0, l0, l1, l2, l3, u0, u1, u2, u3]; rfl
      have g0 : ((c.toNat : Int) == 9) = false := beq_eq_false_iff_ne.2 (by omega)
      have n0 : ((c.toNat : Int) != 9) = true := by rw [bne, g0]; rfl
      have p0 : ¬ (c.toNat : Int) < 32 := by omega
      have p1 : ¬ (c.toNat : Int) < 59 := by omega
      have p2 : ¬ (c.toNat : Int) < 91 := by omega
      have p3 : ¬ (c.toNat : Int) < 123 := by omega
      have q0 : (47 : Int) < (c.toNat : Int) := by omega
      have q1 : (64 : Int) < (c.toNat : Int) := by omega
      have q2 : (96 : Int) < (c.toNat : Int) := by omega
      have q3 : ¬ (126 : Int) < (c.toNat : Int) := by omega
      clear h1 h2
      go_wp2
      go_meet
      exact ⟨by rw [hb]; rfl, rfl⟩
    · have hb : btw c = false := by
        have f0 : (c.toNat == 9) = false := beq_eq_false_iff_ne.2 (by omega)
        have l0 : decide (32 ≤ c.toNat) = true := decide_eq_true (by omega)
        have l1 : decide (59 ≤ c.toNat) = true := decide_eq_true (by omega)
        have l2 : decide (91 ≤ c.toNat) = true := decide_eq_true (by omega)
        have l3 : decide (123 ≤ c.toNat) = true := decide_eq_true (by omega)
        have u0 : decide (c.toNat ≤ 47) = false := decide_eq_false (by omega)
        have u1 : decide (c.toNat ≤ 64) = false := decide_eq_false (by omega)
        have u2 : decide (c.toNat ≤ 96) = false := decide_eq_false (by omega)
        have u3 : decide (c.toNat ≤ 126) = false := decide_eq_false (by omega)
        unfold btw; rw [f0, l0, l1, l2, l3, u0, u1, u2, u3]; rfl
      have g0 : ((c.toNat : Int) == 9) = false := beq_eq_false_iff_ne.2 (by omega)
      have n0 : ((c.toNat : Int) != 9) = true := by rw [bne, g0]; rfl
      have p0 : ¬ (c.toNat : Int) < 32 := by omega
      have p1 : ¬ (c.toNat : Int) < 59 := by omega
      have p2 : ¬ (c.toNat : Int) < 91 := by omega
      have p3 : ¬ (c.toNat : Int) < 123 := by omega
      have q0 : (47 : Int) < (c.toNat : Int) := by omega
      have q1 : (64 : Int) < (c.toNat : Int) := by omega
      have q2 : (96 : Int) < (c.toNat : Int) := by omega
      have q3 : (126 : Int) < (c.toNat : Int) := by omega
      clear h1 h2
      go_wp2
      go_meet
      exact ⟨by rw [hb]; rfl, rfl⟩
  case rest =>
  obtain ⟨rfl, rfl⟩ := hcut
  cases hbt : btw c with
  | false =>
    go_wp2_with fail
    refine (HAl.out _ HG.out).mono ?_
    rintro e w1 ⟨rfl, b1⟩
    go_wp2
    go_ret
    exact ⟨rfl, b1⟩
  | true =>
    have HBt := Lib.hid hbt
    clear hbt
    obtain ⟨k, hk⟩ : ∃ k, n % 3155760000 = k := ⟨_, rfl⟩
    have hkI : (n : Int) % 3155760000 = (k : Int) := by omega
    have hk9 : k < 3155760000 := by omega
    obtain ⟨D, hD⟩ : ∃ D, (k + 62135596800) / 86400 = D := ⟨_, rfl⟩
    obtain ⟨Y, M, d, hI⟩ := isDay_some D (by omega)
    have H1 := Lib.hid (fun w => Day_any (k : Int) D Y M d hI (by omega) (by omega) w)
    unfold dayV at H1
    have hY9 := hI.y2
    have hM1 := hI.m1
    have hM2 := hI.m2
    have hd := hI.d1
    have hd31 := (days_pos Y M).2
    obtain ⟨s, hs⟩ : ∃ s, k % 86400 = s := ⟨_, rfl⟩
    have hsI : (k : Int) % 86400 = (s : Int) := by omega
    have hs9 : s < 86400 := by omega
    obtain ⟨tw, htw⟩ : ∃ tw : Bool, (o / 24 % 2 = 1 ↔ tw = true) := ⟨decide (o / 24 % 2 = 1), by simp⟩
    have HP := Lib.hid (forms_plain hI hD hk9 tw)
    rw [hs] at HP
    have hMlo : ¬ (M : Int) < 1 := by omega
    have hMhi : ¬ (12 : Int) < (M : Int) := by omega
    obtain ⟨C1, HC1⟩ : ∃ C, Hid (asB (d2 (Y / 100)) = C) := ⟨_, Lib.hid rfl⟩
    obtain ⟨C2, HC2⟩ : ∃ C, Hid (asB (d2 (Y % 100)) = C) := ⟨_, Lib.hid rfl⟩
    have zc1 : C1.size = 2 := by rw [← HC1.out]; rfl
    have zc2 : C2.size = 2 := by rw [← HC2.out]; rfl
    obtain ⟨YT, HYT⟩ : ∃ C, Hid (asB (yrT tw Y) = C) := ⟨_, Lib.hid rfl⟩
    have DgOf : ∀ (x : Nat) (v : Int) (b : ByteArray), v = (x : Int) → x < 1000000 → asB (d2 x) = b → ∀ w, Calls Tryd.prog 20 #[.int .i64 v] w fun e w' => e = .returned (.string b) ∧ Below w.heap.size w w' := fun x v b h1 h2 h3 w => by
      rw [h1, ← h3]; exact LTwo_any x h2 w
    have G1 := Lib.hid (DgOf (Y / 100) ((Y : Int) / 100) C1 (by omega) (by omega) HC1.out)
    have G2 := Lib.hid (DgOf (Y % 100) ((Y : Int) % 100) C2 (by omega) (by omega) HC2.out)
    have HDg := Lib.hid DgOf
    have t1 : (Y : Int).tdiv 100 = (Y : Int) / 100 := Int.tdiv_eq_ediv_of_nonneg (by omega)
    have t2 : (Y : Int).tmod 100 = (Y : Int) % 100 := Int.tmod_eq_emod_of_nonneg (by omega)
    have q5 : IntKind.i64.wrap ((Y : Int) / 100) = (Y : Int) / 100 := by rw [IntKind.wrap_i64]; omega
    have q6 : IntKind.i64.wrap ((Y : Int) % 100) = (Y : Int) % 100 := by rw [IntKind.wrap_i64]; omega
    clear DgOf hI hk hD hs
    go_wp2_with fail
    refine (H1.out _).mono ?_
    rintro e w1 ⟨rfl, b1⟩
    have B1 := Lib.hid b1
    clear b1
    go_upto_region 6 with (fail)
    simp only [hsI]
    go_cut [13] (fun s13 wx => s13 = .string YT ∧ Hid (Below w.heap.size w wx))
    case first =>
      have hq24 : o / 24 % 2 = 0 ∨ o / 24 % 2 = 1 := by omega
      rcases hq24 with hq | hq
      · have hqI : (o : Int) / 24 % 2 = 0 := by omega
        have htf : tw = false := by
          cases tw with
          | false => rfl
          | true => have := htw.2 rfl; omega
        subst htf
        have hR : C1 ++ C2 = YT := by rw [← HC1.out, ← HC2.out, ← HYT.out, asB_cat]; rfl
        clear htw hq
        have u1 : (o : Int).tdiv 24 = (o : Int) / 24 := Int.tdiv_eq_ediv_of_nonneg (by omega)
        have u2 : ((o : Int) / 24).tmod 2 = 0 := by rw [Int.tmod_eq_emod_of_nonneg (by omega)]; exact hqI
        have u3 : IntKind.u8.wrap ((o : Int) / 24) = (o : Int) / 24 := IntWalk.u8_in _ (by omega)
        have hc0 : ∀ (W : World), (W.alloc (.cells #[.string C1, .string ⟨#[]⟩] 9)).cell? ⟨W.heap.size, 0, none⟩ = some (.string C1) := fun W => cell_of_row _ _ _ _ _ _ (heap_alloc_new W _)
        go_region_with (first
          | (go_at_call 20; (with_reducible refine (G1.out _).mono ?_); rintro e w2 ⟨rfl, b2⟩; have Z2 : Hid (Below w.heap.size w w2) := Lib.hid (B1.out.drew.trans (b2.mono B1.out.size)); have hc1 := hc0 w2; have hsz2 : w2.heap.size < (w2.alloc (.cells #[.string C1, .string ⟨#[]⟩] 9)).heap.size := by simp)
          | (go_at_call 20; (with_reducible refine (G2.out _).mono ?_); rintro e w3 ⟨rfl, b3⟩; (first | (have Z3 : Hid (Below w.heap.size w w3) := Lib.hid (Z2.out.trans (b3.mono Z2.out.size))) | (have Z3 : Hid (Below w.heap.size w w3) := Lib.hid ((Z2.out.alloc Z2.out.size _).trans (b3.mono (Nat.le_trans Z2.out.size (Nat.le_of_lt hsz2)))))); (try (have hc3 := (b3.cell (p := ⟨w2.heap.size, 0, none⟩) hsz2).trans hc1)); have hc4 := hc0 w3))
        all_goals
          go_wp2_with fail
          go_meet
          first
            | exact ⟨rfl, Z3⟩
            | exact ⟨rfl, Lib.hid (Z3.out.alloc Z3.out.size _)⟩
      · have hqI : (o : Int) / 24 % 2 = 1 := by omega
        have htf : tw = true := htw.1 hq
        subst htf
        have hR : (⟨#[]⟩ : ByteArray) ++ C2 = YT := by rw [← HC2.out, ← HYT.out]; exact asB_cat [] _
        clear htw hq
        have u1 : (o : Int).tdiv 24 = (o : Int) / 24 := Int.tdiv_eq_ediv_of_nonneg (by omega)
        have u2 : ((o : Int) / 24).tmod 2 = 1 := by rw [Int.tmod_eq_emod_of_nonneg (by omega)]; exact hqI
        have u3 : IntKind.u8.wrap ((o : Int) / 24) = (o : Int) / 24 := IntWalk.u8_in _ (by omega)
        have hc0 : ∀ (W : World), (W.alloc (.cells #[.string C1, .string ⟨#[]⟩] 9)).cell? ⟨W.heap.size, 1, none⟩ = some (.string ⟨#[]⟩) := fun W => cell_of_row _ _ _ _ _ _ (heap_alloc_new W _)
        go_region_with (first
          | (go_at_call 20; (with_reducible refine (G1.out _).mono ?_); rintro e w2 ⟨rfl, b2⟩; have Z2 : Hid (Below w.heap.size w w2) := Lib.hid (B1.out.drew.trans (b2.mono B1.out.size)); have hc1 := hc0 w2; have hsz2 : w2.heap.size < (w2.alloc (.cells #[.string C1, .string ⟨#[]⟩] 9)).heap.size := by simp)
          | (go_at_call 20; (with_reducible refine (G2.out _).mono ?_); rintro e w3 ⟨rfl, b3⟩; (first | (have Z3 : Hid (Below w.heap.size w w3) := Lib.hid (Z2.out.trans (b3.mono Z2.out.size))) | (have Z3 : Hid (Below w.heap.size w w3) := Lib.hid ((Z2.out.alloc Z2.out.size _).trans (b3.mono (Nat.le_trans Z2.out.size (Nat.le_of_lt hsz2)))))); (try (have hc3 := (b3.cell (p := ⟨w2.heap.size, 1, none⟩) hsz2).trans hc1)); have hc4 := hc0 w3))
        all_goals
          go_wp2_with fail
          go_meet
          first
            | exact ⟨rfl, Z3⟩
            | exact ⟨rfl, Lib.hid (Z3.out.alloc Z3.out.size _)⟩
    case rest =>
    obtain ⟨rfl, HB6⟩ := hcut
    obtain ⟨TT, HTT⟩ : ∃ C, Hid (asB (clockL s) = C) := ⟨_, Lib.hid rfl⟩
    obtain ⟨DT, HDT⟩ : ∃ C, Hid (asB (d2 d) = C) := ⟨_, Lib.hid rfl⟩
    obtain ⟨MT, HMT⟩ : ∃ C, Hid (asB (mixL.getD M []) = C) := ⟨_, Lib.hid rfl⟩
    go_upto_region 10 with (fail)
    go_cut [15] (fun s15 wx => ∃ g, s15 = .slice (some ⟨g, 0, none⟩) 4 4 ∧ Hid (w.heap.size ≤ g) ∧ Hid (wx.heap[g]? = some (.cells #[.string TT, .string DT, .string MT, .string YT] 9 (0, 0))) ∧ Hid (Below w.heap.size w wx))
    case first =>
      obtain ⟨F1, HF1⟩ : ∃ F, Hid (asB (d2 (s / 3600)) = F) := ⟨_, Lib.hid rfl⟩
      obtain ⟨F2, HF2⟩ : ∃ F, Hid (asB (d2 (s / 60 % 60)) = F) := ⟨_, Lib.hid rfl⟩
      obtain ⟨F3, HF3⟩ : ∃ F, Hid (asB (d2 (s % 60)) = F) := ⟨_, Lib.hid rfl⟩
      have zf1 : F1.size = 2 := by rw [← HF1.out]; rfl
      have zf2 : F2.size = 2 := by rw [← HF2.out]; rfl
      have zf3 : F3.size = 2 := by rw [← HF3.out]; rfl
      have hR : F1 ++ ⟨#[58]⟩ ++ F2 ++ ⟨#[58]⟩ ++ F3 = TT := by
        rw [← HF1.out, ← HF2.out, ← HF3.out, ← HTT.out]
        show asB _ ++ asB [58] ++ asB _ ++ asB [58] ++ asB _ = _
        simp only [asB_cat]
        unfold clockL
        simp
      have K4 := Lib.hid (HDg.out (s / 3600) ((s : Int) / 3600) F1 (by omega) (by omega) HF1.out)
      have K5 := Lib.hid (HDg.out (s / 60 % 60) ((s : Int) / 60 % 60) F2 (by omega) (by omega) HF2.out)
      have K6 := Lib.hid (HDg.out (s % 60) ((s : Int) % 60) F3 (by omega) (by omega) HF3.out)
      have K7 := Lib.hid (HDg.out d (d : Int) DT rfl (by omega) HDT.out)
      have l2 := fun w => slice_mx M hM1 hM2 w
      rw [HMT.out] at l2
      have t3 : (s : Int).tdiv 3600 = (s : Int) / 3600 := Int.tdiv_eq_ediv_of_nonneg (by omega)
      have t4 : (s : Int).tdiv 60 = (s : Int) / 60 := Int.tdiv_eq_ediv_of_nonneg (by omega)
      have t5 : ((s : Int) / 60).tmod 60 = (s : Int) / 60 % 60 := Int.tmod_eq_emod_of_nonneg (by omega)
      have t6 : (s : Int).tmod 60 = (s : Int) % 60 := Int.tmod_eq_emod_of_nonneg (by omega)
      have v3 : IntKind.i64.wrap (3 * (M : Int)) = 3 * (M : Int) := by rw [IntKind.wrap_i64]; omega
      have v4 : IntKind.i64.wrap (3 * (M : Int) - 3) = 3 * (M : Int) - 3 := by rw [IntKind.wrap_i64]; omega
      have v7 : IntKind.i64.wrap ((s : Int) / 3600) = (s : Int) / 3600 := by rw [IntKind.wrap_i64]; omega
      have v8 : IntKind.i64.wrap ((s : Int) / 60) = (s : Int) / 60 := by rw [IntKind.wrap_i64]; omega
      have v9 : IntKind.i64.wrap ((s : Int) / 60 % 60) = (s : Int) / 60 % 60 := by rw [IntKind.wrap_i64]; omega
      have v0 : IntKind.i64.wrap ((s : Int) % 60) = (s : Int) % 60 := by rw [IntKind.wrap_i64]; omega
      go_region_with (go_at_call 20; first
        | ((with_reducible refine (K4.out _).mono ?_); rintro e w2 ⟨rfl, b2⟩; have Z2 : Hid (Below w.heap.size w w2) := Lib.hid (HB6.out.drew.trans (b2.mono HB6.out.size)))
        | ((with_reducible refine (K5.out _).mono ?_); rintro e w3 ⟨rfl, b3⟩; have Z3 : Hid (Below w.heap.size w w3) := Lib.hid (Z2.out.trans (b3.mono Z2.out.size)))
        | ((with_reducible refine (K6.out _).mono ?_); rintro e w4 ⟨rfl, b4⟩; have Z4 : Hid (Below w.heap.size w w4) := Lib.hid (Z3.out.trans (b4.mono Z3.out.size)))
        | ((with_reducible refine (K7.out _).mono ?_); rintro e w5 ⟨rfl, b5⟩; have Z5 : Hid (Below w.heap.size w w5) := Lib.hid (Z4.out.trans (b5.mono Z4.out.size))))
      all_goals
        go_wp2_with fail
        go_meet
        exact ⟨_, rfl, Lib.hid Z5.out.size, Lib.hid (heap_alloc_new _ _), Lib.hid (Z5.out.alloc Z5.out.size _)⟩
    case rest =>
    obtain ⟨g, rfl, HGg, HGc, HB10⟩ := hcut
    obtain ⟨ok, st, dd, hok0, hst0, hdd0, hfR, hfB, hstep⟩ := HP.out
    have HStep := Lib.hid hstep
    have HFr := Lib.hid hfR
    have HFb := Lib.hid hfB
    have HSt0 := Lib.hid hst0
    have HOk0 := Lib.hid hok0
    have HDd0 := Lib.hid hdd0
    obtain ⟨wt, hwt⟩ : ∃ wt : Nat → ByteArray, Hid (∀ x, wt x = asB (wrd tw Y M d s x)) := ⟨_, Lib.hid (fun x => rfl)⟩
    have HW0 : Hid (#[Value.string TT, .string DT, .string MT, .string YT] = (([0, 1, 2, 3] : List Nat).map fun x => Value.string (wt x)).toArray) := Lib.hid (by
      simp only [List.map_cons, List.map_nil, hwt.out]
      rw [← HTT.out, ← HDT.out, ← HMT.out, ← HYT.out]; rfl)
    have HOwn0 : Hid (wc.ownsRow w.heap.size 9 1 (.slice (some ⟨g, 0, none⟩) 4 4) 4 (([0, 1, 2, 3] : List Nat).map fun x => Value.string (wt x))) := Lib.hid ⟨rfl, .inr ⟨g, 4, _, rfl, HGg.out, HGc.out, Nat.le_refl _, by unfold maxLen; omega, rfl, by rw [HW0.out]; rfl⟩⟩
    clear hstep hfR hfB hst0 hok0 hdd0
    go_wp2
    go_loopw [15, 16, 17, 18, 19, 20, 21] (fun p x l y i _ _ wr => ∃ (r : List Nat) (tx : ByteArray) (L : Nat), i = .int .i64 (r.length : Int) ∧ l = .int .i64 (L : Int) ∧ L < 24 ∧ x = .string tx ∧ y = .bool (dd r) ∧ tx.size + 9 * r.length ≤ 36 ∧ Hid (ok r) ∧ Hid (wr.ownsRow w.heap.size 9 1 p r.length (r.map fun x => Value.string (wt x))) ∧ Hid (∀ l, scanF noneT [] (tx.data.toList ++ l) = scanF (st r) [] l) ∧ Hid (Below w.heap.size w wr)) (fun _ _ _ _ i _ _ _ => (intOf i).toNat)
    case atStart => as_aux_lemma =>
      refine ⟨[0, 1, 2, 3], ⟨#[]⟩, o % 24, rfl, ?_, by omega, rfl, by rw [HDd0.out], by decide, HOk0, HOwn0, Lib.hid (fun l => by rw [HSt0.out]; rfl), HB10⟩
      congr 1
    case round =>
      obtain ⟨r, tx, L, rfl, rfl, hL24, rfl, rfl, htx, HOk, HOwn, HSc, HBr⟩ := hrel
      have hsub := (HStep.out r HOk.out).1
      by_cases hr0 : r = []
      · subst hr0
        have hto : toldT tx = st [] := by
          have := HSc.out []
          rw [List.append_nil] at this
          unfold toldT; rw [this]; rfl
        have HCk := Lib.hid (fun w hw => Cookie_any tx (by omega) m w hw)
        rw [hto, HFr.out, HFb.out] at HCk
        have E := beq_self_eq_true (k : Int)
        clear hsub hto
        simp only [List.length_nil]
        go_wp2_with fail
        refine (HCk.out _ (HG.out.below HBr.out).c0).mono ?_
        rintro e w5 ⟨rfl, b5⟩
        have B5 := Lib.hid (HBr.out.trans (b5.mono HBr.out.size))
        clear b5
        go_wp2_with fail
        refine (HAl.out _ (HG.out.below B5.out)).mono ?_
        rintro e w6 ⟨rfl, b6⟩
        go_wp2
        go_ret
        exact ⟨rfl, B5.out.trans (b6.mono B5.out.size)⟩
      · have hn1 : 0 < r.length := List.length_pos_iff.2 hr0
        have hn4 : r.length ≤ 4 := by
          have : ∀ r ∈ subs4, r.length ≤ 4 := by decide
          exact this r hsub
        obtain ⟨gp, cap, rfl, hcap, hgp, hgl, hcells⟩ := own_row hn1 HOwn.out
        obtain ⟨n4, HN4⟩ : ∃ n4, Hid (r.length = n4) := ⟨_, Lib.hid rfl⟩
        rw [HN4.out] at hn1 hn4 hcap hcells htx ⊢
        obtain ⟨j, hj⟩ : ∃ j, L % n4 = j := ⟨_, rfl⟩
        obtain ⟨L', hL'⟩ : ∃ L', L / n4 = L' := ⟨_, rfl⟩
        have hjn : j < n4 := by rw [← hj]; exact Nat.mod_lt _ hn1
        have hL24' : L' < 24 := by rw [← hL']; exact Nat.lt_of_le_of_lt (Nat.div_le_self _ _) hL24
        have ejt : (L : Int).tmod (n4 : Int) = (j : Int) := by rw [← hj]; rfl
        have ejm : (L : Int) % (n4 : Int) = (j : Int) := by rw [← hj]; rfl
        have elt : (L : Int).tdiv (n4 : Int) = (L' : Int) := by rw [← hL']; rfl
        have ele : (L : Int) / (n4 : Int) = (L' : Int) := by rw [← hL']; rfl
        have hnz : ((n4 : Int) == 0) = false := beq_eq_false_iff_ne.2 (by omega)
        have hnp : (0 : Int) < (n4 : Int) := by omega
        obtain ⟨X, HX⟩ : ∃ X, Hid (wt (r.getD j 0) = X) := ⟨_, Lib.hid rfl⟩
        have hcX : wr.cell? ⟨gp, j, none⟩ = some (.string X) := by
          rw [hcells j hjn, List.getElem?_map, List.getElem?_eq_getElem (by rw [HN4.out]; exact hjn), ← HX.out, List.getD_eq_getElem?_getD, List.getElem?_eq_getElem (by rw [HN4.out]; exact hjn)]; rfl
        have HCells := Lib.hid hcells
        have HXl : Hid (X.data.toList = wrd tw Y M d s (r.getD j 0)) := Lib.hid (by rw [← HX.out, hwt.out]; rfl)
        have hX8 : X.size ≤ 8 := by rw [← lenB, HXl.out]; exact wrd_len hM1 hM2
        obtain ⟨b1, hb1⟩ : ∃ b, ((X.size : Int) == 2) = b := ⟨_, rfl⟩
        obtain ⟨b2, hb2⟩ : ∃ b, (X.toList == YT.toList) = b := ⟨_, rfl⟩
        obtain ⟨b4, hb4⟩ : ∃ b, ((YT.size : Int) == 2) = b := ⟨_, rfl⟩
        obtain ⟨b5, hb5⟩ : ∃ b, ((d : Int) == (Y : Int) % 100) = b := ⟨_, rfl⟩
        have hb5n : ((d : Int) != (Y : Int) % 100) = !b5 := by rw [bne, hb5]
        obtain ⟨yb, Hyb⟩ : ∃ b, Hid (dd r = b) := ⟨_, Lib.hid rfl⟩
        rw [Hyb.out]
        have hjI : (j : Int) < (n4 : Int) := by omega
        clear hcells hr0 hsub hj hL' hwt
        go_upto_region 19 with (fail)
        go_cut [156] (fun s156 wx => s156 = .bool (b1 && (b2 && (!yb && (b4 && !b5)))) ∧ wr = wx)
        case first => as_aux_lemma =>
          cases b1
          · go_wp2
            go_meet
            exact ⟨rfl, rfl⟩
          · cases b2
            · go_wp2
              go_meet
              exact ⟨rfl, rfl⟩
            · cases yb
              · cases b4
                · go_wp2
                  go_meet
                  exact ⟨rfl, rfl⟩
                · cases b5
                  all_goals
                    simp only [Bool.not_true, Bool.not_false] at hb5n
                    go_wp2
                    go_meet
                    exact ⟨rfl, rfl⟩
              · go_wp2
                go_meet
                exact ⟨rfl, rfl⟩
        case rest =>
        obtain ⟨rfl, rfl⟩ := hcut
        cases he : (b1 && (b2 && (!yb && (b4 && !b5)))) with
        | true =>
          clear hb1 hb2 hb4 hb5 hb5n
          go_wp2
          go_ret
          exact ⟨rfl, HBr.out⟩
        | false =>
          have e1 : decide ((wrd tw Y M d s (r.getD j 0)).length = 2) = b1 := by
            rw [← hb1, ← HXl.out, lenB, Bool.eq_iff_iff]; simp; omega
          have e2 : decide (wrd tw Y M d s (r.getD j 0) = yrT tw Y) = b2 := by
            rw [← hb2, ← HXl.out, ← HYT.out, Bool.eq_iff_iff, ByteArray.toList_eq, ByteArray.toList_eq]; simp [asB_data]
          have e4 : tw = b4 := by
            rw [← hb4, ← HYT.out]
            cases tw
            · rfl
            · rfl
          have e5 : decide (d ≠ Y % 100) = !b5 := by
            rw [← hb5, Bool.eq_iff_iff]; simp; omega
          have hahd : ahd tw Y M d s (dd r) (r.getD j 0) = false := by
            unfold ahd
            rw [e1, e2, Hyb.out, e5, e4]
            exact he
          obtain ⟨hok', hst', hdd'⟩ := (HStep.out r HOk.out).2 j (by rw [HN4.out]; exact hjn) hahd
          rw [Hyb.out, e1] at hdd'
          have HOk' := Lib.hid hok'
          have HSt' := Lib.hid hst'
          have HDd' := Lib.hid hdd'
          clear hb2 hb4 hb5 hb5n e1 e2 e4 e5 he hahd hok' hst' hdd'
          go_upto_region 21 with (fail)
          go_cut [18] (fun s18 wx => s18 = .bool (yb || b1) ∧ wr = wx)
          case first => as_aux_lemma =>
            cases yb
            all_goals
              cases b1
              all_goals
                go_wp2
                go_meet
                exact ⟨rfl, rfl⟩
          case rest =>
          obtain ⟨rfl, rfl⟩ := hcut
          clear hb1
          go_upto_region 22 with (fail)
          go_cut [16] (fun s16 wx => s16 = .string (tx ++ X ++ ⟨#[c]⟩) ∧ Hid (Below wr.heap.size wr wx))
          case first => as_aux_lemma =>
            have hcv := conv_at c (wr.alloc (.cells #[.int .u8 (c.toNat : Int)] 5)).drew wr.heap.size (cell_of_row _ _ _ _ _ _ (heap_alloc_new wr _))
            have hcA : (wr.alloc (.cells #[.int .u8 (c.toNat : Int)] 5)).drew.cell? ⟨gp, j, none⟩ = some (.string X) := cell_old _ hcX
            have hz1 : ¬ 9223372036854775807 < tx.size + X.size := by omega
            have hz2 : ¬ 9223372036854775807 < tx.size + X.size + 1 := by omega
            go_region
            all_goals
              go_wp2_with fail
              go_meet
              exact ⟨rfl, Lib.hid (((Below.refl _ _).alloc (Nat.le_refl _) _).drew)⟩
          case rest =>
          obtain ⟨rfl, HB5⟩ := hcut
          obtain ⟨R, HRd⟩ : ∃ R, Hid (r.map (fun x => Value.string (wt x)) = R) := ⟨_, Lib.hid rfl⟩
          have hRl : R.length = n4 := by rw [← HRd.out, List.length_map]; exact HN4.out
          have hR1 : ∀ u ∈ R, u.oneCell' = true := fun u hu => by
            rw [← HRd.out] at hu
            obtain ⟨x, _, rfl⟩ := List.mem_map.1 hu
            rfl
          have hB5 : Below w.heap.size w wc := HBr.out.trans (HB5.out.mono HBr.out.size)
          have hc5 : ∀ i u, i < n4 → R[i]? = some u → wc.cell? ⟨gp, i, none⟩ = some u := fun i u hi hu => by
            rw [HB5.out.cell (p := ⟨gp, i, none⟩) hgl, HCells.out i hi, HRd.out]; exact hu
          obtain ⟨v1, w6, run1, own1, bel1, grow1⟩ := app_run w.heap.size (.slice none 0 0) [] 0 ⟨gp, 0, none⟩ j cap (R.take j) wc (World.ownsRow_nil _ _ _ _) (by rw [List.length_take]; omega)
            (fun i u hu => by
              rw [addr_at, Nat.zero_add]
              have hi : i < j := by
                have := (List.getElem?_eq_some_iff.1 hu).1
                rw [List.length_take] at this; omega
              refine hc5 i u (by omega) ?_
              rwa [List.getElem?_take_of_lt hi] at hu) (fun u hu => hR1 u (List.mem_of_mem_take hu)) (by omega) hB5.size
          have hgc : gp < wc.heap.size := Nat.lt_of_lt_of_le hgl HB5.out.size
          obtain ⟨a2, ha2, hnew2⟩ : ∃ a2 : Addr, (if cap = j + 1 then some (⟨gp, 0, none⟩ : Addr) else some ⟨gp, j + 1, none⟩) = some a2 ∧ ∀ i u, (R.drop (j + 1))[i]? = some u → w6.cell? (a2.add i) = some u := by
            by_cases hcj : cap = j + 1
            · refine ⟨⟨gp, 0, none⟩, if_pos hcj, fun i u hu => ?_⟩
              have := (List.getElem?_eq_some_iff.1 hu).1
              rw [List.length_drop] at this; omega
            · refine ⟨⟨gp, j + 1, none⟩, if_neg hcj, fun i u hu => ?_⟩
              rw [addr_at]
              have hi : j + 1 + i < n4 := by
                have := (List.getElem?_eq_some_iff.1 hu).1
                rw [List.length_drop] at this; omega
              refine grow1.cell ?_ (by simp [Value.ownBlock])
              refine hc5 _ u hi ?_
              rwa [List.getElem?_drop] at hu
          obtain ⟨v2, w7, run2, own2, bel2, _⟩ := app_run w.heap.size v1 ([] ++ R.take j) (0 + j) a2 (n4 - (j + 1)) (cap - (j + 1)) (R.drop (j + 1)) w6 own1 (by rw [List.length_drop, hRl])
            hnew2 (fun u hu => hR1 u (List.mem_of_mem_drop hu)) (by omega) (Nat.le_trans hB5.size bel1.size)
          rw [← ha2] at run2
          have HRun1 := Lib.hid run1
          have HRun2 := Lib.hid run2
          have HB7 : Hid (Below w.heap.size w w7) := Lib.hid ((hB5.trans bel1).trans bel2)
          have HOwn7 : Hid (w7.ownsRow w.heap.size 9 1 v2 (r.eraseIdx j).length ((r.eraseIdx j).map fun x => Value.string (wt x))) := Lib.hid (by
            have hl : (r.eraseIdx j).length = 0 + j + (n4 - (j + 1)) := by
              rw [List.length_eraseIdx, HN4.out, if_pos hjn]; omega
            have hm : (r.eraseIdx j).map (fun x => Value.string (wt x)) = [] ++ R.take j ++ R.drop (j + 1) := by
              rw [← HRd.out, List.nil_append, ← List.map_take, ← List.map_drop, ← List.map_append, List.eraseIdx_eq_take_drop_succ]
            rw [hl, hm]
            exact own2)
          have hjc : (j : Int) ≤ (cap : Int) := by omega
          have hjc1 : (j : Int) + 1 ≤ (n4 : Int) := by omega
          have hnc : (n4 : Int) ≤ (cap : Int) := by omega
          clear run1 run2 own1 own2 bel1 bel2 grow1 hR1 hc5 hB5 hRl ha2 hnew2
          have HNew : Hid (∀ l, scanF noneT [] ((tx ++ X ++ (⟨#[c]⟩ : ByteArray)).data.toList ++ l) = scanF (st (r.eraseIdx j)) [] l) := Lib.hid (fun l => by
            have e : (tx ++ X ++ (⟨#[c]⟩ : ByteArray)).data.toList ++ l = tx.data.toList ++ (wrd tw Y M d s (r.getD j 0) ++ c :: l) := by
              rw [ByteArray.data_append, ByteArray.data_append, Array.toList_append, Array.toList_append, HXl.out]; simp
            rw [e, HSc.out, scan_word _ _ _ _ (wrd_btw hM1 hM2) HBt.out, HSt'.out])
          have hlen' : (r.eraseIdx j).length + 1 = n4 := by
            rw [List.length_eraseIdx, HN4.out, if_pos hjn]; omega
          have hszN : (tx ++ X ++ (⟨#[c]⟩ : ByteArray)).size = tx.size + X.size + 1 := by simp; rfl
          have HSz := Lib.hid hszN
          have HLen := Lib.hid hlen'
          clear hszN hlen'
          go_upto_region 25 with (at_builtin; refine append_ranF (v' := v1) (w' := w6) (by rfl) _ _ 39 rfl _ _ rfl rfl HRun1.out ?_)
          go_wp2_with (at_builtin; refine append_ranF (v' := v2) (w' := w7) (by rfl) _ _ 39 rfl _ _ rfl rfl HRun2.out ?_)
          go_roundw
          case rel => exact ⟨r.eraseIdx j, _, L', by have := HLen.out; go_num, rfl, hL24', rfl, by rw [HDd'.out], by have h1 := HSz.out; have h2 := HLen.out; omega, HOk', HOwn7, HNew, HB7⟩
          case measure => have := HLen.out; simp [intOf]; omega

end Go.Proofs.YtkekidjnedmpjaaDoor
