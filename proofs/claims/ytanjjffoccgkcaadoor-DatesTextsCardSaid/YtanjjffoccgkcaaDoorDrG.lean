/-
  The document's date of a header, read back.
-/
import Derived.Test.YtanjjffoccgkcaaDoorDrF
import Derived.Test.YtanjjffoccgkcaaDoorRefA
namespace Go.Proofs.YtanjjffoccgkcaaDoor
open Go.RowKit

theorem cut_data (s : ByteArray) (a b : Nat) : (s.extract a b).data.toList = (s.data.toList.take b).drop a := by
  rw [ByteArray.data_extract, Array.toList_extract, List.extract_eq_take_drop, List.drop_take]
theorem slice_lit (s : ByteArray) (a b : Nat) (hab : a ≤ b) (hb : b ≤ s.size) (va vb : Int) (h1 : va = a) (h2 : vb = b) (w : World) : (Instr.slice 9 (.string s) (some (.int .i64 va)) (some (.int .i64 vb)) none).run Tryd.prog w = .ok (.string (s.extract a b)) w := by
  subst h1
  subst h2
  have h := run_slice_string_if (P := Tryd.prog) (w := w) 9 s .i64 .i64 (a : Int) (b : Int) Tryd.underlying9
  rw [if_pos ⟨by omega, by omega⟩, if_pos ⟨by omega, by omega⟩, Int.toNat_natCast, Int.toNat_natCast] at h
  exact h
/-- What two bytes tell. -/
def twoS (s : ByteArray) (a b : Nat) : Int := numV (s.extract a b).data.toList 99
theorem num_lo (l : List UInt8) (most : Int) (hm : 0 ≤ most) : 0 ≤ numV l most ∧ numV l most ≤ most := by
  unfold numV
  split
  · omega
  · rename_i h
    have h1 : allR 48 57 l = true := by
      cases ha : allR 48 57 l with
      | true => rfl
      | false => exact absurd (.inr (.inr (.inl ha))) h
    have h2 := num_bd l h1
    have h3 : ¬ most < num l := fun e => h (.inr (.inr (.inr e)))
    omega
/-- The last month of so many whose name it is. -/
def monLast (t : ByteArray) : Nat → Nat
  | 0 => 0
  | k + 1 => if 1 ≤ k ∧ ((asB (monL.getD k [])).toList == t.toList) = true then k else monLast t k
theorem monLast_le (t : ByteArray) : ∀ k, monLast t k ≤ k
  | 0 => Nat.le_refl _
  | k + 1 => by
    unfold monLast
    split
    · omega
    · have := monLast_le t k; omega
theorem monLast_yes {t : ByteArray} {k : Nat} (h : 1 ≤ k) (hb : ((asB (monL.getD k [])).toList == t.toList) = true) : monLast t (k + 1) = k := by
  rw [monLast, if_pos ⟨h, hb⟩]
theorem monLast_not {t : ByteArray} {k : Nat} (hb : ((asB (monL.getD k [])).toList == t.toList) = false) : monLast t (k + 1) = monLast t k := by
  rw [monLast, if_neg (fun h => by rw [hb] at h; exact absurd h.2 (by decide))]
theorem monLast_mon (M : Nat) (h1 : 1 ≤ M) (h2 : M ≤ 12) : monLast (asB (monL.getD M [])) 13 = M := by
  have : ∀ n : Fin 12, monLast (asB (monL.getD (n.1 + 1) [])) 13 = n.1 + 1 := by decide +kernel
  have h := this ⟨M - 1, by omega⟩
  simp only at h
  rwa [show M - 1 + 1 = M by omega] at h
def yQ (s : ByteArray) : Int := 100 * twoS s 12 14 + twoS s 14 16
def mQ (s : ByteArray) : Nat := monLast (s.extract 8 11) 13

set_option maxHeartbeats 1000000 in
theorem Two_any (s : ByteArray) (a b : Nat) (hs : s.size = 29) (w : World) :
    Calls Tryd.prog 31 #[.string (s.extract a b)] w fun e w' => e = .returned (.int .i64 (twoS s a b)) ∧ w = w' := by
  have HN := Lib.hid (RefNumber_any (s.extract a b) 99 w (by rw [ByteArray.size_extract]; unfold maxLen; omega))
  unfold twoS
  obtain ⟨t, Ht⟩ : ∃ t, Hid (s.extract a b = t) := ⟨_, Lib.hid rfl⟩
  rw [Ht.out] at HN ⊢
  go_enter Tryd.func31, Tryd.ntmps31
  go_wp2_with fail
  refine HN.out.mono ?_
  rintro e w' ⟨rfl, rfl⟩
  go_wp2
  go_ret
  exact ⟨rfl, rfl⟩

set_option maxHeartbeats 1000000 in
theorem RefText_no (n : Int) (h : n < 0 ∨ 253402300799 < n) (w : World) :
    Calls Tryd.prog 14 #[.int .i64 n] w fun e w' => e = .returned (.tuple #[.string ⟨#[]⟩, .bool false]) ∧ w = w' := by
  by_cases hn : n < 0
  · clear h
    go_enter Tryd.func14, Tryd.ntmps14
    go_wp2
    go_ret2
    exact ⟨rfl, rfl⟩
  · have h2 : 253402300799 < n := by omega
    clear h
    go_enter Tryd.func14, Tryd.ntmps14
    go_wp2
    go_ret2
    exact ⟨rfl, rfl⟩

set_option maxHeartbeats 4000000 in
set_option maxRecDepth 100000 in
theorem RefParse_core (s : ByteArray) (h29 : s.size = 29) (N : Int) (ok : Bool) (hN : secR (yQ s) (mQ s : Int) (twoS s 5 7) (twoS s 17 19) (twoS s 20 22) (twoS s 23 25) = N) (hB : secB (yQ s) (mQ s : Int) (twoS s 5 7) (twoS s 17 19) (twoS s 20 22) (twoS s 23 25) = ok)
    (T : ByteArray) (is : Bool) (hT : ∀ w, Calls Tryd.prog 14 #[.int .i64 N] w fun e w' => e = .returned (.tuple #[.string T, .bool is]) ∧ Below w.heap.size w w') (bb : Bool) (hbb : (T.toList == s.toList) = bb) (w : World) :
    Calls Tryd.prog 16 #[.string s] w fun e w' => e = .returned (.tuple #[.int .i64 (if (ok && (is && bb)) = true then N else 0), .bool (ok && (is && bb))]) ∧ Below w.heap.size w w' := by
  have HT := Lib.hid hT
  have HBB := Lib.hid hbb
  obtain ⟨t, Ht⟩ : ∃ t, Hid (s.extract 8 11 = t) := ⟨_, Lib.hid rfl⟩
  have l0 := fun w => slice_lit s 8 11 (by omega) (by omega) 8 11 rfl rfl w
  rw [Ht.out] at l0
  clear hT hbb
  go_enter Tryd.func16, Tryd.ntmps16
  go_wp2
  go_loopw [4, 5] (fun m v wr => ∃ k : Nat, 1 ≤ k ∧ k ≤ 13 ∧ m = .int .i64 ((monLast t k : Nat) : Int) ∧ v = .int .i64 (k : Int) ∧ Hid (Below w.heap.size w wr)) (fun _ v _ => 13 - (intOf v).toNat)
  case atStart => exact ⟨1, by omega, by omega, rfl, rfl, Lib.hid (Below.refl _ _)⟩
  case round =>
    obtain ⟨k, hk1, hk, rfl, rfl, HB⟩ := hrel
    by_cases hlt : k < 13
    · have hltI : (k : Int) ≤ 12 := by omega
      obtain ⟨X, HX⟩ : ∃ X, Hid (asB (monL.getD k []) = X) := ⟨_, Lib.hid rfl⟩
      have l2 := fun w => slice_ms k hk1 (by omega) w
      rw [HX.out] at l2
      obtain ⟨cc, hcc⟩ : ∃ cc, (X.toList == t.toList) = cc := ⟨_, rfl⟩
      have HC := Lib.hid hcc
      obtain ⟨P, HP⟩ : ∃ P, Hid (monLast t k = P) := ⟨_, Lib.hid rfl⟩
      rw [HP.out]
      have q5 : IntKind.i64.wrap (3 * (k : Int) - 3) = 3 * (k : Int) - 3 := by rw [IntKind.wrap_i64]; omega
      have q6 : IntKind.i64.wrap (3 * (k : Int)) = 3 * (k : Int) := by rw [IntKind.wrap_i64]; omega
      go_wp2
      go_quiet (fail)
      have HB2 : Hid (Below w.heap.size w (wr.drewN nq)) := Lib.hid ⟨HB.out.os, HB.out.tape, HB.out.output, HB.out.size, HB.out.block⟩
      cases cc with
      | true =>
        have hL : monLast t (k + 1) = k := monLast_yes hk1 (by rw [HX.out]; exact HC.out)
        go_wp2
        go_roundw
        case rel => exact ⟨k + 1, by omega, by omega, by rw [hL], by go_num, HB2⟩
        case measure => simp [intOf]; omega
      | false =>
        have hL : monLast t (k + 1) = P := (monLast_not (by rw [HX.out]; exact HC.out)).trans HP.out
        go_wp2
        go_roundw
        case rel => exact ⟨k + 1, by omega, by omega, by rw [hL], by go_num, HB2⟩
        case measure => simp [intOf]; omega
    · have hk13 : k = 13 := by omega
      subst hk13
      unfold yQ mQ at hN hB
      rw [Ht.out] at hN hB
      have hml := monLast_le t 13
      obtain ⟨M, HM⟩ : ∃ M, Hid (monLast t 13 = M) := ⟨_, Lib.hid rfl⟩
      rw [HM.out] at hN hB hml ⊢
      have p1 := num_lo (s.extract 12 14).data.toList 99 (by omega)
      have p2 := num_lo (s.extract 14 16).data.toList 99 (by omega)
      have g1 := Two_any s 12 14 h29
      have g2 := Two_any s 14 16 h29
      have g3 := Two_any s 5 7 h29
      have g4 := Two_any s 17 19 h29
      have g5 := Two_any s 20 22 h29
      have g6 := Two_any s 23 25 h29
      have l1 := fun w => slice_lit s 12 14 (by omega) (by omega) 12 14 rfl rfl w
      have l2 := fun w => slice_lit s 14 16 (by omega) (by omega) 14 16 rfl rfl w
      have l3 := fun w => slice_lit s 5 7 (by omega) (by omega) 5 7 rfl rfl w
      have l4 := fun w => slice_lit s 17 19 (by omega) (by omega) 17 19 rfl rfl w
      have l5 := fun w => slice_lit s 20 22 (by omega) (by omega) 20 22 rfl rfl w
      have l6 := fun w => slice_lit s 23 25 (by omega) (by omega) 23 25 rfl rfl w
      rw [show numV (s.extract 12 14).data.toList 99 = twoS s 12 14 from rfl] at p1
      rw [show numV (s.extract 14 16).data.toList 99 = twoS s 14 16 from rfl] at p2
      generalize twoS s 12 14 = v1 at *
      generalize twoS s 14 16 = v2 at *
      generalize twoS s 5 7 = v3 at *
      generalize twoS s 17 19 = v4 at *
      generalize twoS s 20 22 = v5 at *
      generalize twoS s 23 25 = v6 at *
      generalize s.extract 12 14 = S1 at *
      generalize s.extract 14 16 = S2 at *
      generalize s.extract 5 7 = S3 at *
      generalize s.extract 17 19 = S4 at *
      generalize s.extract 20 22 = S5 at *
      generalize s.extract 23 25 = S6 at *
      have lw : ∀ (f : Nat) (a : Array Value) (v : Value), (∀ w, Calls Tryd.prog f a w fun e w' => e = .returned v ∧ w = w') → ∀ w, Calls Tryd.prog f a w fun e w' => e = .returned v ∧ Below w.heap.size w w' := fun f a v h w => (h w).mono fun e w' ⟨h1, h2⟩ => ⟨h1, by rw [← h2]; exact Below.refl _ _⟩
      have G1 := Lib.hid (lw _ _ _ g1)
      have G2 := Lib.hid (lw _ _ _ g2)
      have G3 := Lib.hid (lw _ _ _ g3)
      have G4 := Lib.hid (lw _ _ _ g4)
      have G5 := Lib.hid (lw _ _ _ g5)
      have G6 := Lib.hid (lw _ _ _ g6)
      obtain ⟨Y, HY⟩ : ∃ Y, 100 * v1 + v2 = Y := ⟨_, rfl⟩
      have hS := fun w => RefSeconds_any Y (M : Int) v3 v4 v5 v6 w
      rw [HY] at hN hB
      rw [hN, hB] at hS
      have HS := Lib.hid (lw _ _ _ hS)
      have q1 : IntKind.i64.wrap (100 * v1) = 100 * v1 := by rw [IntKind.wrap_i64]; omega
      have q2 : IntKind.i64.wrap Y = Y := by rw [IntKind.wrap_i64]; omega
      clear hN hB g1 g2 g3 g4 g5 g6 hS lw p1 p2 hk hk1 hlt hml
      go_wp2
      refine bw_region (by kernel_rfl) (by kernel_rfl) ?_
      repeat (first
        | (quiet_step ((go_at_call 31; first | (with_reducible exact Calls.bw_of (G1.out _)) | (with_reducible exact Calls.bw_of (G2.out _)) | (with_reducible exact Calls.bw_of (G3.out _)) | (with_reducible exact Calls.bw_of (G4.out _)) | (with_reducible exact Calls.bw_of (G5.out _)) | (with_reducible exact Calls.bw_of (G6.out _)))))
        | (quiet_step ((go_at_call 25; (with_reducible exact Calls.bw_of (HS.out _))))))
      refine wpQuiet_nil ?_
      intro w3 hw'
      have HB3 : Hid (Below w.heap.size w w3) := Lib.hid (by
        obtain ⟨p, hp⟩ := hw'
        rw [hp]; exact HB.out.trans (p.h.mono HB.out.size))
      clear hw'
      go_wp2_with fail
      refine (HT.out _).mono ?_
      rintro e w4 ⟨rfl, b4⟩
      have HB4 := Lib.hid (HB3.out.trans (b4.mono HB3.out.size))
      have E := HBB.out
      clear b4
      cases ok
      all_goals
        cases is
        all_goals
          cases bb
          all_goals
            go_wp2
            go_ret2
            exact ⟨rfl, HB4.out⟩

end Go.Proofs.YtanjjffoccgkcaaDoor
