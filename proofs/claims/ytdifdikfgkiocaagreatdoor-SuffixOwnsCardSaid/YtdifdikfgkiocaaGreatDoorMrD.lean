/-
  Contracts: the document's Digits.
  Contracts: the document's Text.
  Contracts: the document's Text of sixteen bytes.
  Text of any address: the document's.
-/
import Derived.Test.YtdifdikfgkiocaaGreatDoorMaD
import Derived.IntWalk
import Derived.Test.YtdifdikfgkiocaaGreatDoorMaE
namespace Go.Proofs.YtdifdikfgkiocaaGreatDoor
open Go.RowKit

abbrev HEX : ByteArray := ⟨#[48, 49, 50, 51, 52, 53, 54, 55, 56, 57, 97, 98, 99, 100, 101, 102]⟩
theorem hex_fin : ∀ d : Fin 16, (HEX.extract d.1 (d.1 + 1)).data.toList = [hd d.1] := by decide +kernel
theorem hex_at (d : Nat) (h : d < 16) : HEX.extract d (d + 1) = asB [hd d] := by
 have := hex_fin ⟨d, h⟩
 apply ByteArray.ext
 apply Array.toList_inj.1
 exact this

set_option maxRecDepth 100000 in
set_option maxHeartbeats 1000000 in
theorem Digs_any (b : Nat) (hb2 : 2 ≤ b) (hb : b ≤ 16) (f : Nat) : ∀ (n : Nat) (w : World), n < b ^ (f + 1) → n ≤ 65535 → f ≤ 3 →
  Calls Tryz.prog 107 #[.int .i64 n, .int .i64 b] w fun e w' => e = .returned (.string (asB (numF b (f + 1) n))) ∧ Below w.heap.size w w' := by
 induction f with
 | zero =>
  intro n w hn hn2 hf
  have hnb : n < b := by simpa using hn
  obtain ⟨R, HR⟩ : ∃ R, Hid (R = asB (numF b (0 + 1) n)) := ⟨_, Lib.hid rfl⟩
  have HE : Hid (HEX.extract n (n + 1) = R) := Lib.hid (by rw [HR.out, hex_at n (by omega), numF, if_pos hnb])
  rw [← HR.out]
  clear hn
  go_enter Tryz.func107, Tryz.ntmps107
  go_wp2_with fail
  go_ret
  exact ⟨congrArg (fun z => Ending.returned (Value.string z)) HE.out, Below.refl _ _⟩
 | succ f ih =>
  intro n w hn hn2 hf
  obtain ⟨R, HR⟩ : ∃ R, Hid (R = asB (numF b (f + 1 + 1) n)) := ⟨_, Lib.hid rfl⟩
  rw [← HR.out]
  have HI := Lib.hid ih
  clear ih
  by_cases hnb : n < b
  ·have HE : Hid (HEX.extract n (n + 1) = R) := Lib.hid (by rw [HR.out, hex_at n (by omega), numF, if_pos hnb])
   clear hn
   go_enter Tryz.func107, Tryz.ntmps107
   go_wp2_with fail
   go_ret
   exact ⟨congrArg (fun z => Ending.returned (Value.string z)) HE.out, Below.refl _ _⟩
  ·obtain ⟨q, hq⟩ : ∃ q, n / b = q := ⟨_, rfl⟩
   obtain ⟨d, hd0⟩ : ∃ d, n % b = d := ⟨_, rfl⟩
   have hdb : d < b := by rw [← hd0]; exact Nat.mod_lt _ (by omega)
   have hqn : q < b ^ (f + 1) := by
    rw [← hq, Nat.div_lt_iff_lt_mul (by omega)]; rw [Nat.pow_succ] at hn; exact hn
   have hql : q ≤ n := by rw [← hq]; exact Nat.div_le_self _ _
   obtain ⟨Q, HQ⟩ : ∃ Q, Hid (asB (numF b (f + 1) q) = Q) := ⟨_, Lib.hid rfl⟩
   have hQs : Q.size ≤ f + 1 := by rw [← HQ.out, asB_size]; exact numF_len _ _ _
   have HE : Hid (Q ++ HEX.extract d (d + 1) = R) := Lib.hid (by
    have hN : numF b (f + 1 + 1) n = numF b (f + 1) q ++ [hd d] := by
     conv => lhs; rw [numF, if_neg hnb, hq, hd0]
    rw [HR.out, hex_at d (by omega), ← HQ.out, asB_cat, hN])
   have HC : Hid (∀ w, Calls Tryz.prog 107 #[.int .i64 q, .int .i64 b] w fun e w' => e = .returned (.string Q) ∧ Below w.heap.size w w') := Lib.hid (fun w => by
    rw [← HQ.out]; exact HI.out q w hqn (by omega) (by omega))
   have hz1 : ¬ 9223372036854775807 < Q.size + (min (d + 1) 16 - d) := by omega
   have hd4 : (0 : Int) ≤ (d : Int) + 1 := by omega
   have hd5 : (d : Int) ≤ (d : Int) + 1 := by omega
   have e1 : (n : Int) / (b : Int) = (q : Int) := by rw [← hq]; rfl
   have e2 : (n : Int).tmod (b : Int) = (d : Int) := by rw [← hd0]; rfl
   have hb0 : ¬ b = 0 := by omega
   have hnbI : ¬ (n : Int) < (b : Int) := by omega
   have hd1 : (0 : Int) ≤ (d : Int) := by omega
   have hd2 : (d : Int) < 16 := by omega
   have hd3 : (d : Int) + 1 ≤ 16 := by omega
   have hq1 : (0 : Int) ≤ (q : Int) := by omega
   have hq2 : (q : Int) ≤ 65535 := by omega
   have e3 : IntKind.i64.wrap ((d : Int) + 1) = (d : Int) + 1 := IntWalk.i64_in _ (by omega)
   have e4 : IntKind.i64.wrap (q : Int) = (q : Int) := IntWalk.i64_in _ (by omega)
   have e5 : IntKind.i64.wrap (d : Int) = (d : Int) := IntWalk.i64_in _ (by omega)
   have e6 : ((d : Int) + 1).toNat = d + 1 := by omega
   clear hn hq hd0 hnb
   have hbb : Below w.heap.size w w.drew := (Below.refl w.heap.size w).drew
   go_enter Tryz.func107, Tryz.ntmps107
   go_wp2_with fail
   go_region_held3 (fun w' => Below w.heap.size w w') (first | assumption | exact keepB (by assumption) (by assumption) | go_keep)
    ((go_at_call 107; (with_reducible refine (HC.out _).mono ?_); rintro e w' ⟨rfl, bT⟩))
   all_goals
    go_wp2_with fail
    go_ret
    refine ⟨congrArg (fun z => Ending.returned (Value.string z)) HE.out, by assumption⟩

end Go.Proofs.YtdifdikfgkiocaaGreatDoor
namespace Go.Proofs.YtdifdikfgkiocaaGreatDoor
open Go.RowKit

theorem Digs10 (n : Nat) (w : World) (h : n < 256) : Calls Tryz.prog 107 #[.int .i64 n, .int .i64 10] w fun e w' => e = .returned (.string (asB (numF 10 4 n))) ∧ Below w.heap.size w w' :=
 Digs_any 10 (by omega) (by omega) 3 n w (by omega) (by omega) (by omega)
theorem Digs16 (n : Nat) (w : World) (h : n < 65536) : Calls Tryz.prog 107 #[.int .i64 n, .int .i64 16] w fun e w' => e = .returned (.string (asB (numF 16 4 n))) ∧ Below w.heap.size w w' :=
 Digs_any 16 (by omega) (by omega) 3 n w (by omega) (by omega) (by omega)
set_option maxRecDepth 100000 in
set_option maxHeartbeats 2000000 in
theorem RefText4_any (a b c d : Nat) (r : List Nat) (w : World) (ha : a < 256) (hb : b < 256) (hc : c < 256) (hd : d < 256) (_hr : r.length = 12) :
  Calls Tryz.prog 72 #[.agg (cellsA false (a :: b :: c :: d :: r))] w fun e w' => e = .returned (.string (asB (four1T (a :: b :: c :: d :: r)))) ∧ Below w.heap.size w w' := by
 obtain ⟨C, HC⟩ : ∃ C, Hid (cellsA false (a :: b :: c :: d :: r) = C) := ⟨_, Lib.hid rfl⟩
 rw [HC.out]
 obtain ⟨R, HR⟩ : ∃ R, Hid (four1T (a :: b :: c :: d :: r) = R) := ⟨_, Lib.hid rfl⟩
 rw [HR.out]
 have hC0 : C[0]? = some (.bool false) := by rw [← HC.out]; rfl
 have hW0 : (w.alloc (.cells C 50)).cell? ⟨w.heap.size, 0, none⟩ = some (.bool false) := (cell_of_row _ _ _ C _ _ (heap_alloc_new w _)).trans hC0
 obtain ⟨W, HW⟩ : ∃ W, Hid (w.alloc (.cells C 50) = W) := ⟨_, Lib.hid rfl⟩
 have HG : Hid (W.heap[w.heap.size]? = some (.cells C 50 (0, 0))) := Lib.hid (by rw [← HW.out]; exact heap_alloc_new w _)
 have HB0 : Hid (Below w.heap.size w W) := Lib.hid (by rw [← HW.out]; exact (Below.refl _ _).alloc (Nat.le_refl _) _)
 have hcell : ∀ j v, C[j]? = some v → ∀ w', Below W.heap.size W w' → w'.cell? ⟨w.heap.size, j, none⟩ = some v := fun j v hv w' hb' => by
  have h1 : W.cell? ⟨w.heap.size, j, none⟩ = some v := (cell_of_row _ _ _ C _ _ HG.out).trans hv
  rw [hb'.cell (p := ⟨w.heap.size, j, none⟩) (block_lt_of_cell h1)]; exact h1
 have k1 := hcell 1 (.int .u8 (a : Int)) (by rw [← HC.out]; rfl)
 have k2 := hcell 2 (.int .u8 (b : Int)) (by rw [← HC.out]; rfl)
 have k3 := hcell 3 (.int .u8 (c : Int)) (by rw [← HC.out]; rfl)
 have k4 := hcell 4 (.int .u8 (d : Int)) (by rw [← HC.out]; rfl)
 clear hcell
 obtain ⟨S1, HS1⟩ : ∃ S, Hid (asB (numF 10 4 a) = S) := ⟨_, Lib.hid rfl⟩
 obtain ⟨S2, HS2⟩ : ∃ S, Hid (asB (numF 10 4 b) = S) := ⟨_, Lib.hid rfl⟩
 obtain ⟨S3, HS3⟩ : ∃ S, Hid (asB (numF 10 4 c) = S) := ⟨_, Lib.hid rfl⟩
 obtain ⟨S4, HS4⟩ : ∃ S, Hid (asB (numF 10 4 d) = S) := ⟨_, Lib.hid rfl⟩
 have z1 : S1.size ≤ 4 := by rw [← HS1.out, asB_size]; exact numF_len _ _ _
 have z2 : S2.size ≤ 4 := by rw [← HS2.out, asB_size]; exact numF_len _ _ _
 have z3 : S3.size ≤ 4 := by rw [← HS3.out, asB_size]; exact numF_len _ _ _
 have z4 : S4.size ≤ 4 := by rw [← HS4.out, asB_size]; exact numF_len _ _ _
 have q1 : ¬ 9223372036854775807 < S1.size + 1 := by omega
 have q2 : ¬ 9223372036854775807 < S1.size + 1 + S2.size := by omega
 have q3 : ¬ 9223372036854775807 < S1.size + 1 + S2.size + 1 := by omega
 have q4 : ¬ 9223372036854775807 < S1.size + 1 + S2.size + 1 + S3.size := by omega
 have q5 : ¬ 9223372036854775807 < S1.size + 1 + S2.size + 1 + S3.size + 1 := by omega
 have q6 : ¬ 9223372036854775807 < S1.size + 1 + S2.size + 1 + S3.size + 1 + S4.size := by omega
 clear z1 z2 z3 z4
 have HF : Hid (S1 ++ (⟨#[46]⟩ : ByteArray) ++ S2 ++ (⟨#[46]⟩ : ByteArray) ++ S3 ++ (⟨#[46]⟩ : ByteArray) ++ S4 = asB R) := Lib.hid (by
  rw [← HR.out, ← HS1.out, ← HS2.out, ← HS3.out, ← HS4.out]
  show asB _ ++ asB [46] ++ asB _ ++ asB [46] ++ asB _ ++ asB [46] ++ asB _ = _
  rw [asB_cat, asB_cat, asB_cat, asB_cat, asB_cat, asB_cat]
  congr 1
  show _ = Lib.join [numF 10 4 a, numF 10 4 b, numF 10 4 c, numF 10 4 d] [46]
  simp [Lib.join, List.intercalate])
 have C1 : Hid (∀ w, Calls Tryz.prog 107 #[.int .i64 (a : Int), .int .i64 10] w fun e w' => e = .returned (.string S1) ∧ Below w.heap.size w w') := Lib.hid (fun w => by rw [← HS1.out]; exact Digs10 a w ha)
 have C2 : Hid (∀ w, Calls Tryz.prog 107 #[.int .i64 (b : Int), .int .i64 10] w fun e w' => e = .returned (.string S2) ∧ Below w.heap.size w w') := Lib.hid (fun w => by rw [← HS2.out]; exact Digs10 b w hb)
 have C3 : Hid (∀ w, Calls Tryz.prog 107 #[.int .i64 (c : Int), .int .i64 10] w fun e w' => e = .returned (.string S3) ∧ Below w.heap.size w w') := Lib.hid (fun w => by rw [← HS3.out]; exact Digs10 c w hc)
 have C4 : Hid (∀ w, Calls Tryz.prog 107 #[.int .i64 (d : Int), .int .i64 10] w fun e w' => e = .returned (.string S4) ∧ Below w.heap.size w w') := Lib.hid (fun w => by rw [← HS4.out]; exact Digs10 d w hd)
 go_enter Tryz.func72, Tryz.ntmps72
 go_wp2_with fail
 rw [HW.out]
 have hbb : Below W.heap.size W W.drew := (Below.refl W.heap.size W).drew
 have v1 : IntKind.i64.wrap (a : Int) = (a : Int) := IntWalk.i64_in _ (by omega)
 have v2 : IntKind.i64.wrap (b : Int) = (b : Int) := IntWalk.i64_in _ (by omega)
 have v3 : IntKind.i64.wrap (c : Int) = (c : Int) := IntWalk.i64_in _ (by omega)
 have v4 : IntKind.i64.wrap (d : Int) = (d : Int) := IntWalk.i64_in _ (by omega)
 go_region_held3 (fun w' => Below W.heap.size W w') (first | assumption | exact keepB (by assumption) (by assumption) | go_keep)
  (first
   | (go_at_call 107; (with_reducible refine (C1.out _).mono ?_); rintro e w' ⟨rfl, bT⟩)
   | (go_at_call 107; (with_reducible refine (C2.out _).mono ?_); rintro e w' ⟨rfl, bT⟩)
   | (go_at_call 107; (with_reducible refine (C3.out _).mono ?_); rintro e w' ⟨rfl, bT⟩)
   | (go_at_call 107; (with_reducible refine (C4.out _).mono ?_); rintro e w' ⟨rfl, bT⟩))
 all_goals
  go_wp2_with fail
  go_ret
  refine ⟨congrArg (fun z => Ending.returned (Value.string z)) HF.out, HB0.out.trans (Below.mono (by assumption) HB0.out.size)⟩

end Go.Proofs.YtdifdikfgkiocaaGreatDoor
namespace Go.Proofs.YtdifdikfgkiocaaGreatDoor
open Go.RowKit

theorem zrZ_on {z : Nat → Bool} {f i : Nat} (h : z i = true) : zrZ z (f + 1) i = zrZ z f (i + 1) + 1 := by rw [zrZ, if_pos h]
theorem zrZ_off {z : Nat → Bool} {f i : Nat} (h : z i = false) : zrZ z (f + 1) i = 0 := by rw [zrZ, h]; rfl
theorem rrZ_bd (z : Nat → Bool) : ∀ k, k ≤ 8 → (rrZ z k).1 ≤ k ∧ (rrZ z k).1 + (rrZ z k).2 ≤ 9 ∧ 1 ≤ (rrZ z k).2
 | 0, _ => by simp [rrZ]
 | k + 1, hk => by
  have ih := rrZ_bd z k (by omega)
  rw [rrZ]
  split
  ·have := zrZ_le z (8 - k) k
   exact ⟨by simp only; omega, by simp only; omega, by simp only; omega⟩
  ·omega

theorem sixT_len (l : List Nat) : (sixT l).length ≤ 100 := by
 have h8 : (pcs l).length = 8 := by simp [pcs]
 have h4 : ∀ Q : List Nat, ∀ x ∈ Q.map (numF 16 4), x.length ≤ 4 := fun Q x hx => by
  obtain ⟨n, _, rfl⟩ := List.mem_map.1 hx
  exact numF_len 16 4 n
 have hj : ∀ Q : List Nat, Q.length ≤ 8 → (Lib.join (Q.map (numF 16 4)) [58]).length ≤ 40 := fun Q hQ => by
  have := join_le _ [58] (h4 Q) (by decide)
  rw [List.length_map] at this; omega
 unfold sixT
 split
 ·have := hj (pcs l) (by omega); omega
 ·have h1 := hj ((pcs l).take (lrS (pcs l) 8).2.1) (by rw [List.length_take]; omega)
  have h2 := hj ((pcs l).drop (lrS (pcs l) 8).2.2) (by rw [List.length_drop]; omega)
  rw [List.length_append, List.length_append]
  simp only [List.length_cons, List.length_nil]
  omega
theorem tk_two {F L f : Nat} (h : 1 < L) (hF : F < 8) : tkL F L (f + 1) F = 9 :: tkL F L f (F + L) := by rw [tkL, if_neg (by omega), if_pos ⟨h, rfl⟩]
theorem tk_sep {F L f k : Nat} (hk : k < 8) (h : ¬ (1 < L ∧ k = F)) (h0 : 0 < k) (hs : L = 1 ∨ k ≠ F + L) : tkL F L (f + 1) k = 8 :: k :: tkL F L f (k + 1) := by
 rw [tkL, if_neg (by omega), if_neg h, if_pos ⟨h0, hs⟩]; rfl
theorem tk_no {F L f k : Nat} (hk : k < 8) (h : ¬ (1 < L ∧ k = F)) (hs : ¬ (0 < k ∧ (L = 1 ∨ k ≠ F + L))) : tkL F L (f + 1) k = k :: tkL F L f (k + 1) := by
 rw [tkL, if_neg (by omega), if_neg h, if_neg hs]; rfl
theorem tk_end {F L f k : Nat} (hk : 8 ≤ k) : tkL F L f k = [] := by
 cases f with
 | zero => rfl
 | succ f => rw [tkL, if_pos hk]
theorem ren8 (P : List Nat) : renT P 8 = [58] := rfl
theorem ren9 (P : List Nat) : renT P 9 = [58, 58] := rfl
theorem ren_pc (P : List Nat) {k : Nat} (hk : k < 8) : renT P k = numF 16 4 (P.getD k 0) := by rw [renT, if_neg (by omega), if_neg (by omega)]

set_option maxRecDepth 100000 in
set_option maxHeartbeats 2000000 in
theorem RefText6_any (l : List Nat) (w : World) (hl : l.length = 16) (hb : ∀ x ∈ l, x < 256) :
  Calls Tryz.prog 72 #[.agg (cellsA true l)] w fun e w' => e = .returned (.string (asB (sixT l))) ∧ Below w.heap.size w w' := by
 obtain ⟨C, HC⟩ : ∃ C, Hid (cellsA true l = C) := ⟨_, Lib.hid rfl⟩
 rw [HC.out]
 have hC0 : C[0]? = some (.bool true) := by rw [← HC.out]; rfl
 have hW0 : (w.alloc (.cells C 50)).cell? ⟨w.heap.size, 0, none⟩ = some (.bool true) := (cell_of_row _ _ _ C _ _ (heap_alloc_new w _)).trans hC0
 have HG : Hid ((w.alloc (.cells C 50)).heap[w.heap.size]? = some (.cells C 50 (0, 0))) := Lib.hid (heap_alloc_new w _)
 have HB0 : Hid (Below w.heap.size w (w.alloc (.cells C 50))) := Lib.hid ((Below.refl _ _).alloc (Nat.le_refl _) _)
 have HCj : Hid (∀ j (hj : j < l.length), C[1 + j]? = some (.int .u8 (l[j] : Int))) := Lib.hid (fun j hj => by
  rw [← HC.out, Nat.add_comm 1 j, cellsA_at, List.getElem?_eq_getElem hj]; rfl)
 have HBd := Lib.hid hb
 obtain ⟨P, HP⟩ : ∃ P, Hid (pcs l = P) := ⟨_, Lib.hid rfl⟩
 have hP8 : P.length = 8 := by rw [← HP.out]; simp [pcs]
 have HPb : Hid (∀ x ∈ P, x < 65536) := Lib.hid (fun x hx => by
  rw [← HP.out] at hx
  obtain ⟨j, _, rfl⟩ := List.mem_map.1 hx
  exact by2_lt hb 16 j)
 have HPj : Hid (∀ j, j < 8 → P.getD j 0 = 256 * l.getD (2 * j) 0 + l.getD (2 * j + 1) 0) := Lib.hid (fun j hj => by
  rw [← HP.out, List.getD_eq_getElem?_getD, List.getElem?_eq_getElem (by rw [pcs_len]; exact hj), pcs_at]
  show by2 l 16 j = _
  rw [by2, if_pos (by omega)])
 obtain ⟨R, HR⟩ : ∃ R, Hid (sixT l = R) := ⟨_, Lib.hid rfl⟩
 have HRd : Hid (rens P (tkL (rrZ (zP P) 8).1 (rrZ (zP P) 8).2 9 0) = R) := Lib.hid (by rw [← HR.out, ← HP.out]; exact doc_six l)
 rw [HR.out]
 clear hb
 go_enter Tryz.func72, Tryz.ntmps72
 go_wp2
 have HGc : Hid (((w.alloc (.cells C 50)).alloc (.cells #[.int .i64 0, .int .i64 0, .int .i64 0, .int .i64 0, .int .i64 0, .int .i64 0, .int .i64 0, .int .i64 0] 107)).heap[w.heap.size]? = some (.cells C 50 (0, 0))) := Lib.hid (by rw [Below.heap_alloc _ _ _ (lt_of_block HG.out)]; exact HG.out)
 have HZ0 : Hid (((w.alloc (.cells C 50)).alloc (.cells #[.int .i64 0, .int .i64 0, .int .i64 0, .int .i64 0, .int .i64 0, .int .i64 0, .int .i64 0, .int .i64 0] 107)).heap[w.heap.size + 1]? = some (.cells #[.int .i64 0, .int .i64 0, .int .i64 0, .int .i64 0, .int .i64 0, .int .i64 0, .int .i64 0, .int .i64 0] 107 (0, 0))) := Lib.hid (by
  have := heap_alloc_new (w.alloc (.cells C 50)) (.cells #[.int .i64 0, .int .i64 0, .int .i64 0, .int .i64 0, .int .i64 0, .int .i64 0, .int .i64 0, .int .i64 0] 107)
  rwa [World.size_alloc] at this)
 have HB1 : Hid (Below w.heap.size w ((w.alloc (.cells C 50)).alloc (.cells #[.int .i64 0, .int .i64 0, .int .i64 0, .int .i64 0, .int .i64 0, .int .i64 0, .int .i64 0, .int .i64 0] 107))) := Lib.hid (HB0.out.alloc (by simp) _)
 go_loopw [4] (fun i wr => ∃ (k : Nat) (D : Array Value), k ≤ 8 ∧ i = .int .i64 k ∧ Hid (D.size = 8) ∧ Hid (∀ j, j < k → D[j]? = some (k_iv (P.getD j 0))) ∧ Hid (wr.heap[w.heap.size + 1]? = some (.cells D 107 (0, 0))) ∧ Hid (wr.heap[w.heap.size]? = some (.cells C 50 (0, 0))) ∧ Hid (Below w.heap.size w wr)) (fun i _ => 8 - (intOf i).toNat)
 case atStart => exact ⟨0, _, Nat.zero_le _, rfl, Lib.hid rfl, Lib.hid (fun j h => absurd h (Nat.not_lt_zero _)), HZ0, HGc, HB1⟩
 case round =>
  obtain ⟨k, D, hk, rfl, HDs, HDj, HGd, HGa, HB⟩ := hrel
  by_cases hlt : k < 8
  ·have hk1 : 2 * k < l.length := by omega
   have hk2 : 2 * k + 1 < l.length := by omega
   obtain ⟨x, HX⟩ : ∃ x, Hid (l[2 * k] = x) := ⟨_, Lib.hid rfl⟩
   obtain ⟨y, HY⟩ : ∃ y, Hid (l[2 * k + 1] = y) := ⟨_, Lib.hid rfl⟩
   have hx : x < 256 := by rw [← HX.out]; exact HBd.out _ (List.getElem_mem _)
   have hy : y < 256 := by rw [← HY.out]; exact HBd.out _ (List.getElem_mem _)
   have hc1 : wr.cell? ⟨w.heap.size, 1 + 2 * k, none⟩ = some (.int .u8 (x : Int)) := (cell_of_row wr _ _ C _ _ HGa.out).trans (by rw [HCj.out _ hk1, HX.out])
   have hc2 : wr.cell? ⟨w.heap.size, 1 + (2 * k + 1), none⟩ = some (.int .u8 (y : Int)) := (cell_of_row wr _ _ C _ _ HGa.out).trans (by rw [HCj.out _ hk2, HY.out])
   obtain ⟨z, HZ⟩ : ∃ z, Hid (256 * x + y = z) := ⟨_, Lib.hid rfl⟩
   have hz : (256 : Int) * (x : Int) + (y : Int) = (z : Int) := by rw [← HZ.out]; simp
   have HPz : Hid (P.getD k 0 = z) := Lib.hid (by
    rw [HPj.out k hlt, ← HZ.out, ← HX.out, ← HY.out, List.getD_eq_getElem?_getD, List.getD_eq_getElem?_getD, List.getElem?_eq_getElem hk1, List.getElem?_eq_getElem hk2]; rfl)
   obtain ⟨v0, hv0⟩ : ∃ v, D[k]? = some v := ⟨_, Array.getElem?_eq_getElem (by rw [HDs.out]; exact hlt)⟩
   have hcl : wr.cell? ⟨w.heap.size + 1, k, none⟩ = some v0 := (cell_of_row wr _ _ D _ _ HGd.out).trans hv0
   have hfr := frozen_of_row wr (w.heap.size + 1) k D _ HGd.out
   have HG1 := Lib.hid (heap_setCell_same wr (w.heap.size + 1) k D _ (.int .i64 (z : Int)) HGd.out)
   have HG2 : Hid ((wr.setCell ⟨w.heap.size + 1, k, none⟩ (.int .i64 (z : Int))).heap[w.heap.size]? = some (.cells C 50 (0, 0))) := Lib.hid (by
    rw [heap_setCell_other wr ⟨w.heap.size + 1, k, none⟩ w.heap.size _ (by simp)]; exact HGa.out)
   have HB2 : Hid (Below w.heap.size w (wr.setCell ⟨w.heap.size + 1, k, none⟩ (.int .i64 (z : Int)))) := Lib.hid (HB.out.setCell (by simp) _)
   have HD2 : Hid (∀ j, j < k + 1 → (D.setIfInBounds k (.int .i64 (z : Int)))[j]? = some (k_iv (P.getD j 0))) := Lib.hid (fun j hj => by
    rw [Array.getElem?_setIfInBounds]
    by_cases e : k = j
    ·subst e
     rw [if_pos rfl, if_pos (by rw [HDs.out]; exact hlt), HPz.out]; rfl
    ·rw [if_neg e]; exact HDj.out j (by omega))
   clear hv0
   go_wp2
   go_region
   all_goals
    go_wp2
    exact ⟨⟨k + 1, _, by omega, by go_num, Lib.hid (by simpa using HDs.out), HD2, Lib.hid HG1.out, Lib.hid HG2.out, Lib.hid HB2.out.drew⟩, by simp [intOf]; omega⟩
  ·obtain rfl : k = 8 := by omega
   have hpj : ∀ j, j < 8 → wr.cell? ⟨w.heap.size + 1, j, none⟩ = some (.int .i64 ((P.getD j 0 : Nat) : Int)) := fun j hj => (cell_of_row wr _ _ D _ _ HGd.out).trans (HDj.out j hj)
   have HPc := Lib.hid hpj
   clear hpj
   obtain ⟨z, HZz⟩ : ∃ z, Hid (zP P = z) := ⟨_, Lib.hid rfl⟩
   rw [HZz.out] at HRd
   have HzP : Hid (∀ j, z j = (P.getD j 0 == 0)) := Lib.hid (fun j => by rw [← HZz.out]; rfl)
   go_wp2
   go_loop [5, 6, 7, 8] (fun f g i _ => ∃ (k F L : Nat), k ≤ 8 ∧ i = .int .i64 k ∧ f = .int .i64 F ∧ g = .int .i64 L ∧ Hid (rrZ z k = (F, L)) ∧ L ≤ 9) (fun _ _ i _ => 8 - (intOf i).toNat)
   case atStart => exact ⟨0, 0, 1, Nat.zero_le _, rfl, rfl, rfl, Lib.hid rfl, by omega⟩
   case round =>
    obtain ⟨k, F, L, hk, rfl, rfl, rfl, HS, hL⟩ := hrel
    by_cases hlt : k < 8
    ·obtain ⟨N, HN⟩ : ∃ N, Hid (zrZ z (8 - k) k = N) := ⟨_, Lib.hid rfl⟩
     have hN8 : N ≤ 8 - k := by rw [← HN.out]; exact zrZ_le z _ _
     have HS1 : Hid (rrZ z (k + 1) = if L < N then (k, N) else (F, L)) := Lib.hid (by rw [rrZ, HS.out, HN.out])
     go_wp2
     go_loop [8] (fun n => ∃ m : Nat, k + m ≤ 8 ∧ n = .int .i64 m ∧ Hid (N = m + zrZ z (8 - k - m) (k + m))) (fun n => 8 - (intOf n).toNat)
     case atStart => exact ⟨0, by omega, rfl, Lib.hid (by rw [← HN.out]; simp)⟩
     case round =>
      obtain ⟨m, hm, rfl, HM⟩ := hrel
      by_cases h8 : k + m < 8
      ·obtain ⟨x, HX⟩ : ∃ x, Hid (P.getD (k + m) 0 = x) := ⟨_, Lib.hid rfl⟩
       have hcl : wr.cell? ⟨w.heap.size + 1, k + m, none⟩ = some (.int .i64 (x : Int)) := by rw [HPc.out _ h8, HX.out]
       have hHz := HzP.out (k + m)
       rw [HX.out] at hHz
       have hM := HM.out
       rw [show 8 - k - m = (8 - k - (m + 1)) + 1 by omega] at hM
       by_cases hx : x = 0
       ·have HM1 : Hid (N = (m + 1) + zrZ z (8 - k - (m + 1)) (k + (m + 1))) := Lib.hid (by
         rw [zrZ_on (by rw [hHz, hx]; rfl)] at hM
         rw [hM, Nat.add_assoc k m 1]; omega)
        have hxI : ((x : Int) == 0) = true := by rw [hx]; rfl
        clear hHz hM hx
        go_wp2
        exact ⟨⟨m + 1, by omega, by go_num, HM1⟩, by simp [intOf]; omega⟩
       ·have hNm : N = m := by
         rw [zrZ_off (by rw [hHz]; simpa using hx)] at hM
         exact hM
        have hxI : ((x : Int) == 0) = false := by simp; exact hx
        clear hHz hM hx
        by_cases hLN : L < N
        ·have hLI : (L : Int) < (m : Int) := by omega
         have HS2 : Hid (rrZ z (k + 1) = (k, m)) := Lib.hid (by rw [HS1.out, if_pos hLN, hNm])
         clear hNm hLN
         go_wp2
         exact ⟨⟨.int .i64 (k : Int), .int .i64 (m : Int), .int .i64 ((k : Int) + 1), ⟨k + 1, by omega, by go_num, k, rfl, m, rfl, HS2, by omega⟩, rfl, rfl, rfl⟩, by simp [intOf]; omega⟩
        ·have hLI : ¬ (L : Int) < (m : Int) := by omega
         have HS2 : Hid (rrZ z (k + 1) = (F, L)) := Lib.hid (by rw [HS1.out, if_neg hLN])
         clear hNm hLN
         go_wp2
         exact ⟨⟨.int .i64 (F : Int), .int .i64 (L : Int), .int .i64 ((k : Int) + 1), ⟨k + 1, by omega, by go_num, F, rfl, L, rfl, HS2, hL⟩, rfl, rfl, rfl⟩, by simp [intOf]; omega⟩
      ·have hNm : N = m := by
        have hM := HM.out
        rw [show 8 - k - m = 0 by omega] at hM
        exact hM
       have h8I : ¬ (k : Int) + (m : Int) < 8 := by omega
       by_cases hLN : L < N
       ·have hLI : (L : Int) < (m : Int) := by omega
        have HS2 : Hid (rrZ z (k + 1) = (k, m)) := Lib.hid (by rw [HS1.out, if_pos hLN, hNm])
        clear hNm hLN h8
        go_wp2
        exact ⟨⟨.int .i64 (k : Int), .int .i64 (m : Int), .int .i64 ((k : Int) + 1), ⟨k + 1, by omega, by go_num, k, rfl, m, rfl, HS2, by omega⟩, rfl, rfl, rfl⟩, by simp [intOf]; omega⟩
       ·have hLI : ¬ (L : Int) < (m : Int) := by omega
        have HS2 : Hid (rrZ z (k + 1) = (F, L)) := Lib.hid (by rw [HS1.out, if_neg hLN])
        clear hNm hLN h8
        go_wp2
        exact ⟨⟨.int .i64 (F : Int), .int .i64 (L : Int), .int .i64 ((k : Int) + 1), ⟨k + 1, by omega, by go_num, F, rfl, L, rfl, HS2, hL⟩, rfl, rfl, rfl⟩, by simp [intOf]; omega⟩
    ·obtain rfl : k = 8 := by omega
     have HRd2 : Hid (rens P (tkL F L 9 0) = R) := Lib.hid (by rw [← HRd.out, HS.out])
     have hFL := rrZ_bd z 8 (Nat.le_refl _)
     rw [HS.out] at hFL
     obtain ⟨hF8, hFL9, hL1⟩ := hFL
     simp only at hF8 hFL9 hL1
     have hPlt : ∀ j, j < 8 → P.getD j 0 < 65536 := fun j hj => by
      rw [List.getD_eq_getElem?_getD, List.getElem?_eq_getElem (by omega)]
      exact HPb.out _ (List.getElem_mem _)
     have HPl := Lib.hid hPlt
     have hrl : R.length ≤ 100 := by rw [← HR.out]; exact sixT_len l
     clear hPlt
     go_wp2
     obtain ⟨wo, rfl⟩ : ∃ wo, wo = wr := ⟨_, rfl⟩
     go_loopw [9, 10] (fun s i wr' => ∃ (k f : Nat) (D : List UInt8), i = .int .i64 k ∧ s = .string (asB D) ∧ 8 < f + k ∧ k ≤ 9 ∧ Hid (D ++ rens P (tkL F L f k) = R) ∧ Hid (Below wo.heap.size wo wr')) (fun _ i _ => 9 - (intOf i).toNat)
     case atStart => exact ⟨0, 9, [], rfl, rfl, by omega, by omega, HRd2, Lib.hid (Below.refl _ _)⟩
     case round =>
      obtain ⟨k, f, D, rfl, rfl, hfk, hk9, HD, HBw⟩ := hrel
      have hDl : D.length ≤ 100 := by
       have := congrArg List.length HD.out
       rw [List.length_append] at this; omega
      have hz0 : (asB D).size ≤ 100 := by rw [asB_size]; exact hDl
      by_cases hlt : k < 8
      ·obtain ⟨f, rfl⟩ : ∃ g, f = g + 1 := ⟨f - 1, by omega⟩
       by_cases hA : 1 < L ∧ k = F
       ·obtain ⟨hL1', rfl⟩ := hA
        have HE : Hid (D ++ [58, 58] ++ rens P (tkL k L f (k + L)) = R) := Lib.hid (by
         rw [← HD.out, tk_two hL1' hlt, rens_cons, ren9, List.append_assoc])
        have hcat : asB D ++ (⟨#[58, 58]⟩ : ByteArray) = asB (D ++ [58, 58]) := by
         show asB D ++ asB [58, 58] = _
         rw [asB_cat]
        have hz1 : ¬ 9223372036854775807 < (asB D).size + 2 := by omega
        have hLI : (1 : Int) < (L : Int) := by omega
        clear hz0
        go_wp2
        exact ⟨⟨k + L, f, _, by go_num, rfl, by omega, by omega, HE, HBw⟩, by simp [intOf]; omega⟩
       ·obtain ⟨x, HX⟩ : ∃ x, Hid (P.getD k 0 = x) := ⟨_, Lib.hid rfl⟩
        have hx : x < 65536 := by rw [← HX.out]; exact HPl.out k hlt
        have hcl : wr.cell? ⟨w.heap.size + 1, k, none⟩ = some (.int .i64 (x : Int)) := by
         have := HPc.out k hlt
         rw [HBw.out.cell (p := ⟨w.heap.size + 1, k, none⟩) (block_lt_of_cell this), this, HX.out]
        obtain ⟨N, HN⟩ : ∃ N, Hid (numF 16 4 x = N) := ⟨_, Lib.hid rfl⟩
        have hNl : N.length ≤ 4 := by rw [← HN.out]; exact numF_len _ _ _
        have HCd : Hid (∀ w, Calls Tryz.prog 107 #[.int .i64 (x : Int), .int .i64 16] w fun e w' => e = .returned (.string (asB N)) ∧ Below w.heap.size w w') := Lib.hid (fun w => by rw [← HN.out]; exact Digs16 x w hx)
        have HRk : Hid (renT P k = N) := Lib.hid (by rw [ren_pc P hlt, HX.out, HN.out])
        have hLge : 1 ≤ L := hL1
        by_cases hsep : 0 < k ∧ (L = 1 ∨ k ≠ F + L)
        ·obtain ⟨D2, HD2⟩ : ∃ D2, Hid (D ++ [58] ++ N = D2) := ⟨_, Lib.hid rfl⟩
         obtain ⟨E1, HE1⟩ : ∃ E1, Hid (asB (D ++ [58]) = E1) := ⟨_, Lib.hid rfl⟩
         have HE : Hid (D2 ++ rens P (tkL F L f (k + 1)) = R) := Lib.hid (by
          rw [← HD2.out, ← HD.out, tk_sep hlt hA hsep.1 hsep.2, rens_cons, rens_cons, ren8, HRk.out]; simp)
         have hcat1 : asB D ++ (⟨#[58]⟩ : ByteArray) = E1 := by
          rw [← HE1.out]
          show asB D ++ asB [58] = _
          rw [asB_cat]
         have hcat2 : E1 ++ asB N = asB D2 := by rw [← HE1.out, ← HD2.out]; exact asB_cat _ _
         have hz1 : ¬ 9223372036854775807 < (asB D).size + 1 := by omega
         have hz2 : ¬ 9223372036854775807 < E1.size + (asB N).size := by
          rw [← HE1.out, asB_size, asB_size, List.length_append]; simp only [List.length_cons, List.length_nil]; omega
         have hk0 : (0 : Int) < (k : Int) := by omega
         by_cases hL : L = 1
         ·have hLI : ¬ (1 : Int) < (L : Int) := by omega
          have hL1I : ((L : Int) == 1) = true := by rw [hL]; rfl
          clear hA hsep hz0 hNl hx hL
          go_wp2_with fail
          refine (HCd.out _).mono ?_
          rintro e w2 ⟨rfl, b2⟩
          have HB2 := Lib.hid (HBw.out.trans (b2.mono HBw.out.size))
          clear b2
          go_wp2
          exact ⟨⟨k + 1, f, _, by go_num, rfl, by omega, by omega, HE, HB2⟩, by simp [intOf]; omega⟩
         ·have hLI : (1 : Int) < (L : Int) := by omega
          have hkF : ((k : Int) == (F : Int)) = false := by
           simp; intro e; exact hA ⟨by omega, by omega⟩
          have hL1I : ((L : Int) == 1) = false := by simp; omega
          have hkn : ((k : Int) != (F : Int) + (L : Int)) = true := by
           have := hsep.2
           simp; omega
          clear hA hsep hz0 hNl hx hL
          go_wp2_with fail
          refine (HCd.out _).mono ?_
          rintro e w2 ⟨rfl, b2⟩
          have HB2 := Lib.hid (HBw.out.trans (b2.mono HBw.out.size))
          clear b2
          go_wp2
          exact ⟨⟨k + 1, f, _, by go_num, rfl, by omega, by omega, HE, HB2⟩, by simp [intOf]; omega⟩
        ·obtain ⟨D2, HD2⟩ : ∃ D2, Hid (D ++ N = D2) := ⟨_, Lib.hid rfl⟩
         have HE : Hid (D2 ++ rens P (tkL F L f (k + 1)) = R) := Lib.hid (by
          rw [← HD2.out, ← HD.out, tk_no hlt hA hsep, rens_cons, HRk.out]; simp)
         have hcat2 : asB D ++ asB N = asB D2 := by rw [← HD2.out]; exact asB_cat _ _
         have hz2 : ¬ 9223372036854775807 < (asB D).size + (asB N).size := by
          rw [asB_size, asB_size]; omega
         by_cases hk0 : k = 0
         ·have hk0I : ¬ (0 : Int) < (k : Int) := by omega
          by_cases hL : L = 1
          ·have hLI : ¬ (1 : Int) < (L : Int) := by omega
           clear hA hsep hz0 hNl hx hL hk0
           go_wp2_with fail
           refine (HCd.out _).mono ?_
           rintro e w2 ⟨rfl, b2⟩
           have HB2 := Lib.hid (HBw.out.trans (b2.mono HBw.out.size))
           clear b2
           go_wp2
           exact ⟨⟨k + 1, f, _, by go_num, rfl, by omega, by omega, HE, HB2⟩, by simp [intOf]; omega⟩
          ·have hLI : (1 : Int) < (L : Int) := by omega
           have hkF : ((k : Int) == (F : Int)) = false := by
            simp; intro e; exact hA ⟨by omega, by omega⟩
           clear hA hsep hz0 hNl hx hL hk0
           go_wp2_with fail
           refine (HCd.out _).mono ?_
           rintro e w2 ⟨rfl, b2⟩
           have HB2 := Lib.hid (HBw.out.trans (b2.mono HBw.out.size))
           clear b2
           go_wp2
           exact ⟨⟨k + 1, f, _, by go_num, rfl, by omega, by omega, HE, HB2⟩, by simp [intOf]; omega⟩
         ·have hk0I : (0 : Int) < (k : Int) := by omega
          have hL : ¬ L = 1 := fun e => hsep ⟨by omega, .inl e⟩
          have hkFL : k = F + L := Classical.byContradiction fun e => hsep ⟨by omega, .inr e⟩
          have hLI : (1 : Int) < (L : Int) := by omega
          have hkF : ((k : Int) == (F : Int)) = false := by simp; omega
          have hL1I : ((L : Int) == 1) = false := by simp; omega
          have hkn : ((k : Int) != (F : Int) + (L : Int)) = false := by simp; omega
          clear hA hsep hz0 hNl hx hL hk0 hkFL
          go_wp2_with fail
          refine (HCd.out _).mono ?_
          rintro e w2 ⟨rfl, b2⟩
          have HB2 := Lib.hid (HBw.out.trans (b2.mono HBw.out.size))
          clear b2
          go_wp2
          exact ⟨⟨k + 1, f, _, by go_num, rfl, by omega, by omega, HE, HB2⟩, by simp [intOf]; omega⟩
      ·have HE : Hid (D = R) := Lib.hid (by
        rw [← HD.out, tk_end (by omega)]; simp [rens])
       have hkI : ¬ (k : Int) < 8 := by omega
       have HBf := Lib.hid (HB.out.trans (HBw.out.mono HB.out.size))
       go_wp2
       go_ret
       exact ⟨by have := HE.out; subst this; rfl, HBf.out⟩

end Go.Proofs.YtdifdikfgkiocaaGreatDoor
namespace Go.Proofs.YtdifdikfgkiocaaGreatDoor
open Go.RowKit

theorem RefText_any (six : Bool) (l : List Nat) (w : World) (hl : l.length = 16) (hb : ∀ x ∈ l, x < 256) :
  Calls Tryz.prog 72 #[.agg (cellsA six l)] w fun e w' => e = .returned (.string (asB (textD six l))) ∧ Below w.heap.size w w' := by
 cases six
 ·match l, hl, hb with
  | a :: b :: c :: d :: r, hl, hb => exact RefText4_any a b c d r w (hb a (by simp)) (hb b (by simp)) (hb c (by simp)) (hb d (by simp)) (by simpa using hl)
 ·exact RefText6_any l w hl hb

end Go.Proofs.YtdifdikfgkiocaaGreatDoor
