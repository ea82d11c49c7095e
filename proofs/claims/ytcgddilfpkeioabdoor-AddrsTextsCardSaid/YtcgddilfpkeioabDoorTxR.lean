/-
  Contracts: the document's Digits.
-/
import Derived.Test.YtcgddilfpkeioabDoorTxF
import Derived.IntWalk
namespace Go.Proofs.YtcgddilfpkeioabDoor
open Go.RowKit

abbrev HEX : ByteArray := ⟨#[48, 49, 50, 51, 52, 53, 54, 55, 56, 57, 97, 98, 99, 100, 101, 102]⟩
theorem hex_fin : ∀ d : Fin 16, (HEX.extract d.1 (d.1 + 1)).data.toList = [hd d.1] := by decide +kernel
theorem hex_at (d : Nat) (h : d < 16) : HEX.extract d (d + 1) = asB [hd d] := by
  have := hex_fin ⟨d, h⟩
  apply ByteArray.ext
  apply Array.toList_inj.1
  exact this

set_option maxRecDepth 100000 in
set_option maxHeartbeats 1000000 in
theorem Digs_any (b : Nat) (hb2 : 2 ≤ b) (hb : b ≤ 16) (f : Nat) : ∀ (n : Nat) (w : World), n < b ^ (f + 1) → n ≤ 65535 → f ≤ 3 →
    Calls Tryd.prog 20 #[.int .i64 n, .int .i64 b] w fun e w' => e = .returned (.string (asB (numF b (f + 1) n))) ∧ Below w.heap.size w w' := by
  induction f with
  | zero =>
    intro n w hn hn2 hf
    have hnb : n < b := by simpa using hn
    obtain ⟨R, HR⟩ : ∃ R, Hid (R = asB (numF b (0 + 1) n)) := ⟨_, Lib.hid rfl⟩
    have HE : Hid (HEX.extract n (n + 1) = R) := Lib.hid (by rw [HR.out, hex_at n (by omega), numF, if_pos hnb])
    rw [← HR.out]
    clear hn
    go_enter Tryd.func20, Tryd.ntmps20
    go_wp2_with fail
    go_ret
    exact ⟨congrArg (fun z => Ending.returned (Value.string z)) HE.out, Below.refl _ _⟩
  | succ f ih =>
    intro n w hn hn2 hf
    obtain ⟨R, HR⟩ : ∃ R, Hid (R = asB (numF b (f + 1 + 1) n)) := ⟨_, Lib.hid rfl⟩
    rw [← HR.out]
    have HI := Lib.hid ih
    clear ih
    by_cases hnb : n < b
    · have HE : Hid (HEX.extract n (n + 1) = R) := Lib.hid (by rw [HR.out, hex_at n (by omega), numF, if_pos hnb])
      clear hn
      go_enter Tryd.func20, Tryd.ntmps20
      go_wp2_with fail
      go_ret
      exact ⟨congrArg (fun z => Ending.returned (Value.string z)) HE.out, Below.refl _ _⟩
    · obtain ⟨q, hq⟩ : ∃ q, n / b = q := ⟨_, rfl⟩
      obtain ⟨d, hd0⟩ : ∃ d, n % b = d := ⟨_, rfl⟩
      have hdb : d < b := by rw [← hd0]; exact Nat.mod_lt _ (by omega)
      have hqn : q < b ^ (f + 1) := by
        rw [← hq, Nat.div_lt_iff_lt_mul (by omega)]; rw [Nat.pow_succ] at hn; exact hn
      have hql : q ≤ n := by rw [← hq]; exact Nat.div_le_self _ _
      obtain ⟨Q, HQ⟩ : ∃ Q, Hid (asB (numF b (f + 1) q) = Q) := ⟨_, Lib.hid rfl⟩
      have hQs : Q.size ≤ f + 1 := by rw [← HQ.out, asB_size]; exact numF_len _ _ _
      have HE : Hid (Q ++ HEX.extract d (d + 1) = R) := Lib.hid (by
        have hN : numF b (f + 1 + 1) n = numF b (f + 1) q ++ [hd d] := by
          conv => lhs; rw [numF, if_neg hnb, hq, hd0]
        rw [HR.out, hex_at d (by omega), ← HQ.out, asB_cat, hN])
      have HC : Hid (∀ w, Calls Tryd.prog 20 #[.int .i64 q, .int .i64 b] w fun e w' => e = .returned (.string Q) ∧ Below w.heap.size w w') := Lib.hid (fun w => by
        rw [← HQ.out]; exact HI.out q w hqn (by omega) (by omega))
      have hz1 : ¬ 9223372036854775807 < Q.size + (min (d + 1) 16 - d) := by omega
      have hd4 : (0 : Int) ≤ (d : Int) + 1 := by omega
      have hd5 : (d : Int) ≤ (d : Int) + 1 := by omega
      have e1 : (n : Int) / (b : Int) = (q : Int) := by rw [← hq]; rfl
      have e2 : (n : Int).tmod (b : Int) = (d : Int) := by rw [← hd0]; rfl
      have hb0 : ¬ b = 0 := by omega
      have hnbI : ¬ (n : Int) < (b : Int) := by omega
      have hd1 : (0 : Int) ≤ (d : Int) := by omega
      have hd2 : (d : Int) < 16 := by omega
      have hd3 : (d : Int) + 1 ≤ 16 := by omega
      have hq1 : (0 : Int) ≤ (q : Int) := by omega
      have hq2 : (q : Int) ≤ 65535 := by omega
      have e3 : IntKind.i64.wrap ((d : Int) + 1) = (d : Int) + 1 := IntWalk.i64_in _ (by omega)
      have e4 : IntKind.i64.wrap (q : Int) = (q : Int) := IntWalk.i64_in _ (by omega)
      have e5 : IntKind.i64.wrap (d : Int) = (d : Int) := IntWalk.i64_in _ (by omega)
      have e6 : ((d : Int) + 1).toNat = d + 1 := by omega
      clear hn hq hd0 hnb
      have hbb : Below w.heap.size w w.drew := (Below.refl w.heap.size w).drew
      go_enter Tryd.func20, Tryd.ntmps20
      go_wp2_with fail
      go_region_held3 (fun w' => Below w.heap.size w w') (first | assumption | exact keepB (by assumption) (by assumption) | go_keep)
        ((go_at_call 20; (with_reducible refine (HC.out _).mono ?_); rintro e w' ⟨rfl, bT⟩))
      all_goals
        go_wp2_with fail
        go_ret
        refine ⟨congrArg (fun z => Ending.returned (Value.string z)) HE.out, by assumption⟩

end Go.Proofs.YtcgddilfpkeioabDoor
