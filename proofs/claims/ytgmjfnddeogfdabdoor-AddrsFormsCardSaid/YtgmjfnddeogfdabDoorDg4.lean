/-
  Contract: the statements' digits of a number by a base.
-/
import Derived.Test.YtgmjfnddeogfdabDoorAlF
import Derived.Test.YtgmjfnddeogfdabDoorTxQ
import Derived.IntWalk
namespace Go.Proofs.YtgmjfnddeogfdabDoor
open Go.RowKit

/-- So much of a number's digits is told. -/
def DigAt (b F n m : Nat) (S : List UInt8) : Prop := ∃ f, m < b ^ (f + 1) ∧ numF b F n = (if m < b then [] else numF b f (m / b)) ++ ([hd (m % b)] ++ S)
theorem numF_cut {b : Nat} (_ : 2 ≤ b) (f m : Nat) : numF b (f + 1) m = (if m < b then [] else numF b f (m / b)) ++ [hd (m % b)] := by
  rw [numF]
  split
  · rename_i h; rw [Nat.mod_eq_of_lt h]; rfl
  · rfl
theorem dig_start {b F n : Nat} (hb : 2 ≤ b) (hF : 0 < F) (hn : n < b ^ F) : DigAt b F n n [] := by
  obtain ⟨f, rfl⟩ : ∃ f, F = f + 1 := ⟨F - 1, by omega⟩
  exact ⟨f, hn, by rw [numF_cut hb, List.append_nil]⟩
theorem dig_end {b F n m : Nat} {S : List UInt8} (h : m < b) (hd' : DigAt b F n m S) : hd m :: S = numF b F n := by
  obtain ⟨f, _, h2⟩ := hd'
  rw [h2, if_pos h, Nat.mod_eq_of_lt h]; rfl
theorem dig_next {b F n m : Nat} {S : List UInt8} (hb : 2 ≤ b) (h : ¬ m < b) (hd' : DigAt b F n m S) : DigAt b F n (m / b) (hd (m % b) :: S) := by
  obtain ⟨f, h1, h2⟩ := hd'
  rw [if_neg h] at h2
  cases f with
  | zero => simp at h1; omega
  | succ f =>
    refine ⟨f, ?_, ?_⟩
    · rw [Nat.div_lt_iff_lt_mul (by omega)]; rwa [Nat.pow_succ] at h1
    · rw [h2, numF_cut hb, List.append_assoc]; rfl
theorem dig_len {b F n m : Nat} {S : List UInt8} (hd' : DigAt b F n m S) : S.length + 1 ≤ F := by
  obtain ⟨f, _, h2⟩ := hd'
  have h := numF_len b F n
  rw [h2] at h
  simp only [List.length_append, List.length_cons, List.length_nil] at h
  omega
abbrev HEX4 : ByteArray := ⟨#[48, 49, 50, 51, 52, 53, 54, 55, 56, 57, 97, 98, 99, 100, 101, 102]⟩
theorem hex4_fin : ∀ d : Fin 16, (HEX4.extract d.1 (d.1 + 1)).data.toList = [hd d.1] := by decide +kernel
theorem hex4_at (d : Nat) (h : d < 16) : HEX4.extract d (d + 1) = asB [hd d] := by
  have := hex4_fin ⟨d, h⟩
  apply ByteArray.ext
  apply Array.toList_inj.1
  exact this

set_option maxRecDepth 100000 in
set_option maxHeartbeats 1000000 in
theorem digits4_any (b : Nat) (hb2 : 2 ≤ b) (hb : b ≤ 16) (F n : Nat) (w : World) (hF : 0 < F) (hF2 : F ≤ 40) (hn : n < b ^ F) (hn2 : n < 4294967296) :
    Calls Tryd.prog 13 #[.int .u32 n, .int .u32 b] w fun e w' => e = .returned (.string (asB (numF b F n))) ∧ Below w.heap.size w w' := by
  have HD0 := Lib.hid (dig_start (n := n) hb2 hF hn)
  obtain ⟨d, HDd⟩ : ∃ d, Hid (n % b = d) := ⟨_, Lib.hid rfl⟩
  have hd1 : d < b := by rw [← HDd.out]; exact Nat.mod_lt _ (by omega)
  have e2 : (n : Int) % (b : Int) = (d : Int) := by rw [← HDd.out]; rfl
  have hb0 : ¬ b = 0 := by omega
  have g1 : (0 : Int) ≤ (d : Int) := by omega
  have g2 : (d : Int) < 16 := by omega
  have g3 : (d : Int) + 1 ≤ 16 := by omega
  have g4 : (0 : Int) ≤ (d : Int) + 1 := by omega
  have g5 : (d : Int) ≤ (d : Int) + 1 := by omega
  have g6 : ((d : Int) + 1).toNat = d + 1 := by omega
  clear hn
  go_enter Tryd.func13, Tryd.ntmps13
  go_wp2_with fail
  go_quiet (fail)
  go_wp2_with fail
  have HX : Hid (HEX4.extract d (d + 1) = asB (hd (n % b) :: [])) := Lib.hid (by rw [hex4_at d (by omega), HDd.out])
  have HBl : Hid (Below w.heap.size w (w.drewN nq)) := Lib.hid ⟨rfl, rfl, rfl, Nat.le_refl _, fun _ _ => rfl⟩
  clear e2 g1 g2 g3 g4 g5 g6 hd1
  go_loopw [0, 5] (fun x s wr => ∃ (m : Nat) (S : List UInt8), m ≤ n ∧ x = .int .u32 m ∧ s = .string (asB (hd (m % b) :: S)) ∧ Hid (DigAt b F n m S) ∧ Hid (Below w.heap.size w wr)) (fun x _ _ => (intOf x).toNat)
  case atStart => exact ⟨n, [], Nat.le_refl _, rfl, congrArg Value.string HX.out, HD0, HBl⟩
  case round =>
    obtain ⟨m, S, hmn, rfl, rfl, HD, HB⟩ := hrel
    obtain ⟨T, HT⟩ : ∃ T, Hid (asB (hd (m % b) :: S) = T) := ⟨_, Lib.hid rfl⟩
    have hTs : T.size ≤ 40 := by
      rw [← HT.out, asB_size, List.length_cons]
      have := dig_len HD.out; omega
    rw [HT.out]
    by_cases hlt : m < b
    · have HR : Hid (T = asB (numF b F n)) := Lib.hid (by
        rw [← HT.out, ← dig_end hlt HD.out, Nat.mod_eq_of_lt hlt])
      have hltI : (m : Int) < (b : Int) := by omega
      go_wp2_with fail
      go_ret
      exact ⟨congrArg (fun z => Ending.returned (Value.string z)) HR.out, HB.out⟩
    · obtain ⟨q, Hq⟩ : ∃ q, Hid (m / b = q) := ⟨_, Lib.hid rfl⟩
      obtain ⟨c, Hc⟩ : ∃ c, Hid (q % b = c) := ⟨_, Lib.hid rfl⟩
      have hcb : c < b := by rw [← Hc.out]; exact Nat.mod_lt _ (by omega)
      have e1 : (m : Int) / (b : Int) = (q : Int) := by rw [← Hq.out]; rfl
      have e2 : (q : Int) % (b : Int) = (c : Int) := by rw [← Hc.out]; rfl
      have hqm : q < m := by rw [← Hq.out]; exact Nat.div_lt_self (by omega) (by omega)
      have hq2 : q < 4294967296 := by omega
      have g1 : (0 : Int) ≤ (c : Int) := by omega
      have g2 : (c : Int) < 16 := by omega
      have g3 : (c : Int) + 1 ≤ 16 := by omega
      have g4 : (0 : Int) ≤ (c : Int) + 1 := by omega
      have g5 : (c : Int) ≤ (c : Int) + 1 := by omega
      have g6 : ((c : Int) + 1).toNat = c + 1 := by omega
      have hltI : (b : Int) ≤ (m : Int) := by omega
      have HD' := Lib.hid (dig_next hb2 hlt HD.out)
      have HX' : Hid (HEX4.extract c (c + 1) ++ T = asB (hd (q % b) :: hd (m % b) :: S)) := Lib.hid (by rw [hex4_at c (by omega), ← HT.out, asB_cat, Hc.out]; rfl)
      have hz1 : ¬ 9223372036854775807 < min (c + 1) 16 - c + T.size := by omega
      clear hlt
      go_wp2_with fail
      go_quiet (fail)
      go_wp2_with fail
      go_roundw
      case rel => exact ⟨q, hd (m % b) :: S, by omega, rfl, congrArg Value.string HX'.out, Lib.hid (by have := HD'.out; rwa [Hq.out] at this), Lib.hid ⟨HB.out.os, HB.out.tape, HB.out.output, HB.out.size, HB.out.block⟩⟩
      case measure => simp [intOf]; omega

end Go.Proofs.YtgmjfnddeogfdabDoor
