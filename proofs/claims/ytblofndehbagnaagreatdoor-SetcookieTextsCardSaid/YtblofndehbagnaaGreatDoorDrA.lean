/-
  The document's cookie's date: bytes between, digits, an hour, a month.
-/
import Derived.Test.YtblofndehbagnaaGreatDoorDtC
import Derived.Test.YtblofndehbagnaaGreatDoorDtK
import Derived.Test.YtblofndehbagnaaGreatDoorDtW
import Derived.Test.YtblofndehbagnaaGreatDoorRefA
import Derived.Test.YtblofndehbagnaaGreatDoorRefL
namespace Go.Proofs.YtblofndehbagnaaGreatDoor
open Go.RowKit

set_option maxHeartbeats 2000000 in
theorem RefBetween_any (c : UInt8) (w : World) :
    Calls Tryz.prog 74 #[.int .u8 (c.toNat : Int)] w fun e w' => e = .returned (.bool (btw c)) ∧ w = w' := by
  have hc := c.toNat_lt
  have hbd : btw c = (c.toNat == 9 || (decide (32 ≤ c.toNat) && decide (c.toNat ≤ 47)) || (decide (59 ≤ c.toNat) && decide (c.toNat ≤ 64)) || (decide (91 ≤ c.toNat) && decide (c.toNat ≤ 96)) || (decide (123 ≤ c.toNat) && decide (c.toNat ≤ 126))) := rfl
  rw [hbd]
  clear hbd
  generalize c.toNat = k at *
  rcases (show (0 ≤ k ∧ k ≤ 8) ∨ (9 ≤ k ∧ k ≤ 9) ∨ (10 ≤ k ∧ k ≤ 31) ∨ (32 ≤ k ∧ k ≤ 47) ∨ (48 ≤ k ∧ k ≤ 58) ∨ (59 ≤ k ∧ k ≤ 64) ∨ (65 ≤ k ∧ k ≤ 90) ∨ (91 ≤ k ∧ k ≤ 96) ∨ (97 ≤ k ∧ k ≤ 122) ∨ (123 ≤ k ∧ k ≤ 126) ∨ (127 ≤ k ∧ k ≤ 255) by omega) with ⟨h1, h2⟩ | ⟨h1, h2⟩ | ⟨h1, h2⟩ | ⟨h1, h2⟩ | ⟨h1, h2⟩ | ⟨h1, h2⟩ | ⟨h1, h2⟩ | ⟨h1, h2⟩ | ⟨h1, h2⟩ | ⟨h1, h2⟩ | ⟨h1, h2⟩
  · have hb : (k == 9 || (decide (32 ≤ k) && decide (k ≤ 47)) || (decide (59 ≤ k) && decide (k ≤ 64)) || (decide (91 ≤ k) && decide (k ≤ 96)) || (decide (123 ≤ k) && decide (k ≤ 126))) = false := by
      have f0 : (k == 9) = false := beq_eq_false_iff_ne.2 (by omega)
      have l0 : decide (32 ≤ k) = false := decide_eq_false (by omega)
      have l1 : decide (59 ≤ k) = false := decide_eq_false (by omega)
      have l2 : decide (91 ≤ k) = false := decide_eq_false (by omega)
      have l3 : decide (123 ≤ k) = false := decide_eq_false (by omega)
      have u0 : decide (k ≤ 47) = true := decide_eq_true (by omega)
      have u1 : decide (k ≤ 64) = true := decide_eq_true (by omega)
      have u2 : decide (k ≤ 96) = true := decide_eq_true (by omega)
      have u3 : decide (k ≤ 126) = true := decide_eq_true (by omega)
      rw [f0, l0, l1, l2, l3, u0, u1, u2, u3]; rfl
    rw [hb]
    clear hb
    have g0 : ((k : Int) == 9) = false := beq_eq_false_iff_ne.2 (by omega)
    have p0 : ¬ (32 : Int) ≤ (k : Int) := by omega
    have p1 : ¬ (59 : Int) ≤ (k : Int) := by omega
    have p2 : ¬ (91 : Int) ≤ (k : Int) := by omega
    have p3 : ¬ (123 : Int) ≤ (k : Int) := by omega
    have q0 : (k : Int) ≤ (47 : Int) := by omega
    have q1 : (k : Int) ≤ (64 : Int) := by omega
    have q2 : (k : Int) ≤ (96 : Int) := by omega
    have q3 : (k : Int) ≤ (126 : Int) := by omega
    clear h1 h2
    go_enter Tryz.func74, Tryz.ntmps74
    go_wp2
    go_ret
    exact ⟨rfl, rfl⟩
  · have hb : (k == 9 || (decide (32 ≤ k) && decide (k ≤ 47)) || (decide (59 ≤ k) && decide (k ≤ 64)) || (decide (91 ≤ k) && decide (k ≤ 96)) || (decide (123 ≤ k) && decide (k ≤ 126))) = true := by
      have f0 : (k == 9) = true := beq_iff_eq.2 (by omega)
      have l0 : decide (32 ≤ k) = false := decide_eq_false (by omega)
      have l1 : decide (59 ≤ k) = false := decide_eq_false (by omega)
      have l2 : decide (91 ≤ k) = false := decide_eq_false (by omega)
      have l3 : decide (123 ≤ k) = false := decide_eq_false (by omega)
      have u0 : decide (k ≤ 47) = true := decide_eq_true (by omega)
      have u1 : decide (k ≤ 64) = true := decide_eq_true (by omega)
      have u2 : decide (k ≤ 96) = true := decide_eq_true (by omega)
      have u3 : decide (k ≤ 126) = true := decide_eq_true (by omega)
      rw [f0, l0, l1, l2, l3, u0, u1, u2, u3]; rfl
    rw [hb]
    clear hb
    have g0 : ((k : Int) == 9) = true := beq_iff_eq.2 (by omega)
    have p0 : ¬ (32 : Int) ≤ (k : Int) := by omega
    have p1 : ¬ (59 : Int) ≤ (k : Int) := by omega
    have p2 : ¬ (91 : Int) ≤ (k : Int) := by omega
    have p3 : ¬ (123 : Int) ≤ (k : Int) := by omega
    have q0 : (k : Int) ≤ (47 : Int) := by omega
    have q1 : (k : Int) ≤ (64 : Int) := by omega
    have q2 : (k : Int) ≤ (96 : Int) := by omega
    have q3 : (k : Int) ≤ (126 : Int) := by omega
    clear h1 h2
    go_enter Tryz.func74, Tryz.ntmps74
    go_wp2
    go_ret
    exact ⟨rfl, rfl⟩
  · have hb : (k == 9 || (decide (32 ≤ k) && decide (k ≤ 47)) || (decide (59 ≤ k) && decide (k ≤ 64)) || (decide (91 ≤ k) && decide (k ≤ 96)) || (decide (123 ≤ k) && decide (k ≤ 126))) = false := by
      have f0 : (k == 9) = false := beq_eq_false_iff_ne.2 (by omega)
      have l0 : decide (32 ≤ k) = false := decide_eq_false (by omega)
      have l1 : decide (59 ≤ k) = false := decide_eq_false (by omega)
      have l2 : decide (91 ≤ k) = false := decide_eq_false (by omega)
      have l3 : decide (123 ≤ k) = false := decide_eq_false (by omega)
      have u0 : decide (k ≤ 47) = true := decide_eq_true (by omega)
      have u1 : decide (k ≤ 64) = true := decide_eq_true (by omega)
      have u2 : decide (k ≤ 96) = true := decide_eq_true (by omega)
      have u3 : decide (k ≤ 126) = true := decide_eq_true (by omega)
      rw [f0, l0, l1, l2, l3, u0, u1, u2, u3]; rfl
    rw [hb]
    clear hb
    have g0 : ((k : Int) == 9) = false := beq_eq_false_iff_ne.2 (by omega)
    have p0 : ¬ (32 : Int) ≤ (k : Int) := by omega
    have p1 : ¬ (59 : Int) ≤ (k : Int) := by omega
    have p2 : ¬ (91 : Int) ≤ (k : Int) := by omega
    have p3 : ¬ (123 : Int) ≤ (k : Int) := by omega
    have q0 : (k : Int) ≤ (47 : Int) := by omega
    have q1 : (k : Int) ≤ (64 : Int) := by omega
    have q2 : (k : Int) ≤ (96 : Int) := by omega
    have q3 : (k : Int) ≤ (126 : Int) := by omega
    clear h1 h2
    go_enter Tryz.func74, Tryz.ntmps74
    go_wp2
    go_ret
    exact ⟨rfl, rfl⟩
  · have hb : (k == 9 || (decide (32 ≤ k) && decide (k ≤ 47)) || (decide (59 ≤ k) && decide (k ≤ 64)) || (decide (91 ≤ k) && decide (k ≤ 96)) || (decide (123 ≤ k) && decide (k ≤ 126))) = true := by
      have f0 : (k == 9) = false := beq_eq_false_iff_ne.2 (by omega)
      have l0 : decide (32 ≤ k) = true := decide_eq_true (by omega)
      have l1 : decide (59 ≤ k) = false := decide_eq_false (by omega)
      have l2 : decide (91 ≤ k) = false := decide_eq_false (by omega)
      have l3 : decide (123 ≤ k) = false := decide_eq_false (by omega)
      have u0 : decide (k ≤ 47) = true := decide_eq_true (by omega)
      have u1 : decide (k ≤ 64) = true := decide_eq_true (by omega)
      have u2 : decide (k ≤ 96) = true := decide_eq_true (by omega)
      have u3 : decide (k ≤ 126) = true := decide_eq_true (by omega)
      rw [f0, l0, l1, l2, l3, u0, u1, u2, u3]; rfl
    rw [hb]
    clear hb
    have g0 : ((k : Int) == 9) = false := beq_eq_false_iff_ne.2 (by omega)
    have p0 : (32 : Int) ≤ (k : Int) := by omega
    have p1 : ¬ (59 : Int) ≤ (k : Int) := by omega
    have p2 : ¬ (91 : Int) ≤ (k : Int) := by omega
    have p3 : ¬ (123 : Int) ≤ (k : Int) := by omega
    have q0 : (k : Int) ≤ (47 : Int) := by omega
    have q1 : (k : Int) ≤ (64 : Int) := by omega
    have q2 : (k : Int) ≤ (96 : Int) := by omega
    have q3 : (k : Int) ≤ (126 : Int) := by omega
    clear h1 h2
    go_enter Tryz.func74, Tryz.ntmps74
    go_wp2
    go_ret
    exact ⟨rfl, rfl⟩
  · have hb : (k == 9 || (decide (32 ≤ k) && decide (k ≤ 47)) || (decide (59 ≤ k) && decide (k ≤ 64)) || (decide (91 ≤ k) && decide (k ≤ 96)) || (decide (123 ≤ k) && decide (k ≤ 126))) = false := by
      have f0 : (k == 9) = false := beq_eq_false_iff_ne.2 (by omega)
      have l0 : decide (32 ≤ k) = true := decide_eq_true (by omega)
      have l1 : decide (59 ≤ k) = false := decide_eq_false (by omega)
      have l2 : decide (91 ≤ k) = false := decide_eq_false (by omega)
      have l3 : decide (123 ≤ k) = false := decide_eq_false (by omega)
      have u0 : decide (k ≤ 47) = false := decide_eq_false (by omega)
      have u1 : decide (k ≤ 64) = true := decide_eq_true (by omega)
      have u2 : decide (k ≤ 96) = true := decide_eq_true (by omega)
      have u3 : decide (k ≤ 126) = true := decide_eq_true (by omega)
      rw [f0, l0, l1, l2, l3, u0, u1, u2, u3]; rfl
    rw [hb]
    clear hb
    have g0 : ((k : Int) == 9) = false := beq_eq_false_iff_ne.2 (by omega)
    have p0 : (32 : Int) ≤ (k : Int) := by omega
    have p1 : ¬ (59 : Int) ≤ (k : Int) := by omega
    have p2 : ¬ (91 : Int) ≤ (k : Int) := by omega
    have p3 : ¬ (123 : Int) ≤ (k : Int) := by omega
    have q0 : ¬ (k : Int) ≤ (47 : Int) := by omega
    have q1 : (k : Int) ≤ (64 : Int) := by omega
    have q2 : (k : Int) ≤ (96 : Int) := by omega
    have q3 : (k : Int) ≤ (126 : Int) := by omega
    clear h1 h2
    go_enter Tryz.func74, Tryz.ntmps74
    go_wp2
    go_ret
    exact ⟨rfl, rfl⟩
  · have hb : (k == 9 || (decide (32 ≤ k) && decide (k ≤ 47)) || (decide (59 ≤ k) && decide (k ≤ 64)) || (decide (91 ≤ k) && decide (k ≤ 96)) || (decide (123 ≤ k) && decide (k ≤ 126))) = true := by
      have f0 : (k == 9) = false := beq_eq_false_iff_ne.2 (by omega)
      have l0 : decide (32 ≤ k) = true := decide_eq_true (by omega)
      have l1 : decide (59 ≤ k) = true := decide_eq_true (by omega)
      have l2 : decide (91 ≤ k) = false := decide_eq_false (by omega)
      have l3 : decide (123 ≤ k) = false := decide_eq_false (by omega)
      have u0 : decide (k ≤ 47) = false := decide_eq_false (by omega)
      have u1 : decide (k ≤ 64) = true := decide_eq_true (by omega)
      have u2 : decide (k ≤ 96) = true := decide_eq_true (by omega)
      have u3 : decide (k ≤ 126) = true := decide_eq_true (by omega)
      rw [f0, l0, l1, l2, l3, u0, u1, u2, u3]; rfl
    rw [hb]
    clear hb
    have g0 : ((k : Int) == 9) = false := beq_eq_false_iff_ne.2 (by omega)
    have p0 : (32 : Int) ≤ (k : Int) := by omega
    have p1 : (59 : Int) ≤ (k : Int) := by omega
    have p2 : ¬ (91 : Int) ≤ (k : Int) := by omega
    have p3 : ¬ (123 : Int) ≤ (k : Int) := by omega
    have q0 : ¬ (k : Int) ≤ (47 : Int) := by omega
    have q1 : (k : Int) ≤ (64 : Int) := by omega
    have q2 : (k : Int) ≤ (96 : Int) := by omega
    have q3 : (k : Int) ≤ (126 : Int) := by omega
    clear h1 h2
    go_enter Tryz.func74, Tryz.ntmps74
    go_wp2
    go_ret
    exact ⟨rfl, rfl⟩
  · have hb : (k == 9 || (decide (32 ≤ k) && decide (k ≤ 47)) || (decide (59 ≤ k) && decide (k ≤ 64)) || (decide (91 ≤ k) && decide (k ≤ 96)) || (decide (123 ≤ k) && decide (k ≤ 126))) = false := by
      have f0 : (k == 9) = false := beq_eq_false_iff_ne.2 (by omega)
      have l0 : decide (32 ≤ k) = true := decide_eq_true (by omega)
      have l1 : decide (59 ≤ k) = true := decide_eq_true (by omega)
      have l2 : decide (91 ≤ k) = false := decide_eq_false (by omega)
      have l3 : decide (123 ≤ k) = false := decide_eq_false (by omega)
      have u0 : decide (k ≤ 47) = false := decide_eq_false (by omega)
      have u1 : decide (k ≤ 64) = false := decide_eq_false (by omega)
      have u2 : decide (k ≤ 96) = true := decide_eq_true (by omega)
      have u3 : decide (k ≤ 126) = true := decide_eq_true (by omega)
      rw [f0, l0, l1, l2, l3, u0, u1, u2, u3]; rfl
    rw [hb]
    clear hb
    have g0 : ((k : Int) == 9) = false := beq_eq_false_iff_ne.2 (by omega)
    have p0 : (32 : Int) ≤ (k : Int) := by omega
    have p1 : (59 : Int) ≤ (k : Int) := by omega
    have p2 : ¬ (91 : Int) ≤ (k : Int) := by omega
    have p3 : ¬ (123 : Int) ≤ (k : Int) := by omega
    have q0 : ¬ (k : Int) ≤ (47 : Int) := by omega
    have q1 : ¬ (k : Int) ≤ (64 : Int) := by omega
    have q2 : (k : Int) ≤ (96 : Int) := by omega
    have q3 : (k : Int) ≤ (126 : Int) := by omega
    clear h1 h2
    go_enter Tryz.func74, Tryz.ntmps74
    go_wp2
    go_ret
    exact ⟨rfl, rfl⟩
  · have hb : (k == 9 || (decide (32 ≤ k) && decide (k ≤ 47)) || (decide (59 ≤ k) && decide (k ≤ 64)) || (decide (91 ≤ k) && decide (k ≤ 96)) || (decide (123 ≤ k) && decide (k ≤ 126))) = true := by
      have f0 : (k == 9) = false := beq_eq_false_iff_ne.2 (by omega)
      have l0 : decide (32 ≤ k) = true := decide_eq_true (by omega)
      have l1 : decide (59 ≤ k) = true := decide_eq_true (by omega)
      have l2 : decide (91 ≤ k) = true := decide_eq_true (by omega)
      have l3 : decide (123 ≤ k) = false := decide_eq_false (by omega)
      have u0 : decide (k ≤ 47) = false := decide_eq_false (by omega)
      have u1 : decide (k ≤ 64) = false := decide_eq_false (by omega)
      have u2 : decide (k ≤ 96) = true := decide_eq_true (by omega)
      have u3 : decide (k ≤ 126) = true := decide_eq_true (by omega)
      rw [f0, l0, l1, l2, l3, u0, u1, u2, u3]; rfl
    rw [hb]
    clear hb
    have g0 : ((k : Int) == 9) = false := beq_eq_false_iff_ne.2 (by omega)
    have p0 : (32 : Int) ≤ (k : Int) := by omega
    have p1 : (59 : Int) ≤ (k : Int) := by omega
    have p2 : (91 : Int) ≤ (k : Int) := by omega
    have p3 : ¬ (123 : Int) ≤ (k : Int) := by omega
    have q0 : ¬ (k : Int) ≤ (47 : Int) := by omega
    have q1 : ¬ (k : Int) ≤ (64 : Int) := by omega
    have q2 : (k : Int) ≤ (96 : Int) := by omega
    have q3 : (k : Int) ≤ (126 : Int) := by omega
    clear h1 h2
    go_enter Tryz.func74, Tryz.ntmps74
    go_wp2
    go_ret
    exact ⟨rfl, rfl⟩
  · have hb : (k == 9 || (decide (32 ≤ k) && decide (k ≤ 47)) || (decide (59 ≤ k) && decide (k ≤ 64)) || (decide (91 ≤ k) && decide (k ≤ 96)) || (decide (123 ≤ k) && decide (k ≤ 126))) = false := by
      have f0 : (k == 9) = false := beq_eq_false_iff_ne.2 (by omega)
      have l0 : decide (32 ≤ k) = true := decide_eq_true (by omega)
      have l1 : decide (59 ≤ k) = true := decide_eq_true (by omega)
      have l2 : decide (91 ≤ k) = true := decide_eq_true (by omega)
      have l3 : decide (123 ≤ k) = false := decide_eq_false (by omega)
      have u0 : decide (k ≤ 47) = false := decide_eq_false (by omega)
      have u1 : decide (k ≤ 64) = false := decide_eq_false (by omega)
      have u2 : decide (k ≤ 96) = false := decide_eq_false (by omega)
      have u3 : decide (k ≤ 126) = true := decide_eq_true (by omega)
      rw [f0, l0, l1, l2, l3, u0, u1, u2, u3]; rfl
    rw [hb]
    clear hb
    have g0 : ((k : Int) == 9) = false := beq_eq_false_iff_ne.2 (by omega)
    have p0 : (32 : Int) ≤ (k : Int) := by omega
    have p1 : (59 : Int) ≤ (k : Int) := by omega
    have p2 : (91 : Int) ≤ (k : Int) := by omega
    have p3 : ¬ (123 : Int) ≤ (k : Int) := by omega
    have q0 : ¬ (k : Int) ≤ (47 : Int) := by omega
    have q1 : ¬ (k : Int) ≤ (64 : Int) := by omega
    have q2 : ¬ (k : Int) ≤ (96 : Int) := by omega
    have q3 : (k : Int) ≤ (126 : Int) := by omega
    clear h1 h2
    go_enter Tryz.func74, Tryz.ntmps74
    go_wp2
    go_ret
    exact ⟨rfl, rfl⟩
  · have hb : (k == 9 || (decide (32 ≤ k) && decide (k ≤ 47)) || (decide (59 ≤ k) && decide (k ≤ 64)) || (decide (91 ≤ k) && decide (k ≤ 96)) || (decide (123 ≤ k) && decide (k ≤ 126))) = true := by
      have f0 : (k == 9) = false := beq_eq_false_iff_ne.2 (by omega)
      have l0 : decide (32 ≤ k) = true := decide_eq_true (by omega)
      have l1 : decide (59 ≤ k) = true := decide_eq_true (by omega)
      have l2 : decide (91 ≤ k) = true := decide_eq_true (by omega)
      have l3 : decide (123 ≤ k) = true := decide_eq_true (by omega)
      have u0 : decide (k ≤ 47) = false := decide_eq_false (by omega)
      have u1 : decide (k ≤ 64) = false := decide_eq_false (by omega)
      have u2 : decide (k ≤ 96) = false := decide_eq_false (by omega)
      have u3 : decide (k ≤ 126) = true := decide_eq_true (by omega)
      rw [f0, l0, l1, l2, l3, u0, u1, u2, u3]; rfl
    rw [hb]
    clear hb
    have g0 : ((k : Int) == 9) = false := beq_eq_false_iff_ne.2 (by omega)
    have p0 : (32 : Int) ≤ (k : Int) := by omega
    have p1 : (59 : Int) ≤ (k : Int) := by omega
    have p2 : (91 : Int) ≤ (k : Int) := by omega
    have p3 : (123 : Int) ≤ (k : Int) := by omega
    have q0 : ¬ (k : Int) ≤ (47 : Int) := by omega
    have q1 : ¬ (k : Int) ≤ (64 : Int) := by omega
    have q2 : ¬ (k : Int) ≤ (96 : Int) := by omega
    have q3 : (k : Int) ≤ (126 : Int) := by omega
    clear h1 h2
    go_enter Tryz.func74, Tryz.ntmps74
    go_wp2
    go_ret
    exact ⟨rfl, rfl⟩
  · have hb : (k == 9 || (decide (32 ≤ k) && decide (k ≤ 47)) || (decide (59 ≤ k) && decide (k ≤ 64)) || (decide (91 ≤ k) && decide (k ≤ 96)) || (decide (123 ≤ k) && decide (k ≤ 126))) = false := by
      have f0 : (k == 9) = false := beq_eq_false_iff_ne.2 (by omega)
      have l0 : decide (32 ≤ k) = true := decide_eq_true (by omega)
      have l1 : decide (59 ≤ k) = true := decide_eq_true (by omega)
      have l2 : decide (91 ≤ k) = true := decide_eq_true (by omega)
      have l3 : decide (123 ≤ k) = true := decide_eq_true (by omega)
      have u0 : decide (k ≤ 47) = false := decide_eq_false (by omega)
      have u1 : decide (k ≤ 64) = false := decide_eq_false (by omega)
      have u2 : decide (k ≤ 96) = false := decide_eq_false (by omega)
      have u3 : decide (k ≤ 126) = false := decide_eq_false (by omega)
      rw [f0, l0, l1, l2, l3, u0, u1, u2, u3]; rfl
    rw [hb]
    clear hb
    have g0 : ((k : Int) == 9) = false := beq_eq_false_iff_ne.2 (by omega)
    have p0 : (32 : Int) ≤ (k : Int) := by omega
    have p1 : (59 : Int) ≤ (k : Int) := by omega
    have p2 : (91 : Int) ≤ (k : Int) := by omega
    have p3 : (123 : Int) ≤ (k : Int) := by omega
    have q0 : ¬ (k : Int) ≤ (47 : Int) := by omega
    have q1 : ¬ (k : Int) ≤ (64 : Int) := by omega
    have q2 : ¬ (k : Int) ≤ (96 : Int) := by omega
    have q3 : ¬ (k : Int) ≤ (126 : Int) := by omega
    clear h1 h2
    go_enter Tryz.func74, Tryz.ntmps74
    go_wp2
    go_ret
    exact ⟨rfl, rfl⟩

theorem run_hit {l : List UInt8} {k : Nat} (h : k < l.length) (hd : isD l[k] = true) : ((l.drop k).takeWhile isD).length = ((l.drop (k + 1)).takeWhile isD).length + 1 := by
  rw [List.drop_eq_getElem_cons h, List.takeWhile_cons, if_pos hd]; rfl
theorem run_miss {l : List UInt8} {k : Nat} (h : k < l.length) (hd : isD l[k] = false) : ((l.drop k).takeWhile isD).length = 0 := by
  rw [List.drop_eq_getElem_cons h, List.takeWhile_cons, hd]; rfl

set_option maxHeartbeats 2000000 in
set_option maxRecDepth 100000 in
theorem RefRun_any (s : ByteArray) (hs : s.size ≤ 1048600) (w : World) :
    Calls Tryz.prog 126 #[.string s] w fun e w' => e = .returned (.int .i64 (((s.data.toList.takeWhile isD).length : Nat) : Int)) ∧ w = w' := by
  obtain ⟨N, HN⟩ : ∃ N, Hid ((s.data.toList.takeWhile isD).length = N) := ⟨_, Lib.hid rfl⟩
  rw [HN.out]
  go_enter Tryz.func126, Tryz.ntmps126
  go_wp2
  go_loop [3] (fun v => ∃ k : Nat, k ≤ s.size ∧ v = .int .i64 (k : Int) ∧ Hid (k + ((s.data.toList.drop k).takeWhile isD).length = N)) (fun v => s.size - (intOf v).toNat)
  case atStart => exact ⟨0, Nat.zero_le _, rfl, Lib.hid (by rw [← HN.out]; simp)⟩
  case round =>
    obtain ⟨k, hk, rfl, HK⟩ := hrel
    by_cases hlt : k < s.size
    · have hltI : (k : Int) < (s.size : Int) := by omega
      have hl : k < s.data.toList.length := by rw [lenB]; exact hlt
      obtain ⟨c, Hc⟩ : ∃ c : UInt8, s[k] = c := ⟨_, rfl⟩
      have hcl : s.data.toList[k] = c := Hc
      have HDg := Lib.hid (fun w => Digit_any (c.toNat : Int) w)
      cases hd : inR 48 57 (c.toNat : Int) with
      | true =>
        rw [hd] at HDg
        have HK2 : Hid (k + 1 + ((s.data.toList.drop (k + 1)).takeWhile isD).length = N) := Lib.hid (by
          have := HK.out
          rw [run_hit hl (by rw [hcl]; exact hd)] at this
          omega)
        clear hcl hd
        go_wp2_with fail
        refine (HDg.out _).mono ?_
        rintro e w' ⟨rfl, rfl⟩
        go_wp2
        go_round
        case rel => exact ⟨k + 1, by omega, by go_num, HK2⟩
        case measure => simp [intOf]; omega
      | false =>
        rw [hd] at HDg
        have hN : N = k := by
          have := HK.out
          rw [run_miss hl (by rw [hcl]; exact hd)] at this
          omega
        subst hN
        clear hcl hd
        go_wp2_with fail
        refine (HDg.out _).mono ?_
        rintro e w' ⟨rfl, rfl⟩
        go_wp2
        go_ret
        exact ⟨rfl, rfl⟩
    · have hks : k = s.size := by omega
      have hN : N = k := by
        have := HK.out
        rw [List.drop_of_length_le (by rw [lenB]; omega)] at this
        simpa using this.symm
      subst hN
      have hltI : ¬ (N : Int) < (s.size : Int) := by omega
      clear hks
      go_wp2
      go_ret
      exact ⟨rfl, rfl⟩

/-- What the document's number answers. -/
def toldV (o : Option (Int × List UInt8)) (k : Nat) : Value := match o with
  | some (n, _) => .tuple #[.int .i64 n, .int .i64 (k : Int)]
  | none => .tuple #[.int .i64 0, .int .i64 0]
set_option maxHeartbeats 1000000 in
set_option maxRecDepth 100000 in
theorem RefTold_any (s : ByteArray) (least most : Nat) (h1 : 1 ≤ least) (h2 : most ≤ 4) (hs : s.size ≤ 1048600) (w : World) :
    Calls Tryz.prog 103 #[.string s, .int .i64 (least : Int), .int .i64 (most : Int)] w fun e w' => e = .returned (toldV (toldN least most s.data.toList) (s.data.toList.takeWhile isD).length) ∧ w = w' := by
  obtain ⟨k, Hk⟩ : ∃ k, Hid ((s.data.toList.takeWhile isD).length = k) := ⟨_, Lib.hid rfl⟩
  have HR := Lib.hid (fun w => RefRun_any s hs w)
  rw [Hk.out] at HR ⊢
  have hks : k ≤ s.size := by
    rw [← Hk.out]
    have := (List.takeWhile_prefix (l := s.data.toList) isD).length_le
    rw [lenB] at this; exact this
  by_cases hl : k < least
  · have HV : Hid (toldN least most s.data.toList = none) := Lib.hid (by unfold toldN; rw [Hk.out, if_neg (by omega)])
    have hl' : (k : Int) < (least : Int) := by omega
    rw [HV.out]
    go_enter Tryz.func103, Tryz.ntmps103
    go_wp2_with fail
    refine (HR.out _).mono ?_
    rintro e w' ⟨rfl, rfl⟩
    go_wp2
    go_ret2
    exact ⟨rfl, rfl⟩
  · have hl' : ¬ (k : Int) < (least : Int) := by omega
    by_cases hm : most < k
    · have HV : Hid (toldN least most s.data.toList = none) := Lib.hid (by unfold toldN; rw [Hk.out, if_neg (by omega)])
      have hm' : (most : Int) < (k : Int) := by omega
      rw [HV.out]
      go_enter Tryz.func103, Tryz.ntmps103
      go_wp2_with fail
      refine (HR.out _).mono ?_
      rintro e w' ⟨rfl, rfl⟩
      go_wp2
      go_ret2
      exact ⟨rfl, rfl⟩
    · have hm' : ¬ (most : Int) < (k : Int) := by omega
      have HV : Hid (toldN least most s.data.toList = some (num (s.data.toList.takeWhile isD), s.data.toList.dropWhile isD)) := Lib.hid (by unfold toldN; rw [Hk.out, if_pos (by omega)])
      have hex : (s.extract 0 k).data.toList = s.data.toList.takeWhile isD := by rw [← Hk.out]; exact take_run s
      have hbd := num_bd _ (all_run s.data.toList)
      rw [Hk.out] at hbd
      have h10 : (10 : Int) ^ k ≤ 10 ^ 4 := by
        have := Nat.pow_le_pow_right (show 0 < 10 by omega) (show k ≤ 4 by omega)
        exact_mod_cast this
      have hny := num_yes (s.data.toList.takeWhile isD) 9999 (by rw [Hk.out]; omega) (by rw [Hk.out]; omega) (all_run _) (by omega)
      have HN : Hid (∀ w, Calls Tryz.prog 127 #[.string (s.extract 0 k), .int .i64 9999] w fun e w' => e = .returned (.tuple #[.int .i64 (num (s.data.toList.takeWhile isD)), .bool true]) ∧ w = w') := Lib.hid (fun w => by
        have hsz : (s.extract 0 k).size ≤ maxLen := by
          rw [← lenB, hex, Hk.out]; unfold maxLen; omega
        have := RefNumber_any (s.extract 0 k) 9999 w hsz
        rw [hex, hny.1, hny.2] at this
        exact this)
      have hksI : (k : Int) ≤ (s.size : Int) := by omega
      rw [HV.out]
      clear hex hbd h10 hny
      go_enter Tryz.func103, Tryz.ntmps103
      go_wp2_with fail
      refine (HR.out _).mono ?_
      rintro e w' ⟨rfl, rfl⟩
      go_wp2_with fail
      refine (HN.out _).mono ?_
      rintro e w' ⟨rfl, rfl⟩
      go_wp2
      go_ret2
      exact ⟨rfl, rfl⟩

end Go.Proofs.YtblofndehbagnaaGreatDoor
