/-
  The document's Parse: yes for a text of seconds, no for every other.
-/
import Derived.Test.YtanjjffoccgkcaaDoorDrG
namespace Go.Proofs.YtanjjffoccgkcaaDoor
open Go.RowKit

theorem three_of {l : List UInt8} (h : l.length = 3) : ∃ a b c, l = [a, b, c] := by
  match l, h with
  | [a, b, c], _ => exact ⟨a, b, c, rfl⟩
theorem txt_parts (Y M d k x : Nat) (hk : (wkL.getD k []).length = 3) (hm : (monL.getD M []).length = 3) :
    (textL Y M d k x).length = 29 ∧ ((textL Y M d k x).take 14).drop 12 = d2 (Y / 100) ∧ ((textL Y M d k x).take 16).drop 14 = d2 (Y % 100) ∧ ((textL Y M d k x).take 7).drop 5 = d2 d ∧ ((textL Y M d k x).take 19).drop 17 = d2 (x / 3600) ∧ ((textL Y M d k x).take 22).drop 20 = d2 (x / 60 % 60) ∧ ((textL Y M d k x).take 25).drop 23 = d2 (x % 60) ∧ ((textL Y M d k x).take 11).drop 8 = monL.getD M [] := by
  obtain ⟨a, b, c, h1⟩ := three_of hk
  obtain ⟨a', b', c', h2⟩ := three_of hm
  unfold textL
  rw [h1, h2]
  exact ⟨rfl, rfl, rfl, rfl, rfl, rfl, rfl, rfl⟩
theorem two_of {s : ByteArray} {a b n : Nat} (h : (s.data.toList.take b).drop a = d2 n) (hn : n < 100) : twoS s a b = (n : Int) := by
  unfold twoS
  rw [cut_data, h]
  have h2 := num_d2 n hn
  rw [(num_yes (d2 n) 99 (by rw [len_d2]; decide) (by rw [len_d2]; decide) (List.all_eq_true.2 (fun c hc => (all_d2 n c hc).1)) (by rw [h2]; omega)).1, h2]

theorem RefParse_yes {n : Int} {s : ByteArray} (h : IsTxt n s.data.toList) (w : World) :
    Calls Tryd.prog 16 #[.string s] w fun e w' => e = .returned (.tuple #[.int .i64 n, .bool true]) ∧ Below w.heap.size w w' := by
  obtain ⟨k, D, Y, M, d, rfl, h2, hI, hs⟩ := h
  have hm3 : (monL.getD M []).length = 3 := mon_len3 M hI.m1 hI.m2
  have hk3 : (wkL.getD ((D + 1) % 7) []).length = 3 := wk_len _ (by omega)
  have hY := year_1970 hI h2
  have y2 := hI.y2
  have m1 := hI.m1
  have m2 := hI.m2
  have hd := hI.d1
  have hd31 := (days_pos Y M).2
  have hb := hI.back
  obtain ⟨t0, t1, t2, t3, t4, t5, t6, t7⟩ := txt_parts Y M d ((D + 1) % 7) (k % 86400) hk3 hm3
  rw [← hs] at t0 t1 t2 t3 t4 t5 t6 t7
  have e1 := two_of t1 (by omega)
  have e2 := two_of t2 (by omega)
  have e3 := two_of t3 (by omega)
  have e4 := two_of t4 (by omega)
  have e5 := two_of t5 (by omega)
  have e6 := two_of t6 (by omega)
  have eY : yQ s = (Y : Int) := by unfold yQ; rw [e1, e2]; omega
  have eM : mQ s = M := by
    unfold mQ
    rw [show s.extract 8 11 = asB (monL.getD M []) from ba_eq (by rw [cut_data, t7]; rfl)]
    exact monLast_mon M m1 m2
  have hB : secB (Y : Int) (M : Int) (d : Int) ((k % 86400 / 3600 : Nat) : Int) ((k % 86400 / 60 % 60 : Nat) : Int) ((k % 86400 % 60 : Nat) : Int) = true := by
    refine secB_iff.2 ⟨dayB_iff.2 ⟨by omega, by omega, by rw [Int.toNat_natCast, Int.toNat_natCast]; omega⟩, by omega, by omega, by omega⟩
  have hN : secR (Y : Int) (M : Int) (d : Int) ((k % 86400 / 3600 : Nat) : Int) ((k % 86400 / 60 % 60 : Nat) : Int) ((k % 86400 % 60 : Nat) : Int) = (k : Int) := by
    rw [secR, if_pos hB, secV, Int.toNat_natCast, Int.toNat_natCast]
    omega
  have hT := fun w => RefText_any k D Y M d hI h2 w
  rw [← hs, asB_back] at hT
  have hc := RefParse_core s (by rw [← lenB]; exact t0) (k : Int) true (by rw [eY, eM, e3, e4, e5, e6]; exact hN) (by rw [eY, eM, e3, e4, e5, e6]; exact hB) s true hT true (beq_self_eq_true _) w
  exact hc

theorem RefParse_none {s : ByteArray} (h : ∀ n, ¬ IsTxt n s.data.toList) (w : World) :
    Calls Tryd.prog 16 #[.string s] w fun e w' => e = .returned (.tuple #[.int .i64 0, .bool false]) ∧ Below w.heap.size w w' := by
  by_cases h29 : s.size = 29
  · obtain ⟨N, hN⟩ : ∃ N, secR (yQ s) (mQ s : Int) (twoS s 5 7) (twoS s 17 19) (twoS s 20 22) (twoS s 23 25) = N := ⟨_, rfl⟩
    obtain ⟨ok, hB⟩ : ∃ b, secB (yQ s) (mQ s : Int) (twoS s 5 7) (twoS s 17 19) (twoS s 20 22) (twoS s 23 25) = b := ⟨_, rfl⟩
    by_cases hr : 0 ≤ N ∧ N ≤ 253402300799
    · obtain ⟨l, hl⟩ := txt_some N hr.1 hr.2
      have hne : asB l ≠ s := fun e => h N (by rw [← e]; exact hl)
      have hT : ∀ w, Calls Tryd.prog 14 #[.int .i64 N] w fun e w' => e = .returned (.tuple #[.string (asB l), .bool true]) ∧ Below w.heap.size w w' := fun w => by
        obtain ⟨k, D, Y, M, d, rfl, h2, hI, rfl⟩ := hl
        exact RefText_any k D Y M d hI h2 w
      have hc := RefParse_core s h29 N ok hN hB (asB l) true hT false (bytes_bne hne) w
      cases ok
      all_goals exact hc
    · have hT : ∀ w, Calls Tryd.prog 14 #[.int .i64 N] w fun e w' => e = .returned (.tuple #[.string ⟨#[]⟩, .bool false]) ∧ Below w.heap.size w w' := fun w => (RefText_no N (by omega) w).mono fun e w' ⟨h1, h2⟩ => ⟨h1, by rw [← h2]; exact Below.refl _ _⟩
      have hc := RefParse_core s h29 N ok hN hB ⟨#[]⟩ false hT _ rfl w
      cases ok
      all_goals exact hc
  · have hz : ((s.size : Int) == 29) = false := beq_eq_false_iff_ne.2 (by omega)
    clear h
    go_enter Tryd.func16, Tryd.ntmps16
    go_wp2
    go_ret2
    exact ⟨rfl, Below.refl _ _⟩

end Go.Proofs.YtanjjffoccgkcaaDoor
