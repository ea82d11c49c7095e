/-
  The walk of DatesLeap.
-/
import Derived.Test.YtanjjffoccgkcaaDoorDtA
namespace Go.Proofs.YtanjjffoccgkcaaDoor
open Go.RowKit

theorem sec_first (y : Nat) (h1 : 1 ≤ y) (h2 : y ≤ 9999) : secR (y : Int) 1 1 0 0 0 = -62135596800 + (bef y : Nat) * 86400 ∧ secB (y : Int) 1 1 0 0 0 = true := by
  have hb : secB (y : Int) 1 1 0 0 0 = true := by
    refine secB_iff.2 ⟨dayB_iff.2 ⟨by omega, by omega, by decide, ?_⟩, by omega, by omega, by omega⟩
    have := (days_pos (y : Int).toNat (1 : Int).toNat).1
    omega
  refine ⟨?_, hb⟩
  rw [secR, if_pos hb, secV, Int.toNat_natCast]
  have : cumN y (1 : Int).toNat = 0 := rfl
  rw [this]
  omega
theorem sec_feb (y : Nat) (h1 : 1 ≤ y) (h2 : y ≤ 9999) : secB (y : Int) 2 29 0 0 0 = leapN y ∧ secB (y : Int) 2 30 0 0 0 = false := by
  have hd : daysN (y : Int).toNat (2 : Int).toNat = if leapN y then 29 else 28 := by rw [Int.toNat_natCast]; rfl
  have e : ∀ d : Int, dayB (y : Int) 2 d = inR 1 (daysN (y : Int).toNat (2 : Int).toNat : Nat) d := fun d => by
    unfold dayB
    rw [inR_true.2 ⟨by omega, by omega⟩]
    rfl
  unfold secB
  rw [e, e, hd]
  cases leapN y <;> decide

set_option maxHeartbeats 4000000 in
set_option maxRecDepth 100000 in
theorem leap_walk (n : Nat) (hn : n < 65536) (m : Int) (w : World) (hw : DtG m w) :
    Calls Tryd.prog 8 #[.int .u16 (n : Int)] w fun e w' => e = .returned (.bool true) ∧ Below w.heap.size w w' := by
  have HAl := Lib.hid (alive7_any m w hw)
  obtain ⟨y, hy⟩ : ∃ y, n % 9998 + 1 = y := ⟨_, rfl⟩
  have hyI : (n : Int) % 9998 + 1 = (y : Int) := by omega
  have hnI : (n : Int) < 65536 := by omega
  have h1 : 1 ≤ y := by omega
  have h2 : y ≤ 9998 := by omega
  have f1 := sec_first y h1 (by omega)
  have f2 := sec_first (y + 1) (by omega) (by omega)
  have f3 := sec_feb y h1 (by omega)
  have hbs := bef_succ y h1
  obtain ⟨B, HB⟩ : ∃ B, Hid (bef y = B) := ⟨_, Lib.hid rfl⟩
  obtain ⟨B2, HB2⟩ : ∃ B, Hid (bef (y + 1) = B) := ⟨_, Lib.hid rfl⟩
  rw [HB.out] at f1 hbs
  rw [HB2.out] at f2 hbs
  have hB9 : B2 ≤ 3652059 := by
    have := bef_mono (y + 1) 10000 (by omega) (by omega)
    rw [bef_last, HB2.out] at this
    omega
  have S1 := Lib.hid (fun w => Seconds_any (y : Int) 1 1 0 0 0 w)
  have S2 := Lib.hid (fun w => Seconds_any ((y + 1 : Nat) : Int) 1 1 0 0 0 w)
  have S3 := Lib.hid (fun w => Seconds_any (y : Int) 2 29 0 0 0 w)
  have S4 := Lib.hid (fun w => Seconds_any (y : Int) 2 30 0 0 0 w)
  rw [f1.1, f1.2] at S1
  rw [f2.1, f2.2] at S2
  obtain ⟨T1, HT1⟩ : ∃ T, Hid (-62135596800 + (B : Int) * 86400 = T) := ⟨_, Lib.hid rfl⟩
  obtain ⟨T2, HT2⟩ : ∃ T, Hid (-62135596800 + (B2 : Int) * 86400 = T) := ⟨_, Lib.hid rfl⟩
  rw [HT1.out] at S1
  rw [HT2.out] at S2
  rw [f3.1] at S3
  rw [f3.2] at S4
  rw [show ((y + 1 : Nat) : Int) = (y : Int) + 1 by omega] at S2
  obtain ⟨r3, Hr3⟩ : ∃ r, Hid (secR (y : Int) 2 29 0 0 0 = r) := ⟨_, Lib.hid rfl⟩
  obtain ⟨r4, Hr4⟩ : ∃ r, Hid (secR (y : Int) 2 30 0 0 0 = r) := ⟨_, Lib.hid rfl⟩
  rw [Hr3.out] at S3
  rw [Hr4.out] at S4
  obtain ⟨a1, a2, _, _⟩ := mod_facts y 4
  obtain ⟨_, _, b1, b2⟩ := mod_facts y 100
  obtain ⟨c1, c2, _, _⟩ := mod_facts y 400
  clear f1 f2 f3 hw
  have key : ∀ L : Bool, leapN y = L → (((y : Int) % 4 == 0) = true ∧ ((y : Int) % 100 != 0) = true ∧ L = true ∨ ((y : Int) % 4 == 0) = true ∧ ((y : Int) % 100 != 0) = false ∧ ((y : Int) % 400 == 0) = L ∨ ((y : Int) % 4 == 0) = false ∧ ((y : Int) % 400 == 0) = false ∧ L = false) := by
    intro L hL
    by_cases h4 : y % 4 = 0
    · by_cases h1 : y % 100 = 0
      · refine .inr (.inl ⟨a1.2 h4, b2.2 h1, ?_⟩)
        cases L with
        | true => have := (leap_iff y).1 hL; exact c1.2 (by omega)
        | false => have := (leap_not y).1 hL; exact c2.2 (by omega)
      · refine .inl ⟨a1.2 h4, b1.2 h1, ?_⟩
        rw [← hL]; exact (leap_iff y).2 ⟨h4, .inl h1⟩
    · refine .inr (.inr ⟨a2.2 h4, c2.2 (by omega), ?_⟩)
      rw [← hL]; exact (leap_not y).2 (fun h => h4 h.1)
  clear a1 a2 b1 b2 c1 c2 hy
  cases hL : leapN y with
  | true =>
    have hk := key true hL
    rw [hL] at S3 hbs
    simp only [if_true] at hbs
    have hd2 : T2 - T1 = 31622400 := by rw [← HT1.out, ← HT2.out]; omega
    have hdiff : ((T2 - T1) == 31622400) = true := beq_iff_eq.2 hd2
    clear key hL hbs hB9
    rcases hk with ⟨k1, k2, _⟩ | ⟨k1, k2, k3⟩ | ⟨_, _, k3⟩
    · go_enter Tryd.func8, Tryd.ntmps8
      go_wp2_with fail
      refine (S1.out _).mono ?_
      rintro e w' ⟨rfl, rfl⟩
      go_wp2_with fail
      refine (S2.out _).mono ?_
      rintro e w' ⟨rfl, rfl⟩
      go_wp2_with fail
      refine (S3.out _).mono ?_
      rintro e w' ⟨rfl, rfl⟩
      go_wp2_with fail
      refine (S4.out _).mono ?_
      rintro e w' ⟨rfl, rfl⟩
      go_wp2_with fail
      refine HAl.out.mono ?_
      rintro e w' ⟨rfl, bel⟩
      go_wp2
      go_ret
      exact ⟨rfl, bel⟩
    · go_enter Tryd.func8, Tryd.ntmps8
      go_wp2_with fail
      refine (S1.out _).mono ?_
      rintro e w' ⟨rfl, rfl⟩
      go_wp2_with fail
      refine (S2.out _).mono ?_
      rintro e w' ⟨rfl, rfl⟩
      go_wp2_with fail
      refine (S3.out _).mono ?_
      rintro e w' ⟨rfl, rfl⟩
      go_wp2_with fail
      refine (S4.out _).mono ?_
      rintro e w' ⟨rfl, rfl⟩
      go_wp2_with fail
      refine HAl.out.mono ?_
      rintro e w' ⟨rfl, bel⟩
      go_wp2
      go_ret
      exact ⟨rfl, bel⟩
    · cases k3
  | false =>
    have hk := key false hL
    rw [hL] at S3 hbs
    simp only [Bool.false_eq_true, if_false] at hbs
    have hd2 : T2 - T1 = 31536000 := by rw [← HT1.out, ← HT2.out]; omega
    have hdiff : ((T2 - T1) == 31536000) = true := beq_iff_eq.2 hd2
    clear key hL hbs hB9
    rcases hk with ⟨_, _, k3⟩ | ⟨k1, k2, k3⟩ | ⟨k1, k2, _⟩
    · cases k3
    · go_enter Tryd.func8, Tryd.ntmps8
      go_wp2_with fail
      refine (S1.out _).mono ?_
      rintro e w' ⟨rfl, rfl⟩
      go_wp2_with fail
      refine (S2.out _).mono ?_
      rintro e w' ⟨rfl, rfl⟩
      go_wp2_with fail
      refine (S3.out _).mono ?_
      rintro e w' ⟨rfl, rfl⟩
      go_wp2_with fail
      refine (S4.out _).mono ?_
      rintro e w' ⟨rfl, rfl⟩
      go_wp2_with fail
      refine HAl.out.mono ?_
      rintro e w' ⟨rfl, bel⟩
      go_wp2
      go_ret
      exact ⟨rfl, bel⟩
    · go_enter Tryd.func8, Tryd.ntmps8
      go_wp2_with fail
      refine (S1.out _).mono ?_
      rintro e w' ⟨rfl, rfl⟩
      go_wp2_with fail
      refine (S2.out _).mono ?_
      rintro e w' ⟨rfl, rfl⟩
      go_wp2_with fail
      refine (S3.out _).mono ?_
      rintro e w' ⟨rfl, rfl⟩
      go_wp2_with fail
      refine (S4.out _).mono ?_
      rintro e w' ⟨rfl, rfl⟩
      go_wp2_with fail
      refine HAl.out.mono ?_
      rintro e w' ⟨rfl, bel⟩
      go_wp2
      go_ret
      exact ⟨rfl, bel⟩

end Go.Proofs.YtanjjffoccgkcaaDoor
