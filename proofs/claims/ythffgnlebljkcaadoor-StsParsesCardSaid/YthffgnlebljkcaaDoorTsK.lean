/-
  Package sts: the law's own constants; digits.
-/
import Derived.Test.YthffgnlebljkcaaDoorTsH
namespace Go.Proofs.YthffgnlebljkcaaDoor
open Go.RowKit Go.Lib

theorem txt5 : asB (txtW 5 true) = ⟨#[109, 97, 120, 45, 97, 103, 101, 61, 53, 59, 32, 105, 110, 99, 108, 117, 100, 101, 83, 117, 98, 68, 111, 109, 97, 105, 110, 115]⟩ := by
  have h : Lib.itoa 5 = [53] := by
    unfold Lib.itoa
    rw [if_neg (by decide)]
    exact Lib.decDigits_one (i := 5) (by decide)
  unfold txtW
  rw [h]; rfl
theorem al_ia : isW ⟨#[109, 97, 120, 45, 97, 103, 101, 61, 51, 49, 53, 51, 54, 48, 48, 48, 59, 32, 105, 110, 99, 108, 117, 100, 101, 83, 117, 98, 68, 111, 109, 97, 105, 110, 115]⟩ 31536000 true = true := by decide +kernel
theorem al_ib : isW ⟨#[77, 65, 88, 45, 65, 71, 69, 61, 34, 48, 34, 32, 59, 59]⟩ 0 false = true := by decide +kernel
theorem al_ic : isW ⟨#[109, 97, 120, 45, 97, 103, 101, 32, 61, 32, 53, 59, 120, 59, 121, 61, 34, 97, 59, 92, 34, 61, 98, 34]⟩ 5 false = true := by decide +kernel
theorem al_ba : badW ⟨#[]⟩ = true := by decide +kernel
theorem al_bb : badW ⟨#[109, 97, 120, 45, 97, 103, 101, 61, 49, 59, 32, 77, 97, 120, 45, 65, 103, 101, 61, 49]⟩ = true := by decide +kernel
theorem al_bc : badW ⟨#[109, 97, 120, 45, 97, 103, 101, 61, 49, 32, 50]⟩ = true := by decide +kernel
set_option maxRecDepth 100000 in
set_option maxHeartbeats 4000000 in
theorem alive11_any (w : World) (ht : Lib.TabIs Tryd.prog w "internal/strconv.uint64pow10" .u64 Lib.pow10Tab) :
    Calls Tryd.prog 14 #[] w fun e w' => e = .returned (.bool true) ∧ Below w.heap.size w w' := by
  have HT1 : Hid (Calls Tryd.prog 12 #[.agg #[.int .i64 5, .bool true]] w fun e w' => e = .returned (.tuple #[.string ⟨#[109, 97, 120, 45, 97, 103, 101, 61, 53, 59, 32, 105, 110, 99, 108, 117, 100, 101, 83, 117, 98, 68, 111, 109, 97, 105, 110, 115]⟩, .int .i64 0]) ∧ Below w.heap.size w w') := Lib.hid (by
    have := Text_good 5 true w (by decide) (by decide) ht
    rw [txt5] at this
    exact this)
  have HT2 : Hid (∀ w, Calls Tryd.prog 12 #[.agg #[.int .i64 (-1), .bool false]] w fun e w' => e = .returned (.tuple #[.string ⟨#[]⟩, .int .i64 1]) ∧ Below w.heap.size w w') := Lib.hid fun w => Text_bad (-1) false w (.inl (by decide))
  have Hia : Hid (∀ w, Calls Tryd.prog 16 #[.string ⟨#[109, 97, 120, 45, 97, 103, 101, 61, 51, 49, 53, 51, 54, 48, 48, 48, 59, 32, 105, 110, 99, 108, 117, 100, 101, 83, 117, 98, 68, 111, 109, 97, 105, 110, 115]⟩, .int .i64 31536000, .bool true] w fun e w' => e = .returned (.bool true) ∧ Below w.heap.size w w') := Lib.hid fun w => by
    have := is_any ⟨#[109, 97, 120, 45, 97, 103, 101, 61, 51, 49, 53, 51, 54, 48, 48, 48, 59, 32, 105, 110, 99, 108, 117, 100, 101, 83, 117, 98, 68, 111, 109, 97, 105, 110, 115]⟩ 31536000 true w
    rw [al_ia] at this
    exact this
  have Hib : Hid (∀ w, Calls Tryd.prog 16 #[.string ⟨#[77, 65, 88, 45, 65, 71, 69, 61, 34, 48, 34, 32, 59, 59]⟩, .int .i64 0, .bool false] w fun e w' => e = .returned (.bool true) ∧ Below w.heap.size w w') := Lib.hid fun w => by
    have := is_any ⟨#[77, 65, 88, 45, 65, 71, 69, 61, 34, 48, 34, 32, 59, 59]⟩ 0 false w
    rw [al_ib] at this
    exact this
  have Hic : Hid (∀ w, Calls Tryd.prog 16 #[.string ⟨#[109, 97, 120, 45, 97, 103, 101, 32, 61, 32, 53, 59, 120, 59, 121, 61, 34, 97, 59, 92, 34, 61, 98, 34]⟩, .int .i64 5, .bool false] w fun e w' => e = .returned (.bool true) ∧ Below w.heap.size w w') := Lib.hid fun w => by
    have := is_any ⟨#[109, 97, 120, 45, 97, 103, 101, 32, 61, 32, 53, 59, 120, 59, 121, 61, 34, 97, 59, 92, 34, 61, 98, 34]⟩ 5 false w
    rw [al_ic] at this
    exact this
  have Hba : Hid (∀ w, Calls Tryd.prog 19 #[.string ⟨#[]⟩] w fun e w' => e = .returned (.bool true) ∧ Below w.heap.size w w') := Lib.hid fun w => by
    have := bad_any ⟨#[]⟩ w
    rw [al_ba] at this
    exact this
  have Hbb : Hid (∀ w, Calls Tryd.prog 19 #[.string ⟨#[109, 97, 120, 45, 97, 103, 101, 61, 49, 59, 32, 77, 97, 120, 45, 65, 103, 101, 61, 49]⟩] w fun e w' => e = .returned (.bool true) ∧ Below w.heap.size w w') := Lib.hid fun w => by
    have := bad_any ⟨#[109, 97, 120, 45, 97, 103, 101, 61, 49, 59, 32, 77, 97, 120, 45, 65, 103, 101, 61, 49]⟩ w
    rw [al_bb] at this
    exact this
  have Hbc : Hid (∀ w, Calls Tryd.prog 19 #[.string ⟨#[109, 97, 120, 45, 97, 103, 101, 61, 49, 32, 50]⟩] w fun e w' => e = .returned (.bool true) ∧ Below w.heap.size w w') := Lib.hid fun w => by
    have := bad_any ⟨#[109, 97, 120, 45, 97, 103, 101, 61, 49, 32, 50]⟩ w
    rw [al_bc] at this
    exact this
  clear ht
  go_enter Tryd.func14, Tryd.ntmps14
  go_wp2_with fail
  refine HT1.out.mono ?_
  rintro e w1 ⟨rfl, b1⟩
  have HB1 := Lib.hid b1
  clear b1
  go_wp2_with fail
  refine (HT2.out w1).mono ?_
  rintro e w2 ⟨rfl, b⟩
  have HB2 := Lib.hid (HB1.out.trans (b.mono HB1.out.size))
  clear b
  go_wp2_with fail
  refine (Hia.out w2).mono ?_
  rintro e w3 ⟨rfl, b⟩
  have HB3 := Lib.hid (HB2.out.trans (b.mono HB2.out.size))
  clear b
  go_wp2_with fail
  refine (Hib.out w3).mono ?_
  rintro e w4 ⟨rfl, b⟩
  have HB4 := Lib.hid (HB3.out.trans (b.mono HB3.out.size))
  clear b
  go_wp2_with fail
  refine (Hic.out w4).mono ?_
  rintro e w5 ⟨rfl, b⟩
  have HB5 := Lib.hid (HB4.out.trans (b.mono HB4.out.size))
  clear b
  go_wp2_with fail
  refine (Hba.out w5).mono ?_
  rintro e w6 ⟨rfl, b⟩
  have HB6 := Lib.hid (HB5.out.trans (b.mono HB5.out.size))
  clear b
  go_wp2_with fail
  refine (Hbb.out w6).mono ?_
  rintro e w7 ⟨rfl, b⟩
  have HB7 := Lib.hid (HB6.out.trans (b.mono HB6.out.size))
  clear b
  go_wp2_with fail
  refine (Hbc.out w7).mono ?_
  rintro e w8 ⟨rfl, b⟩
  have HB8 := Lib.hid (HB7.out.trans (b.mono HB7.out.size))
  clear b
  go_wp2
  go_ret
  exact ⟨rfl, HB8.out⟩

/-- The digits of a number, the last one apart. -/
def pre10 (m : Nat) : List UInt8 := if 10 ≤ m then Lib.decDigits (m / 10) else []
theorem dd_split (m : Nat) : Lib.decDigits m = pre10 m ++ [UInt8.ofNat (48 + m % 10)] := by
  conv => { lhs; rw [Lib.decDigits] }
  unfold pre10
  by_cases h : m < 10
  · rw [dif_pos h, if_neg (by omega), Nat.mod_eq_of_lt h]; rfl
  · rw [dif_neg h, if_pos (by omega)]
def DG11 : ByteArray := ⟨#[48, 49, 50, 51, 52, 53, 54, 55, 56, 57]⟩
theorem dig_ext11 : ∀ d : Fin 10, (DG11.extract d.1 (d.1 + 1)).data.toList = [UInt8.ofNat (48 + d.1)] := by decide +kernel
theorem dig11 (d : Nat) (h : d < 10) : DG11.extract d (d + 1) = asB [UInt8.ofNat (48 + d)] := by
  apply ByteArray.ext
  apply Array.toList_inj.1
  exact dig_ext11 ⟨d, h⟩

theorem u64_small (n : Nat) (h : n ≤ 18446744073709551615) : IntKind.u64.wrap (n : Int) = (n : Int) := by
  rw [IntKind.wrap_u64]; omega
set_option maxRecDepth 100000 in
set_option maxHeartbeats 2000000 in
theorem digits_any (n : Nat) (w : World) (hn : n ≤ 18446744073709551615) :
    Calls Tryd.prog 15 #[.int .u64 (n : Int)] w fun e w' => e = .returned (.string (asB (Lib.decDigits n))) ∧ Below w.heap.size w w' := by
  obtain ⟨d, Hd⟩ : ∃ d, Hid (n % 10 = d) := ⟨_, Lib.hid rfl⟩
  have hd : (n : Int) % 10 = (d : Int) := by rw [← Hd.out]; omega
  have hd10 : (d : Int) < 10 := by rw [← hd]; omega
  have hlen : (Lib.decDigits n).length ≤ 20 := dgs11 n 20 (by omega) (by decide)
  have HLen := Lib.hid hlen
  have HN := Lib.hid hn
  have HX : Hid (DG11.extract d (d + 1) = asB [UInt8.ofNat (48 + n % 10)]) := Lib.hid (by rw [Hd.out]; exact dig11 d (by omega))
  have hd0 : (0 : Int) ≤ (d : Int) := by omega
  obtain ⟨D, HD⟩ : ∃ D, Hid (Lib.decDigits n = D) := ⟨_, Lib.hid rfl⟩
  have HSp : Hid (D = pre10 n ++ [UInt8.ofNat (48 + n % 10)]) := Lib.hid (by rw [← HD.out]; exact dd_split n)
  rw [HD.out] at HLen ⊢
  clear hlen hn
  go_enter Tryd.func15, Tryd.ntmps15
  go_wp2
  go_loopw [0, 3] (fun m t wr => ∃ (M : Nat) (T : List UInt8), m = .int .u64 (M : Int) ∧ t = .string (asB T) ∧ Hid (D = pre10 M ++ T) ∧ Hid (M ≤ 18446744073709551615) ∧ w = wr) (fun m _ _ => (intOf m).toNat)
  case atStart => exact ⟨n, _, rfl, congrArg Value.string HX.out, HSp, HN, rfl⟩
  case round =>
    obtain ⟨M, T, rfl, rfl, HS, HM, rfl⟩ := hrel
    clear hd hd10 hd0 Hd HX HSp HN
    by_cases h10 : 10 ≤ M
    · obtain ⟨N, HN⟩ : ∃ N, Hid (M / 10 = N) := ⟨_, Lib.hid rfl⟩
      obtain ⟨c, Hc⟩ : ∃ c, Hid (N % 10 = c) := ⟨_, Lib.hid rfl⟩
      have q0 : (10 : Int) ≤ (M : Int) := by omega
      have q1 : (M : Int).tdiv 10 = (N : Int) := by rw [← HN.out, Int.tdiv_eq_ediv_of_nonneg (by omega)]; omega
      have q2 : (M : Int) / 10 = (N : Int) := by rw [← HN.out]; omega
      have q3 : (N : Int) % 10 = (c : Int) := by rw [← Hc.out]; omega
      have q4 : (N : Int).tmod 10 = (c : Int) := by rw [← Hc.out, Int.tmod_eq_emod_of_nonneg (by omega)]; omega
      have q5 : (c : Int) < 10 := by rw [← q3]; omega
      have q6 : (0 : Int) ≤ (c : Int) := by omega
      have q7 : IntKind.u64.wrap (N : Int) = (N : Int) := u64_small N (by have := HM.out; have := HN.out; omega)
      have q8 : IntKind.u64.wrap (c : Int) = (c : Int) := u64_small c (by omega)
      have q9 : IntKind.u64.wrap ((c : Int) + 1) = (c : Int) + 1 := u64_small (c + 1) (by omega)
      have HE : Hid (D = pre10 N ++ ([UInt8.ofNat (48 + c)] ++ T)) := Lib.hid (by
        rw [HS.out, ← List.append_assoc, ← Hc.out, ← dd_split N]
        unfold pre10
        rw [if_pos h10, HN.out])
      have hT : T.length ≤ 20 := by
        have := HLen.out
        rw [HS.out, List.length_append] at this
        omega
      have hTs : (asB T).size ≤ 20 := hT
      have HX2 : Hid (DG11.extract c (c + 1) ++ asB T = asB ([UInt8.ofNat (48 + c)] ++ T)) := Lib.hid (by rw [dig11 c (by omega), asB_app])
      have HN2 : Hid (N ≤ 18446744073709551615) := Lib.hid (by have := HM.out; have := HN.out; omega)
      have HMs : Hid (N < M) := Lib.hid (by have := HN.out; omega)
      clear h10 hT
      go_wp2
      go_roundw
      case rel => exact ⟨N, _, rfl, congrArg Value.string HX2.out, HE, HN2, trivial⟩
      case measure =>
        show (N : Int).toNat < (M : Int).toNat
        have := HMs.out
        omega
    · have HE : Hid (D = T) := Lib.hid (by
        rw [HS.out]
        unfold pre10
        rw [if_neg h10]; rfl)
      have q0 : ¬ (10 : Int) ≤ (M : Int) := by omega
      clear h10
      go_wp2
      go_ret
      rw [HE.out]
      exact ⟨rfl, Below.refl _ _⟩

end Go.Proofs.YthffgnlebljkcaaDoor
