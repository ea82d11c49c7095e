/-
  footmanlaw11.StsTexts: the text of any wish is the documented one, or it is refused.
-/
import Derived.Test.YthffgnlebljkcaaDoorTsL
import Derived.Lib.ItoaMem
import Derived.Lib.ItoaLen
namespace Go.Proofs.YthffgnlebljkcaaDoor
open Go.RowKit Go.Lib

theorem dig_ext11' : ∀ d, d < 10 → DG11.extract d (d + 1) = asB [UInt8.ofNat (48 + d)] := fun d h => dig11 d h
theorem rt_str11 {a b : ByteArray} (h : a = b) : Ending.returned (.string a) = .returned (.string b) := by rw [h]
theorem dds11 {n : Nat} (h : n < 10) : Lib.decDigits n = [UInt8.ofNat (48 + n)] := by
  rw [Lib.decDigits, dif_pos h]
theorem ddg11 {n : Nat} (h : ¬ n < 10) : Lib.decDigits n = Lib.decDigits (n / 10) ++ [UInt8.ofNat (48 + n % 10)] := by
  conv => lhs; rw [Lib.decDigits, dif_neg h]
set_option maxRecDepth 100000 in
set_option maxHeartbeats 400000 in
theorem refdigits11_any : ∀ (f n : Nat), n ≤ f → n ≤ 9223372036854775807 → ∀ w : World,
    Calls Tryd.prog 27 #[.int .i64 (n : Int)] w fun e w' => e = .returned (.string (asB (Lib.decDigits n))) ∧ Below w.heap.size w w' := by
  intro f
  induction f with
  | zero =>
    intro n hn _ w
    obtain rfl : n = 0 := by omega
    go_enter Tryd.func27, Tryd.ntmps27
    go_wp2
    go_ret
    exact ⟨rt_str11 (by rw [dds11 (by omega)]; exact dig_ext11' 0 (by omega)), Below.refl _ _⟩
  | succ f ih =>
    intro n hn hm w
    have hn0 : ¬ (n : Int) < 0 := by omega
    by_cases h10 : n < 10
    · have HD : Hid (DG11.extract n (n + 1) = asB (Lib.decDigits n)) := Lib.hid (by rw [dds11 h10, dig_ext11' n h10])
      obtain ⟨X, HX⟩ : ∃ X, Hid (asB (Lib.decDigits n) = X) := ⟨_, Lib.hid rfl⟩
      rw [HX.out] at HD ⊢
      have h10I : (n : Int) < 10 := by omega
      clear ih hn
      go_enter Tryd.func27, Tryd.ntmps27
      go_wp2
      go_ret
      exact ⟨rt_str11 HD.out, Below.refl _ _⟩
    · have h10I : ¬ (n : Int) < 10 := by omega
      obtain ⟨m, Hm⟩ : ∃ m, Hid (n / 10 = m) := ⟨_, Lib.hid rfl⟩
      obtain ⟨d, Hd⟩ : ∃ d, Hid (n % 10 = d) := ⟨_, Lib.hid rfl⟩
      have hmf : m ≤ f := by rw [← Hm.out]; omega
      have hm2 : m ≤ 9223372036854775807 := by rw [← Hm.out]; omega
      have hd9 : d < 10 := by rw [← Hd.out]; omega
      have HI : Hid (∀ p : BW w, Calls Tryd.prog 27 #[.int .i64 (m : Int)] p.w fun e w' => e = .returned (.string (asB (Lib.decDigits m))) ∧ Below p.w.heap.size p.w w') := Lib.hid (fun p => ih m hmf hm2 p.w)
      have HE : Hid (asB (Lib.decDigits m) ++ DG11.extract d (d + 1) = asB (Lib.decDigits n)) := Lib.hid (by
        rw [ddg11 h10, Hm.out, Hd.out, dig_ext11' d hd9, asB_app])
      obtain ⟨X, HX⟩ : ∃ X, Hid (asB (Lib.decDigits n) = X) := ⟨_, Lib.hid rfl⟩
      obtain ⟨Y, HY⟩ : ∃ X, Hid (asB (Lib.decDigits m) = X) := ⟨_, Lib.hid rfl⟩
      have hYs : Y.size ≤ 21 := by
        have := Lib.itoa_length_le (m : Int) (by omega) (by omega)
        rw [Lib.itoa_nonneg] at this
        rw [← HY.out, asB_size]; exact this
      rw [HX.out, HY.out] at HE
      rw [HY.out] at HI
      rw [HX.out]
      have q1 : (n : Int).tdiv 10 = (m : Int) := by rw [← Hm.out, Int.tdiv_eq_ediv_of_nonneg (by omega)]; omega
      have q2 : (n : Int).tmod 10 = (d : Int) := by rw [← Hd.out, Int.tmod_eq_emod_of_nonneg (by omega)]; omega
      have q3 : IntKind.i64.wrap ((d : Int) + 1) = (d : Int) + 1 := IntWalk.i64_in _ (by omega)
      have q6 : IntKind.i64.wrap (m : Int) = (m : Int) := IntWalk.i64_in _ (by omega)
      have q7 : IntKind.i64.wrap (d : Int) = (d : Int) := IntWalk.i64_in _ (by omega)
      have q8 : (0 : Int) ≤ (d : Int) + 1 := by omega
      have q9 : (0 : Int) ≤ (d : Int) := by omega
      have q10 : (d : Int) ≤ (d : Int) + 1 := by omega
      have q11 : d + 1 ≤ 10 := by omega
      have q4 : ((d : Int) + 1).toNat = d + 1 := by omega
      have q5 : (d : Int) + 1 ≤ 10 := by omega
      have z1 : ¬ 9223372036854775807 < Y.size + 1 := by omega
      clear ih hn hm h10 Hm Hd hmf hm2
      go_enter Tryd.func27, Tryd.ntmps27
      go_wp2
      refine bw_region (by kernel_rfl) (by kernel_rfl) ?_
      repeat (quiet_step ((go_at_call 27; exact Calls.bw_of (HI.out _))))
      refine wpQuiet_nil ?_
      intro w1 hw'
      have HB : Hid (Below w.heap.size w w1) := Lib.hid (by
        obtain ⟨p, hp⟩ := hw'
        rw [hp]; exact p.h)
      go_wp2
      go_ret
      exact ⟨rt_str11 HE.out, HB.out⟩
set_option maxRecDepth 100000 in
set_option maxHeartbeats 1000000 in
theorem RefText_bad (a : Int) (f : Bool) (w : World) (h : a < 0 ∨ 2147483647 < a) :
    Calls Tryd.prog 13 #[.agg #[.int .i64 a, .bool f]] w fun e w' => e = .returned (.tuple #[.string ⟨#[]⟩, .int .i64 1]) ∧ Below w.heap.size w w' := by
  by_cases h0 : a < 0
  · have e0 : decide (a < 0) = true := decide_eq_true h0
    clear h
    go_enter Tryd.func13, Tryd.ntmps13
    go_wp2
    go_ret2
    exact ⟨rfl, (Below.refl _ _).alloc (Nat.le_refl _) _⟩
  · have h1 : 2147483647 < a := by omega
    have e0 : decide (a < 0) = false := decide_eq_false h0
    clear h
    go_enter Tryd.func13, Tryd.ntmps13
    go_wp2
    go_ret2
    exact ⟨rfl, (Below.refl _ _).alloc (Nat.le_refl _) _⟩
set_option maxRecDepth 100000 in
set_option maxHeartbeats 1000000 in
theorem RefText_good (a : Int) (f : Bool) (w : World) (h0 : 0 ≤ a) (h1 : a ≤ 2147483647) :
    Calls Tryd.prog 13 #[.agg #[.int .i64 a, .bool f]] w fun e w' => e = .returned (.tuple #[.string (asB (txtW a f)), .int .i64 0]) ∧ Below w.heap.size w w' := by
  have hb : Below w.heap.size w (w.alloc (.cells #[.int .i64 a, .bool f] 24)) := (Below.refl _ _).alloc (Nat.le_refl _) _
  have hi : Lib.itoa a = Lib.decDigits a.toNat := by unfold Lib.itoa; rw [if_neg (by omega)]
  have HI : Hid (∀ w, Calls Tryd.prog 27 #[.int .i64 a] w fun e w' => e = .returned (.string (asB (Lib.itoa a))) ∧ Below w.heap.size w w') := Lib.hid fun w => by
    have := refdigits11_any a.toNat a.toNat (Nat.le_refl _) (by omega) w
    rw [← hi, Int.toNat_of_nonneg h0] at this
    exact this
  have HB := Lib.hid hb
  have HG : Hid ((w.alloc (.cells #[.int .i64 a, .bool f] 24)).heap[w.heap.size]? = some (.cells #[.int .i64 a, .bool f] 24 (0, 0))) := Lib.hid (heap_alloc_new w _)
  have hlen : (Lib.itoa a).length ≤ 10 := by
    unfold Lib.itoa
    rw [if_neg (by omega)]
    exact dgs11 _ 10 (by omega) (by decide)
  have hp : (⟨#[109, 97, 120, 45, 97, 103, 101, 61]⟩ : ByteArray) ++ asB (Lib.itoa a) = asB (preA ++ Lib.itoa a) := asB_app preA _
  have hsz : (asB (Lib.itoa a)).size ≤ 10 := hlen
  have hsz2 : (asB (preA ++ Lib.itoa a)).size ≤ 18 := by rw [asB_size, List.length_append]; unfold preA; simp; omega
  obtain ⟨X, HX⟩ : ∃ X, Hid (asB (Lib.itoa a) = X) := ⟨_, Lib.hid rfl⟩
  obtain ⟨Y, HY⟩ : ∃ X, Hid (asB (preA ++ Lib.itoa a) = X) := ⟨_, Lib.hid rfl⟩
  rw [HX.out, HY.out] at hp
  rw [HX.out] at HI hsz
  rw [HY.out] at hsz2
  have hn0 : ¬ a < 0 := by omega
  have hn1 : ¬ 2147483647 < a := by omega
  have e0 : decide (a < 0) = false := decide_eq_false hn0
  have e1 : decide (2147483647 < a) = false := decide_eq_false hn1
  clear hlen hb hi
  cases f with
  | false =>
    have HE : Hid (asB (txtW a false) = Y) := Lib.hid (by rw [← HY.out]; unfold txtW; simp)
    rw [HE.out]
    go_enter Tryd.func13, Tryd.ntmps13
    go_wp2_with fail
    refine (HI.out _).mono ?_
    rintro e w1 ⟨rfl, hb⟩
    have hg : w1.heap[w.heap.size]? = some (.cells #[.int .i64 a, .bool false] 24 (0, 0)) := (hb.block _ (by simp)).trans HG.out
    have c1 : w1.cell? ⟨w.heap.size, 1, none⟩ = some (.bool false) := by rw [cell_of_row w1 _ 1 _ _ _ hg]; rfl
    have HB1 := Lib.hid (HB.out.trans (hb.mono HB.out.size))
    clear hb hg
    go_wp2
    go_ret2
    exact ⟨rfl, HB1.out⟩
  | true =>
    have HE : Hid (asB (txtW a true) = Y ++ ⟨#[59, 32, 105, 110, 99, 108, 117, 100, 101, 83, 117, 98, 68, 111, 109, 97, 105, 110, 115]⟩) := Lib.hid (by rw [← HY.out]; exact (asB_app (preA ++ Lib.itoa a) sufS).symm)
    rw [HE.out]
    go_enter Tryd.func13, Tryd.ntmps13
    go_wp2_with fail
    refine (HI.out _).mono ?_
    rintro e w1 ⟨rfl, hb⟩
    have hg : w1.heap[w.heap.size]? = some (.cells #[.int .i64 a, .bool true] 24 (0, 0)) := (hb.block _ (by simp)).trans HG.out
    have c1 : w1.cell? ⟨w.heap.size, 1, none⟩ = some (.bool true) := by rw [cell_of_row w1 _ 1 _ _ _ hg]; rfl
    have HB1 := Lib.hid (HB.out.trans (hb.mono HB.out.size))
    clear hb hg
    go_wp2
    go_ret2
    exact ⟨rfl, HB1.out⟩


theorem beq_refl11 (b : ByteArray) : (b.toList == b.toList) = true := by simp
set_option maxRecDepth 100000 in
set_option maxHeartbeats 2000000 in
theorem wtexts_walk (a : Int) (f : Bool) (w : World) (htab : Lib.TabIs Tryd.prog w "internal/strconv.uint64pow10" .u64 Lib.pow10Tab) :
    Calls Tryd.prog 4 #[.agg #[.int .i64 a, .bool f]] w fun e w' => e = .returned (.bool true) ∧ Below w.heap.size w w' := by
  obtain ⟨S, c, H1, H2⟩ : ∃ (S : ByteArray) (c : Int), Hid (∀ w, Lib.TabIs Tryd.prog w "internal/strconv.uint64pow10" .u64 Lib.pow10Tab → Calls Tryd.prog 12 #[.agg #[.int .i64 a, .bool f]] w fun e w' => e = .returned (.tuple #[.string S, .int .i64 c]) ∧ Below w.heap.size w w') ∧
      Hid (∀ w, Calls Tryd.prog 13 #[.agg #[.int .i64 a, .bool f]] w fun e w' => e = .returned (.tuple #[.string S, .int .i64 c]) ∧ Below w.heap.size w w') := by
    by_cases h : a < 0 ∨ 2147483647 < a
    · exact ⟨_, _, Lib.hid fun w _ => Text_bad a f w h, Lib.hid fun w => RefText_bad a f w h⟩
    · exact ⟨_, _, Lib.hid fun w ht => Text_good a f w (by omega) (by omega) ht, Lib.hid fun w => RefText_good a f w (by omega) (by omega)⟩
  have HI := Lib.hid infoWish
  have hb : Below w.heap.size w (w.alloc (.cells #[.int .i64 a, .bool f] 24)) := (Below.refl _ _).alloc (Nat.le_refl _) _
  have HT0 := Lib.hid (H1.out _ (tab11 htab hb))
  have HG : Hid ((w.alloc (.cells #[.int .i64 a, .bool f] 24)).heap[w.heap.size]? = some (.cells #[.int .i64 a, .bool f] 24 (0, 0))) := Lib.hid (heap_alloc_new w _)
  have HB := Lib.hid hb
  have hs : (S.toList == S.toList) = true := by simp
  clear hb htab
  go_enter Tryd.func4, Tryd.ntmps4
  go_wp2_with (refine tcW_load rfl 24 _ rfl w.heap.size ?_ 24 #[.int .i64 a, .bool f] (0, 0) _ ?_ Tryd.underlying24 rfl ?_ _ rfl ?_; (exact rfl); (exact HG.out); (exact HI.out))
  refine HT0.out.mono ?_
  rintro e w1 ⟨rfl, b1⟩
  have HG1 : Hid (w1.heap[w.heap.size]? = some (.cells #[.int .i64 a, .bool f] 24 (0, 0))) := Lib.hid ((b1.block _ (by simp)).trans HG.out)
  have HB1 := Lib.hid (HB.out.trans (b1.mono HB.out.size))
  clear b1
  go_wp2_with (refine tcW_load rfl 24 _ rfl w.heap.size ?_ 24 #[.int .i64 a, .bool f] (0, 0) _ ?_ Tryd.underlying24 rfl ?_ _ rfl ?_; (exact rfl); (exact HG1.out); (exact HI.out))
  refine (H2.out w1).mono ?_
  rintro e w2 ⟨rfl, b2⟩
  have HB2 := Lib.hid (HB1.out.trans (b2.mono HB1.out.size))
  clear b2
  go_wp2
  go_ret
  exact ⟨by simp, HB2.out⟩

end Go.Proofs.YthffgnlebljkcaaDoor
