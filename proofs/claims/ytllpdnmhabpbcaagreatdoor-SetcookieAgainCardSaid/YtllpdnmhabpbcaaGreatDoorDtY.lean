/-
  Contracts: the day of seconds, of package dates; sort.Search.
-/
import Derived.Test.YtllpdnmhabpbcaaGreatDoorDtP
import Derived.Test.YtllpdnmhabpbcaaGreatDoorShelfD
namespace Go.Proofs.YtllpdnmhabpbcaaGreatDoor
open Go.RowKit Go.Lib Go.Sort

theorem sort_Search_at (g : Nat) (cb : Array Value) (n : Nat) (p : Nat → Bool) (w : World) (eg : ∀ args w, (callFunc g args).run Tryz.prog w = .ok (.enter g args) w) (hsz : n < 4611686018427387904)
    (hf : ∀ (m : Nat) (os : Array Obj) (i : Nat), i < n → Calls Tryz.prog g (#[.int .i64 i] ++ cb) (grow (w.drewN m) os) fun e w' => e = .returned (.bool (p i)) ∧ ∃ q os', w' = grow ((grow (w.drewN m) os).drewN q) os')
    (hmono : ∀ a b, a ≤ b → b < n → p a = true → p b = true) :
    Calls Tryz.prog 84 #[.int .i64 n, .func (.func g) #[] cb] w fun e w' => e = .returned (.int .i64 ((List.range n).countP (fun i => !p i) : Nat)) ∧ ∃ q os, w' = grow (w.drewN q) os := by
  have h := Any.sort_Search Tryz.laysSearch g cb n p w eg hsz hf hmono
  exact h
theorem count_range (n Y : Nat) (p : Nat → Bool) (hY : Y ≤ n) (h1 : ∀ i, i < Y → p i = false) (h2 : ∀ i, Y ≤ i → i < n → p i = true) : (List.range n).countP (fun i => !p i) = Y := by
  have hr : ∀ t, t < n → (List.range n)[t]! = t := fun t ht => by rw [getElem!_pos _ t (by simpa using ht)]; simp
  refine Lib.countP_boundary _ (List.range n) Y (by simpa using hY) (fun t ht => ?_) (fun t h3 h4 => ?_)
  · rw [hr t (by omega), h1 t ht]; rfl
  · rw [hr t (by simpa using h4), h2 t h3 (by simpa using h4)]; rfl

set_option maxHeartbeats 1000000 in
set_option maxRecDepth 100000 in
theorem yearOf1_any (D b i : Nat) (hi : i < 9999) (w : World) (hb : w.cell? ⟨b, 0, none⟩ = some (.int .i64 (D : Int))) :
    Calls Tryz.prog 85 #[.int .i64 (i : Int), .pointer (some ⟨b, 0, none⟩)] w fun e w' => e = .returned (.bool (decide (D < bef (i + 1)))) ∧ ∃ q, w' = w.drewN q := by
  have ha := daysAhead_any (i + 1) (by omega) (by omega)
  obtain ⟨B, HB⟩ : ∃ B, Hid (bef (i + 1) = B) := ⟨_, Lib.hid rfl⟩
  rw [HB.out] at ha ⊢
  have hde : decide ((D : Int) < (B : Int)) = decide (D < B) := by simp
  have ha' : ∀ w, Calls Tryz.prog 64 #[.int .i64 ((i : Int) + 1)] w fun e w' => e = .returned (.int .i64 (B : Int)) ∧ w = w' := fun w => by
    have := ha w
    rwa [show (((i + 1 : Nat) : Nat) : Int) = (i : Int) + 1 by omega] at this
  have HA := Lib.hid ha'
  clear ha ha'
  go_enter Tryz.func85, Tryz.ntmps85
  go_wp2
  go_quiet ((go_loud (exact Calls.quiet_of_same ((HA.out _).mono fun e w' h => ⟨h.1, h.2.symm⟩))))
  go_wp2
  go_ret
  exact ⟨by rw [← hde]; rfl, _, rfl⟩

set_option maxHeartbeats 1000000 in
set_option maxRecDepth 100000 in
theorem yearOf_any (D Y : Nat) (y1 : 1 ≤ Y) (y2 : Y ≤ 9999) (h1 : bef Y ≤ D) (h2 : D < bef (Y + 1)) (w : World) :
    Calls Tryz.prog 63 #[.int .i64 (D : Int)] w fun e w' => e = .returned (.int .i64 (Y : Int)) ∧ Below w.heap.size w w' := by
  obtain ⟨W0, hW0⟩ : ∃ W0, W0 = w.alloc (.cells #[.int .i64 (D : Int)] 3) := ⟨_, rfl⟩
  have hsize : W0.heap.size = w.heap.size + 1 := by rw [hW0]; simp
  have cx : W0.cell? ⟨w.heap.size, 0, none⟩ = some (.int .i64 (D : Int)) := by rw [hW0]; exact cell_new_sl w _ _
  have eg : ∀ args w, (callFunc 85 args).run Tryz.prog w = .ok (.enter 85 args) w := enters_of Tryz.func85 (by kernel_rfl) rfl
  have hS := sort_Search_at 85 #[.pointer (some ⟨w.heap.size, 0, none⟩)] 9999 (fun i => decide (D < bef (i + 1))) W0 eg (by decide)
    (fun m os i hi => (yearOf1_any D w.heap.size i hi _ (cell_grown (by simp [hsize]) cx m os)).mono fun _ _ ⟨he, q, hq⟩ => ⟨he, q, #[], by rw [hq, grow_empty]⟩)
    (fun a b hab hb h => by
      have := bef_mono (a + 1) (b + 1) (by omega) (by omega)
      simp only [decide_eq_true_eq] at h ⊢
      omega)
  rw [count_range 9999 Y _ y2 (fun i hi => by
      have := bef_mono (i + 1) Y (by omega) (by omega)
      simp only [decide_eq_false_iff_not]
      omega) (fun i hi _ => by
      have := bef_mono (Y + 1) (i + 1) (by omega) (by omega)
      simp only [decide_eq_true_eq]
      omega)] at hS
  have HS := Lib.hid hS
  have HB0 : Hid (Below w.heap.size w W0) := Lib.hid (by rw [hW0]; exact (Below.refl _ w).alloc (Nat.le_refl _) _)
  clear hS cx eg h1 h2
  go_enter Tryz.func63, Tryz.ntmps63
  go_wp2_with fail
  rw [← hW0]
  refine HS.out.mono ?_
  rintro e w' ⟨rfl, q, os, rfl⟩
  go_wp2
  go_ret
  exact ⟨rfl, by rw [← hW0]; exact HB0.out.trans (below_grown_sl w.heap.size W0 q os (by omega))⟩

theorem results_tmp4 {fn : Func} {t u v x : Tmp} (h : fn.results = #[.tmp t, .tmp u, .tmp v, .tmp x]) (tmps : Array Value) (P : Program) (w : World) :
    (results fn tmps).run P w = .ok (.tuple #[tmps.getD t undef, tmps.getD u undef, tmps.getD v undef, tmps.getD x undef]) w := by
  simp [results, h]
/-- The day of seconds, as an answer. -/
def dayV (Y M d k : Nat) : Value := .tuple #[.int .i64 (Y : Int), .int .i64 (M : Int), .int .i64 (d : Int), .int .i64 (k : Int)]

set_option maxHeartbeats 1000000 in
set_option maxRecDepth 100000 in
theorem Day_no (n : Int) (hn : inR (-62135596800) 253402300799 n = false) (w : World) :
    Calls Tryz.prog 37 #[.int .i64 n] w fun e w' => e = .returned (dayV 0 0 0 0) ∧ Below w.heap.size w w' := by
  go_enter Tryz.func37, Tryz.ntmps37
  go_wp2_with fail
  refine (dWithin_any _ _ _ _).mono ?_
  rw [hn]
  rintro e w' ⟨rfl, rfl⟩
  go_wp2
  refine bodyPost_ret (results_tmp4 rfl _ _ _) rfl ?_
  exact ⟨rfl, Below.refl _ _⟩

set_option maxHeartbeats 2000000 in
set_option maxRecDepth 100000 in
theorem Day_any (n : Int) (D Y M d : Nat) (hI : IsDay D Y M d) (h1 : -62135596800 ≤ n) (h2 : (n + 62135596800) / 86400 = (D : Int)) (w : World) :
    Calls Tryz.prog 37 #[.int .i64 n] w fun e w' => e = .returned (dayV Y M d ((D + 1) % 7)) ∧ Below w.heap.size w w' := by
  have hD := hI.lt
  have hn : inR (-62135596800) 253402300799 n = true := inR_true.2 ⟨h1, by omega⟩
  have hn2 : n ≤ 253402300799 := by omega
  have y1 := hI.y1
  have y2 := hI.y2
  have m1 := hI.m1
  have m2 := hI.m2
  have hYO := yearOf_any D Y y1 y2 hI.lo hI.hi w
  have hlo := hI.lo
  obtain ⟨B, HB⟩ : ∃ B, Hid (bef Y = B) := ⟨_, Lib.hid rfl⟩
  have hDA := fun w => daysAhead_any Y y1 (by omega) w
  rw [HB.out] at hDA hlo
  have HI := Lib.hid hI
  clear hI
  go_enter Tryz.func37, Tryz.ntmps37
  go_wp2_with fail
  refine (dWithin_any _ _ _ _).mono ?_
  rw [hn]
  rintro e w' ⟨rfl, rfl⟩
  go_wp2_with fail
  refine hYO.mono ?_
  rintro e w1 ⟨rfl, bel1⟩
  have HB1 := Lib.hid bel1
  clear bel1 hYO
  go_wp2_with fail
  refine (hDA _).mono ?_
  rintro e w' ⟨rfl, rfl⟩
  clear hDA
  go_wp2
  go_loop [3, 6] (fun k v => ∃ (m z : Nat), 1 ≤ m ∧ m ≤ M ∧ k = .int .i64 (m : Int) ∧ v = .int .i64 (z : Int) ∧ z ≤ 3660000 ∧ Hid (z + B + cumN Y m = D)) (fun k _ => 12 - (intOf k).toNat)
  case atStart => exact ⟨1, D - B, Nat.le_refl _, m1, rfl, by go_num, by omega, Lib.hid (by rw [cum_one]; omega)⟩
  case round =>
    obtain ⟨m, z, hm1, hmM, rfl, rfl, hz, HZ⟩ := hrel
    have hdn := daysOf_any Y m (by omega) hm1 (by omega) w1
    obtain ⟨q, HQ⟩ : ∃ q, Hid (daysN Y m = q) := ⟨_, Lib.hid rfl⟩
    rw [HQ.out] at hdn
    have hq : q ≤ 31 := by rw [← HQ.out]; exact (days_pos Y m).2
    by_cases hlt : m < M
    · have hzq : q ≤ z := by
        have a1 := cum_mono Y (m + 1) M (by omega) hlt
        rw [cum_succ Y m hm1, HQ.out] at a1
        have a2 := HI.out.mlo
        have a3 := HZ.out
        rw [HB.out] at a2
        omega
      go_wp2_with fail
      refine hdn.mono ?_
      rintro e w' ⟨rfl, rfl⟩
      go_wp2_with fail
      refine hdn.mono ?_
      rintro e w' ⟨rfl, rfl⟩
      go_wp2
      go_round
      case rel => exact ⟨m + 1, z - q, by omega, by omega, by go_num, by go_num, by omega, Lib.hid (by rw [cum_succ Y m hm1, HQ.out]; have := HZ.out; omega)⟩
      case measure => simp [intOf]; omega
    · have hmm : m = M := by omega
      subst hmm
      have hzq : ¬ q ≤ z := by
        have a2 := HI.out.mhi
        have a3 := HZ.out
        rw [HB.out, HQ.out] at a2
        omega
      go_wp2_with fail
      refine hdn.mono ?_
      rintro e w' ⟨rfl, rfl⟩
      go_wp2
      refine bodyPost_ret (results_tmp4 rfl _ _ _) rfl ?_
      refine ⟨?_, HB1.out⟩
      have a1 := HI.out.dd
      have a3 := HZ.out
      rw [HB.out] at a1
      have e1 : d = z + 1 := by omega
      rw [e1]
      rfl

end Go.Proofs.YtllpdnmhabpbcaaGreatDoor
