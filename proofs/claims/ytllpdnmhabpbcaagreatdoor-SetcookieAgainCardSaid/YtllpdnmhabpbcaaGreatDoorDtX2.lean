/-
  Package dates: a date as a header has it.
-/
import Derived.Test.YtllpdnmhabpbcaaGreatDoorDtU
namespace Go.Proofs.YtllpdnmhabpbcaaGreatDoor
open Go.RowKit

theorem year_1970 {n D Y M d : Nat} (hI : IsDay D Y M d) (h2 : (n + 62135596800) / 86400 = D) : 1970 ≤ Y := by
  rcases Nat.lt_or_ge Y 1970 with h | h
  · have a1 := bef_mono (Y + 1) 1970 (by omega) (by omega)
    have a2 : bef 1970 = 719162 := by decide
    have a3 := hI.hi
    omega
  · exact h
theorem wk_at (k : Nat) (hk : k < 7) : (#[.string (asB [83, 117, 110]), .string (asB [77, 111, 110]), .string (asB [84, 117, 101]), .string (asB [87, 101, 100]), .string (asB [84, 104, 117]), .string (asB [70, 114, 105]), .string (asB [83, 97, 116])] : Array Value)[k]? = some (.string (asB (wkL.getD k []))) := by
  have : ∀ n : Fin 7, (#[.string (asB [83, 117, 110]), .string (asB [77, 111, 110]), .string (asB [84, 117, 101]), .string (asB [87, 101, 100]), .string (asB [84, 104, 117]), .string (asB [70, 114, 105]), .string (asB [83, 97, 116])] : Array Value)[n.1]? = some (.string (asB (wkL.getD n.1 []))) := by
    intro n
    match n with
    | ⟨0, _⟩ | ⟨1, _⟩ | ⟨2, _⟩ | ⟨3, _⟩ | ⟨4, _⟩ | ⟨5, _⟩ | ⟨6, _⟩ => rfl
  exact this ⟨k, hk⟩
theorem wk_len (k : Nat) (hk : k < 7) : (asB (wkL.getD k [])).size = 3 := by
  have : ∀ n : Fin 7, (wkL.getD n.1 []).length = 3 := by decide
  exact this ⟨k, hk⟩
theorem mon_len3 (k : Nat) (h1 : 1 ≤ k) (h2 : k ≤ 12) : (asB (monL.getD k [])).size = 3 := by
  have : ∀ n : Fin 12, (monL.getD (n.1 + 1) []).length = 3 := by decide
  have h := this ⟨k - 1, by omega⟩
  simp only at h
  rwa [show k - 1 + 1 = k by omega] at h
theorem row_cell {w : World} {g : Nat} {C : Array Value} {t : TypeId} {fr : Nat × Nat} (h : w.heap[g]? = some (.cells C t fr)) (k : Nat) : w.cell? ⟨g, k, none⟩ = C[k]? := by
  simp [World.cell?, h]

set_option maxHeartbeats 2000000 in
set_option maxRecDepth 100000 in
theorem Text_any (n D Y M d : Nat) (hI : IsDay D Y M d) (h2 : (n + 62135596800) / 86400 = D) (m : Int) (w : World) (hw : DtG m w) :
    Calls Tryz.prog 21 #[.int .i64 (n : Int)] w fun e w' => e = .returned (.tuple #[.string (asB (textL Y M d ((D + 1) % 7) (n % 86400))), .bool true]) ∧ Below w.heap.size w w' := by
  have hY0 := year_1970 hI h2
  have hY9 := hI.y2
  have hM1 := hI.m1
  have hM2 := hI.m2
  have hd := hI.d1
  have hd31 := (days_pos Y M).2
  have HDay := Lib.hid (Day_any (n : Int) D Y M d hI (by omega) (by omega) w)
  unfold dayV at HDay
  obtain ⟨k, Hk⟩ : ∃ k, Hid ((D + 1) % 7 = k) := ⟨_, Lib.hid rfl⟩
  have hk7 : k < 7 := by rw [← Hk.out]; omega
  rw [Hk.out] at HDay
  have HG := Lib.hid hw
  clear hI hw
  have hn0 : ¬ (n : Int) < 0 := by omega
  have hYz : ((Y : Int) == 0) = false := beq_eq_false_iff_ne.2 (by omega)
  obtain ⟨A, HA⟩ : ∃ A, Hid (asB (d2 d) = A) := ⟨_, Lib.hid rfl⟩
  obtain ⟨B, HB⟩ : ∃ B, Hid (asB (monL.getD M []) = B) := ⟨_, Lib.hid rfl⟩
  obtain ⟨C, HC⟩ : ∃ C, Hid (asB (yearL Y) = C) := ⟨_, Lib.hid rfl⟩
  obtain ⟨E, HE⟩ : ∃ E, Hid (asB (wkL.getD k []) = E) := ⟨_, Lib.hid rfl⟩
  obtain ⟨F, HF⟩ : ∃ F, Hid (asB (clockL (n % 86400)) = F) := ⟨_, Lib.hid rfl⟩
  have za : A.size = 2 := by rw [← HA.out]; rfl
  have zb : B.size = 3 := by rw [← HB.out]; exact mon_len3 M hM1 hM2
  have zc : C.size = 4 := by rw [← HC.out]; rfl
  have ze : E.size = 3 := by rw [← HE.out]; exact wk_len k hk7
  have zf : F.size = 8 := by rw [← HF.out]; rfl
  have hR : asB (textL Y M d k (n % 86400)) = E ++ ⟨#[44, 32]⟩ ++ (A ++ ⟨#[32]⟩ ++ B ++ ⟨#[32]⟩ ++ C) ++ ⟨#[32]⟩ ++ F ++ ⟨#[32, 71, 77, 84]⟩ := by
    rw [← HA.out, ← HB.out, ← HC.out, ← HE.out, ← HF.out]
    show _ = asB _ ++ asB [44, 32] ++ (asB _ ++ asB [32] ++ asB _ ++ asB [32] ++ asB _) ++ asB [32] ++ asB _ ++ asB [32, 71, 77, 84]
    simp only [asB_app]
    unfold textL
    simp
  rw [Hk.out, hR]
  clear hR
  have hM13 : (M : Int) < 13 := by omega
  have hM0 : (0 : Int) ≤ (M : Int) := by omega
  have hk7' : (k : Int) < 7 := by omega
  have hk0 : (0 : Int) ≤ (k : Int) := by omega
  go_enter Tryz.func21, Tryz.ntmps21
  go_wp2_with fail
  refine HDay.out.mono ?_
  rintro e w1 ⟨rfl, bel⟩
  have HB1 := Lib.hid bel
  clear bel
  have HG1 := Lib.hid (HG.out.below HB1.out)
  have HT1 : Hid (∀ p : BW w1, Calls Tryz.prog 38 #[.int .i64 (d : Int)] p.w fun e w' => e = .returned (.string A) ∧ Below p.w.heap.size p.w w') := Lib.hid (fun p => by
    have := twoDigits_any d (by omega) p.w (HG1.out.below p.h).tb
    rwa [HA.out] at this)
  have HT2 : Hid (∀ p : BW w1, Calls Tryz.prog 22 #[.int .i64 (Y : Int)] p.w fun e w' => e = .returned (.string C) ∧ Below p.w.heap.size p.w w') := Lib.hid (fun p => by
    have := Itoa_any Y (by omega) p.w (HG1.out.below p.h).tb
    rwa [itoa_year Y (by omega) (by omega), HC.out] at this)
  have hcm : ∀ p : BW w1, p.w.cell? ⟨0, M, none⟩ = some (.string B) := fun p => by
    obtain ⟨t, fr, hg⟩ := (HG1.out.below p.h).mn
    rw [row_cell hg, mn_at M (by omega), HB.out]
  go_wp2
  refine bw_region (by kernel_rfl) (by kernel_rfl) ?_
  repeat (first
    | (quiet_step ((go_at_call 38; exact Calls.bw_of (HT1.out _))))
    | (quiet_step ((go_at_call 22; exact Calls.bw_of (HT2.out _)))))
  refine wpQuiet_nil ?_
  intro w2 hw'
  have HB2 : Hid (Below w1.heap.size w1 w2) := Lib.hid (by
    obtain ⟨p, hp⟩ := hw'
    rw [hp]; exact p.h)
  clear hw' hcm
  have HG2 := Lib.hid (HG1.out.below HB2.out)
  have HBw2 : Hid (Below w.heap.size w w2) := Lib.hid (HB1.out.trans (HB2.out.mono HB1.out.size))
  have HT3 : Hid (∀ p : BW w2, Calls Tryz.prog 39 #[.int .i64 ((n : Int) % 86400)] p.w fun e w' => e = .returned (.string F) ∧ Below p.w.heap.size p.w w') := Lib.hid (fun p => by
    have := clockText_any (n % 86400) (by omega) p.w (HG2.out.below p.h).tb
    rw [HF.out] at this
    rwa [show ((n % 86400 : Nat) : Int) = (n : Int) % 86400 by omega] at this)
  have hck : ∀ p : BW w2, p.w.cell? ⟨1, k, none⟩ = some (.string E) := fun p => by
    obtain ⟨t, fr, hg⟩ := (HG2.out.below p.h).wk
    rw [row_cell hg, wk_at k hk7, HE.out]
  have hmod : (n : Int).tmod 86400 = (n : Int) % 86400 := Int.tmod_eq_emod_of_nonneg (by omega)
  go_wp2
  refine bw_region (by kernel_rfl) (by kernel_rfl) ?_
  repeat (first
    | (quiet_step ((go_at_call 39; exact Calls.bw_of (HT3.out _)))))
  refine wpQuiet_nil ?_
  intro w3 hw'
  have HB3 : Hid (Below w2.heap.size w2 w3) := Lib.hid (by
    obtain ⟨p, hp⟩ := hw'
    rw [hp]; exact p.h)
  clear hw' hck
  go_wp2
  go_ret2
  exact ⟨rfl, HBw2.out.trans (HB3.out.mono HBw2.out.size)⟩

end Go.Proofs.YtllpdnmhabpbcaaGreatDoor
