/-
  The document's date as a header has it.
-/
import Derived.Test.YtkekidjnedmpjaaDoorDrC
import Derived.Test.YtkekidjnedmpjaaDoorDtD
import Derived.Test.YtkekidjnedmpjaaDoorDtQ
import Derived.BigQuiet
import Derived.Test.YtkekidjnedmpjaaDoorBw
namespace Go.Proofs.YtkekidjnedmpjaaDoor
open Go.RowKit

def DG10 : ByteArray := ⟨#[48, 49, 50, 51, 52, 53, 54, 55, 56, 57]⟩
theorem dg_at (k : Nat) (hk : k < 10) : DG10.extract k (k + 1) = asB [UInt8.ofNat (48 + k)] := by
  have : ∀ j : Fin 10, DG10.extract j.1 (j.1 + 1) = asB [UInt8.ofNat (48 + j.1)] := by decide +kernel
  exact this ⟨k, hk⟩
theorem slice_dg (k : Nat) (hk : k < 10) (v u : Int) (hv : v = k) (hu : u = (k : Int) + 1) (w : World) : (Instr.slice 9 (.string ({ data := #[48, 49, 50, 51, 52, 53, 54, 55, 56, 57] } : ByteArray)) (some (.int .i64 v)) (some (.int .i64 u)) none).run Tryd.prog w = .ok (.string (asB [UInt8.ofNat (48 + k)])) w := by
  subst hv
  subst hu
  have h := run_slice_string_if (P := Tryd.prog) (w := w) 9 DG10 .i64 .i64 (k : Int) ((k : Int) + 1) Tryd.underlying9
  have hs : DG10.size = 10 := rfl
  rw [hs, if_pos ⟨by omega, by omega⟩, if_pos ⟨by omega, by omega⟩, show ((k : Int)).toNat = k by omega, show ((k : Int) + 1).toNat = k + 1 by omega, dg_at k hk] at h
  exact h
def WKS : ByteArray := ⟨#[83, 117, 110, 77, 111, 110, 84, 117, 101, 87, 101, 100, 84, 104, 117, 70, 114, 105, 83, 97, 116]⟩
theorem wks_at (k : Nat) (hk : k < 7) : WKS.extract (3 * k) (3 * k + 3) = asB (wkL.getD k []) := by
  have : ∀ j : Fin 7, WKS.extract (3 * j.1) (3 * j.1 + 3) = asB (wkL.getD j.1 []) := by decide +kernel
  exact this ⟨k, hk⟩
theorem slice_wk (k : Nat) (hk : k < 7) (w : World) : (Instr.slice 9 (.string ({ data := #[83, 117, 110, 77, 111, 110, 84, 117, 101, 87, 101, 100, 84, 104, 117, 70, 114, 105, 83, 97, 116] } : ByteArray)) (some (.int .i64 (3 * (k : Int)))) (some (.int .i64 (3 * (k : Int) + 3))) none).run Tryd.prog w = .ok (.string (asB (wkL.getD k []))) w := by
  have h := run_slice_string_if (P := Tryd.prog) (w := w) 9 WKS .i64 .i64 (3 * (k : Int)) (3 * (k : Int) + 3) Tryd.underlying9
  have hs : WKS.size = 21 := rfl
  rw [hs, if_pos ⟨by omega, by omega⟩, if_pos ⟨by omega, by omega⟩, show (3 * (k : Int)).toNat = 3 * k by omega, show (3 * (k : Int) + 3).toNat = 3 * k + 3 by omega, wks_at k hk] at h
  exact h

set_option maxHeartbeats 1000000 in
set_option maxRecDepth 100000 in
theorem Digits_any (n : Nat) (hn : n < 1000000) (w : World) :
    Calls Tryd.prog 30 #[.int .i64 (n : Int)] w fun e w' => e = .returned (.string (asB (d2 n))) ∧ Below w.heap.size w w' := by
  obtain ⟨A, HA⟩ : ∃ A, Hid (asB [UInt8.ofNat (48 + n / 10 % 10)] = A) := ⟨_, Lib.hid rfl⟩
  obtain ⟨B, HB⟩ : ∃ B, Hid (asB [UInt8.ofNat (48 + n % 10)] = B) := ⟨_, Lib.hid rfl⟩
  have ha : A.size = 1 := by rw [← HA.out]; rfl
  have hb : B.size = 1 := by rw [← HB.out]; rfl
  have hR : asB (d2 n) = A ++ B := by rw [← HA.out, ← HB.out, asB_app]; rfl
  have s1 := fun w => slice_dg (n / 10 % 10) (by omega) ((n : Int) / 10 % 10) ((n : Int) / 10 % 10 + 1) (by omega) (by omega) w
  have s2 := fun w => slice_dg (n % 10) (by omega) ((n : Int) % 10) ((n : Int) % 10 + 1) (by omega) (by omega) w
  rw [HA.out] at s1
  rw [HB.out] at s2
  rw [hR]
  have t1 : (n : Int).tdiv 10 = (n : Int) / 10 := Int.tdiv_eq_ediv_of_nonneg (by omega)
  have t2 : ((n : Int) / 10).tmod 10 = (n : Int) / 10 % 10 := Int.tmod_eq_emod_of_nonneg (by omega)
  have t3 : (n : Int).tmod 10 = (n : Int) % 10 := Int.tmod_eq_emod_of_nonneg (by omega)
  have q1 : IntKind.i64.wrap ((n : Int) / 10) = (n : Int) / 10 := by rw [IntKind.wrap_i64]; omega
  have q2 : IntKind.i64.wrap ((n : Int) / 10 % 10) = (n : Int) / 10 % 10 := by rw [IntKind.wrap_i64]; omega
  have q3 : IntKind.i64.wrap ((n : Int) / 10 % 10 + 1) = (n : Int) / 10 % 10 + 1 := by rw [IntKind.wrap_i64]; omega
  have q4 : IntKind.i64.wrap ((n : Int) % 10) = (n : Int) % 10 := by rw [IntKind.wrap_i64]; omega
  have q5 : IntKind.i64.wrap ((n : Int) % 10 + 1) = (n : Int) % 10 + 1 := by rw [IntKind.wrap_i64]; omega
  clear hR
  go_enter Tryd.func30, Tryd.ntmps30
  go_wp2
  go_quiet (fail)
  go_wp2
  go_ret
  exact ⟨rfl, { os := rfl, tape := rfl, output := rfl, size := Nat.le_refl _, block := fun _ _ => rfl }⟩

set_option maxHeartbeats 4000000 in
set_option maxRecDepth 100000 in
theorem RefText_any (n D Y M d : Nat) (hI : IsDay D Y M d) (h2 : (n + 62135596800) / 86400 = D) (w : World) :
    Calls Tryd.prog 14 #[.int .i64 (n : Int)] w fun e w' => e = .returned (.tuple #[.string (asB (textL Y M d ((D + 1) % 7) (n % 86400))), .bool true]) ∧ Below w.heap.size w w' := by
  have hY9 := hI.y2
  have hM1 := hI.m1
  have hM2 := hI.m2
  have hd := hI.d1
  have hd31 := (days_pos Y M).2
  have hDlt := hI.lt
  have HDay := Lib.hid (RefDay_any (n : Int) D Y M d hI (by omega) (by omega) w)
  unfold dayV at HDay
  obtain ⟨k, Hk⟩ : ∃ k, Hid ((D + 1) % 7 = k) := ⟨_, Lib.hid rfl⟩
  have hk7 : k < 7 := by rw [← Hk.out]; omega
  rw [Hk.out] at HDay
  have hn9 : (n : Int) ≤ 253402300799 := by omega
  have hn0 : ¬ (n : Int) < 0 := by omega
  obtain ⟨s, hs⟩ : ∃ s, n % 86400 = s := ⟨_, rfl⟩
  have hs9 : s < 86400 := by omega
  have hmod : (n : Int) % 86400 = (s : Int) := by omega
  rw [hs]
  obtain ⟨A, HA⟩ : ∃ A, Hid (asB (d2 d) = A) := ⟨_, Lib.hid rfl⟩
  obtain ⟨B, HB⟩ : ∃ B, Hid (asB (monL.getD M []) = B) := ⟨_, Lib.hid rfl⟩
  obtain ⟨C1, HC1⟩ : ∃ C, Hid (asB (d2 (Y / 100)) = C) := ⟨_, Lib.hid rfl⟩
  obtain ⟨C2, HC2⟩ : ∃ C, Hid (asB (d2 (Y % 100)) = C) := ⟨_, Lib.hid rfl⟩
  obtain ⟨E, HE⟩ : ∃ E, Hid (asB (wkL.getD k []) = E) := ⟨_, Lib.hid rfl⟩
  obtain ⟨F1, HF1⟩ : ∃ F, Hid (asB (d2 (s / 3600)) = F) := ⟨_, Lib.hid rfl⟩
  obtain ⟨F2, HF2⟩ : ∃ F, Hid (asB (d2 (s / 60 % 60)) = F) := ⟨_, Lib.hid rfl⟩
  obtain ⟨F3, HF3⟩ : ∃ F, Hid (asB (d2 (s % 60)) = F) := ⟨_, Lib.hid rfl⟩
  have za : A.size = 2 := by rw [← HA.out]; rfl
  have zb : B.size = 3 := by rw [← HB.out]; exact mon_len3 M hM1 hM2
  have zc1 : C1.size = 2 := by rw [← HC1.out]; rfl
  have zc2 : C2.size = 2 := by rw [← HC2.out]; rfl
  have ze : E.size = 3 := by rw [← HE.out]; exact wk_len k hk7
  have zf1 : F1.size = 2 := by rw [← HF1.out]; rfl
  have zf2 : F2.size = 2 := by rw [← HF2.out]; rfl
  have zf3 : F3.size = 2 := by rw [← HF3.out]; rfl
  have hR : asB (textL Y M d k s) = E ++ ⟨#[44, 32]⟩ ++ A ++ ⟨#[32]⟩ ++ B ++ ⟨#[32]⟩ ++ C1 ++ C2 ++ ⟨#[32]⟩ ++ F1 ++ ⟨#[58]⟩ ++ F2 ++ ⟨#[58]⟩ ++ F3 ++ ⟨#[32, 71, 77, 84]⟩ := by
    rw [← HA.out, ← HB.out, ← HC1.out, ← HC2.out, ← HE.out, ← HF1.out, ← HF2.out, ← HF3.out]
    show _ = asB _ ++ asB [44, 32] ++ asB _ ++ asB [32] ++ asB _ ++ asB [32] ++ asB _ ++ asB _ ++ asB [32] ++ asB _ ++ asB [58] ++ asB _ ++ asB [58] ++ asB _ ++ asB [32, 71, 77, 84]
    simp only [asB_app]
    unfold textL yearL clockL
    simp
  rw [Hk.out, hR]
  clear hR
  have DgOf : ∀ (x : Nat) (v : Int) (b : ByteArray), v = (x : Int) → x < 1000000 → asB (d2 x) = b → ∀ w, Calls Tryd.prog 30 #[.int .i64 v] w fun e w' => e = .returned (.string b) ∧ Below w.heap.size w w' := fun x v b h1 h2 h3 w => by
    rw [h1, ← h3]; exact Digits_any x h2 w
  have G1 := Lib.hid (DgOf d (d : Int) A rfl (by omega) HA.out)
  have G2 := Lib.hid (DgOf (Y / 100) ((Y : Int) / 100) C1 (by omega) (by omega) HC1.out)
  have G3 := Lib.hid (DgOf (Y % 100) ((Y : Int) % 100) C2 (by omega) (by omega) HC2.out)
  have G4 := Lib.hid (DgOf (s / 3600) ((s : Int) / 3600) F1 (by omega) (by omega) HF1.out)
  have G5 := Lib.hid (DgOf (s / 60 % 60) ((s : Int) / 60 % 60) F2 (by omega) (by omega) HF2.out)
  have G6 := Lib.hid (DgOf (s % 60) ((s : Int) % 60) F3 (by omega) (by omega) HF3.out)
  have l1 := fun w => slice_wk k hk7 w
  rw [HE.out] at l1
  have l2 := fun w => slice_ms M hM1 hM2 w
  rw [HB.out] at l2
  have t1 : (Y : Int).tdiv 100 = (Y : Int) / 100 := Int.tdiv_eq_ediv_of_nonneg (by omega)
  have t2 : (Y : Int).tmod 100 = (Y : Int) % 100 := Int.tmod_eq_emod_of_nonneg (by omega)
  have t3 : (s : Int).tdiv 3600 = (s : Int) / 3600 := Int.tdiv_eq_ediv_of_nonneg (by omega)
  have t4 : (s : Int).tdiv 60 = (s : Int) / 60 := Int.tdiv_eq_ediv_of_nonneg (by omega)
  have t5 : ((s : Int) / 60).tmod 60 = (s : Int) / 60 % 60 := Int.tmod_eq_emod_of_nonneg (by omega)
  have t6 : (s : Int).tmod 60 = (s : Int) % 60 := Int.tmod_eq_emod_of_nonneg (by omega)
  have q1 : IntKind.i64.wrap (3 * (k : Int)) = 3 * (k : Int) := by rw [IntKind.wrap_i64]; omega
  have q2 : IntKind.i64.wrap (3 * (k : Int) + 3) = 3 * (k : Int) + 3 := by rw [IntKind.wrap_i64]; omega
  have q3 : IntKind.i64.wrap (3 * (M : Int)) = 3 * (M : Int) := by rw [IntKind.wrap_i64]; omega
  have q4 : IntKind.i64.wrap (3 * (M : Int) - 3) = 3 * (M : Int) - 3 := by rw [IntKind.wrap_i64]; omega
  have q5 : IntKind.i64.wrap ((Y : Int) / 100) = (Y : Int) / 100 := by rw [IntKind.wrap_i64]; omega
  have q6 : IntKind.i64.wrap ((Y : Int) % 100) = (Y : Int) % 100 := by rw [IntKind.wrap_i64]; omega
  have q7 : IntKind.i64.wrap ((s : Int) / 3600) = (s : Int) / 3600 := by rw [IntKind.wrap_i64]; omega
  have q8 : IntKind.i64.wrap ((s : Int) / 60) = (s : Int) / 60 := by rw [IntKind.wrap_i64]; omega
  have q9 : IntKind.i64.wrap ((s : Int) / 60 % 60) = (s : Int) / 60 % 60 := by rw [IntKind.wrap_i64]; omega
  have q0 : IntKind.i64.wrap ((s : Int) % 60) = (s : Int) % 60 := by rw [IntKind.wrap_i64]; omega
  clear hI h2 hs DgOf hDlt hd hd31
  go_enter Tryd.func14, Tryd.ntmps14
  go_wp2_with fail
  refine HDay.out.mono ?_
  rintro e w1 ⟨rfl, rfl⟩
  go_wp2
  refine bw_region (by kernel_rfl) (by kernel_rfl) ?_
  repeat (first
    | (quiet_step ((go_at_call 30; first | (with_reducible exact Calls.bw_of (G1.out _)) | (with_reducible exact Calls.bw_of (G2.out _)) | (with_reducible exact Calls.bw_of (G3.out _)) | (with_reducible exact Calls.bw_of (G4.out _)) | (with_reducible exact Calls.bw_of (G5.out _)) | (with_reducible exact Calls.bw_of (G6.out _))))))
  refine wpQuiet_nil ?_
  intro w3 hw'
  have HB3 : Hid (Below w.heap.size w w3) := Lib.hid (by
    obtain ⟨p, hp⟩ := hw'
    rw [hp]; exact p.h)
  clear hw'
  go_wp2
  go_ret2
  exact ⟨rfl, HB3.out⟩

end Go.Proofs.YtkekidjnedmpjaaDoor
