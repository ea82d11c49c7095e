/-
  The document's cookie's date: a month's name, one more word.
-/
import Derived.Test.YtblofndehbagnaaGreatDoorDrB
import Derived.Test.YtblofndehbagnaaGreatDoorBw
import Derived.Test.YtblofndehbagnaaGreatDoorDtX
namespace Go.Proofs.YtblofndehbagnaaGreatDoor
open Go.RowKit

abbrev MS : ByteArray := ⟨#[74, 97, 110, 70, 101, 98, 77, 97, 114, 65, 112, 114, 77, 97, 121, 74, 117, 110, 74, 117, 108, 65, 117, 103, 83, 101, 112, 79, 99, 116, 78, 111, 118, 68, 101, 99]⟩
theorem ms_at (k : Nat) (h1 : 1 ≤ k) (h2 : k ≤ 12) : MS.extract (3 * k - 3) (3 * k) = asB (monL.getD k []) := by
  refine ba_eq ?_
  have : ∀ n : Fin 12, (MS.extract (3 * (n.1 + 1) - 3) (3 * (n.1 + 1))).data.toList = monL.getD (n.1 + 1) [] := by decide +kernel
  have h := this ⟨k - 1, by omega⟩
  simp only at h
  rw [show k - 1 + 1 = k by omega] at h
  exact h
theorem slice_ms (k : Nat) (h1 : 1 ≤ k) (h2 : k ≤ 12) (w : World) : (Instr.slice 9 (.string ({ data := #[74, 97, 110, 70, 101, 98, 77, 97, 114, 65, 112, 114, 77, 97, 121, 74, 117, 110, 74, 117, 108, 65, 117, 103, 83, 101, 112, 79, 99, 116, 78, 111, 118, 68, 101, 99] } : ByteArray)) (some (.int .i64 (3 * (k : Int) - 3))) (some (.int .i64 (3 * (k : Int)))) none).run Tryz.prog w = .ok (.string (asB (monL.getD k []))) w := by
  have h := run_slice_string_if (P := Tryz.prog) (w := w) 9 MS .i64 .i64 (3 * (k : Int) - 3) (3 * (k : Int)) Tryz.underlying9
  have hs : MS.size = 36 := rfl
  rw [hs, if_pos ⟨by omega, by omega⟩, if_pos ⟨by omega, by omega⟩, show (3 * (k : Int) - 3).toNat = 3 * k - 3 by omega, show (3 * (k : Int)).toNat = 3 * k by omega, ms_at k h1 h2] at h
  exact h
theorem mon_stepB {t : List UInt8} {k : Nat} (hk : k < 13) : monF t (13 - k) k = if monAt t k then some k else monF t (13 - (k + 1)) (k + 1) := mon_step hk

set_option maxHeartbeats 4000000 in
set_option maxRecDepth 100000 in
theorem RefNamed_any (t : ByteArray) (ht : t.size ≤ 1048600) (w : World) :
    Calls Tryz.prog 104 #[.string t] w fun e w' => e = .returned (.int .i64 (((moP t.data.toList).getD 0 : Nat) : Int)) ∧ Below w.heap.size w w' := by
  unfold moP
  rw [lenB]
  by_cases h3 : t.size < 3
  · have h3' : (t.size : Int) < 3 := by omega
    have h3'' : ¬ (3 : Int) ≤ (t.size : Int) := by omega
    rw [if_pos h3]
    go_enter Tryz.func104, Tryz.ntmps104
    go_wp2
    go_loop [3] (fun v => v = .int .i64 1) (fun _ => 0)
    case atStart => rfl
    case round =>
      subst hrel
      go_wp2
      go_ret
      exact ⟨rfl, Below.refl _ _⟩
  · have h3' : (3 : Int) ≤ (t.size : Int) := by omega
    rw [if_neg h3]
    obtain ⟨R, HRR⟩ : ∃ R, Hid (monF t.data.toList 12 1 = R) := ⟨_, Lib.hid rfl⟩
    rw [HRR.out]
    go_enter Tryz.func104, Tryz.ntmps104
    go_wp2
    go_loopw [3] (fun v wr => ∃ k : Nat, 1 ≤ k ∧ k ≤ 13 ∧ v = .int .i64 (k : Int) ∧ Hid (monF t.data.toList (13 - k) k = R) ∧ Hid (Below w.heap.size w wr)) (fun v _ => 13 - (intOf v).toNat)
    case atStart => exact ⟨1, by omega, by omega, rfl, HRR, Lib.hid (Below.refl _ _)⟩
    case round =>
      obtain ⟨k, hk1, hk, rfl, HK, HB⟩ := hrel
      by_cases hlt : k < 13
      · have hltI : (k : Int) ≤ 12 := by omega
        obtain ⟨N, HN⟩ : ∃ N, Hid (asB (monL.getD k []) = N) := ⟨_, Lib.hid rfl⟩
        have hsl := fun w => slice_ms k hk1 (by omega) w
        rw [HN.out] at hsl
        have HS := Lib.hid (same_mon t k)
        rw [HN.out] at HS
        have HSt := Lib.hid (mon_stepB (t := t.data.toList) hlt)
        rw [HK.out] at HSt
        obtain ⟨bb, Hbb⟩ : ∃ bb, Hid (monAt t.data.toList k = bb) := ⟨_, Lib.hid rfl⟩
        rw [Hbb.out] at HS HSt
        have HSm : Hid (∀ p : BW wr, Calls Tryz.prog 128 #[.string (t.extract 0 3), .string N] p.w fun e w'' => e = .returned (.bool bb) ∧ Below p.w.heap.size p.w w'') := Lib.hid (fun p => by
          have := RefSame_any (t.extract 0 3) N p.w (by rw [← lenB, ByteArray.data_extract, Array.toList_extract, List.extract_eq_take_drop]; simp; unfold maxLen; omega) (by rw [← HN.out]; have := mon_len k hlt; unfold maxLen; omega)
          rwa [HS.out] at this)
        have q5 : IntKind.i64.wrap (3 * (k : Int) - 3) = 3 * (k : Int) - 3 := by rw [IntKind.wrap_i64]; omega
        have q6 : IntKind.i64.wrap (3 * (k : Int)) = 3 * (k : Int) := by rw [IntKind.wrap_i64]; omega
        go_wp2
        refine bw_region (by kernel_rfl) (by kernel_rfl) ?_
        repeat (quiet_step ((go_at_call 128; exact Calls.bw_of (HSm.out _))))
        refine wpQuiet_nil ?_
        intro w2 hw'
        have HB2 : Hid (Below w.heap.size w w2) := Lib.hid (by
          obtain ⟨p, hp⟩ := hw'
          rw [hp]; exact HB.out.trans (p.h.mono HB.out.size))
        clear hw' hsl
        cases bb with
        | true =>
          have hRe : R = some k := by rw [HSt.out]; rfl
          subst hRe
          go_wp2
          go_ret
          exact ⟨rfl, HB2.out⟩
        | false =>
          have HRe : Hid (monF t.data.toList (13 - (k + 1)) (k + 1) = R) := Lib.hid (by rw [HSt.out]; rfl)
          go_wp2
          go_roundw
          case rel => exact ⟨k + 1, by omega, by omega, by go_num, HRe, HB2⟩
          case measure => simp [intOf]; omega
      · have hk13 : k = 13 := by omega
        subst hk13
        have hRe : R = none := by rw [← HK.out]; rfl
        subst hRe
        go_wp2
        go_ret
        exact ⟨rfl, HB.out⟩

end Go.Proofs.YtblofndehbagnaaGreatDoor
