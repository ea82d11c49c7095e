/-
  Contract: the document's told.
-/
import Derived.Test.YtgmjfnddeogfdaaDoorEnH
import Derived.Test.YtgmjfnddeogfdaaDoorPnR
namespace Go.Proofs.YtgmjfnddeogfdaaDoor
open Go.RowKit

def alphaB : ByteArray := ⟨#[97, 98, 99, 100, 101, 102, 103, 104, 105, 106, 107, 108, 109, 110, 111, 112, 113, 114, 115, 116, 117, 118, 119, 120, 121, 122, 48, 49, 50, 51, 52, 53, 54, 55, 56, 57]⟩
theorem alpha_fin : ∀ d : Fin 36, (alphaB.extract d.1 (d.1 + 1)).data.toList = [letL d.1] := by decide +kernel
theorem alpha_at (t : ByteArray) (d : Nat) (h : d < 36) : (t ++ alphaB.extract d (d + 1)).data.toList = t.data.toList ++ [letL d] := by
  have : (t ++ alphaB.extract d (d + 1)).data.toList = t.data.toList ++ (alphaB.extract d (d + 1)).data.toList := by simp
  rw [this, alpha_fin ⟨d, h⟩]
theorem ret_str {a b : ByteArray} (h : a = b) : Ending.returned (.string a) = .returned (.string b) := by rw [h]

set_option maxRecDepth 100000 in
set_option maxHeartbeats 1000000 in
theorem told_any (number bias : Nat) (w : World) (hnum : number ≤ 1000000000000000) (hbias : bias ≤ 756) :
    Calls Tryd.prog 41 #[.int .i64 number, .int .i64 bias] w fun e w' => e = .returned (.string ⟨(digsL number number 36 bias).toArray⟩) ∧ w = w' := by
  obtain ⟨T, HT⟩ : ∃ T, Hid (digsL number number 36 bias = T) := ⟨_, Lib.hid rfl⟩
  have hTl : T.length ≤ 17 := by
    rw [← HT.out]
    exact digs_len bias 16 number number 36 (by have : (10 : Nat) ^ 16 = 10000000000000000 := by decide
                                                omega)
  rw [HT.out]
  go_enter Tryd.func41, Tryd.ntmps41
  go_wp2
  go_loop [0, 5, 7] (fun vl vs vk => ∃ (f left k : Nat) (t : ByteArray), vl = .int .i64 left ∧ vs = .string t ∧ vk = .int .i64 k ∧ left ≤ f ∧ left ≤ 1000000000000000 ∧ k ≤ 36 * (1000000000000001 - left) ∧ t.size ≤ 17 ∧ Hid (t.data.toList ++ digsL f left k bias = T)) (fun vl _ _ => (intOf vl).toNat)
  case atStart => exact ⟨number, number, 36, ⟨#[]⟩, rfl, rfl, rfl, Nat.le_refl _, hnum, by omega, by decide, Lib.hid (by rw [← HT.out]; rfl)⟩
  case round =>
    obtain ⟨f, left, k, t, rfl, rfl, rfl, hlf, hll, hk, hts, HE⟩ := hrel
    obtain ⟨b, Hb⟩ : ∃ b, Hid (stepN k bias = b) := ⟨_, Lib.hid rfl⟩
    have htb := stepN_bd k bias
    rw [Hb.out] at htb
    obtain ⟨ht1, ht2⟩ := htb
    by_cases hlt : left < b
    · have HT2 : Hid ((⟨T.toArray⟩ : ByteArray) = t ++ alphaB.extract left (left + 1)) := Lib.hid (by
        apply baE
        rw [alpha_at t left (by omega), ← HE.out, digsL_end (by rw [Hb.out]; exact hlt)])
      unfold alphaB at HT2
      go_wp2_with fail
      refine (bound_any k bias _ (by omega) (by omega)).mono ?_
      rw [Hb.out]
      rintro e w1 ⟨rfl, rfl⟩
      go_wp2
      go_ret
      exact ⟨ret_str HT2.out.symm, rfl⟩
    · obtain ⟨f, rfl⟩ : ∃ q, f = q + 1 := ⟨f - 1, by omega⟩
      obtain ⟨d, Hd⟩ : ∃ d, Hid (d = b + (left - b) % (36 - b)) := ⟨_, Lib.hid rfl⟩
      obtain ⟨nx, Hnx⟩ : ∃ nx, Hid (nx = (left - b) / (36 - b)) := ⟨_, Lib.hid rfl⟩
      have hmod : (left - b) % (36 - b) < 36 - b := Nat.mod_lt _ (by omega)
      have hd36 : d < 36 := by rw [Hd.out]; omega
      have hdz : (b : Int) + ((left : Int) - (b : Int)) % (36 - (b : Int)) = (d : Int) := by
        have e1 : (left : Int) - (b : Int) = ((left - b : Nat) : Int) := by omega
        have e2 : 36 - (b : Int) = ((36 - b : Nat) : Int) := by omega
        rw [e1, e2, Hd.out]; simp
      have hnz : ((left : Int) - (b : Int)) / (36 - (b : Int)) = (nx : Int) := by
        have e1 : (left : Int) - (b : Int) = ((left - b : Nat) : Int) := by omega
        have e2 : 36 - (b : Int) = ((36 - b : Nat) : Int) := by omega
        rw [e1, e2, Hnx.out]; simp
      have hnx1 : nx ≤ left - b := by rw [Hnx.out]; exact Nat.div_le_self _ _
      have HT2 : Hid ((t ++ alphaB.extract d (d + 1)).data.toList ++ digsL f nx (k + 36) bias = T) := Lib.hid (by
        rw [alpha_at t d hd36, ← HE.out, digsL_on (by rw [Hb.out]; exact hlt), Hb.out, Hd.out, Hnx.out]; simp)
      have hsz2 : (t ++ alphaB.extract d (d + 1)).size ≤ 17 := by
        have h := congrArg List.length HT2.out
        rw [List.length_append] at h
        have e := dLen (t ++ alphaB.extract d (d + 1))
        omega
      have HZ := Lib.hid hsz2
      unfold alphaB at HT2 HZ
      clear hmod hsz2
      go_wp2_with fail
      refine (bound_any k bias _ (by omega) (by omega)).mono ?_
      rw [Hb.out]
      rintro e w1 ⟨rfl, rfl⟩
      go_wp2
      go_round
      case rel => exact ⟨f, nx, k + 36, _, by go_num, rfl, by go_num, by omega, by omega, by omega, HZ.out, HT2⟩
      case measure => simp [intOf]; omega

end Go.Proofs.YtgmjfnddeogfdaaDoor
