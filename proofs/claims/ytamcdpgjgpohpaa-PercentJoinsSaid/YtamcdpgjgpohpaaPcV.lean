/-
  Contract: alive returns true.
-/
import Derived.Test.YtamcdpgjgpohpaaPcB
import Derived.Test.YtamcdpgjgpohpaaPcD
namespace Go.Proofs.Ytamcdpgjgpohpaa
open Go.RowKit

theorem ret_string {a b : ByteArray} (h : a = b) : Ending.returned (.string a) = .returned (.string b) := by rw [h]
theorem enc_1 : encS 4 ⟨#[97, 32, 98, 34, 195, 169, 37]⟩ = ⟨#[97, 37, 50, 48, 98, 37, 50, 50, 37, 67, 51, 37, 65, 57, 37]⟩ := by decide +kernel
theorem enc_2 : encS 3 ⟨#[97, 39, 98, 35]⟩ = ⟨#[97, 37, 50, 55, 98, 37, 50, 51]⟩ := by decide +kernel
theorem enc_3 : encS 5 ⟨#[117, 58, 112, 64, 104]⟩ = ⟨#[117, 37, 51, 65, 112, 37, 52, 48, 104]⟩ := by decide +kernel
theorem dec_1 : decS ⟨#[37, 52, 49, 37, 55, 97, 37, 67, 51, 37, 97, 57]⟩ = ⟨#[65, 122, 195, 169]⟩ := by
  unfold decS
  rw [decL_yes (by decide) (by decide), decL_yes (by decide) (by decide), decL_yes (by decide) (by decide), decL_yes (by decide) (by decide), decL_nil]; rfl
theorem dec_2 : decS ⟨#[37, 52]⟩ = ⟨#[37, 52]⟩ := by
  unfold decS
  rw [decL_no (by decide), decL_no (by decide), decL_nil]
theorem dec_3 : decS ⟨#[37, 37, 52, 49]⟩ = ⟨#[37, 65]⟩ := by
  unfold decS
  rw [decL_no (by decide), decL_yes (by decide) (by decide), decL_nil]; rfl
theorem has_1 : hasB 4 63 = true := by decide +kernel
theorem has_2 : hasB 0 0 = false := by decide +kernel

set_option maxHeartbeats 1000000 in
set_option maxRecDepth 100000 in
theorem alive_any (w : World) : Calls Try.prog 18 #[] w fun e w' => e = .returned (.bool true) ∧ Below w.heap.size w w' := by
  go_enter Try.func18, Try.ntmps18
  go_wp2_with fail
  refine (Encode_any _ 4 _ (by decide) (by decide)).mono ?_
  rw [enc_1]
  rintro e w1 ⟨rfl, b1⟩
  go_wp2_with fail
  refine (Encode_any _ 3 _ (by decide) (by decide)).mono ?_
  rw [enc_2]
  rintro e w2 ⟨rfl, b2⟩
  go_wp2_with fail
  refine (Encode_any _ 5 _ (by decide) (by decide)).mono ?_
  rw [enc_3]
  rintro e w3 ⟨rfl, b3⟩
  go_wp2_with fail
  refine (Decode_any _ _ (by decide)).mono ?_
  rw [dec_1]
  rintro e w4 ⟨rfl, b4⟩
  go_wp2_with fail
  refine (Decode_any _ _ (by decide)).mono ?_
  rw [dec_2]
  rintro e w5 ⟨rfl, b5⟩
  go_wp2_with fail
  refine (Decode_any _ _ (by decide)).mono ?_
  rw [dec_3]
  rintro e w6 ⟨rfl, b6⟩
  go_wp2_with fail
  refine (Has_any 4 63 _ (by decide) (by decide)).mono ?_
  rw [has_1]
  rintro e w7 ⟨rfl, b7⟩
  go_wp2_with fail
  refine (Has_any 0 0 _ (by decide) (by decide)).mono ?_
  rw [has_2]
  rintro e w8 ⟨rfl, b8⟩
  go_wp2
  go_ret
  have s1 := b1.size
  have s2 := b2.size
  have s3 := b3.size
  have s4 := b4.size
  have s5 := b5.size
  have s6 := b6.size
  have s7 := b7.size
  exact ⟨rfl, ((((((b1.trans (b2.mono (by omega))).trans (b3.mono (by omega))).trans (b4.mono (by omega))).trans (b5.mono (by omega))).trans (b6.mono (by omega))).trans (b7.mono (by omega))).trans (b8.mono (by omega))⟩

end Go.Proofs.Ytamcdpgjgpohpaa
