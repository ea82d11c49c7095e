/-
  Contract: Decode.
-/
import Derived.Test.YtamcdpgjgpohpaaPcC
namespace Go.Proofs.Ytamcdpgjgpohpaa
open Go.RowKit

/-- A text with three signs as bytes. -/
def decS (s : ByteArray) : ByteArray := ⟨(decL s.data.toList).toArray⟩
def strLen : Value → Nat
  | .string t => t.size
  | _ => 0
theorem extract_list (t : ByteArray) (k : Nat) : (t.extract k t.size).data.toList = t.data.toList.drop k := by
  have hl : t.data.toList.length = t.size := by simp
  rw [ByteArray.data_extract, Array.toList_extract, List.extract_eq_take_drop, List.take_of_length_le (by rw [List.length_drop]; omega)]

set_option maxRecDepth 100000 in
set_option maxHeartbeats 1000000 in
theorem Decode_any (s : ByteArray) (w : World) (hs : s.size ≤ 9000000) :
    Calls Try.prog 16 #[.string s] w fun e w' => e = .returned (.string (decS s)) ∧ Below w.heap.size w w' := by
  obtain ⟨i0, hi, hz0, hz1, hz2⟩ := info_parts infoB
  obtain ⟨w2, hrun, hown, hgrow⟩ := run_make_own (P := Try.prog) w w.heap.size 32 5 i0 (.int .u8 0) 1 Try.underlying32 hi hz0 hz1 .i64 .i64 s.size (by rw [hz2]; omega) (by unfold maxLen; omega) (Nat.le_refl _)
  have HOwn := Lib.hid hown
  have HGrow := Lib.hid hgrow
  clear hown hgrow hi hz0 hz1 hz2
  go_enter Try.func16, Try.ntmps16
  go_wp2
  clear hrun
  go_loopw [0, 3, 4, 5] (fun x b _ _ wr => ∃ (t : ByteArray) (D : List UInt8), x = .string t ∧ D.length + t.size ≤ s.size ∧ Hid (D ++ decL t.data.toList = decL s.data.toList) ∧ Hid (wr.ownsRow w.heap.size 5 1 b D.length (D.map bv)) ∧ Hid (Below w.heap.size w wr)) (fun x _ _ _ _ => strLen x)
  case atStart => exact ⟨s, [], rfl, by simp, Lib.hid rfl, Lib.hid HOwn.out, Lib.hid ((Below.refl _ _).grown HGrow.out (Nat.le_refl _) (fun q hq => by cases hq))⟩
  case round =>
    obtain ⟨t, D, rfl, hlen, HD, HR, HB⟩ := hrel
    have hl : t.data.toList.length = t.size := by simp
    by_cases h0 : 0 < t.size
    · have hem : t.toList.isEmpty = false := by
        rw [ByteArray.toList_eq, List.isEmpty_eq_false_iff, ← List.length_pos_iff]; omega
      have hnn : t.data.toList ≠ [] := by rw [← List.length_pos_iff]; omega
      obtain ⟨n, HN⟩ : ∃ n, Hid (n = fstW t.data.toList) := ⟨_, Lib.hid rfl⟩
      obtain ⟨c, HC⟩ : ∃ c, Hid (c = fstV t.data.toList) := ⟨_, Lib.hid rfl⟩
      have hn1 : 1 ≤ n := by rw [HN.out]; exact fstW_pos _
      have hn2 : n ≤ t.size := by rw [HN.out, ← hl]; exact fstW_le _ hnn
      have HS : Hid (decL t.data.toList = c :: decL (t.extract n t.size).data.toList) := Lib.hid (by rw [decL_step _ hnn, extract_list, HN.out, HC.out])
      have HZ : Hid ((t.extract n t.size).size = t.size - n) := Lib.hid (by simp)
      obtain ⟨v', w1, hrun, H1, H2⟩ := appB w.heap.size u3 (D.map bv) #[.int .u8 (c.toNat : Int)] wr w (by rw [List.length_map]; exact HR.out) (by rw [List.length_map]; simp; omega) (by simp [Value.oneCell']) HB.out.size HB.out
      have HRun := Lib.hid hrun
      have H1' := Lib.hid H1
      have H2' := Lib.hid H2
      clear hrun H1 H2 hnn hl
      go_wp2_with fail
      refine (firstByte_any t _ h0 (by unfold maxLen; omega)).mono ?_
      rw [← HN.out, ← HC.out]
      rintro e w3 ⟨rfl, rfl⟩
      go_wp2_with (at_builtin; refine Lib.wpList_append_run _ rfl _ _ _ _ rfl _ _ rfl rfl _ _ HRun.out ?_)
      refine ⟨⟨t.extract n t.size, D ++ [c], by simp, by rw [HZ.out]; simp; omega, Lib.hid ?_, Lib.hid ?_, H2'⟩, ?_⟩
      · rw [← HD.out, HS.out]; simp
      · have h := H1'.out
        simpa [bv] using h
      · simp [strLen]; omega
    · have hem : t.toList.isEmpty = true := by
        rw [ByteArray.toList_eq, List.isEmpty_iff, ← List.length_eq_zero_iff]; omega
      have HE : Hid (D = decL s.data.toList) := Lib.hid (by
        have hnil : t.data.toList = [] := by rw [← List.length_eq_zero_iff]; omega
        rw [← HD.out, hnil, decL_nil, List.append_nil])
      rw [HE.out] at HR
      have hcv := bytes_back _ _ _ _ HR.out
      clear hl
      go_wp2
      go_ret
      exact ⟨rfl, HB.out⟩

end Go.Proofs.Ytamcdpgjgpohpaa
