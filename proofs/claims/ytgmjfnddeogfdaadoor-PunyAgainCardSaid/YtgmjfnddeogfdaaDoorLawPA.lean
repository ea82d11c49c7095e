/-
  The walk of PunyAgain.
-/
import Derived.Test.YtgmjfnddeogfdaaDoorPbM
import Derived.Test.YtgmjfnddeogfdaaDoorLbM
namespace Go.Proofs.YtgmjfnddeogfdaaDoor
open Go.RowKit

set_option maxRecDepth 100000 in
set_option maxHeartbeats 4000000 in
theorem again_walk (s : ByteArray) (w : World) (hs : s.size ≤ 140737488351232) (hV : Vld w) :
    Calls Tryd.prog 5 #[.string s] w fun e w' => e = .returned (.bool true) ∧ Below w.heap.size w w' := by
  have HV := Lib.hid hV; clear hV
  by_cases h1000 : 1000 < s.size
  · go_enter Tryd.func5, Tryd.ntmps5
    go_wp2_with fail
    refine (alive2_any _ HV.out).mono ?_
    rintro e w1 ⟨rfl, b1⟩
    have Z1 : Hid (Below w.heap.size w w1) := Lib.hid b1
    clear b1
    have hI : (1000 : Int) < (s.size : Int) := by omega
    go_wp2_with fail
    refine (alive2_any _ (HV.out.later Z1.out)).mono ?_
    rintro e w2 ⟨rfl, b2⟩
    have Z2 : Hid (Below w.heap.size w w2) := Lib.hid (Z1.out.trans (b2.mono Z1.out.size))
    clear b2
    go_wp2
    go_ret
    exact ⟨rfl, Z2.out⟩
  have hI : (s.size : Int) ≤ 1000 := by omega
  have hs1 : s.size ≤ 1000 := by omega
  have h3 : decT s = (⟨#[]⟩, 4) ∨ ∃ t, decT s = (t, 0) := by
    rw [decT, if_neg (by omega)]
    split
    · exact .inl rfl
    · cases decO s with
      | none => exact .inl rfl
      | some L => exact .inr ⟨_, rfl⟩
  rcases h3 with hd | ⟨t, hd⟩
  · have C1 : Hid (∀ w, Calls Tryd.prog 15 #[.string s] w fun e w' => e = .returned (.tuple #[.string ⟨#[]⟩, .int .i64 4]) ∧ Below w.heap.size w w') := Lib.hid (fun w => by
      have := Decode_any s w (by unfold maxLen; omega)
      rwa [hd] at this)
    clear hd h1000
    go_enter Tryd.func5, Tryd.ntmps5
    go_wp2_with fail
    refine (alive2_any _ HV.out).mono ?_
    rintro e w1 ⟨rfl, b1⟩
    have Z1 : Hid (Below w.heap.size w w1) := Lib.hid b1
    clear b1
    go_wp2_with fail
    refine (C1.out _).mono ?_
    rintro e w2 ⟨rfl, b2⟩
    have Z2 : Hid (Below w.heap.size w w2) := Lib.hid (Z1.out.trans (b2.mono Z1.out.size))
    clear b2
    go_wp2
    go_ret
    exact ⟨rfl, Z2.out⟩
  have htz : t.size ≤ 4000 := by have := decT_size s; rw [hd] at this; simp only at this; omega
  have hag := dec_again s t hs1 hd
  have C1 : Hid (∀ w, Calls Tryd.prog 15 #[.string s] w fun e w' => e = .returned (.tuple #[.string t, .int .i64 0]) ∧ Below w.heap.size w w') := Lib.hid (fun w => by
    have := Decode_any s w (by unfold maxLen; omega)
    rwa [hd] at this)
  obtain ⟨Q, HQ⟩ : ∃ Q, Hid (smallT s = Q) := ⟨_, Lib.hid rfl⟩
  have C2 : Hid (∀ w, Vld w → Calls Tryd.prog 14 #[.string t] w fun e w' => e = .returned (.tuple #[.string Q, .int .i64 0]) ∧ Below w.heap.size w w') := Lib.hid (fun w hV => by
    have := Encode_of t w (by unfold maxLen; omega) (hV.here t (by omega))
    rwa [hag, HQ.out] at this)
  clear hd hag h1000
  go_enter Tryd.func5, Tryd.ntmps5
  go_wp2_with fail
  refine (alive2_any _ HV.out).mono ?_
  rintro e w1 ⟨rfl, b1⟩
  have Z1 : Hid (Below w.heap.size w w1) := Lib.hid b1
  clear b1
  go_wp2_with fail
  refine (C1.out _).mono ?_
  rintro e w2 ⟨rfl, b2⟩
  have Z2 : Hid (Below w.heap.size w w2) := Lib.hid (Z1.out.trans (b2.mono Z1.out.size))
  clear b2
  go_wp2_with fail
  refine (C2.out _ (HV.out.later Z2.out)).mono ?_
  rintro e w3 ⟨rfl, b3⟩
  have Z3 : Hid (Below w.heap.size w w3) := Lib.hid (Z2.out.trans (b3.mono Z2.out.size))
  clear b3
  go_wp2
  go_loop [7, 8] (fun c i => ∃ k : Nat, k ≤ s.size ∧ i = .int .i64 k ∧ c = .int .i64 ((lastI (s.data.toList.take k)).toNat : Int)) (fun _ i => s.size - (intOf i).toNat)
  case atStart => exact ⟨0, Nat.zero_le _, rfl, rfl⟩
  case round =>
    obtain ⟨k, hk, rfl, rfl⟩ := hrel
    obtain ⟨c, Hc⟩ : ∃ c, Hid ((lastI (s.data.toList.take k)).toNat = c) := ⟨_, Lib.hid rfl⟩
    rw [Hc.out]
    by_cases hlt : k < s.size
    · have HT := Lib.hid (take_snoc s k hlt)
      by_cases hc : s[k] = 45
      · have hcI : ((s[k].toNat : Int) == 45) = true := beq_iff_eq.2 (by rw [hc]; rfl)
        have HN : Hid ((lastI (s.data.toList.take (k + 1))).toNat = k) := Lib.hid (by rw [HT.out, lastI_snoc, if_pos hc]; simp; omega)
        clear hc
        go_wp2
        go_round
        case rel => exact ⟨k + 1, by omega, by go_num, by rw [HN.out]⟩
        case measure => simp [intOf]; omega
      · have hcI : ((s[k].toNat : Int) == 45) = false := beq_eq_false_iff_ne.2 (fun h => hc (UInt8.toNat_inj.1 (by show s[k].toNat = 45; omega)))
        have HN : Hid ((lastI (s.data.toList.take (k + 1))).toNat = c) := Lib.hid (by rw [HT.out, lastI_snoc, if_neg hc]; exact Hc.out)
        clear hc
        go_wp2
        go_round
        case rel => exact ⟨k + 1, by omega, by go_num, by rw [HN.out]⟩
        case measure => simp [intOf]; omega
    · have HcN : Hid (cutN s = c) := Lib.hid (by rw [← Hc.out, cutN, List.take_of_length_le (by simp; omega)])
      have hcs : c ≤ s.size := by
        have h1 := lastI_bd s.data.toList
        have h2 : s.data.toList.length = s.size := by simp
        rw [← HcN.out, cutN]; omega
      have hkI : (s.size : Int) ≤ (k : Int) := by omega
      have hcsI : (c : Int) ≤ (s.size : Int) := by omega
      obtain ⟨L, HL⟩ : ∃ L, Hid (lowS (s.extract c s.size) = L) := ⟨_, Lib.hid rfl⟩
      have hLs : L.size ≤ 1000 := by rw [← HL.out, lowS_size]; simp; omega
      have HLo : Hid (∀ w, Calls Tryd.prog 16 #[.string (s.extract c s.size)] w fun e w' => e = .returned (.string L) ∧ Below w.heap.size w w') := Lib.hid (fun w => by
        have := Lower_any (s.extract c s.size) w (by unfold maxLen; simp; omega)
        rwa [HL.out] at this)
      have HSm : Hid (s.extract 0 c ++ L = smallT s) := Lib.hid (by
        apply ByteArray.ext
        apply Array.toList_inj.1
        rw [ByteArray.data_append, Array.toList_append, exTake, small_data, HcN.out, ← HL.out]
        congr 1
        show ((s.extract c s.size).data.toList.map low).toArray.toList = _
        rw [ext_drop])
      have hz1 : ¬ 9223372036854775807 < min c s.size + L.size := by omega
      have hz2 : ¬ 9223372036854775807 < c + L.size := by omega
      clear Hc hlt
      have hSQ : s.extract 0 c ++ L = Q := HSm.out.trans HQ.out
      go_wp2_with fail
      refine bw_region (by kernel_rfl) (by kernel_rfl) ?_
      repeat (quiet_step ((first
        | (with_reducible exact Calls.bw_of (HLo.out _)))))
      refine wpQuiet_nil ?_
      intro _ hw'
      obtain ⟨⟨wq, hwq⟩, rfl⟩ := hw'
      go_wp2_with fail
      go_ret
      exact ⟨rfl, Z3.out.trans (Below.mono hwq Z3.out.size)⟩

end Go.Proofs.YtgmjfnddeogfdaaDoor
