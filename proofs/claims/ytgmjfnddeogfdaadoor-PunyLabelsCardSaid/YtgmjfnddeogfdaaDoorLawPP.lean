/-
  The walk of PunyPlain.
-/
import Derived.Test.YtgmjfnddeogfdaaDoorPbM
import Derived.Test.YtgmjfnddeogfdaaDoorLbM
import Derived.Lib.RuneCount
namespace Go.Proofs.YtgmjfnddeogfdaaDoor
open Go.RowKit

theorem plain_low (m : List UInt8) : plainL (m.map low) = plainL m := by
  rw [plainL, plainL, List.all_map]
  congr 1
  funext c
  show decide ((low c).toNat < 128) = decide (c.toNat < 128)
  exact decide_eq_decide.2 (low_facts c).2.2
theorem lowS_data (s : ByteArray) : (lowS s).data.toList = s.data.toList.map low := rfl
theorem valid_plain (s : ByteArray) (hp : plainL s.data.toList = true) : Lib.validD s.data.toList = true := by
  rw [plainL, List.all_eq_true] at hp
  rw [Lib.validD_ascii s.data.toList.length s.data.toList (fun b hb => by simpa using hp b (List.mem_of_mem_take hb)), List.drop_length]
  rfl
theorem lab_plain (s : ByteArray) (hp : plainL s.data.toList = true) (hx : Lib.hasPrefix (lowS s).data.toList [120, 110, 45, 45] = false) : labT s = if s.size = 0 then (⟨#[]⟩, 5) else if 63 < s.size then (⟨#[]⟩, 5) else (lowS s, 0) := by
  unfold labT
  by_cases h0 : s.size = 0
  · rw [if_pos h0, if_pos h0]
  · rw [if_neg h0, if_neg h0, if_neg (by rw [valid_plain s hp]; simp), Lib.runeCount_ascii s (fun j h => plain_at hp j h)]
    by_cases h63 : 63 < s.size
    · rw [if_pos h63, if_pos h63]
    · rw [if_neg h63, if_neg h63, if_pos (by rw [lowS_data, plain_low]; exact hp), hx, if_neg (by simp), labE, if_neg (by rw [lowS_size]; exact h63)]
theorem show_plain (s : ByteArray) (hp : plainL s.data.toList = true) (hx : Lib.hasPrefix (lowS s).data.toList [120, 110, 45, 45] = false) : showT s = s := by
  unfold showT
  rw [lab_plain s hp hx]
  by_cases h0 : s.size = 0
  · rw [if_pos h0]; exact if_neg (by decide)
  · by_cases h63 : 63 < s.size
    · rw [if_neg h0, if_pos h63]; exact if_neg (by decide)
    · rw [if_neg h0, if_neg h63]
      simp only
      rw [if_pos trivial, hx]
      rfl
theorem show_other (s : ByteArray) (hp : plainL s.data.toList = false) : showT s = s := by
  unfold showT
  rw [hp]
  split
  · split <;> rfl
  · rfl
theorem pre_short (l : List UInt8) (h : l.length < 4) : Lib.hasPrefix l [120, 110, 45, 45] = false := by
  rw [← Bool.not_eq_true]
  intro hp
  have := List.IsPrefix.length_le (List.isPrefixOf_iff_prefix.1 hp)
  simp at this; omega
theorem pre_take (l : List UInt8) (h : l.take 4 ≠ [120, 110, 45, 45]) : Lib.hasPrefix l [120, 110, 45, 45] = false := by
  rw [← Bool.not_eq_true]
  intro hp
  obtain ⟨t, rfl⟩ := List.isPrefixOf_iff_prefix.1 hp
  exact h rfl

set_option maxRecDepth 100000 in
set_option maxHeartbeats 4000000 in
theorem plain_end (s : ByteArray) (w : World) (hs1 : s.size ≤ 1000) (hV : Vld w) (Q : ByteArray) (hx : Lib.hasPrefix (lowS s).data.toList [120, 110, 45, 45] = false)
    (hq : s.size < 4 ∨ (4 ≤ s.size ∧ lowS (s.extract 0 4) = Q ∧ Q ≠ ⟨#[120, 110, 45, 45]⟩)) :
    Calls Tryd.prog 8 #[.string s] w fun e w' => e = .returned (.bool true) ∧ Below w.heap.size w w' := by
  have HV := Lib.hid hV; clear hV
  have hI : (s.size : Int) ≤ 1000 := by omega
  have HX := Lib.hid hx
  have HShow : Hid (∀ w, Vld w → Calls Tryd.prog 11 #[.string s] w fun e w' => e = .returned (.string s) ∧ Below w.heap.size w w') := Lib.hid (fun w hV => by
    have := Show_any s w hs1 hV
    cases hp : plainL s.data.toList with
    | true => rwa [show_plain s hp hx] at this
    | false => rwa [show_other s hp] at this)
  obtain ⟨W, HW⟩ : ∃ W, Hid (lowS s = W) := ⟨_, Lib.hid rfl⟩
  have HLo : Hid (∀ w, Calls Tryd.prog 16 #[.string s] w fun e w' => e = .returned (.string W) ∧ Below w.heap.size w w') := Lib.hid (fun w => by
    have := Lower_any s w (by unfold maxLen; omega)
    rwa [HW.out] at this)
  clear hx
  rcases hq with h4 | ⟨h4, hq1, hq2⟩
  · have h4I : (s.size : Int) < 4 := by omega
    clear h4
    go_enter Tryd.func8, Tryd.ntmps8
    go_wp2_with fail
    refine (alive2_any _ HV.out).mono ?_
    rintro e w1 ⟨rfl, b1⟩
    have Z1 : Hid (Below w.heap.size w w1) := Lib.hid b1
    clear b1
    go_wp2
    go_loop [3] (fun i => ∃ k : Nat, k ≤ s.size ∧ i = .int .i64 k ∧ Hid (plainL (s.data.toList.take k) = true)) (fun i => s.size - (intOf i).toNat)
    case atStart => exact ⟨0, Nat.zero_le _, rfl, Lib.hid rfl⟩
    case round =>
      obtain ⟨k, hk, rfl, HP⟩ := hrel
      by_cases hlt : k < s.size
      · by_cases hc : s[k].toNat < 128
        · have hcI : (s[k].toNat : Int) < 128 := by omega
          have HN : Hid (plainL (s.data.toList.take (k + 1)) = true) := Lib.hid (by
            rw [take_snoc s k hlt, plainL_snoc, HP.out]; simpa using hc)
          clear hc
          go_wp2
          go_round
          case rel => exact ⟨k + 1, by omega, by go_num, HN⟩
          case measure => simp [intOf]; omega
        · have hcI : 128 ≤ (s[k].toNat : Int) := by omega
          clear hc
          go_wp2_with fail
          refine (HShow.out _ (HV.out.later Z1.out)).mono ?_
          rintro e w2 ⟨rfl, b2⟩
          have Z2 : Hid (Below w.heap.size w w2) := Lib.hid (Z1.out.trans (b2.mono Z1.out.size))
          clear b2
          go_wp2
          go_ret
          exact ⟨rfl, Z2.out⟩
      · have hp : plainL s.data.toList = true := by
          have := HP.out
          rwa [List.take_of_length_le (by simp; omega)] at this
        have HLab := Lib.hid (lab_plain s hp HX.out)
        have hkI : (s.size : Int) ≤ (k : Int) := by omega
        clear hp HP hlt
        by_cases h0 : s.size = 0
        · have C1 : Hid (∀ w, Vld w → Calls Tryd.prog 9 #[.string s] w fun e w' => e = .returned (.tuple #[.string ⟨#[]⟩, .int .i64 5]) ∧ Below w.heap.size w w') := Lib.hid (fun w hV => by
            have := Label_any s w hs1 hV
            rwa [HLab.out, if_pos h0] at this)
          have h0I : (s.size : Int) < 1 := by omega
          clear h0
          go_wp2_with fail
          refine (C1.out _ (HV.out.later Z1.out)).mono ?_
          rintro e w2 ⟨rfl, b2⟩
          have Z2 : Hid (Below w.heap.size w w2) := Lib.hid (Z1.out.trans (b2.mono Z1.out.size))
          clear b2
          go_wp2_with fail
          refine (HShow.out _ (HV.out.later Z2.out)).mono ?_
          rintro e w3 ⟨rfl, b3⟩
          have Z3 : Hid (Below w.heap.size w w3) := Lib.hid (Z2.out.trans (b3.mono Z2.out.size))
          clear b3
          go_wp2
          go_ret
          exact ⟨rfl, Z3.out⟩
        · have h0I : 1 ≤ (s.size : Int) := by omega
          by_cases h63 : 63 < s.size
          · exfalso; omega
          · have C1 : Hid (∀ w, Vld w → Calls Tryd.prog 9 #[.string s] w fun e w' => e = .returned (.tuple #[.string W, .int .i64 0]) ∧ Below w.heap.size w w') := Lib.hid (fun w hV => by
              have := Label_any s w hs1 hV
              rwa [HLab.out, if_neg h0, if_neg h63, HW.out] at this)
            have h63I : (s.size : Int) ≤ 63 := by omega
            clear h0 h63
            go_wp2_with fail
            refine (C1.out _ (HV.out.later Z1.out)).mono ?_
            rintro e w2 ⟨rfl, b2⟩
            have Z2 : Hid (Below w.heap.size w w2) := Lib.hid (Z1.out.trans (b2.mono Z1.out.size))
            clear b2
            go_wp2_with fail
            refine (HLo.out _).mono ?_
            rintro e w3 ⟨rfl, b3⟩
            have Z3 : Hid (Below w.heap.size w w3) := Lib.hid (Z2.out.trans (b3.mono Z2.out.size))
            clear b3
            go_wp2_with fail
            refine (HShow.out _ (HV.out.later Z3.out)).mono ?_
            rintro e w4 ⟨rfl, b4⟩
            have Z4 : Hid (Below w.heap.size w w4) := Lib.hid (Z3.out.trans (b4.mono Z3.out.size))
            clear b4
            go_wp2
            go_ret
            exact ⟨rfl, Z4.out⟩
  · have h4I : 4 ≤ (s.size : Int) := by omega
    have HQ : Hid (∀ w, Calls Tryd.prog 16 #[.string (s.extract 0 4)] w fun e w' => e = .returned (.string Q) ∧ Below w.heap.size w w') := Lib.hid (fun w => by
      have := Lower_any (s.extract 0 4) w (by unfold maxLen; simp; omega)
      rwa [hq1] at this)
    have hqe : (Q.toList == (⟨#[120, 110, 45, 45]⟩ : ByteArray).toList) = false := by rw [beqB]; exact decide_eq_false hq2
    have hqe2 : (Q.toList == [120, 110, 45, 45]) = false := by
      have e : (⟨#[120, 110, 45, 45]⟩ : ByteArray).toList = [120, 110, 45, 45] := by rw [ByteArray.toList_eq]
      rw [e] at hqe; exact hqe
    clear hq1 hq2 h4
    go_enter Tryd.func8, Tryd.ntmps8
    go_wp2_with fail
    refine (alive2_any _ HV.out).mono ?_
    rintro e w1 ⟨rfl, b1⟩
    have Z1 : Hid (Below w.heap.size w w1) := Lib.hid b1
    clear b1
    go_wp2_with fail
    refine (HQ.out _).mono ?_
    rintro e w0 ⟨rfl, b0⟩
    have Z0 : Hid (Below w.heap.size w w0) := Lib.hid (Z1.out.trans (b0.mono Z1.out.size))
    clear b0 Z1
    have Z1 := Z0
    clear Z0
    go_wp2
    go_loop [3] (fun i => ∃ k : Nat, k ≤ s.size ∧ i = .int .i64 k ∧ Hid (plainL (s.data.toList.take k) = true)) (fun i => s.size - (intOf i).toNat)
    case atStart => exact ⟨0, Nat.zero_le _, rfl, Lib.hid rfl⟩
    case round =>
      obtain ⟨k, hk, rfl, HP⟩ := hrel
      by_cases hlt : k < s.size
      · by_cases hc : s[k].toNat < 128
        · have hcI : (s[k].toNat : Int) < 128 := by omega
          have HN : Hid (plainL (s.data.toList.take (k + 1)) = true) := Lib.hid (by
            rw [take_snoc s k hlt, plainL_snoc, HP.out]; simpa using hc)
          clear hc
          go_wp2
          go_round
          case rel => exact ⟨k + 1, by omega, by go_num, HN⟩
          case measure => simp [intOf]; omega
        · have hcI : 128 ≤ (s[k].toNat : Int) := by omega
          clear hc
          go_wp2_with fail
          refine (HShow.out _ (HV.out.later Z1.out)).mono ?_
          rintro e w2 ⟨rfl, b2⟩
          have Z2 : Hid (Below w.heap.size w w2) := Lib.hid (Z1.out.trans (b2.mono Z1.out.size))
          clear b2
          go_wp2
          go_ret
          exact ⟨rfl, Z2.out⟩
      · have hp : plainL s.data.toList = true := by
          have := HP.out
          rwa [List.take_of_length_le (by simp; omega)] at this
        have HLab := Lib.hid (lab_plain s hp HX.out)
        have hkI : (s.size : Int) ≤ (k : Int) := by omega
        clear hp HP hlt
        by_cases h0 : s.size = 0
        · exfalso; omega
        · have h0I : 1 ≤ (s.size : Int) := by omega
          by_cases h63 : 63 < s.size
          · have C1 : Hid (∀ w, Vld w → Calls Tryd.prog 9 #[.string s] w fun e w' => e = .returned (.tuple #[.string ⟨#[]⟩, .int .i64 5]) ∧ Below w.heap.size w w') := Lib.hid (fun w hV => by
              have := Label_any s w hs1 hV
              rwa [HLab.out, if_neg h0, if_pos h63] at this)
            have h63I : (63 : Int) < (s.size : Int) := by omega
            clear h0 h63
            go_wp2_with fail
            refine (C1.out _ (HV.out.later Z1.out)).mono ?_
            rintro e w2 ⟨rfl, b2⟩
            have Z2 : Hid (Below w.heap.size w w2) := Lib.hid (Z1.out.trans (b2.mono Z1.out.size))
            clear b2
            go_wp2_with fail
            refine (HShow.out _ (HV.out.later Z2.out)).mono ?_
            rintro e w3 ⟨rfl, b3⟩
            have Z3 : Hid (Below w.heap.size w w3) := Lib.hid (Z2.out.trans (b3.mono Z2.out.size))
            clear b3
            go_wp2
            go_ret
            exact ⟨rfl, Z3.out⟩
          · have C1 : Hid (∀ w, Vld w → Calls Tryd.prog 9 #[.string s] w fun e w' => e = .returned (.tuple #[.string W, .int .i64 0]) ∧ Below w.heap.size w w') := Lib.hid (fun w hV => by
              have := Label_any s w hs1 hV
              rwa [HLab.out, if_neg h0, if_neg h63, HW.out] at this)
            have h63I : (s.size : Int) ≤ 63 := by omega
            clear h0 h63
            go_wp2_with fail
            refine (C1.out _ (HV.out.later Z1.out)).mono ?_
            rintro e w2 ⟨rfl, b2⟩
            have Z2 : Hid (Below w.heap.size w w2) := Lib.hid (Z1.out.trans (b2.mono Z1.out.size))
            clear b2
            go_wp2_with fail
            refine (HLo.out _).mono ?_
            rintro e w3 ⟨rfl, b3⟩
            have Z3 : Hid (Below w.heap.size w w3) := Lib.hid (Z2.out.trans (b3.mono Z2.out.size))
            clear b3
            go_wp2_with fail
            refine (HShow.out _ (HV.out.later Z3.out)).mono ?_
            rintro e w4 ⟨rfl, b4⟩
            have Z4 : Hid (Below w.heap.size w w4) := Lib.hid (Z3.out.trans (b4.mono Z3.out.size))
            clear b4
            go_wp2
            go_ret
            exact ⟨rfl, Z4.out⟩
theorem plain_walk (s : ByteArray) (w : World) (hs : s.size ≤ 140737488351232) (hV : Vld w) :
    Calls Tryd.prog 8 #[.string s] w fun e w' => e = .returned (.bool true) ∧ Below w.heap.size w w' := by
  have HV := Lib.hid hV
  by_cases h1000 : 1000 < s.size
  · go_enter Tryd.func8, Tryd.ntmps8
    go_wp2_with fail
    refine (alive2_any _ HV.out).mono ?_
    rintro e w1 ⟨rfl, b1⟩
    have Z1 : Hid (Below w.heap.size w w1) := Lib.hid b1
    clear b1
    have hI : (1000 : Int) < (s.size : Int) := by omega
    go_wp2_with fail
    refine (alive2_any _ (HV.out.later Z1.out)).mono ?_
    rintro e w2 ⟨rfl, b2⟩
    have Z2 : Hid (Below w.heap.size w w2) := Lib.hid (Z1.out.trans (b2.mono Z1.out.size))
    clear b2
    go_wp2
    go_ret
    exact ⟨rfl, Z2.out⟩
  have hI : (s.size : Int) ≤ 1000 := by omega
  have hs1 : s.size ≤ 1000 := by omega
  by_cases h4 : s.size < 4
  · exact plain_end s w hs1 hV s (pre_short _ (by rw [lowS_data, List.length_map]; simpa using h4)) (.inl h4)
  by_cases hq : lowS (s.extract 0 4) = ⟨#[120, 110, 45, 45]⟩
  · have HQ : Hid (∀ w, Calls Tryd.prog 16 #[.string (s.extract 0 4)] w fun e w' => e = .returned (.string ⟨#[120, 110, 45, 45]⟩) ∧ Below w.heap.size w w') := Lib.hid (fun w => by
      have := Lower_any (s.extract 0 4) w (by unfold maxLen; simp; omega)
      rwa [hq] at this)
    have h4I : 4 ≤ (s.size : Int) := by omega
    clear hq h4 h1000 hV
    go_enter Tryd.func8, Tryd.ntmps8
    go_wp2_with fail
    refine (alive2_any _ HV.out).mono ?_
    rintro e w1 ⟨rfl, b1⟩
    have Z1 : Hid (Below w.heap.size w w1) := Lib.hid b1
    clear b1
    go_wp2_with fail
    refine (HQ.out _).mono ?_
    rintro e w2 ⟨rfl, b2⟩
    have Z2 : Hid (Below w.heap.size w w2) := Lib.hid (Z1.out.trans (b2.mono Z1.out.size))
    clear b2
    go_wp2_with fail
    refine (alive2_any _ (HV.out.later Z2.out)).mono ?_
    rintro e w3 ⟨rfl, b3⟩
    have Z3 : Hid (Below w.heap.size w w3) := Lib.hid (Z2.out.trans (b3.mono Z2.out.size))
    clear b3
    go_wp2
    go_ret
    exact ⟨rfl, Z3.out⟩
  · refine plain_end s w hs1 hV _ (pre_take _ (fun h => hq ?_)) (.inr ⟨by omega, rfl, hq⟩)
    apply ByteArray.ext
    apply Array.toList_inj.1
    rw [lowS_data, exTake, List.map_take, ← lowS_data]
    exact h

end Go.Proofs.YtgmjfnddeogfdaaDoor

