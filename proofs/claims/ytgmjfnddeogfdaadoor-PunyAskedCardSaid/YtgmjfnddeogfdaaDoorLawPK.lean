/-
  The walk of PunyAsked.
-/
import Derived.Test.YtgmjfnddeogfdaaDoorPbI
namespace Go.Proofs.YtgmjfnddeogfdaaDoor
open Go.RowKit

theorem low_byte {l : ByteArray} (h : lowS l = l) (k : Nat) (hk : k < l.size) : ¬ (65 ≤ l[k].toNat ∧ l[k].toNat ≤ 90) := by
  have e : l.data.toList.map low = l.data.toList := by rw [← lowS_data, h]
  have hk' : k < l.data.toList.length := by simpa using hk
  have := congrArg (fun m => m[k]?) e
  simp only [List.getElem?_map, List.getElem?_eq_getElem hk', Option.map_some, Option.some.injEq] at this
  have h2 := (low_two (l.data.toList[k])).2.2
  rw [this] at h2
  exact h2
set_option maxRecDepth 100000 in
set_option maxHeartbeats 4000000 in
theorem asked_walk (s : ByteArray) (w : World) (hs : s.size ≤ 140737488351232) (hV : Vld w) :
    Calls Tryd.prog 7 #[.string s] w fun e w' => e = .returned (.bool true) ∧ Below w.heap.size w w' := by
  have HV := Lib.hid hV; clear hV
  by_cases h1000 : 1000 < s.size
  · go_enter Tryd.func7, Tryd.ntmps7
    go_wp2_with fail
    refine (alive2_any _ HV.out).mono ?_
    rintro e w1 ⟨rfl, b1⟩
    have Z1 : Hid (Below w.heap.size w w1) := Lib.hid b1
    clear b1
    have hI : (1000 : Int) < (s.size : Int) := by omega
    go_wp2_with fail
    refine (alive2_any _ (HV.out.later Z1.out)).mono ?_
    rintro e w2 ⟨rfl, b2⟩
    have Z2 : Hid (Below w.heap.size w w2) := Lib.hid (Z1.out.trans (b2.mono Z1.out.size))
    clear b2
    go_wp2
    go_ret
    exact ⟨rfl, Z2.out⟩
  have hI : (s.size : Int) ≤ 1000 := by omega
  have hs1 : s.size ≤ 1000 := by omega
  rcases asked s hs1 with h | ⟨l, h, hl1, hl63, hpl, hlow, hll, hshz, hsh⟩
  · have C1 : Hid (∀ w, Vld w → Calls Tryd.prog 9 #[.string s] w fun e w' => e = .returned (.tuple #[.string ⟨#[]⟩, .int .i64 5]) ∧ Below w.heap.size w w') := Lib.hid (fun w hV => by
      have := Label_any s w hs1 hV
      rwa [h] at this)
    have C2 : Hid (∀ w, Vld w → Calls Tryd.prog 11 #[.string s] w fun e w' => e = .returned (.string s) ∧ Below w.heap.size w w') := Lib.hid (fun w hV => by
      have := Show_any s w hs1 hV
      have e : showT s = s := by unfold showT; rw [h]; exact if_neg (by decide)
      rwa [e] at this)
    clear h h1000
    go_enter Tryd.func7, Tryd.ntmps7
    go_wp2_with fail
    refine (alive2_any _ HV.out).mono ?_
    rintro e w1 ⟨rfl, b1⟩
    have Z1 : Hid (Below w.heap.size w w1) := Lib.hid b1
    clear b1
    go_wp2_with fail
    refine (C1.out _ (HV.out.later Z1.out)).mono ?_
    rintro e w2 ⟨rfl, b2⟩
    have Z2 : Hid (Below w.heap.size w w2) := Lib.hid (Z1.out.trans (b2.mono Z1.out.size))
    clear b2
    go_wp2_with fail
    refine (C2.out _ (HV.out.later Z2.out)).mono ?_
    rintro e w3 ⟨rfl, b3⟩
    have Z3 : Hid (Below w.heap.size w w3) := Lib.hid (Z2.out.trans (b3.mono Z2.out.size))
    clear b3
    go_wp2
    go_ret
    exact ⟨rfl, Z3.out⟩
  obtain ⟨T, HT⟩ : ∃ T, Hid (showT l = T) := ⟨_, Lib.hid rfl⟩
  rw [HT.out] at hshz hsh
  have C1 : Hid (∀ w, Vld w → Calls Tryd.prog 9 #[.string s] w fun e w' => e = .returned (.tuple #[.string l, .int .i64 0]) ∧ Below w.heap.size w w') := Lib.hid (fun w hV => by
    have := Label_any s w hs1 hV
    rwa [h] at this)
  have C2 : Hid (∀ w, Vld w → Calls Tryd.prog 9 #[.string l] w fun e w' => e = .returned (.tuple #[.string l, .int .i64 0]) ∧ Below w.heap.size w w') := Lib.hid (fun w hV => by
    have := Label_any l w (by omega) hV
    rwa [hll] at this)
  have C3 : Hid (∀ w, Vld w → Calls Tryd.prog 11 #[.string l] w fun e w' => e = .returned (.string T) ∧ Below w.heap.size w w') := Lib.hid (fun w hV => by
    have := Show_any l w (by omega) hV
    rwa [HT.out] at this)
  have C4 : Hid (∀ w, Vld w → Calls Tryd.prog 9 #[.string T] w fun e w' => e = .returned (.tuple #[.string l, .int .i64 0]) ∧ Below w.heap.size w w') := Lib.hid (fun w hV => by
    have := Label_any T w hshz hV
    rwa [hsh] at this)
  have HB : Hid (∀ k (hk : k < l.size), l[k].toNat < 128 ∧ ¬ (65 ≤ l[k].toNat ∧ l[k].toNat ≤ 90)) := Lib.hid (fun k hk => ⟨plain_at hpl k hk, low_byte hlow k hk⟩)
  have g1 : 1 ≤ (l.size : Int) := by omega
  have g2 : (l.size : Int) ≤ 63 := by omega
  clear h hpl hlow hll hsh h1000
  go_enter Tryd.func7, Tryd.ntmps7
  go_wp2_with fail
  refine (alive2_any _ HV.out).mono ?_
  rintro e w1 ⟨rfl, b1⟩
  have Z1 : Hid (Below w.heap.size w w1) := Lib.hid b1
  clear b1
  go_wp2_with fail
  refine (C1.out _ (HV.out.later Z1.out)).mono ?_
  rintro e w2 ⟨rfl, b2⟩
  have Z2 : Hid (Below w.heap.size w w2) := Lib.hid (Z1.out.trans (b2.mono Z1.out.size))
  clear b2
  go_wp2
  go_loop [5] (fun i => ∃ k : Nat, k ≤ l.size ∧ i = .int .i64 k) (fun i => l.size - (intOf i).toNat)
  case atStart => exact ⟨0, Nat.zero_le _, rfl⟩
  case round =>
    obtain ⟨k, hk, rfl⟩ := hrel
    by_cases hlt : k < l.size
    · obtain ⟨h1, h2⟩ := HB.out k hlt
      have h1I : (l[k].toNat : Int) < 128 := by omega
      by_cases h65 : 65 ≤ l[k].toNat
      · have h65I : 65 ≤ (l[k].toNat : Int) := by omega
        have h90I : 90 < (l[k].toNat : Int) := by omega
        clear h1 h2 h65
        go_wp2
        go_round
        case rel => exact ⟨k + 1, by omega, by go_num⟩
        case measure => simp [intOf]; omega
      · have h65I : (l[k].toNat : Int) < 65 := by omega
        clear h1 h2 h65
        go_wp2
        go_round
        case rel => exact ⟨k + 1, by omega, by go_num⟩
        case measure => simp [intOf]; omega
    · have hkI : (l.size : Int) ≤ (k : Int) := by omega
      clear hlt
      go_wp2_with fail
      refine (C2.out _ (HV.out.later Z2.out)).mono ?_
      rintro e w3 ⟨rfl, b3⟩
      have Z3 : Hid (Below w.heap.size w w3) := Lib.hid (Z2.out.trans (b3.mono Z2.out.size))
      clear b3
      go_wp2_with fail
      refine (C3.out _ (HV.out.later Z3.out)).mono ?_
      rintro e w4 ⟨rfl, b4⟩
      have Z4 : Hid (Below w.heap.size w w4) := Lib.hid (Z3.out.trans (b4.mono Z3.out.size))
      clear b4
      go_wp2_with fail
      refine (C4.out _ (HV.out.later Z4.out)).mono ?_
      rintro e w5 ⟨rfl, b5⟩
      have Z5 : Hid (Below w.heap.size w w5) := Lib.hid (Z4.out.trans (b5.mono Z4.out.size))
      clear b5
      go_wp2
      go_ret
      exact ⟨rfl, Z5.out⟩

end Go.Proofs.YtgmjfnddeogfdaaDoor

