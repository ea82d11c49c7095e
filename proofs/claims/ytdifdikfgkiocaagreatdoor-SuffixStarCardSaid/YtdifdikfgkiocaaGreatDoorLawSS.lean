/-
  The walk of SuffixStar.
-/
import Derived.Test.YtdifdikfgkiocaaGreatDoorSxL
import Derived.Test.YtdifdikfgkiocaaGreatDoorSxS
import Derived.RegionTactic
namespace Go.Proofs.YtdifdikfgkiocaaGreatDoor
open Go.RowKit

def alphaS : ByteArray := ⟨#[97, 98, 99, 100, 101, 102, 103, 104, 105, 106, 107, 108, 109, 110, 111, 112, 113, 114, 115, 116, 117, 118, 119, 120, 121, 122]⟩
def ltF (c : UInt8) : UInt8 := UInt8.ofNat (97 + c.toNat % 26)
/-- A part of some letters. -/
def letS (D : List UInt8) (k : Nat) : ByteArray := asB (97 :: (D.take k).map ltF)
theorem letS_size (D : List UInt8) (k : Nat) : (letS D k).size = 1 + min k D.length := by
  rw [letS, asB_size, List.length_cons, List.length_map, List.length_take]; omega
theorem letS_step (D : List UInt8) (k : Nat) (h : k < D.length) : letS D (k + 1) = letS D k ++ asB [ltF D[k]] := by
  refine ba_of ?_
  rw [ByteArray.data_append, Array.toList_append, letS, letS, asB_data, asB_data, asB_data, List.take_succ_eq_append_getElem h, List.map_append]; rfl
theorem letS_ltr (D : List UInt8) (k : Nat) (h : k ≤ 30) : Ltr (letS D k) := by
  have hs := letS_size D k
  refine ⟨by omega, by omega, fun c hc => ?_, ?_⟩
  · rw [letS, asB_data] at hc
    rcases List.mem_cons.1 hc with rfl | hc
    · decide
    · obtain ⟨d, _, rfl⟩ := List.mem_map.1 hc
      have h26 : d.toNat % 26 < 26 := Nat.mod_lt _ (by omega)
      have : (ltF d).toNat = 97 + d.toNat % 26 := by rw [ltF]; simp; omega
      omega
  · rw [letS, asB_data]; simp
theorem sxalpha_at (k : Nat) (h : k < 26) : alphaS.extract k (k + 1) = asB [UInt8.ofNat (97 + k)] := by
  have : ∀ j : Fin 26, alphaS.extract j.1 (j.1 + 1) = asB [UInt8.ofNat (97 + j.1)] := by decide +kernel
  exact this ⟨k, h⟩
theorem slice_let (c : UInt8) (w : World) : (Instr.slice 9 (.string ({ data := #[97, 98, 99, 100, 101, 102, 103, 104, 105, 106, 107, 108, 109, 110, 111, 112, 113, 114, 115, 116, 117, 118, 119, 120, 121, 122] } : ByteArray)) (some (.int .u8 ((c.toNat : Int) % 26))) (some (.int .u8 ((c.toNat : Int) % 26 + 1))) none).run Tryz.prog w = .ok (.string (asB [ltF c])) w := by
  have h := run_slice_string_if (P := Tryz.prog) (w := w) 9 alphaS .u8 .u8 ((c.toNat : Int) % 26) ((c.toNat : Int) % 26 + 1) Tryz.underlying9
  have hs : alphaS.size = 26 := rfl
  have h26 : c.toNat % 26 < 26 := Nat.mod_lt _ (by omega)
  rw [hs, if_pos ⟨by omega, by omega⟩, if_pos ⟨by omega, by omega⟩, show ((c.toNat : Int) % 26).toNat = c.toNat % 26 by omega, show ((c.toNat : Int) % 26 + 1).toNat = c.toNat % 26 + 1 by omega, sxalpha_at _ h26] at h
  exact h
set_option maxRecDepth 100000 in
set_option maxHeartbeats 2000000 in
theorem letters_any (D : List UInt8) (a0 : Option Addr) (b off cap : Nat) (w : World) (hA : 0 < D.length → a0 = some ⟨b, off, none⟩) (hc : ∀ j (h : j < D.length), w.cell? ⟨b, off + j, none⟩ = some (.int .u8 (D[j].toNat : Int))) (hn : D.length ≤ 140737488355328) :
    Calls Tryz.prog 22 #[.slice a0 D.length cap] w fun e w' => e = .returned (.string (letS D 30)) ∧ Below w.heap.size w w' := by
  have HC := Lib.hid hc; clear hc
  have HAd := Lib.hid hA; clear hA
  obtain ⟨n, HN⟩ : ∃ n, Hid (D.length = n) := ⟨_, Lib.hid rfl⟩
  rw [HN.out] at hn ⊢
  go_enter Tryz.func22, Tryz.ntmps22
  go_wp2
  go_loopw [3, 4] (fun s i wr => ∃ k m : Nat, k ≤ n ∧ k ≤ 30 ∧ i = .int .i64 k ∧ s = .string (letS D k) ∧ wr = w.drewN m) (fun _ i _ => n - (intOf i).toNat)
  case atStart => exact ⟨0, 0, Nat.zero_le _, Nat.zero_le _, rfl, rfl, rfl⟩
  case round =>
    obtain ⟨k, m, hk, hk2, rfl, rfl, rfl⟩ := hrel
    obtain ⟨V, HV⟩ : ∃ V, Hid (letS D k = V) := ⟨_, Lib.hid rfl⟩
    have hVs : V.size ≤ 31 := by rw [← HV.out, letS_size]; omega
    by_cases hlt : k < n
    · by_cases h30 : k < 30
      · have hkL : k < D.length := by rw [HN.out]; exact hlt
        obtain ⟨c, Hx⟩ : ∃ c, Hid (D[k] = c) := ⟨_, Lib.hid rfl⟩
        have hx := HC.out k hkL
        rw [Hx.out] at hx
        have ha : a0 = some ⟨b, off, none⟩ := HAd.out (by omega)
        subst ha
        have HS : Hid (letS D (k + 1) = V ++ asB [ltF c]) := Lib.hid (by rw [letS_step D k hkL, HV.out, Hx.out])
        obtain ⟨X, HX⟩ : ∃ X, Hid (asB [ltF c] = X) := ⟨_, Lib.hid rfl⟩
        have hXs : X.size = 1 := by rw [← HX.out]; rfl
        have hsl := slice_let c
        rw [HX.out] at hsl HS
        have hb := byte_lt c
        have t1 : (c.toNat : Int).tmod 26 = (c.toNat : Int) % 26 := Int.tmod_eq_emod_of_nonneg (by omega)
        have q1 : IntKind.u8.wrap ((c.toNat : Int) % 26) = (c.toNat : Int) % 26 := by rw [IntKind.wrap_u8]; omega
        have q2 : IntKind.u8.wrap ((c.toNat : Int) % 26 + 1) = (c.toNat : Int) % 26 + 1 := by rw [IntKind.wrap_u8]; omega
        have hz : ¬ 9223372036854775807 < V.size + 1 := by omega
        have hz2 : ¬ 9223372036854775807 < V.size + X.size := by omega
        have hkI : (k : Int) < 30 := by omega
        have hkn : (k : Int) < (n : Int) := by omega
        rw [HV.out]
        go_wp2
        go_quiet (fail)
        go_wp2
        exact ⟨⟨k + 1, _, by omega, by omega, by go_num, by rw [HS.out], rfl⟩, by simp [intOf]; omega⟩
      · obtain rfl : k = 30 := by omega
        have hkn : (30 : Int) < (n : Int) := by omega
        go_wp2
        go_ret
        exact ⟨rfl, { os := rfl, tape := rfl, output := rfl, size := Nat.le_refl _, block := fun _ _ => rfl }⟩
    · obtain rfl : k = n := by omega
      have HE : Hid (letS D 30 = letS D k) := Lib.hid (by rw [letS, letS, List.take_of_length_le (by rw [HN.out]; exact hk2), List.take_of_length_le (by rw [HN.out]; exact Nat.le_refl _)])
      clear hVs
      go_wp2
      go_ret
      exact ⟨by rw [HE.out]; rfl, { os := rfl, tape := rfl, output := rfl, size := Nat.le_refl _, block := fun _ _ => rfl }⟩

set_option maxRecDepth 100000 in
set_option maxHeartbeats 4000000 in
theorem sstar_walk (D1 D2 : List UInt8) (a1 a2 : Option Addr) (b1 o1 c1 b2 o2 c2 : Nat) (w : World)
    (hA1 : 0 < D1.length → a1 = some ⟨b1, o1, none⟩) (hc1 : ∀ j (h : j < D1.length), w.cell? ⟨b1, o1 + j, none⟩ = some (.int .u8 (D1[j].toNat : Int))) (hn1 : D1.length ≤ 140737488355328)
    (hA2 : 0 < D2.length → a2 = some ⟨b2, o2, none⟩) (hc2 : ∀ j (h : j < D2.length), w.cell? ⟨b2, o2 + j, none⟩ = some (.int .u8 (D2[j].toNat : Int))) (hn2 : D2.length ≤ 140737488355328) (hW : Hw w) :
    Calls Tryz.prog 8 #[.slice a1 D1.length c1, .slice a2 D2.length c2] w fun e w' => e = .returned (.bool true) ∧ Below w.heap.size w w' := by
  have HW := Lib.hid hW; clear hW
  obtain ⟨x, Hx⟩ : ∃ x, Hid (letS D1 30 = x) := ⟨_, Lib.hid rfl⟩
  obtain ⟨y, Hy⟩ : ∃ y, Hid (letS D2 30 = y) := ⟨_, Lib.hid rfl⟩
  have hLx : Ltr x := by rw [← Hx.out]; exact letS_ltr D1 30 (Nat.le_refl _)
  have hLy : Ltr y := by rw [← Hy.out]; exact letS_ltr D2 30 (Nat.le_refl _)
  have hxs := hLx.2.1
  have hys := hLy.2.1
  have CX := Lib.hid (letters_any D1 a1 b1 o1 c1 w hA1 hc1 hn1)
  rw [Hx.out] at CX
  have CY : Hid (∀ w', Below w.heap.size w w' → Calls Tryz.prog 22 #[.slice a2 D2.length c2] w' fun e w'' => e = .returned (.string y) ∧ Below w'.heap.size w' w'') := Lib.hid (fun w' hb => by
    have := letters_any D2 a2 b2 o2 c2 w' hA2 (fun j h => (hb.cell (block_lt_of_cell (hc2 j h))).trans (hc2 j h)) hn2
    rwa [Hy.out] at this)
  by_cases hxy : x = y
  · subst hxy
    go_enter Tryz.func8, Tryz.ntmps8
    go_wp2_with fail
    refine CX.out.mono ?_
    rintro e w1 ⟨rfl, q1⟩
    have Z1 : Hid (Below w.heap.size w w1) := Lib.hid q1
    clear q1
    go_wp2_with fail
    refine (CY.out _ Z1.out).mono ?_
    rintro e w2 ⟨rfl, q2⟩
    have Z2 : Hid (Below w.heap.size w w2) := Lib.hid (keepW Z1.out q2)
    clear q2
    go_wp2_with fail
    refine (alive8_any _ (HW.out.later Z2.out)).mono ?_
    rintro e w3 ⟨rfl, q3⟩
    have Z3 : Hid (Below w.heap.size w w3) := Lib.hid (keepW Z2.out q3)
    clear q3
    go_wp2_with fail
    refine (alive8_any _ (HW.out.later Z3.out)).mono ?_
    rintro e w4 ⟨rfl, q4⟩
    have Z4 : Hid (Below w.heap.size w w4) := Lib.hid (keepW Z3.out q4)
    clear q4
    go_wp2
    go_ret
    exact ⟨rfl, Z4.out⟩
  obtain ⟨f1, f2, f3, f4⟩ := st_facts hLx hLy hxy
  have HF1 := Lib.hid f1; have HF2 := Lib.hid f2; have HF3 := Lib.hid f3; have HF4 := Lib.hid f4
  have HRs : Hid (∀ r ∈ stRules x, r.size ≤ 50000) := Lib.hid (fun r hr => by
    rcases List.mem_cons.1 hr with rfl | hr
    · decide
    · rw [List.mem_singleton] at hr
      rw [hr, markR, ByteArray.size_append, ByteArray.size_append]
      show 1 + x.size + 4 ≤ 50000
      omega)
  have e1 : ¬ x.toList = y.toList := fun e => hxy (ba_of (by rw [ByteArray.toList_eq, ByteArray.toList_eq] at e; exact e))
  have e1b : (x.toList == y.toList) = false := beq_eq_false_iff_ne.2 e1
  have z1 : ¬ 9223372036854775807 < 1 + x.size := by omega
  have z2 : ¬ 9223372036854775807 < 1 + x.size + 4 := by omega
  have z3 : ¬ 9223372036854775807 < y.size + 4 := by omega
  have z4 : ¬ 9223372036854775807 < x.size + 4 := by omega
  have z5 : ¬ 9223372036854775807 < 2 + x.size := by omega
  have z6 : ¬ 9223372036854775807 < 2 + x.size + 4 := by omega
  have z7 : ¬ 9223372036854775807 < 2 + y.size := by omega
  have z8 : ¬ 9223372036854775807 < 2 + y.size + 4 := by omega
  have C0 : Hid (∀ (h E : ByteArray) (w : World) (g : Nat), TxAt (stRules x) (some ⟨g, 0, none⟩) g 0 w → h.size ≤ 1000 → sufT (stRules x) h 0 = (E, 0) → Hw w → Calls Tryz.prog 12 #[.slice (some ⟨g, 0, none⟩) 2 2, .string h] w fun e w' => e = .returned (.tuple #[.string E, .int .i64 0]) ∧ Below w.heap.size w w') := Lib.hid (fun h E w g hT hh hE hW => by
    have := Suffix_any (stRules x) _ g 0 2 h w hT ⟨Nat.le_of_lt (by show 2 < 2000; omega), HRs.out, hh⟩ hW
    rwa [hE] at this)
  have C1 : Hid (∀ (h E : ByteArray) (w : World) (g : Nat), TxAt (stRules x) (some ⟨g, 0, none⟩) g 0 w → h.size ≤ 1000 → sufT (stRules x) h 1 = (E, 0) → Hw w → Calls Tryz.prog 15 #[.slice (some ⟨g, 0, none⟩) 2 2, .string h] w fun e w' => e = .returned (.tuple #[.string E, .int .i64 0]) ∧ Below w.heap.size w w') := Lib.hid (fun h E w g hT hh hE hW => by
    have := Own_any (stRules x) _ g 0 2 h w hT ⟨Nat.le_of_lt (by show 2 < 2000; omega), HRs.out, hh⟩ hW
    rwa [hE] at this)
  clear f1 f2 f3 f4 hLx hLy hxy
  go_enter Tryz.func8, Tryz.ntmps8
  go_wp2_with fail
  refine CX.out.mono ?_
  rintro e w1 ⟨rfl, q1⟩
  have Z1 : Hid (Below w.heap.size w w1) := Lib.hid q1
  clear q1
  go_wp2_with fail
  refine (CY.out _ Z1.out).mono ?_
  rintro e w2 ⟨rfl, q2⟩
  have Z2 : Hid (Below w.heap.size w w2) := Lib.hid (keepW Z1.out q2)
  clear q2
  go_wp2_with fail
  refine (alive8_any _ (HW.out.later Z2.out)).mono ?_
  rintro e w3 ⟨rfl, q3⟩
  have Z3 : Hid (Below w.heap.size w w3) := Lib.hid (keepW Z2.out q3)
  clear q3
  have WA : Hid (∀ W : World, TxAt (stRules x) (some ⟨W.heap.size, 0, none⟩) W.heap.size 0 (W.alloc (.cells #[.string starR, .string (markR x)] 9))) := Lib.hid (fun W => ⟨fun _ => rfl, fun j hj => by
    have hj' : j < 2 := hj
    rw [cell_of_row _ _ _ _ _ _ (heap_alloc_new W _), Nat.zero_add]
    rcases (show j = 0 ∨ j = 1 by omega) with rfl | rfl <;> rfl⟩)
  have T3 := Lib.hid (WA.out w3)
  have Z4 : Hid (Below w.heap.size w (w3.alloc (.cells #[.string starR, .string (markR x)] 9))) := Lib.hid (Z3.out.alloc Z3.out.size _)
  obtain ⟨W4, HW4⟩ : ∃ W4, Hid (w3.alloc (.cells #[.string starR, .string (markR x)] 9) = W4) := ⟨_, Lib.hid rfl⟩
  rw [HW4.out] at T3 Z4
  have HW4' : w3.alloc (.cells #[.string ⟨#[42, 46, 116, 111, 112]⟩, .string (⟨#[33]⟩ ++ x ++ ⟨#[46, 116, 111, 112]⟩)] 9) = W4 := HW4.out
  have s0 : (y ++ (⟨#[46, 116, 111, 112]⟩ : ByteArray)).size ≤ 1000 := by rw [ByteArray.size_append]; show y.size + 4 ≤ _; omega
  have s1 : (x ++ (⟨#[46, 116, 111, 112]⟩ : ByteArray)).size ≤ 1000 := by rw [ByteArray.size_append]; show x.size + 4 ≤ _; omega
  have s2 : ((⟨#[122, 46]⟩ : ByteArray) ++ y ++ ⟨#[46, 116, 111, 112]⟩).size ≤ 1000 := by rw [ByteArray.size_append, ByteArray.size_append]; show 2 + y.size + 4 ≤ _; omega
  have s3 : ((⟨#[122, 46]⟩ : ByteArray) ++ x ++ ⟨#[46, 116, 111, 112]⟩).size ≤ 1000 := by rw [ByteArray.size_append, ByteArray.size_append]; show 2 + x.size + 4 ≤ _; omega
  go_wp2_with fail
  refine (C0.out _ _ _ _ T3.out s0 HF1.out (HW.out.later Z4.out)).mono ?_
  rintro e w5 ⟨rfl, q5⟩
  have Z5 : Hid (Below w.heap.size w w5) := Lib.hid (keepW Z4.out q5)
  have T5 := Lib.hid (T3.out.later q5)
  clear q5
  go_wp2_with fail
  refine (C0.out _ _ _ _ T5.out s1 HF2.out (HW.out.later Z5.out)).mono ?_
  rintro e w6 ⟨rfl, q6⟩
  have Z6 : Hid (Below w.heap.size w w6) := Lib.hid (keepW Z5.out q6)
  have T6 := Lib.hid (T5.out.later q6)
  clear q6
  go_wp2_with fail
  refine (C1.out _ _ _ _ T6.out s2 HF3.out (HW.out.later Z6.out)).mono ?_
  rintro e w7 ⟨rfl, q7⟩
  have Z7 : Hid (Below w.heap.size w w7) := Lib.hid (keepW Z6.out q7)
  have T7 := Lib.hid (T6.out.later q7)
  clear q7
  go_wp2_with fail
  refine (C1.out _ _ _ _ T7.out s3 HF4.out (HW.out.later Z7.out)).mono ?_
  rintro e w8 ⟨rfl, q8⟩
  have Z8 : Hid (Below w.heap.size w w8) := Lib.hid (keepW Z7.out q8)
  clear q8
  have et : (topS.toList == [116, 111, 112]) = true := by rw [ByteArray.toList_eq]; rfl
  go_wp2
  go_ret
  exact ⟨ret_bool (by simp), Z8.out⟩

end Go.Proofs.YtdifdikfgkiocaaGreatDoor
