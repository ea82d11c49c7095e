/-
  The walk of AddrsForms.
-/
import Derived.Test.YtgmjfnddeogfdabDoorLawBk
import Derived.Test.YtgmjfnddeogfdabDoorDg4
import Derived.Test.YtgmjfnddeogfdabDoorTxW
namespace Go.Proofs.YtgmjfnddeogfdabDoor
open Go.RowKit

/-- So many numbers, told. -/
def fP (g v : Nat → Nat) : Nat → List UInt8
  | 0 => []
  | k + 1 => fP g v k ++ (if 0 < k then [46] else []) ++ formF (g k) (v k)
theorem fP_succ (g v : Nat → Nat) (k : Nat) : fP g v (k + 1) = fP g v k ++ (if 0 < k then [46] else []) ++ formF (g k) (v k) := rfl
theorem formF_len (f x : Nat) : (formF f x).length ≤ 16 := by
  have h1 := numF_len 10 11 x
  have h2 := numF_len 16 11 x
  have h3 := numF_len 8 11 x
  unfold formF
  split <;> (try simp only [List.length_append, List.length_cons, List.length_nil]) <;> omega
theorem fP_len (g v : Nat → Nat) : ∀ k, (fP g v k).length ≤ 17 * k
  | 0 => by simp [fP]
  | k + 1 => by
    have := fP_len g v k
    have h := formF_len (g k) (v k)
    have hs : (if 0 < k then [46] else ([] : List UInt8)).length ≤ 1 := by split <;> simp
    rw [fP_succ, List.length_append, List.length_append]
    omega
theorem fP_join (g v : Nat → Nat) : ∀ k, k < 4 → fP g v (k + 1) = Lib.join ((List.range (k + 1)).map fun j => formF (g j) (v j)) [46] := by
  intro k hk
  match k, hk with
  | 0, _ => simp [fP, Lib.join, List.range_succ]
  | 1, _ => simp [fP, Lib.join, List.range_succ]
  | 2, _ => simp [fP, Lib.join, List.range_succ]
  | 3, _ => simp [fP, Lib.join, List.range_succ]

theorem and_255 (u : Nat) (h : u < 4294967296) : bits .and .u32 (u : Int) 255 = ((u % 256 : Nat) : Int) := by
  have h1 : (BitVec.ofInt 32 (u : Int)).toNat = u := by
    rw [BitVec.ofInt_natCast, BitVec.toNat_ofNat]; exact Nat.mod_eq_of_lt (by omega)
  have h2 : (BitVec.ofInt 32 255).toNat = 255 := by decide
  have h3 : u &&& 255 = u % 256 := by
    have := Nat.and_two_pow_sub_one_eq_mod u 8
    simpa using this
  show IntKind.u32.wrap ((BitVec.ofInt 32 (u : Int) &&& BitVec.ofInt 32 255).toNat : Int) = _
  rw [BitVec.toNat_and, h1, h2, h3]
  simp [IntKind.wrap, IntKind.signed, IntKind.bits]
  omega
set_option maxRecDepth 100000 in
set_option maxHeartbeats 8000000 in
theorem forms_in (n : Nat) (l : List Nat) (pt : Bool) (w : World) (hn : n < 4294967296) (hl : l.length = 5) (hb : ∀ x ∈ l, x < 256) (h10 : Fmt 10 256 w) (h16 : Fmt 16 65536 w) :
    Calls Tryd.prog 4 #[.int .u32 n, .agg (l.map u8v).toArray, .bool pt] w fun e w' => e = .returned (.bool true) ∧ Below w.heap.size w w' := by
  have HF10 := Lib.hid h10; have HF16 := Lib.hid h16
  have HBd : Hid (∀ x ∈ l, x < 256) := Lib.hid hb
  obtain ⟨B, HB⟩ : ∃ B, Hid ((l.map u8v).toArray = B) := ⟨_, Lib.hid rfl⟩
  rw [HB.out]
  have HBs : Hid (B.size = 5) := Lib.hid (by rw [← HB.out]; simp [hl])
  have HBc : Hid (∀ k, k < 5 → B[k]? = some (.int .u8 ((l.getD k 0 : Nat) : Int))) := Lib.hid (fun k hk => by
    rw [← HB.out, List.getElem?_toArray, List.getElem?_map, List.getD_eq_getElem?_getD, List.getElem?_eq_getElem (by omega)]; rfl)
  obtain ⟨W0, HW0⟩ : ∃ W, Hid (w.alloc (.cells B 35) = W) := ⟨_, Lib.hid rfl⟩
  have Z0 : Hid (Below w.heap.size w W0) := Lib.hid (by rw [← HW0.out]; exact (Below.refl _ _).alloc (Nat.le_refl _) _)
  have G0 : Hid (W0.heap[w.heap.size]? = some (.cells B 35 (0, 0))) := Lib.hid (by rw [← HW0.out]; exact heap_alloc_new w _)
  obtain ⟨x4, HX4⟩ : ∃ x, Hid (l.getD 4 0 = x) := ⟨_, Lib.hid rfl⟩
  have hx4 : x4 < 256 := by rw [← HX4.out]; exact getD_small HBd.out 4
  obtain ⟨K, HK⟩ : ∃ K, Hid (x4 % 4 = K) := ⟨_, Lib.hid rfl⟩
  have hK4 : K < 4 := by rw [← HK.out]; omega
  have eK : (x4 : Int) % 4 = (K : Int) := by rw [← HK.out]; rfl
  have hB4 : B[4]? = some (.int .u8 (x4 : Int)) := by rw [HBc.out 4 (by omega), HX4.out]
  have hc4 : W0.cell? ⟨w.heap.size, 4, none⟩ = some (.int .u8 (x4 : Int)) := by rw [cell_of_row _ _ _ _ _ _ G0.out, HBc.out 4 (by omega), HX4.out]
  have kw : IntKind.u8.wrap (K : Int) = (K : Int) := IntWalk.u8_in _ (by omega)
  have Hl := Lib.hid hl
  clear hl hb h10 h16
  go_enter Tryd.func4, Tryd.ntmps4
  go_wp2_with fail
  rw [HW0.out]
  go_wp2_with fail
  rw [eK]
  clear hB4 hc4 eK kw
  go_loopw [8, 9] (fun s i wr => ∃ k : Nat, k ≤ K + 1 ∧ i = .int .i64 k ∧ s = .string (asB (fP (fun j => l.getD j 0 % 5) (numK n K) k)) ∧ Hid (Below W0.heap.size W0 wr)) (fun _ i _ => 4 - (intOf i).toNat)
  case atStart => exact ⟨0, by omega, rfl, rfl, Lib.hid (Below.refl _ _)⟩
  case round =>
    obtain ⟨k, hk, rfl, rfl, HBr⟩ := hrel
    obtain ⟨S, HS⟩ : ∃ t, Hid (asB (fP (fun j => l.getD j 0 % 5) (numK n K) k) = t) := ⟨_, Lib.hid rfl⟩
    rw [HS.out]
    by_cases hlt : k < K + 1
    · have hltI : (k : Int) < (K : Int) + 1 := by omega
      have hhh : (k = 0 ∧ K = 0) ∨ (k = 0 ∧ K ≠ 0) ∨ (k = 1 ∧ K = 1) ∨ (k = 1 ∧ K ≠ 1) ∨ (k = 2 ∧ K = 2) ∨ (k = 2 ∧ K ≠ 2) ∨ (k = 3 ∧ K = 3) := by omega
      rcases hhh with ⟨rfl, hK⟩ | ⟨rfl, hK⟩ | ⟨rfl, hK⟩ | ⟨rfl, hK⟩ | ⟨rfl, hK⟩ | ⟨rfl, hK⟩ | ⟨rfl, hK⟩
      · have hy0 : wr.cell? ⟨w.heap.size, 0, none⟩ = some (.int .u8 ((l.getD 0 0 : Nat) : Int)) := by
          rw [HBr.out.cell (p := ⟨w.heap.size, 0, none⟩) (lt_of_block G0.out), cell_of_row _ _ _ _ _ _ G0.out, HBc.out 0 (by omega)]
        obtain ⟨y, HY⟩ : ∃ y, Hid (l.getD 0 0 = y) := ⟨_, Lib.hid rfl⟩
        rw [HY.out] at hy0
        have hy256 : y < 256 := by rw [← HY.out]; exact getD_small HBd.out 0
        obtain ⟨x, HX⟩ : ∃ x, Hid (numK n K 0 = x) := ⟨_, Lib.hid rfl⟩
        have hxn : x = n := by rw [← HX.out, numK, if_pos hK.symm, hK]; exact Nat.mod_eq_of_lt hn
        have hx4 : x < 4294967296 := by omega
        subst hxn
        have hne : ((0 : Int) == (K : Int)) = true := beq_iff_eq.2 (by omega)
        have HKv := Lib.hid hK
        clear hK
        have hSs : S.size ≤ 100 := by rw [← HS.out, asB_size]; exact Nat.le_trans (fP_len _ _ _) (by omega)
        rcases (show y % 5 = 0 ∨ y % 5 = 1 ∨ y % 5 = 2 ∨ y % 5 = 3 ∨ y % 5 = 4 by omega) with hf | hf | hf | hf | hf
        · have hfI : (y : Int) % 5 = 0 := by omega
          obtain ⟨D, HD⟩ : ∃ t, Hid (asB (numF 10 11 x) = t) := ⟨_, Lib.hid rfl⟩
          have hDs : D.size ≤ 11 := by rw [← HD.out, asB_size]; exact numF_len _ _ _
          have HG : Hid (∀ w', Calls Tryd.prog 13 #[.int .u32 (x : Int), .int .u32 10] w' fun e w'' => e = .returned (.string D) ∧ Below w'.heap.size w' w'') := Lib.hid (fun w' => by
            have := digits4_any 10 (by omega) (by omega) 11 x w' (by omega) (by omega) (pow11 10 x (by omega) hx4) hx4
            rwa [HD.out] at this)
          have hz2 : ¬ 9223372036854775807 < S.size + D.size := by omega
          have HNx : Hid (S ++ D = asB (fP (fun j => l.getD j 0 % 5) (numK x K) (0 + 1))) := Lib.hid (by
            rw [← HD.out, ← HS.out, fP_succ _ _ 0, HY.out, hf, HX.out]
            apply ByteArray.ext
            simp [asB, formF])
          clear hf
          go_wp2_with (go_at_call 13; refine (HG.out _).mono ?_; rintro e w' ⟨rfl, bT⟩)
          go_roundw
          case rel => exact ⟨0 + 1, by omega, rfl, congrArg Value.string HNx.out, Lib.hid (HBr.out.trans (bT.mono HBr.out.size))⟩
          case measure => first | (simp [intOf]; done) | (simp [intOf]; omega)
        · have hfI : (y : Int) % 5 = 1 := by omega
          obtain ⟨D, HD⟩ : ∃ t, Hid (asB (numF 16 11 x) = t) := ⟨_, Lib.hid rfl⟩
          have hDs : D.size ≤ 11 := by rw [← HD.out, asB_size]; exact numF_len _ _ _
          have HG : Hid (∀ w', Calls Tryd.prog 13 #[.int .u32 (x : Int), .int .u32 16] w' fun e w'' => e = .returned (.string D) ∧ Below w'.heap.size w' w'') := Lib.hid (fun w' => by
            have := digits4_any 16 (by omega) (by omega) 11 x w' (by omega) (by omega) (pow11 16 x (by omega) hx4) hx4
            rwa [HD.out] at this)
          have hz1 : ¬ 9223372036854775807 < S.size + 2 := by omega
          have hz2 : ¬ 9223372036854775807 < S.size + 2 + D.size := by omega
          have HNx : Hid ((S ++ (⟨#[48, 120]⟩ : ByteArray)) ++ D = asB (fP (fun j => l.getD j 0 % 5) (numK x K) (0 + 1))) := Lib.hid (by
            rw [← HD.out, ← HS.out, fP_succ _ _ 0, HY.out, hf, HX.out]
            apply ByteArray.ext
            simp [asB, formF])
          clear hf
          go_wp2_with (go_at_call 13; refine (HG.out _).mono ?_; rintro e w' ⟨rfl, bT⟩)
          go_roundw
          case rel => exact ⟨0 + 1, by omega, rfl, congrArg Value.string HNx.out, Lib.hid (HBr.out.trans (bT.mono HBr.out.size))⟩
          case measure => first | (simp [intOf]; done) | (simp [intOf]; omega)
        · have hfI : (y : Int) % 5 = 2 := by omega
          obtain ⟨D, HD⟩ : ∃ t, Hid (asB (numF 8 11 x) = t) := ⟨_, Lib.hid rfl⟩
          have hDs : D.size ≤ 11 := by rw [← HD.out, asB_size]; exact numF_len _ _ _
          have HG : Hid (∀ w', Calls Tryd.prog 13 #[.int .u32 (x : Int), .int .u32 8] w' fun e w'' => e = .returned (.string D) ∧ Below w'.heap.size w' w'') := Lib.hid (fun w' => by
            have := digits4_any 8 (by omega) (by omega) 11 x w' (by omega) (by omega) (pow11 8 x (by omega) hx4) hx4
            rwa [HD.out] at this)
          have hz1 : ¬ 9223372036854775807 < S.size + 1 := by omega
          have hz2 : ¬ 9223372036854775807 < S.size + 1 + D.size := by omega
          have HNx : Hid ((S ++ (⟨#[48]⟩ : ByteArray)) ++ D = asB (fP (fun j => l.getD j 0 % 5) (numK x K) (0 + 1))) := Lib.hid (by
            rw [← HD.out, ← HS.out, fP_succ _ _ 0, HY.out, hf, HX.out]
            apply ByteArray.ext
            simp [asB, formF])
          clear hf
          go_wp2_with (go_at_call 13; refine (HG.out _).mono ?_; rintro e w' ⟨rfl, bT⟩)
          go_roundw
          case rel => exact ⟨0 + 1, by omega, rfl, congrArg Value.string HNx.out, Lib.hid (HBr.out.trans (bT.mono HBr.out.size))⟩
          case measure => first | (simp [intOf]; done) | (simp [intOf]; omega)
        · have hfI : (y : Int) % 5 = 3 := by omega
          obtain ⟨D, HD⟩ : ∃ t, Hid (asB (numF 16 11 x) = t) := ⟨_, Lib.hid rfl⟩
          have hDs : D.size ≤ 11 := by rw [← HD.out, asB_size]; exact numF_len _ _ _
          have HG : Hid (∀ w', Calls Tryd.prog 13 #[.int .u32 (x : Int), .int .u32 16] w' fun e w'' => e = .returned (.string D) ∧ Below w'.heap.size w' w'') := Lib.hid (fun w' => by
            have := digits4_any 16 (by omega) (by omega) 11 x w' (by omega) (by omega) (pow11 16 x (by omega) hx4) hx4
            rwa [HD.out] at this)
          have hz1 : ¬ 9223372036854775807 < S.size + 5 := by omega
          have hz2 : ¬ 9223372036854775807 < S.size + 5 + D.size := by omega
          have HNx : Hid ((S ++ (⟨#[48, 88, 48, 48, 48]⟩ : ByteArray)) ++ D = asB (fP (fun j => l.getD j 0 % 5) (numK x K) (0 + 1))) := Lib.hid (by
            rw [← HD.out, ← HS.out, fP_succ _ _ 0, HY.out, hf, HX.out]
            apply ByteArray.ext
            simp [asB, formF])
          clear hf
          go_wp2_with (go_at_call 13; refine (HG.out _).mono ?_; rintro e w' ⟨rfl, bT⟩)
          go_roundw
          case rel => exact ⟨0 + 1, by omega, rfl, congrArg Value.string HNx.out, Lib.hid (HBr.out.trans (bT.mono HBr.out.size))⟩
          case measure => first | (simp [intOf]; done) | (simp [intOf]; omega)
        · have hfI : (y : Int) % 5 = 4 := by omega
          obtain ⟨D, HD⟩ : ∃ t, Hid (asB (numF 8 11 x) = t) := ⟨_, Lib.hid rfl⟩
          have hDs : D.size ≤ 11 := by rw [← HD.out, asB_size]; exact numF_len _ _ _
          have HG : Hid (∀ w', Calls Tryd.prog 13 #[.int .u32 (x : Int), .int .u32 8] w' fun e w'' => e = .returned (.string D) ∧ Below w'.heap.size w' w'') := Lib.hid (fun w' => by
            have := digits4_any 8 (by omega) (by omega) 11 x w' (by omega) (by omega) (pow11 8 x (by omega) hx4) hx4
            rwa [HD.out] at this)
          have hz1 : ¬ 9223372036854775807 < S.size + 3 := by omega
          have hz2 : ¬ 9223372036854775807 < S.size + 3 + D.size := by omega
          have HNx : Hid ((S ++ (⟨#[48, 48, 48]⟩ : ByteArray)) ++ D = asB (fP (fun j => l.getD j 0 % 5) (numK x K) (0 + 1))) := Lib.hid (by
            rw [← HD.out, ← HS.out, fP_succ _ _ 0, HY.out, hf, HX.out]
            apply ByteArray.ext
            simp [asB, formF])
          clear hf
          go_wp2_with (go_at_call 13; refine (HG.out _).mono ?_; rintro e w' ⟨rfl, bT⟩)
          go_roundw
          case rel => exact ⟨0 + 1, by omega, rfl, congrArg Value.string HNx.out, Lib.hid (HBr.out.trans (bT.mono HBr.out.size))⟩
          case measure => first | (simp [intOf]; done) | (simp [intOf]; omega)
      · have hy0 : wr.cell? ⟨w.heap.size, 0, none⟩ = some (.int .u8 ((l.getD 0 0 : Nat) : Int)) := by
          rw [HBr.out.cell (p := ⟨w.heap.size, 0, none⟩) (lt_of_block G0.out), cell_of_row _ _ _ _ _ _ G0.out, HBc.out 0 (by omega)]
        obtain ⟨y, HY⟩ : ∃ y, Hid (l.getD 0 0 = y) := ⟨_, Lib.hid rfl⟩
        rw [HY.out] at hy0
        have hy256 : y < 256 := by rw [← HY.out]; exact getD_small HBd.out 0
        obtain ⟨x, HX⟩ : ∃ x, Hid (numK n K 0 = x) := ⟨_, Lib.hid rfl⟩
        have hxv : x = n / 16777216 % 256 := by rw [← HX.out, numK, if_neg (by omega)]
        have hx4 : x < 4294967296 := by omega
        have hx : bits .and .u32 ((n : Int) / 16777216) 255 = (x : Int) := by
          have := and_255 (n / 16777216) (by omega)
          rw [hxv]; exact this
        have hne : ((0 : Int) == (K : Int)) = false := beq_eq_false_iff_ne.2 (by omega)
        clear hxv
        have hSs : S.size ≤ 100 := by rw [← HS.out, asB_size]; exact Nat.le_trans (fP_len _ _ _) (by omega)
        rcases (show y % 5 = 0 ∨ y % 5 = 1 ∨ y % 5 = 2 ∨ y % 5 = 3 ∨ y % 5 = 4 by omega) with hf | hf | hf | hf | hf
        · have hfI : (y : Int) % 5 = 0 := by omega
          obtain ⟨D, HD⟩ : ∃ t, Hid (asB (numF 10 11 x) = t) := ⟨_, Lib.hid rfl⟩
          have hDs : D.size ≤ 11 := by rw [← HD.out, asB_size]; exact numF_len _ _ _
          have HG : Hid (∀ w', Calls Tryd.prog 13 #[.int .u32 (x : Int), .int .u32 10] w' fun e w'' => e = .returned (.string D) ∧ Below w'.heap.size w' w'') := Lib.hid (fun w' => by
            have := digits4_any 10 (by omega) (by omega) 11 x w' (by omega) (by omega) (pow11 10 x (by omega) hx4) hx4
            rwa [HD.out] at this)
          have hz2 : ¬ 9223372036854775807 < S.size + D.size := by omega
          have HNx : Hid (S ++ D = asB (fP (fun j => l.getD j 0 % 5) (numK n K) (0 + 1))) := Lib.hid (by
            rw [← HD.out, ← HS.out, fP_succ _ _ 0, HY.out, hf, HX.out]
            apply ByteArray.ext
            simp [asB, formF])
          clear hf
          go_wp2_with (go_at_call 13; refine (HG.out _).mono ?_; rintro e w' ⟨rfl, bT⟩)
          go_roundw
          case rel => exact ⟨0 + 1, by omega, rfl, congrArg Value.string HNx.out, Lib.hid (HBr.out.trans (bT.mono HBr.out.size))⟩
          case measure => first | (simp [intOf]; done) | (simp [intOf]; omega)
        · have hfI : (y : Int) % 5 = 1 := by omega
          obtain ⟨D, HD⟩ : ∃ t, Hid (asB (numF 16 11 x) = t) := ⟨_, Lib.hid rfl⟩
          have hDs : D.size ≤ 11 := by rw [← HD.out, asB_size]; exact numF_len _ _ _
          have HG : Hid (∀ w', Calls Tryd.prog 13 #[.int .u32 (x : Int), .int .u32 16] w' fun e w'' => e = .returned (.string D) ∧ Below w'.heap.size w' w'') := Lib.hid (fun w' => by
            have := digits4_any 16 (by omega) (by omega) 11 x w' (by omega) (by omega) (pow11 16 x (by omega) hx4) hx4
            rwa [HD.out] at this)
          have hz1 : ¬ 9223372036854775807 < S.size + 2 := by omega
          have hz2 : ¬ 9223372036854775807 < S.size + 2 + D.size := by omega
          have HNx : Hid ((S ++ (⟨#[48, 120]⟩ : ByteArray)) ++ D = asB (fP (fun j => l.getD j 0 % 5) (numK n K) (0 + 1))) := Lib.hid (by
            rw [← HD.out, ← HS.out, fP_succ _ _ 0, HY.out, hf, HX.out]
            apply ByteArray.ext
            simp [asB, formF])
          clear hf
          go_wp2_with (go_at_call 13; refine (HG.out _).mono ?_; rintro e w' ⟨rfl, bT⟩)
          go_roundw
          case rel => exact ⟨0 + 1, by omega, rfl, congrArg Value.string HNx.out, Lib.hid (HBr.out.trans (bT.mono HBr.out.size))⟩
          case measure => first | (simp [intOf]; done) | (simp [intOf]; omega)
        · have hfI : (y : Int) % 5 = 2 := by omega
          obtain ⟨D, HD⟩ : ∃ t, Hid (asB (numF 8 11 x) = t) := ⟨_, Lib.hid rfl⟩
          have hDs : D.size ≤ 11 := by rw [← HD.out, asB_size]; exact numF_len _ _ _
          have HG : Hid (∀ w', Calls Tryd.prog 13 #[.int .u32 (x : Int), .int .u32 8] w' fun e w'' => e = .returned (.string D) ∧ Below w'.heap.size w' w'') := Lib.hid (fun w' => by
            have := digits4_any 8 (by omega) (by omega) 11 x w' (by omega) (by omega) (pow11 8 x (by omega) hx4) hx4
            rwa [HD.out] at this)
          have hz1 : ¬ 9223372036854775807 < S.size + 1 := by omega
          have hz2 : ¬ 9223372036854775807 < S.size + 1 + D.size := by omega
          have HNx : Hid ((S ++ (⟨#[48]⟩ : ByteArray)) ++ D = asB (fP (fun j => l.getD j 0 % 5) (numK n K) (0 + 1))) := Lib.hid (by
            rw [← HD.out, ← HS.out, fP_succ _ _ 0, HY.out, hf, HX.out]
            apply ByteArray.ext
            simp [asB, formF])
          clear hf
          go_wp2_with (go_at_call 13; refine (HG.out _).mono ?_; rintro e w' ⟨rfl, bT⟩)
          go_roundw
          case rel => exact ⟨0 + 1, by omega, rfl, congrArg Value.string HNx.out, Lib.hid (HBr.out.trans (bT.mono HBr.out.size))⟩
          case measure => first | (simp [intOf]; done) | (simp [intOf]; omega)
        · have hfI : (y : Int) % 5 = 3 := by omega
          obtain ⟨D, HD⟩ : ∃ t, Hid (asB (numF 16 11 x) = t) := ⟨_, Lib.hid rfl⟩
          have hDs : D.size ≤ 11 := by rw [← HD.out, asB_size]; exact numF_len _ _ _
          have HG : Hid (∀ w', Calls Tryd.prog 13 #[.int .u32 (x : Int), .int .u32 16] w' fun e w'' => e = .returned (.string D) ∧ Below w'.heap.size w' w'') := Lib.hid (fun w' => by
            have := digits4_any 16 (by omega) (by omega) 11 x w' (by omega) (by omega) (pow11 16 x (by omega) hx4) hx4
            rwa [HD.out] at this)
          have hz1 : ¬ 9223372036854775807 < S.size + 5 := by omega
          have hz2 : ¬ 9223372036854775807 < S.size + 5 + D.size := by omega
          have HNx : Hid ((S ++ (⟨#[48, 88, 48, 48, 48]⟩ : ByteArray)) ++ D = asB (fP (fun j => l.getD j 0 % 5) (numK n K) (0 + 1))) := Lib.hid (by
            rw [← HD.out, ← HS.out, fP_succ _ _ 0, HY.out, hf, HX.out]
            apply ByteArray.ext
            simp [asB, formF])
          clear hf
          go_wp2_with (go_at_call 13; refine (HG.out _).mono ?_; rintro e w' ⟨rfl, bT⟩)
          go_roundw
          case rel => exact ⟨0 + 1, by omega, rfl, congrArg Value.string HNx.out, Lib.hid (HBr.out.trans (bT.mono HBr.out.size))⟩
          case measure => first | (simp [intOf]; done) | (simp [intOf]; omega)
        · have hfI : (y : Int) % 5 = 4 := by omega
          obtain ⟨D, HD⟩ : ∃ t, Hid (asB (numF 8 11 x) = t) := ⟨_, Lib.hid rfl⟩
          have hDs : D.size ≤ 11 := by rw [← HD.out, asB_size]; exact numF_len _ _ _
          have HG : Hid (∀ w', Calls Tryd.prog 13 #[.int .u32 (x : Int), .int .u32 8] w' fun e w'' => e = .returned (.string D) ∧ Below w'.heap.size w' w'') := Lib.hid (fun w' => by
            have := digits4_any 8 (by omega) (by omega) 11 x w' (by omega) (by omega) (pow11 8 x (by omega) hx4) hx4
            rwa [HD.out] at this)
          have hz1 : ¬ 9223372036854775807 < S.size + 3 := by omega
          have hz2 : ¬ 9223372036854775807 < S.size + 3 + D.size := by omega
          have HNx : Hid ((S ++ (⟨#[48, 48, 48]⟩ : ByteArray)) ++ D = asB (fP (fun j => l.getD j 0 % 5) (numK n K) (0 + 1))) := Lib.hid (by
            rw [← HD.out, ← HS.out, fP_succ _ _ 0, HY.out, hf, HX.out]
            apply ByteArray.ext
            simp [asB, formF])
          clear hf
          go_wp2_with (go_at_call 13; refine (HG.out _).mono ?_; rintro e w' ⟨rfl, bT⟩)
          go_roundw
          case rel => exact ⟨0 + 1, by omega, rfl, congrArg Value.string HNx.out, Lib.hid (HBr.out.trans (bT.mono HBr.out.size))⟩
          case measure => first | (simp [intOf]; done) | (simp [intOf]; omega)
      · have hy1 : wr.cell? ⟨w.heap.size, 1, none⟩ = some (.int .u8 ((l.getD 1 0 : Nat) : Int)) := by
          rw [HBr.out.cell (p := ⟨w.heap.size, 1, none⟩) (lt_of_block G0.out), cell_of_row _ _ _ _ _ _ G0.out, HBc.out 1 (by omega)]
        obtain ⟨y, HY⟩ : ∃ y, Hid (l.getD 1 0 = y) := ⟨_, Lib.hid rfl⟩
        rw [HY.out] at hy1
        have hy256 : y < 256 := by rw [← HY.out]; exact getD_small HBd.out 1
        obtain ⟨x, HX⟩ : ∃ x, Hid (numK n K 1 = x) := ⟨_, Lib.hid rfl⟩
        have hx4 : x < 4294967296 := by rw [← HX.out]; exact numK_lt n K 1 (by omega)
        have hx : (n : Int) * 256 % 4294967296 / 256 = (x : Int) := by rw [← HX.out, numK, if_pos hK.symm, hK]; omega
        have hne : ((1 : Int) == (K : Int)) = true := beq_iff_eq.2 (by omega)
        have HKv := Lib.hid hK
        clear hK
        have hSs : S.size ≤ 100 := by rw [← HS.out, asB_size]; exact Nat.le_trans (fP_len _ _ _) (by omega)
        have hz0 : ¬ 9223372036854775807 < S.size + 1 := by omega
        rcases (show y % 5 = 0 ∨ y % 5 = 1 ∨ y % 5 = 2 ∨ y % 5 = 3 ∨ y % 5 = 4 by omega) with hf | hf | hf | hf | hf
        · have hfI : (y : Int) % 5 = 0 := by omega
          obtain ⟨D, HD⟩ : ∃ t, Hid (asB (numF 10 11 x) = t) := ⟨_, Lib.hid rfl⟩
          have hDs : D.size ≤ 11 := by rw [← HD.out, asB_size]; exact numF_len _ _ _
          have HG : Hid (∀ w', Calls Tryd.prog 13 #[.int .u32 (x : Int), .int .u32 10] w' fun e w'' => e = .returned (.string D) ∧ Below w'.heap.size w' w'') := Lib.hid (fun w' => by
            have := digits4_any 10 (by omega) (by omega) 11 x w' (by omega) (by omega) (pow11 10 x (by omega) hx4) hx4
            rwa [HD.out] at this)
          have hz2 : ¬ 9223372036854775807 < S.size + 1 + D.size := by omega
          have HNx : Hid ((S ++ (⟨#[46]⟩ : ByteArray)) ++ D = asB (fP (fun j => l.getD j 0 % 5) (numK n K) (1 + 1))) := Lib.hid (by
            rw [← HD.out, ← HS.out, fP_succ _ _ 1, HY.out, hf, HX.out]
            apply ByteArray.ext
            simp [asB, formF])
          clear hf
          go_wp2_with (go_at_call 13; refine (HG.out _).mono ?_; rintro e w' ⟨rfl, bT⟩)
          go_roundw
          case rel => exact ⟨1 + 1, by omega, rfl, congrArg Value.string HNx.out, Lib.hid (HBr.out.trans (bT.mono HBr.out.size))⟩
          case measure => first | (simp [intOf]; done) | (simp [intOf]; omega)
        · have hfI : (y : Int) % 5 = 1 := by omega
          obtain ⟨D, HD⟩ : ∃ t, Hid (asB (numF 16 11 x) = t) := ⟨_, Lib.hid rfl⟩
          have hDs : D.size ≤ 11 := by rw [← HD.out, asB_size]; exact numF_len _ _ _
          have HG : Hid (∀ w', Calls Tryd.prog 13 #[.int .u32 (x : Int), .int .u32 16] w' fun e w'' => e = .returned (.string D) ∧ Below w'.heap.size w' w'') := Lib.hid (fun w' => by
            have := digits4_any 16 (by omega) (by omega) 11 x w' (by omega) (by omega) (pow11 16 x (by omega) hx4) hx4
            rwa [HD.out] at this)
          have hz1 : ¬ 9223372036854775807 < S.size + 1 + 2 := by omega
          have hz2 : ¬ 9223372036854775807 < S.size + 1 + 2 + D.size := by omega
          have HNx : Hid (((S ++ (⟨#[46]⟩ : ByteArray)) ++ (⟨#[48, 120]⟩ : ByteArray)) ++ D = asB (fP (fun j => l.getD j 0 % 5) (numK n K) (1 + 1))) := Lib.hid (by
            rw [← HD.out, ← HS.out, fP_succ _ _ 1, HY.out, hf, HX.out]
            apply ByteArray.ext
            simp [asB, formF])
          clear hf
          go_wp2_with (go_at_call 13; refine (HG.out _).mono ?_; rintro e w' ⟨rfl, bT⟩)
          go_roundw
          case rel => exact ⟨1 + 1, by omega, rfl, congrArg Value.string HNx.out, Lib.hid (HBr.out.trans (bT.mono HBr.out.size))⟩
          case measure => first | (simp [intOf]; done) | (simp [intOf]; omega)
        · have hfI : (y : Int) % 5 = 2 := by omega
          obtain ⟨D, HD⟩ : ∃ t, Hid (asB (numF 8 11 x) = t) := ⟨_, Lib.hid rfl⟩
          have hDs : D.size ≤ 11 := by rw [← HD.out, asB_size]; exact numF_len _ _ _
          have HG : Hid (∀ w', Calls Tryd.prog 13 #[.int .u32 (x : Int), .int .u32 8] w' fun e w'' => e = .returned (.string D) ∧ Below w'.heap.size w' w'') := Lib.hid (fun w' => by
            have := digits4_any 8 (by omega) (by omega) 11 x w' (by omega) (by omega) (pow11 8 x (by omega) hx4) hx4
            rwa [HD.out] at this)
          have hz1 : ¬ 9223372036854775807 < S.size + 1 + 1 := by omega
          have hz2 : ¬ 9223372036854775807 < S.size + 1 + 1 + D.size := by omega
          have HNx : Hid (((S ++ (⟨#[46]⟩ : ByteArray)) ++ (⟨#[48]⟩ : ByteArray)) ++ D = asB (fP (fun j => l.getD j 0 % 5) (numK n K) (1 + 1))) := Lib.hid (by
            rw [← HD.out, ← HS.out, fP_succ _ _ 1, HY.out, hf, HX.out]
            apply ByteArray.ext
            simp [asB, formF])
          clear hf
          go_wp2_with (go_at_call 13; refine (HG.out _).mono ?_; rintro e w' ⟨rfl, bT⟩)
          go_roundw
          case rel => exact ⟨1 + 1, by omega, rfl, congrArg Value.string HNx.out, Lib.hid (HBr.out.trans (bT.mono HBr.out.size))⟩
          case measure => first | (simp [intOf]; done) | (simp [intOf]; omega)
        · have hfI : (y : Int) % 5 = 3 := by omega
          obtain ⟨D, HD⟩ : ∃ t, Hid (asB (numF 16 11 x) = t) := ⟨_, Lib.hid rfl⟩
          have hDs : D.size ≤ 11 := by rw [← HD.out, asB_size]; exact numF_len _ _ _
          have HG : Hid (∀ w', Calls Tryd.prog 13 #[.int .u32 (x : Int), .int .u32 16] w' fun e w'' => e = .returned (.string D) ∧ Below w'.heap.size w' w'') := Lib.hid (fun w' => by
            have := digits4_any 16 (by omega) (by omega) 11 x w' (by omega) (by omega) (pow11 16 x (by omega) hx4) hx4
            rwa [HD.out] at this)
          have hz1 : ¬ 9223372036854775807 < S.size + 1 + 5 := by omega
          have hz2 : ¬ 9223372036854775807 < S.size + 1 + 5 + D.size := by omega
          have HNx : Hid (((S ++ (⟨#[46]⟩ : ByteArray)) ++ (⟨#[48, 88, 48, 48, 48]⟩ : ByteArray)) ++ D = asB (fP (fun j => l.getD j 0 % 5) (numK n K) (1 + 1))) := Lib.hid (by
            rw [← HD.out, ← HS.out, fP_succ _ _ 1, HY.out, hf, HX.out]
            apply ByteArray.ext
            simp [asB, formF])
          clear hf
          go_wp2_with (go_at_call 13; refine (HG.out _).mono ?_; rintro e w' ⟨rfl, bT⟩)
          go_roundw
          case rel => exact ⟨1 + 1, by omega, rfl, congrArg Value.string HNx.out, Lib.hid (HBr.out.trans (bT.mono HBr.out.size))⟩
          case measure => first | (simp [intOf]; done) | (simp [intOf]; omega)
        · have hfI : (y : Int) % 5 = 4 := by omega
          obtain ⟨D, HD⟩ : ∃ t, Hid (asB (numF 8 11 x) = t) := ⟨_, Lib.hid rfl⟩
          have hDs : D.size ≤ 11 := by rw [← HD.out, asB_size]; exact numF_len _ _ _
          have HG : Hid (∀ w', Calls Tryd.prog 13 #[.int .u32 (x : Int), .int .u32 8] w' fun e w'' => e = .returned (.string D) ∧ Below w'.heap.size w' w'') := Lib.hid (fun w' => by
            have := digits4_any 8 (by omega) (by omega) 11 x w' (by omega) (by omega) (pow11 8 x (by omega) hx4) hx4
            rwa [HD.out] at this)
          have hz1 : ¬ 9223372036854775807 < S.size + 1 + 3 := by omega
          have hz2 : ¬ 9223372036854775807 < S.size + 1 + 3 + D.size := by omega
          have HNx : Hid (((S ++ (⟨#[46]⟩ : ByteArray)) ++ (⟨#[48, 48, 48]⟩ : ByteArray)) ++ D = asB (fP (fun j => l.getD j 0 % 5) (numK n K) (1 + 1))) := Lib.hid (by
            rw [← HD.out, ← HS.out, fP_succ _ _ 1, HY.out, hf, HX.out]
            apply ByteArray.ext
            simp [asB, formF])
          clear hf
          go_wp2_with (go_at_call 13; refine (HG.out _).mono ?_; rintro e w' ⟨rfl, bT⟩)
          go_roundw
          case rel => exact ⟨1 + 1, by omega, rfl, congrArg Value.string HNx.out, Lib.hid (HBr.out.trans (bT.mono HBr.out.size))⟩
          case measure => first | (simp [intOf]; done) | (simp [intOf]; omega)
      · have hy1 : wr.cell? ⟨w.heap.size, 1, none⟩ = some (.int .u8 ((l.getD 1 0 : Nat) : Int)) := by
          rw [HBr.out.cell (p := ⟨w.heap.size, 1, none⟩) (lt_of_block G0.out), cell_of_row _ _ _ _ _ _ G0.out, HBc.out 1 (by omega)]
        obtain ⟨y, HY⟩ : ∃ y, Hid (l.getD 1 0 = y) := ⟨_, Lib.hid rfl⟩
        rw [HY.out] at hy1
        have hy256 : y < 256 := by rw [← HY.out]; exact getD_small HBd.out 1
        obtain ⟨x, HX⟩ : ∃ x, Hid (numK n K 1 = x) := ⟨_, Lib.hid rfl⟩
        have hxv : x = n / 65536 % 256 := by rw [← HX.out, numK, if_neg (by omega)]
        have hx4 : x < 4294967296 := by omega
        have hx : bits .and .u32 ((n : Int) / 65536) 255 = (x : Int) := by
          have := and_255 (n / 65536) (by omega)
          rw [hxv]; exact this
        have hne : ((1 : Int) == (K : Int)) = false := beq_eq_false_iff_ne.2 (by omega)
        clear hxv
        have hSs : S.size ≤ 100 := by rw [← HS.out, asB_size]; exact Nat.le_trans (fP_len _ _ _) (by omega)
        have hz0 : ¬ 9223372036854775807 < S.size + 1 := by omega
        rcases (show y % 5 = 0 ∨ y % 5 = 1 ∨ y % 5 = 2 ∨ y % 5 = 3 ∨ y % 5 = 4 by omega) with hf | hf | hf | hf | hf
        · have hfI : (y : Int) % 5 = 0 := by omega
          obtain ⟨D, HD⟩ : ∃ t, Hid (asB (numF 10 11 x) = t) := ⟨_, Lib.hid rfl⟩
          have hDs : D.size ≤ 11 := by rw [← HD.out, asB_size]; exact numF_len _ _ _
          have HG : Hid (∀ w', Calls Tryd.prog 13 #[.int .u32 (x : Int), .int .u32 10] w' fun e w'' => e = .returned (.string D) ∧ Below w'.heap.size w' w'') := Lib.hid (fun w' => by
            have := digits4_any 10 (by omega) (by omega) 11 x w' (by omega) (by omega) (pow11 10 x (by omega) hx4) hx4
            rwa [HD.out] at this)
          have hz2 : ¬ 9223372036854775807 < S.size + 1 + D.size := by omega
          have HNx : Hid ((S ++ (⟨#[46]⟩ : ByteArray)) ++ D = asB (fP (fun j => l.getD j 0 % 5) (numK n K) (1 + 1))) := Lib.hid (by
            rw [← HD.out, ← HS.out, fP_succ _ _ 1, HY.out, hf, HX.out]
            apply ByteArray.ext
            simp [asB, formF])
          clear hf
          go_wp2_with (go_at_call 13; refine (HG.out _).mono ?_; rintro e w' ⟨rfl, bT⟩)
          go_roundw
          case rel => exact ⟨1 + 1, by omega, rfl, congrArg Value.string HNx.out, Lib.hid (HBr.out.trans (bT.mono HBr.out.size))⟩
          case measure => first | (simp [intOf]; done) | (simp [intOf]; omega)
        · have hfI : (y : Int) % 5 = 1 := by omega
          obtain ⟨D, HD⟩ : ∃ t, Hid (asB (numF 16 11 x) = t) := ⟨_, Lib.hid rfl⟩
          have hDs : D.size ≤ 11 := by rw [← HD.out, asB_size]; exact numF_len _ _ _
          have HG : Hid (∀ w', Calls Tryd.prog 13 #[.int .u32 (x : Int), .int .u32 16] w' fun e w'' => e = .returned (.string D) ∧ Below w'.heap.size w' w'') := Lib.hid (fun w' => by
            have := digits4_any 16 (by omega) (by omega) 11 x w' (by omega) (by omega) (pow11 16 x (by omega) hx4) hx4
            rwa [HD.out] at this)
          have hz1 : ¬ 9223372036854775807 < S.size + 1 + 2 := by omega
          have hz2 : ¬ 9223372036854775807 < S.size + 1 + 2 + D.size := by omega
          have HNx : Hid (((S ++ (⟨#[46]⟩ : ByteArray)) ++ (⟨#[48, 120]⟩ : ByteArray)) ++ D = asB (fP (fun j => l.getD j 0 % 5) (numK n K) (1 + 1))) := Lib.hid (by
            rw [← HD.out, ← HS.out, fP_succ _ _ 1, HY.out, hf, HX.out]
            apply ByteArray.ext
            simp [asB, formF])
          clear hf
          go_wp2_with (go_at_call 13; refine (HG.out _).mono ?_; rintro e w' ⟨rfl, bT⟩)
          go_roundw
          case rel => exact ⟨1 + 1, by omega, rfl, congrArg Value.string HNx.out, Lib.hid (HBr.out.trans (bT.mono HBr.out.size))⟩
          case measure => first | (simp [intOf]; done) | (simp [intOf]; omega)
        · have hfI : (y : Int) % 5 = 2 := by omega
          obtain ⟨D, HD⟩ : ∃ t, Hid (asB (numF 8 11 x) = t) := ⟨_, Lib.hid rfl⟩
          have hDs : D.size ≤ 11 := by rw [← HD.out, asB_size]; exact numF_len _ _ _
          have HG : Hid (∀ w', Calls Tryd.prog 13 #[.int .u32 (x : Int), .int .u32 8] w' fun e w'' => e = .returned (.string D) ∧ Below w'.heap.size w' w'') := Lib.hid (fun w' => by
            have := digits4_any 8 (by omega) (by omega) 11 x w' (by omega) (by omega) (pow11 8 x (by omega) hx4) hx4
            rwa [HD.out] at this)
          have hz1 : ¬ 9223372036854775807 < S.size + 1 + 1 := by omega
          have hz2 : ¬ 9223372036854775807 < S.size + 1 + 1 + D.size := by omega
          have HNx : Hid (((S ++ (⟨#[46]⟩ : ByteArray)) ++ (⟨#[48]⟩ : ByteArray)) ++ D = asB (fP (fun j => l.getD j 0 % 5) (numK n K) (1 + 1))) := Lib.hid (by
            rw [← HD.out, ← HS.out, fP_succ _ _ 1, HY.out, hf, HX.out]
            apply ByteArray.ext
            simp [asB, formF])
          clear hf
          go_wp2_with (go_at_call 13; refine (HG.out _).mono ?_; rintro e w' ⟨rfl, bT⟩)
          go_roundw
          case rel => exact ⟨1 + 1, by omega, rfl, congrArg Value.string HNx.out, Lib.hid (HBr.out.trans (bT.mono HBr.out.size))⟩
          case measure => first | (simp [intOf]; done) | (simp [intOf]; omega)
        · have hfI : (y : Int) % 5 = 3 := by omega
          obtain ⟨D, HD⟩ : ∃ t, Hid (asB (numF 16 11 x) = t) := ⟨_, Lib.hid rfl⟩
          have hDs : D.size ≤ 11 := by rw [← HD.out, asB_size]; exact numF_len _ _ _
          have HG : Hid (∀ w', Calls Tryd.prog 13 #[.int .u32 (x : Int), .int .u32 16] w' fun e w'' => e = .returned (.string D) ∧ Below w'.heap.size w' w'') := Lib.hid (fun w' => by
            have := digits4_any 16 (by omega) (by omega) 11 x w' (by omega) (by omega) (pow11 16 x (by omega) hx4) hx4
            rwa [HD.out] at this)
          have hz1 : ¬ 9223372036854775807 < S.size + 1 + 5 := by omega
          have hz2 : ¬ 9223372036854775807 < S.size + 1 + 5 + D.size := by omega
          have HNx : Hid (((S ++ (⟨#[46]⟩ : ByteArray)) ++ (⟨#[48, 88, 48, 48, 48]⟩ : ByteArray)) ++ D = asB (fP (fun j => l.getD j 0 % 5) (numK n K) (1 + 1))) := Lib.hid (by
            rw [← HD.out, ← HS.out, fP_succ _ _ 1, HY.out, hf, HX.out]
            apply ByteArray.ext
            simp [asB, formF])
          clear hf
          go_wp2_with (go_at_call 13; refine (HG.out _).mono ?_; rintro e w' ⟨rfl, bT⟩)
          go_roundw
          case rel => exact ⟨1 + 1, by omega, rfl, congrArg Value.string HNx.out, Lib.hid (HBr.out.trans (bT.mono HBr.out.size))⟩
          case measure => first | (simp [intOf]; done) | (simp [intOf]; omega)
        · have hfI : (y : Int) % 5 = 4 := by omega
          obtain ⟨D, HD⟩ : ∃ t, Hid (asB (numF 8 11 x) = t) := ⟨_, Lib.hid rfl⟩
          have hDs : D.size ≤ 11 := by rw [← HD.out, asB_size]; exact numF_len _ _ _
          have HG : Hid (∀ w', Calls Tryd.prog 13 #[.int .u32 (x : Int), .int .u32 8] w' fun e w'' => e = .returned (.string D) ∧ Below w'.heap.size w' w'') := Lib.hid (fun w' => by
            have := digits4_any 8 (by omega) (by omega) 11 x w' (by omega) (by omega) (pow11 8 x (by omega) hx4) hx4
            rwa [HD.out] at this)
          have hz1 : ¬ 9223372036854775807 < S.size + 1 + 3 := by omega
          have hz2 : ¬ 9223372036854775807 < S.size + 1 + 3 + D.size := by omega
          have HNx : Hid (((S ++ (⟨#[46]⟩ : ByteArray)) ++ (⟨#[48, 48, 48]⟩ : ByteArray)) ++ D = asB (fP (fun j => l.getD j 0 % 5) (numK n K) (1 + 1))) := Lib.hid (by
            rw [← HD.out, ← HS.out, fP_succ _ _ 1, HY.out, hf, HX.out]
            apply ByteArray.ext
            simp [asB, formF])
          clear hf
          go_wp2_with (go_at_call 13; refine (HG.out _).mono ?_; rintro e w' ⟨rfl, bT⟩)
          go_roundw
          case rel => exact ⟨1 + 1, by omega, rfl, congrArg Value.string HNx.out, Lib.hid (HBr.out.trans (bT.mono HBr.out.size))⟩
          case measure => first | (simp [intOf]; done) | (simp [intOf]; omega)
      · have hy2 : wr.cell? ⟨w.heap.size, 2, none⟩ = some (.int .u8 ((l.getD 2 0 : Nat) : Int)) := by
          rw [HBr.out.cell (p := ⟨w.heap.size, 2, none⟩) (lt_of_block G0.out), cell_of_row _ _ _ _ _ _ G0.out, HBc.out 2 (by omega)]
        obtain ⟨y, HY⟩ : ∃ y, Hid (l.getD 2 0 = y) := ⟨_, Lib.hid rfl⟩
        rw [HY.out] at hy2
        have hy256 : y < 256 := by rw [← HY.out]; exact getD_small HBd.out 2
        obtain ⟨x, HX⟩ : ∃ x, Hid (numK n K 2 = x) := ⟨_, Lib.hid rfl⟩
        have hx4 : x < 4294967296 := by rw [← HX.out]; exact numK_lt n K 2 (by omega)
        have hx : (n : Int) * 65536 % 4294967296 / 65536 = (x : Int) := by rw [← HX.out, numK, if_pos hK.symm, hK]; omega
        have hne : ((2 : Int) == (K : Int)) = true := beq_iff_eq.2 (by omega)
        have HKv := Lib.hid hK
        clear hK
        have hSs : S.size ≤ 100 := by rw [← HS.out, asB_size]; exact Nat.le_trans (fP_len _ _ _) (by omega)
        have hz0 : ¬ 9223372036854775807 < S.size + 1 := by omega
        rcases (show y % 5 = 0 ∨ y % 5 = 1 ∨ y % 5 = 2 ∨ y % 5 = 3 ∨ y % 5 = 4 by omega) with hf | hf | hf | hf | hf
        · have hfI : (y : Int) % 5 = 0 := by omega
          obtain ⟨D, HD⟩ : ∃ t, Hid (asB (numF 10 11 x) = t) := ⟨_, Lib.hid rfl⟩
          have hDs : D.size ≤ 11 := by rw [← HD.out, asB_size]; exact numF_len _ _ _
          have HG : Hid (∀ w', Calls Tryd.prog 13 #[.int .u32 (x : Int), .int .u32 10] w' fun e w'' => e = .returned (.string D) ∧ Below w'.heap.size w' w'') := Lib.hid (fun w' => by
            have := digits4_any 10 (by omega) (by omega) 11 x w' (by omega) (by omega) (pow11 10 x (by omega) hx4) hx4
            rwa [HD.out] at this)
          have hz2 : ¬ 9223372036854775807 < S.size + 1 + D.size := by omega
          have HNx : Hid ((S ++ (⟨#[46]⟩ : ByteArray)) ++ D = asB (fP (fun j => l.getD j 0 % 5) (numK n K) (2 + 1))) := Lib.hid (by
            rw [← HD.out, ← HS.out, fP_succ _ _ 2, HY.out, hf, HX.out]
            apply ByteArray.ext
            simp [asB, formF])
          clear hf
          go_wp2_with (go_at_call 13; refine (HG.out _).mono ?_; rintro e w' ⟨rfl, bT⟩)
          go_roundw
          case rel => exact ⟨2 + 1, by omega, rfl, congrArg Value.string HNx.out, Lib.hid (HBr.out.trans (bT.mono HBr.out.size))⟩
          case measure => first | (simp [intOf]; done) | (simp [intOf]; omega)
        · have hfI : (y : Int) % 5 = 1 := by omega
          obtain ⟨D, HD⟩ : ∃ t, Hid (asB (numF 16 11 x) = t) := ⟨_, Lib.hid rfl⟩
          have hDs : D.size ≤ 11 := by rw [← HD.out, asB_size]; exact numF_len _ _ _
          have HG : Hid (∀ w', Calls Tryd.prog 13 #[.int .u32 (x : Int), .int .u32 16] w' fun e w'' => e = .returned (.string D) ∧ Below w'.heap.size w' w'') := Lib.hid (fun w' => by
            have := digits4_any 16 (by omega) (by omega) 11 x w' (by omega) (by omega) (pow11 16 x (by omega) hx4) hx4
            rwa [HD.out] at this)
          have hz1 : ¬ 9223372036854775807 < S.size + 1 + 2 := by omega
          have hz2 : ¬ 9223372036854775807 < S.size + 1 + 2 + D.size := by omega
          have HNx : Hid (((S ++ (⟨#[46]⟩ : ByteArray)) ++ (⟨#[48, 120]⟩ : ByteArray)) ++ D = asB (fP (fun j => l.getD j 0 % 5) (numK n K) (2 + 1))) := Lib.hid (by
            rw [← HD.out, ← HS.out, fP_succ _ _ 2, HY.out, hf, HX.out]
            apply ByteArray.ext
            simp [asB, formF])
          clear hf
          go_wp2_with (go_at_call 13; refine (HG.out _).mono ?_; rintro e w' ⟨rfl, bT⟩)
          go_roundw
          case rel => exact ⟨2 + 1, by omega, rfl, congrArg Value.string HNx.out, Lib.hid (HBr.out.trans (bT.mono HBr.out.size))⟩
          case measure => first | (simp [intOf]; done) | (simp [intOf]; omega)
        · have hfI : (y : Int) % 5 = 2 := by omega
          obtain ⟨D, HD⟩ : ∃ t, Hid (asB (numF 8 11 x) = t) := ⟨_, Lib.hid rfl⟩
          have hDs : D.size ≤ 11 := by rw [← HD.out, asB_size]; exact numF_len _ _ _
          have HG : Hid (∀ w', Calls Tryd.prog 13 #[.int .u32 (x : Int), .int .u32 8] w' fun e w'' => e = .returned (.string D) ∧ Below w'.heap.size w' w'') := Lib.hid (fun w' => by
            have := digits4_any 8 (by omega) (by omega) 11 x w' (by omega) (by omega) (pow11 8 x (by omega) hx4) hx4
            rwa [HD.out] at this)
          have hz1 : ¬ 9223372036854775807 < S.size + 1 + 1 := by omega
          have hz2 : ¬ 9223372036854775807 < S.size + 1 + 1 + D.size := by omega
          have HNx : Hid (((S ++ (⟨#[46]⟩ : ByteArray)) ++ (⟨#[48]⟩ : ByteArray)) ++ D = asB (fP (fun j => l.getD j 0 % 5) (numK n K) (2 + 1))) := Lib.hid (by
            rw [← HD.out, ← HS.out, fP_succ _ _ 2, HY.out, hf, HX.out]
            apply ByteArray.ext
            simp [asB, formF])
          clear hf
          go_wp2_with (go_at_call 13; refine (HG.out _).mono ?_; rintro e w' ⟨rfl, bT⟩)
          go_roundw
          case rel => exact ⟨2 + 1, by omega, rfl, congrArg Value.string HNx.out, Lib.hid (HBr.out.trans (bT.mono HBr.out.size))⟩
          case measure => first | (simp [intOf]; done) | (simp [intOf]; omega)
        · have hfI : (y : Int) % 5 = 3 := by omega
          obtain ⟨D, HD⟩ : ∃ t, Hid (asB (numF 16 11 x) = t) := ⟨_, Lib.hid rfl⟩
          have hDs : D.size ≤ 11 := by rw [← HD.out, asB_size]; exact numF_len _ _ _
          have HG : Hid (∀ w', Calls Tryd.prog 13 #[.int .u32 (x : Int), .int .u32 16] w' fun e w'' => e = .returned (.string D) ∧ Below w'.heap.size w' w'') := Lib.hid (fun w' => by
            have := digits4_any 16 (by omega) (by omega) 11 x w' (by omega) (by omega) (pow11 16 x (by omega) hx4) hx4
            rwa [HD.out] at this)
          have hz1 : ¬ 9223372036854775807 < S.size + 1 + 5 := by omega
          have hz2 : ¬ 9223372036854775807 < S.size + 1 + 5 + D.size := by omega
          have HNx : Hid (((S ++ (⟨#[46]⟩ : ByteArray)) ++ (⟨#[48, 88, 48, 48, 48]⟩ : ByteArray)) ++ D = asB (fP (fun j => l.getD j 0 % 5) (numK n K) (2 + 1))) := Lib.hid (by
            rw [← HD.out, ← HS.out, fP_succ _ _ 2, HY.out, hf, HX.out]
            apply ByteArray.ext
            simp [asB, formF])
          clear hf
          go_wp2_with (go_at_call 13; refine (HG.out _).mono ?_; rintro e w' ⟨rfl, bT⟩)
          go_roundw
          case rel => exact ⟨2 + 1, by omega, rfl, congrArg Value.string HNx.out, Lib.hid (HBr.out.trans (bT.mono HBr.out.size))⟩
          case measure => first | (simp [intOf]; done) | (simp [intOf]; omega)
        · have hfI : (y : Int) % 5 = 4 := by omega
          obtain ⟨D, HD⟩ : ∃ t, Hid (asB (numF 8 11 x) = t) := ⟨_, Lib.hid rfl⟩
          have hDs : D.size ≤ 11 := by rw [← HD.out, asB_size]; exact numF_len _ _ _
          have HG : Hid (∀ w', Calls Tryd.prog 13 #[.int .u32 (x : Int), .int .u32 8] w' fun e w'' => e = .returned (.string D) ∧ Below w'.heap.size w' w'') := Lib.hid (fun w' => by
            have := digits4_any 8 (by omega) (by omega) 11 x w' (by omega) (by omega) (pow11 8 x (by omega) hx4) hx4
            rwa [HD.out] at this)
          have hz1 : ¬ 9223372036854775807 < S.size + 1 + 3 := by omega
          have hz2 : ¬ 9223372036854775807 < S.size + 1 + 3 + D.size := by omega
          have HNx : Hid (((S ++ (⟨#[46]⟩ : ByteArray)) ++ (⟨#[48, 48, 48]⟩ : ByteArray)) ++ D = asB (fP (fun j => l.getD j 0 % 5) (numK n K) (2 + 1))) := Lib.hid (by
            rw [← HD.out, ← HS.out, fP_succ _ _ 2, HY.out, hf, HX.out]
            apply ByteArray.ext
            simp [asB, formF])
          clear hf
          go_wp2_with (go_at_call 13; refine (HG.out _).mono ?_; rintro e w' ⟨rfl, bT⟩)
          go_roundw
          case rel => exact ⟨2 + 1, by omega, rfl, congrArg Value.string HNx.out, Lib.hid (HBr.out.trans (bT.mono HBr.out.size))⟩
          case measure => first | (simp [intOf]; done) | (simp [intOf]; omega)
      · have hy2 : wr.cell? ⟨w.heap.size, 2, none⟩ = some (.int .u8 ((l.getD 2 0 : Nat) : Int)) := by
          rw [HBr.out.cell (p := ⟨w.heap.size, 2, none⟩) (lt_of_block G0.out), cell_of_row _ _ _ _ _ _ G0.out, HBc.out 2 (by omega)]
        obtain ⟨y, HY⟩ : ∃ y, Hid (l.getD 2 0 = y) := ⟨_, Lib.hid rfl⟩
        rw [HY.out] at hy2
        have hy256 : y < 256 := by rw [← HY.out]; exact getD_small HBd.out 2
        obtain ⟨x, HX⟩ : ∃ x, Hid (numK n K 2 = x) := ⟨_, Lib.hid rfl⟩
        have hxv : x = n / 256 % 256 := by rw [← HX.out, numK, if_neg (by omega)]
        have hx4 : x < 4294967296 := by omega
        have hx : bits .and .u32 ((n : Int) / 256) 255 = (x : Int) := by
          have := and_255 (n / 256) (by omega)
          rw [hxv]; exact this
        have hne : ((2 : Int) == (K : Int)) = false := beq_eq_false_iff_ne.2 (by omega)
        clear hxv
        have hSs : S.size ≤ 100 := by rw [← HS.out, asB_size]; exact Nat.le_trans (fP_len _ _ _) (by omega)
        have hz0 : ¬ 9223372036854775807 < S.size + 1 := by omega
        rcases (show y % 5 = 0 ∨ y % 5 = 1 ∨ y % 5 = 2 ∨ y % 5 = 3 ∨ y % 5 = 4 by omega) with hf | hf | hf | hf | hf
        · have hfI : (y : Int) % 5 = 0 := by omega
          obtain ⟨D, HD⟩ : ∃ t, Hid (asB (numF 10 11 x) = t) := ⟨_, Lib.hid rfl⟩
          have hDs : D.size ≤ 11 := by rw [← HD.out, asB_size]; exact numF_len _ _ _
          have HG : Hid (∀ w', Calls Tryd.prog 13 #[.int .u32 (x : Int), .int .u32 10] w' fun e w'' => e = .returned (.string D) ∧ Below w'.heap.size w' w'') := Lib.hid (fun w' => by
            have := digits4_any 10 (by omega) (by omega) 11 x w' (by omega) (by omega) (pow11 10 x (by omega) hx4) hx4
            rwa [HD.out] at this)
          have hz2 : ¬ 9223372036854775807 < S.size + 1 + D.size := by omega
          have HNx : Hid ((S ++ (⟨#[46]⟩ : ByteArray)) ++ D = asB (fP (fun j => l.getD j 0 % 5) (numK n K) (2 + 1))) := Lib.hid (by
            rw [← HD.out, ← HS.out, fP_succ _ _ 2, HY.out, hf, HX.out]
            apply ByteArray.ext
            simp [asB, formF])
          clear hf
          go_wp2_with (go_at_call 13; refine (HG.out _).mono ?_; rintro e w' ⟨rfl, bT⟩)
          go_roundw
          case rel => exact ⟨2 + 1, by omega, rfl, congrArg Value.string HNx.out, Lib.hid (HBr.out.trans (bT.mono HBr.out.size))⟩
          case measure => first | (simp [intOf]; done) | (simp [intOf]; omega)
        · have hfI : (y : Int) % 5 = 1 := by omega
          obtain ⟨D, HD⟩ : ∃ t, Hid (asB (numF 16 11 x) = t) := ⟨_, Lib.hid rfl⟩
          have hDs : D.size ≤ 11 := by rw [← HD.out, asB_size]; exact numF_len _ _ _
          have HG : Hid (∀ w', Calls Tryd.prog 13 #[.int .u32 (x : Int), .int .u32 16] w' fun e w'' => e = .returned (.string D) ∧ Below w'.heap.size w' w'') := Lib.hid (fun w' => by
            have := digits4_any 16 (by omega) (by omega) 11 x w' (by omega) (by omega) (pow11 16 x (by omega) hx4) hx4
            rwa [HD.out] at this)
          have hz1 : ¬ 9223372036854775807 < S.size + 1 + 2 := by omega
          have hz2 : ¬ 9223372036854775807 < S.size + 1 + 2 + D.size := by omega
          have HNx : Hid (((S ++ (⟨#[46]⟩ : ByteArray)) ++ (⟨#[48, 120]⟩ : ByteArray)) ++ D = asB (fP (fun j => l.getD j 0 % 5) (numK n K) (2 + 1))) := Lib.hid (by
            rw [← HD.out, ← HS.out, fP_succ _ _ 2, HY.out, hf, HX.out]
            apply ByteArray.ext
            simp [asB, formF])
          clear hf
          go_wp2_with (go_at_call 13; refine (HG.out _).mono ?_; rintro e w' ⟨rfl, bT⟩)
          go_roundw
          case rel => exact ⟨2 + 1, by omega, rfl, congrArg Value.string HNx.out, Lib.hid (HBr.out.trans (bT.mono HBr.out.size))⟩
          case measure => first | (simp [intOf]; done) | (simp [intOf]; omega)
        · have hfI : (y : Int) % 5 = 2 := by omega
          obtain ⟨D, HD⟩ : ∃ t, Hid (asB (numF 8 11 x) = t) := ⟨_, Lib.hid rfl⟩
          have hDs : D.size ≤ 11 := by rw [← HD.out, asB_size]; exact numF_len _ _ _
          have HG : Hid (∀ w', Calls Tryd.prog 13 #[.int .u32 (x : Int), .int .u32 8] w' fun e w'' => e = .returned (.string D) ∧ Below w'.heap.size w' w'') := Lib.hid (fun w' => by
            have := digits4_any 8 (by omega) (by omega) 11 x w' (by omega) (by omega) (pow11 8 x (by omega) hx4) hx4
            rwa [HD.out] at this)
          have hz1 : ¬ 9223372036854775807 < S.size + 1 + 1 := by omega
          have hz2 : ¬ 9223372036854775807 < S.size + 1 + 1 + D.size := by omega
          have HNx : Hid (((S ++ (⟨#[46]⟩ : ByteArray)) ++ (⟨#[48]⟩ : ByteArray)) ++ D = asB (fP (fun j => l.getD j 0 % 5) (numK n K) (2 + 1))) := Lib.hid (by
            rw [← HD.out, ← HS.out, fP_succ _ _ 2, HY.out, hf, HX.out]
            apply ByteArray.ext
            simp [asB, formF])
          clear hf
          go_wp2_with (go_at_call 13; refine (HG.out _).mono ?_; rintro e w' ⟨rfl, bT⟩)
          go_roundw
          case rel => exact ⟨2 + 1, by omega, rfl, congrArg Value.string HNx.out, Lib.hid (HBr.out.trans (bT.mono HBr.out.size))⟩
          case measure => first | (simp [intOf]; done) | (simp [intOf]; omega)
        · have hfI : (y : Int) % 5 = 3 := by omega
          obtain ⟨D, HD⟩ : ∃ t, Hid (asB (numF 16 11 x) = t) := ⟨_, Lib.hid rfl⟩
          have hDs : D.size ≤ 11 := by rw [← HD.out, asB_size]; exact numF_len _ _ _
          have HG : Hid (∀ w', Calls Tryd.prog 13 #[.int .u32 (x : Int), .int .u32 16] w' fun e w'' => e = .returned (.string D) ∧ Below w'.heap.size w' w'') := Lib.hid (fun w' => by
            have := digits4_any 16 (by omega) (by omega) 11 x w' (by omega) (by omega) (pow11 16 x (by omega) hx4) hx4
            rwa [HD.out] at this)
          have hz1 : ¬ 9223372036854775807 < S.size + 1 + 5 := by omega
          have hz2 : ¬ 9223372036854775807 < S.size + 1 + 5 + D.size := by omega
          have HNx : Hid (((S ++ (⟨#[46]⟩ : ByteArray)) ++ (⟨#[48, 88, 48, 48, 48]⟩ : ByteArray)) ++ D = asB (fP (fun j => l.getD j 0 % 5) (numK n K) (2 + 1))) := Lib.hid (by
            rw [← HD.out, ← HS.out, fP_succ _ _ 2, HY.out, hf, HX.out]
            apply ByteArray.ext
            simp [asB, formF])
          clear hf
          go_wp2_with (go_at_call 13; refine (HG.out _).mono ?_; rintro e w' ⟨rfl, bT⟩)
          go_roundw
          case rel => exact ⟨2 + 1, by omega, rfl, congrArg Value.string HNx.out, Lib.hid (HBr.out.trans (bT.mono HBr.out.size))⟩
          case measure => first | (simp [intOf]; done) | (simp [intOf]; omega)
        · have hfI : (y : Int) % 5 = 4 := by omega
          obtain ⟨D, HD⟩ : ∃ t, Hid (asB (numF 8 11 x) = t) := ⟨_, Lib.hid rfl⟩
          have hDs : D.size ≤ 11 := by rw [← HD.out, asB_size]; exact numF_len _ _ _
          have HG : Hid (∀ w', Calls Tryd.prog 13 #[.int .u32 (x : Int), .int .u32 8] w' fun e w'' => e = .returned (.string D) ∧ Below w'.heap.size w' w'') := Lib.hid (fun w' => by
            have := digits4_any 8 (by omega) (by omega) 11 x w' (by omega) (by omega) (pow11 8 x (by omega) hx4) hx4
            rwa [HD.out] at this)
          have hz1 : ¬ 9223372036854775807 < S.size + 1 + 3 := by omega
          have hz2 : ¬ 9223372036854775807 < S.size + 1 + 3 + D.size := by omega
          have HNx : Hid (((S ++ (⟨#[46]⟩ : ByteArray)) ++ (⟨#[48, 48, 48]⟩ : ByteArray)) ++ D = asB (fP (fun j => l.getD j 0 % 5) (numK n K) (2 + 1))) := Lib.hid (by
            rw [← HD.out, ← HS.out, fP_succ _ _ 2, HY.out, hf, HX.out]
            apply ByteArray.ext
            simp [asB, formF])
          clear hf
          go_wp2_with (go_at_call 13; refine (HG.out _).mono ?_; rintro e w' ⟨rfl, bT⟩)
          go_roundw
          case rel => exact ⟨2 + 1, by omega, rfl, congrArg Value.string HNx.out, Lib.hid (HBr.out.trans (bT.mono HBr.out.size))⟩
          case measure => first | (simp [intOf]; done) | (simp [intOf]; omega)
      · have hy3 : wr.cell? ⟨w.heap.size, 3, none⟩ = some (.int .u8 ((l.getD 3 0 : Nat) : Int)) := by
          rw [HBr.out.cell (p := ⟨w.heap.size, 3, none⟩) (lt_of_block G0.out), cell_of_row _ _ _ _ _ _ G0.out, HBc.out 3 (by omega)]
        obtain ⟨y, HY⟩ : ∃ y, Hid (l.getD 3 0 = y) := ⟨_, Lib.hid rfl⟩
        rw [HY.out] at hy3
        have hy256 : y < 256 := by rw [← HY.out]; exact getD_small HBd.out 3
        obtain ⟨x, HX⟩ : ∃ x, Hid (numK n K 3 = x) := ⟨_, Lib.hid rfl⟩
        have hx4 : x < 4294967296 := by rw [← HX.out]; exact numK_lt n K 3 (by omega)
        have hx : (n : Int) * 16777216 % 4294967296 / 16777216 = (x : Int) := by rw [← HX.out, numK, if_pos hK.symm, hK]; omega
        have hne : ((3 : Int) == (K : Int)) = true := beq_iff_eq.2 (by omega)
        have HKv := Lib.hid hK
        clear hK
        have hSs : S.size ≤ 100 := by rw [← HS.out, asB_size]; exact Nat.le_trans (fP_len _ _ _) (by omega)
        have hz0 : ¬ 9223372036854775807 < S.size + 1 := by omega
        rcases (show y % 5 = 0 ∨ y % 5 = 1 ∨ y % 5 = 2 ∨ y % 5 = 3 ∨ y % 5 = 4 by omega) with hf | hf | hf | hf | hf
        · have hfI : (y : Int) % 5 = 0 := by omega
          obtain ⟨D, HD⟩ : ∃ t, Hid (asB (numF 10 11 x) = t) := ⟨_, Lib.hid rfl⟩
          have hDs : D.size ≤ 11 := by rw [← HD.out, asB_size]; exact numF_len _ _ _
          have HG : Hid (∀ w', Calls Tryd.prog 13 #[.int .u32 (x : Int), .int .u32 10] w' fun e w'' => e = .returned (.string D) ∧ Below w'.heap.size w' w'') := Lib.hid (fun w' => by
            have := digits4_any 10 (by omega) (by omega) 11 x w' (by omega) (by omega) (pow11 10 x (by omega) hx4) hx4
            rwa [HD.out] at this)
          have hz2 : ¬ 9223372036854775807 < S.size + 1 + D.size := by omega
          have HNx : Hid ((S ++ (⟨#[46]⟩ : ByteArray)) ++ D = asB (fP (fun j => l.getD j 0 % 5) (numK n K) (3 + 1))) := Lib.hid (by
            rw [← HD.out, ← HS.out, fP_succ _ _ 3, HY.out, hf, HX.out]
            apply ByteArray.ext
            simp [asB, formF])
          clear hf
          go_wp2_with (go_at_call 13; refine (HG.out _).mono ?_; rintro e w' ⟨rfl, bT⟩)
          go_roundw
          case rel => exact ⟨3 + 1, by omega, rfl, congrArg Value.string HNx.out, Lib.hid (HBr.out.trans (bT.mono HBr.out.size))⟩
          case measure => first | (simp [intOf]; done) | (simp [intOf]; omega)
        · have hfI : (y : Int) % 5 = 1 := by omega
          obtain ⟨D, HD⟩ : ∃ t, Hid (asB (numF 16 11 x) = t) := ⟨_, Lib.hid rfl⟩
          have hDs : D.size ≤ 11 := by rw [← HD.out, asB_size]; exact numF_len _ _ _
          have HG : Hid (∀ w', Calls Tryd.prog 13 #[.int .u32 (x : Int), .int .u32 16] w' fun e w'' => e = .returned (.string D) ∧ Below w'.heap.size w' w'') := Lib.hid (fun w' => by
            have := digits4_any 16 (by omega) (by omega) 11 x w' (by omega) (by omega) (pow11 16 x (by omega) hx4) hx4
            rwa [HD.out] at this)
          have hz1 : ¬ 9223372036854775807 < S.size + 1 + 2 := by omega
          have hz2 : ¬ 9223372036854775807 < S.size + 1 + 2 + D.size := by omega
          have HNx : Hid (((S ++ (⟨#[46]⟩ : ByteArray)) ++ (⟨#[48, 120]⟩ : ByteArray)) ++ D = asB (fP (fun j => l.getD j 0 % 5) (numK n K) (3 + 1))) := Lib.hid (by
            rw [← HD.out, ← HS.out, fP_succ _ _ 3, HY.out, hf, HX.out]
            apply ByteArray.ext
            simp [asB, formF])
          clear hf
          go_wp2_with (go_at_call 13; refine (HG.out _).mono ?_; rintro e w' ⟨rfl, bT⟩)
          go_roundw
          case rel => exact ⟨3 + 1, by omega, rfl, congrArg Value.string HNx.out, Lib.hid (HBr.out.trans (bT.mono HBr.out.size))⟩
          case measure => first | (simp [intOf]; done) | (simp [intOf]; omega)
        · have hfI : (y : Int) % 5 = 2 := by omega
          obtain ⟨D, HD⟩ : ∃ t, Hid (asB (numF 8 11 x) = t) := ⟨_, Lib.hid rfl⟩
          have hDs : D.size ≤ 11 := by rw [← HD.out, asB_size]; exact numF_len _ _ _
          have HG : Hid (∀ w', Calls Tryd.prog 13 #[.int .u32 (x : Int), .int .u32 8] w' fun e w'' => e = .returned (.string D) ∧ Below w'.heap.size w' w'') := Lib.hid (fun w' => by
            have := digits4_any 8 (by omega) (by omega) 11 x w' (by omega) (by omega) (pow11 8 x (by omega) hx4) hx4
            rwa [HD.out] at this)
          have hz1 : ¬ 9223372036854775807 < S.size + 1 + 1 := by omega
          have hz2 : ¬ 9223372036854775807 < S.size + 1 + 1 + D.size := by omega
          have HNx : Hid (((S ++ (⟨#[46]⟩ : ByteArray)) ++ (⟨#[48]⟩ : ByteArray)) ++ D = asB (fP (fun j => l.getD j 0 % 5) (numK n K) (3 + 1))) := Lib.hid (by
            rw [← HD.out, ← HS.out, fP_succ _ _ 3, HY.out, hf, HX.out]
            apply ByteArray.ext
            simp [asB, formF])
          clear hf
          go_wp2_with (go_at_call 13; refine (HG.out _).mono ?_; rintro e w' ⟨rfl, bT⟩)
          go_roundw
          case rel => exact ⟨3 + 1, by omega, rfl, congrArg Value.string HNx.out, Lib.hid (HBr.out.trans (bT.mono HBr.out.size))⟩
          case measure => first | (simp [intOf]; done) | (simp [intOf]; omega)
        · have hfI : (y : Int) % 5 = 3 := by omega
          obtain ⟨D, HD⟩ : ∃ t, Hid (asB (numF 16 11 x) = t) := ⟨_, Lib.hid rfl⟩
          have hDs : D.size ≤ 11 := by rw [← HD.out, asB_size]; exact numF_len _ _ _
          have HG : Hid (∀ w', Calls Tryd.prog 13 #[.int .u32 (x : Int), .int .u32 16] w' fun e w'' => e = .returned (.string D) ∧ Below w'.heap.size w' w'') := Lib.hid (fun w' => by
            have := digits4_any 16 (by omega) (by omega) 11 x w' (by omega) (by omega) (pow11 16 x (by omega) hx4) hx4
            rwa [HD.out] at this)
          have hz1 : ¬ 9223372036854775807 < S.size + 1 + 5 := by omega
          have hz2 : ¬ 9223372036854775807 < S.size + 1 + 5 + D.size := by omega
          have HNx : Hid (((S ++ (⟨#[46]⟩ : ByteArray)) ++ (⟨#[48, 88, 48, 48, 48]⟩ : ByteArray)) ++ D = asB (fP (fun j => l.getD j 0 % 5) (numK n K) (3 + 1))) := Lib.hid (by
            rw [← HD.out, ← HS.out, fP_succ _ _ 3, HY.out, hf, HX.out]
            apply ByteArray.ext
            simp [asB, formF])
          clear hf
          go_wp2_with (go_at_call 13; refine (HG.out _).mono ?_; rintro e w' ⟨rfl, bT⟩)
          go_roundw
          case rel => exact ⟨3 + 1, by omega, rfl, congrArg Value.string HNx.out, Lib.hid (HBr.out.trans (bT.mono HBr.out.size))⟩
          case measure => first | (simp [intOf]; done) | (simp [intOf]; omega)
        · have hfI : (y : Int) % 5 = 4 := by omega
          obtain ⟨D, HD⟩ : ∃ t, Hid (asB (numF 8 11 x) = t) := ⟨_, Lib.hid rfl⟩
          have hDs : D.size ≤ 11 := by rw [← HD.out, asB_size]; exact numF_len _ _ _
          have HG : Hid (∀ w', Calls Tryd.prog 13 #[.int .u32 (x : Int), .int .u32 8] w' fun e w'' => e = .returned (.string D) ∧ Below w'.heap.size w' w'') := Lib.hid (fun w' => by
            have := digits4_any 8 (by omega) (by omega) 11 x w' (by omega) (by omega) (pow11 8 x (by omega) hx4) hx4
            rwa [HD.out] at this)
          have hz1 : ¬ 9223372036854775807 < S.size + 1 + 3 := by omega
          have hz2 : ¬ 9223372036854775807 < S.size + 1 + 3 + D.size := by omega
          have HNx : Hid (((S ++ (⟨#[46]⟩ : ByteArray)) ++ (⟨#[48, 48, 48]⟩ : ByteArray)) ++ D = asB (fP (fun j => l.getD j 0 % 5) (numK n K) (3 + 1))) := Lib.hid (by
            rw [← HD.out, ← HS.out, fP_succ _ _ 3, HY.out, hf, HX.out]
            apply ByteArray.ext
            simp [asB, formF])
          clear hf
          go_wp2_with (go_at_call 13; refine (HG.out _).mono ?_; rintro e w' ⟨rfl, bT⟩)
          go_roundw
          case rel => exact ⟨3 + 1, by omega, rfl, congrArg Value.string HNx.out, Lib.hid (HBr.out.trans (bT.mono HBr.out.size))⟩
          case measure => first | (simp [intOf]; done) | (simp [intOf]; omega)
    · have hkI : (K : Int) + 1 ≤ (k : Int) := by omega
      have hkK : k = K + 1 := by omega
      have hSs : S.size ≤ 100 := by rw [← HS.out, asB_size]; exact Nat.le_trans (fP_len _ _ _) (by omega)
      have HSl : Hid (S.data.toList = Lib.join ((List.range (K + 1)).map fun j => formF (l.getD j 0 % 5) (numK n K j)) [46]) := Lib.hid (by
        rw [← HS.out, asB_data, hkK]; exact fP_join (fun j => l.getD j 0 % 5) (numK n K) K hK4)
      obtain ⟨a, HA⟩ : ∃ a, Hid (n / 16777216 = a) := ⟨_, Lib.hid rfl⟩
      obtain ⟨b, HBb⟩ : ∃ a, Hid (n / 65536 % 256 = a) := ⟨_, Lib.hid rfl⟩
      obtain ⟨c, HCc⟩ : ∃ a, Hid (n / 256 % 256 = a) := ⟨_, Lib.hid rfl⟩
      obtain ⟨d, HDd⟩ : ∃ a, Hid (n % 256 = a) := ⟨_, Lib.hid rfl⟩
      have ha : a < 256 := by rw [← HA.out]; omega
      have hb : b < 256 := by rw [← HBb.out]; omega
      have hc : c < 256 := by rw [← HCc.out]; omega
      have hd : d < 256 := by rw [← HDd.out]; omega
      have H8 : Hid (four8 n = [a, b, c, d]) := Lib.hid (by
        rw [four8, HBb.out, HCc.out, HDd.out, HA.out, Nat.mod_eq_of_lt ha])
      have ea : (n : Int) / 16777216 = (a : Int) := by rw [← HA.out]; rfl
      have eb : IntKind.u8.wrap ((n : Int) / 65536) = (b : Int) := by rw [IntKind.wrap_u8, ← HBb.out]; rfl
      have ec : IntKind.u8.wrap ((n : Int) / 256) = (c : Int) := by rw [IntKind.wrap_u8, ← HCc.out]; rfl
      have ed : IntKind.u8.wrap (n : Int) = (d : Int) := by rw [IntKind.wrap_u8, ← HDd.out]; rfl
      have aw : IntKind.u8.wrap (a : Int) = (a : Int) := IntWalk.u8_in _ (by omega)
      obtain ⟨hz, hi⟩ := zero_of_info infoA
      have HI := Lib.hid hi; clear hi
      obtain ⟨CF, HCF⟩ : ∃ C, Hid (cellsA false (qd4 a b c d) = C) := ⟨_, Lib.hid rfl⟩
      have HSF : Hid (CF.size = 17) := Lib.hid (by rw [← HCF.out, cellsA_size]; rfl)
      have HOF : Hid (CF.all (·.oneCell') = true) := Lib.hid (by rw [← HCF.out]; exact cellsA_one _ _)
      have HDF : Hid ((Tryd.prog.info? 24).map (·.size) = some CF.size) := Lib.hid (by rw [HI.out, HSF.out])
      have HYF : Hid (zeroA.size = CF.size) := Lib.hid (by rw [HSF.out]; exact zeroA_size)
      have heqF : ∀ w, (binOp .eql 24 (.agg CF) (.agg CF)).run Tryd.prog w = .ok (.bool true) w := fun w => by rw [← HCF.out]; exact eqA_self false _ rfl w
      have M4 : Hid (∀ w', Calls Tryd.prog 11 #[.int .u8 (a : Int), .int .u8 (b : Int), .int .u8 (c : Int), .int .u8 (d : Int)] w' fun e w'' => e = .returned (.agg CF) ∧ Below w'.heap.size w' w'') := Lib.hid (fun w' => by
        have := four_any2 a b c d w'
        rw [show (#[.bool false, .int .u8 (a : Int), .int .u8 (b : Int), .int .u8 (c : Int), .int .u8 (d : Int), .int .u8 0, .int .u8 0, .int .u8 0, .int .u8 0, .int .u8 0, .int .u8 0, .int .u8 0, .int .u8 0, .int .u8 0, .int .u8 0, .int .u8 0, .int .u8 0] : Array Value) = CF from HCF.out] at this
        exact this)
      have H4 : Hid (∀ (X : ByteArray) (e : List UInt8), (e = [] ∨ e = [46]) → X.data.toList = S.data.toList ++ e → ∀ w', Calls Tryd.prog 10 #[.string X] w' fun e w'' => e = .returned (.tuple #[.agg CF, .bool true, .int .i64 0]) ∧ Below w'.heap.size w' w'') := Lib.hid (fun X e he hX w' => by
        have hsz : X.size ≤ 101 := by
          rw [← lenB, hX, List.length_append, lenB]
          rcases he with rfl | rfl <;> simp <;> omega
        have h := Four_any X w' (by omega)
        have hf : fourD X.data.toList = (true, some [a, b, c, d]) := by
          rw [hX, HSl.out, fourD_forms (fun j => l.getD j 0 % 5) (numK n K) K hK4 (fun j => numK_lt n K j hK4) e he, lay_forms n K hK4 hn, H8.out]
        rw [hf] at h
        have h' : fourV (true, some [a, b, c, d]) = .tuple #[.agg CF, .bool true, .int .i64 0] := by
          show Value.tuple #[.agg (cellsA false ([a, b, c, d] ++ List.replicate 12 0)), .bool true, .int .i64 0] = _
          rw [show cellsA false ([a, b, c, d] ++ List.replicate 12 0) = CF from HCF.out]
        rw [h'] at h
        exact h)
      have HBw : Hid (Below w.heap.size w wr) := Lib.hid (Z0.out.trans (HBr.out.mono Z0.out.size))
      clear HSl HS hlt hkK
      cases pt
      · skip
        go_wp2_with fail
        refine (H4.out S [] (.inl rfl) (by simp) _).mono ?_
        rintro e w1 ⟨rfl, b1⟩
        have Z1 : Hid (Below w.heap.size w w1) := Lib.hid (HBw.out.trans (b1.mono HBw.out.size))
        clear b1
        obtain ⟨V, HV⟩ : ∃ W, Hid (w1.alloc (.cells CF 24) = W) := ⟨_, Lib.hid rfl⟩
        have ZV : Hid (Below w.heap.size w V) := Lib.hid (by rw [← HV.out]; exact Z1.out.alloc Z1.out.size _)
        have GV : Hid (V.heap[w1.heap.size]? = some (.cells CF 24 (0, 0))) := Lib.hid (by rw [← HV.out]; exact heap_alloc_new w1 _)
        have HAl : Hid (∀ p : BW V, Calls Tryd.prog 12 #[] p.w fun e w'' => e = .returned (.bool true) ∧ Below p.w.heap.size p.w w'') := Lib.hid (fun p => by
          have hb' := ZV.out.trans (p.h.mono ZV.out.size)
          exact alive4_any p.w (HF10.out.later hb') (HF16.out.later hb'))
        go_wp2_with (refine wpL_store_row rfl 24 _ _ rfl w1.heap.size CF ?_ ?_ 24 zeroA ?_ ?_ ?_ ?_ ?_; exact rfl; exact rfl; exact heap_alloc_new w1 _; exact HDF.out; exact HYF.out; exact HOF.out; rw [World.setRow_alloc_new, HV.out])
        refine bw_region (by kernel_rfl) (by kernel_rfl) ?_
        repeat (first
          | (refine bw_load rfl 24 _ rfl w1.heap.size CF ?_ 24 (0, 0) _ ?_ Tryd.underlying24 rfl HDF.out ?_; (exact rfl); (intro w hw; obtain ⟨p, rfl⟩ := hw; exact BW.at GV.out p))
          | (quiet_step ((first
            | (with_reducible exact Calls.bw_of (HAl.out _))
            | (with_reducible exact Calls.bw_of (M4.out _))))))
        refine wpQuiet_nil ?_
        intro _ hw'
        obtain ⟨⟨wq, hwq⟩, rfl⟩ := hw'
        go_wp2_with fail
        go_ret
        exact ⟨rfl, ZV.out.trans (Below.mono hwq ZV.out.size)⟩
      · skip
        have hz0 : ¬ 9223372036854775807 < S.size + 1 := by omega
        go_wp2_with fail
        refine (H4.out (S ++ (⟨#[46]⟩ : ByteArray)) [46] (.inr rfl) (by simp) _).mono ?_
        rintro e w1 ⟨rfl, b1⟩
        have Z1 : Hid (Below w.heap.size w w1) := Lib.hid (HBw.out.trans (b1.mono HBw.out.size))
        clear b1
        obtain ⟨V, HV⟩ : ∃ W, Hid (w1.alloc (.cells CF 24) = W) := ⟨_, Lib.hid rfl⟩
        have ZV : Hid (Below w.heap.size w V) := Lib.hid (by rw [← HV.out]; exact Z1.out.alloc Z1.out.size _)
        have GV : Hid (V.heap[w1.heap.size]? = some (.cells CF 24 (0, 0))) := Lib.hid (by rw [← HV.out]; exact heap_alloc_new w1 _)
        have HAl : Hid (∀ p : BW V, Calls Tryd.prog 12 #[] p.w fun e w'' => e = .returned (.bool true) ∧ Below p.w.heap.size p.w w'') := Lib.hid (fun p => by
          have hb' := ZV.out.trans (p.h.mono ZV.out.size)
          exact alive4_any p.w (HF10.out.later hb') (HF16.out.later hb'))
        go_wp2_with (refine wpL_store_row rfl 24 _ _ rfl w1.heap.size CF ?_ ?_ 24 zeroA ?_ ?_ ?_ ?_ ?_; exact rfl; exact rfl; exact heap_alloc_new w1 _; exact HDF.out; exact HYF.out; exact HOF.out; rw [World.setRow_alloc_new, HV.out])
        refine bw_region (by kernel_rfl) (by kernel_rfl) ?_
        repeat (first
          | (refine bw_load rfl 24 _ rfl w1.heap.size CF ?_ 24 (0, 0) _ ?_ Tryd.underlying24 rfl HDF.out ?_; (exact rfl); (intro w hw; obtain ⟨p, rfl⟩ := hw; exact BW.at GV.out p))
          | (quiet_step ((first
            | (with_reducible exact Calls.bw_of (HAl.out _))
            | (with_reducible exact Calls.bw_of (M4.out _))))))
        refine wpQuiet_nil ?_
        intro _ hw'
        obtain ⟨⟨wq, hwq⟩, rfl⟩ := hw'
        go_wp2_with fail
        go_ret
        exact ⟨rfl, ZV.out.trans (Below.mono hwq ZV.out.size)⟩
theorem forms_walk (n : Int) (l : List Nat) (pt : Bool) (w : World) (hn : (Lit.int .u32 n).wf = true) (hl : l.length = 5) (hb : ∀ x ∈ l, x < 256) (h10 : Fmt 10 256 w) (h16 : Fmt 16 65536 w) :
    Calls Tryd.prog 4 #[.int .u32 n, .agg (l.map u8v).toArray, .bool pt] w fun e w' => e = .returned (.bool true) ∧ Below w.heap.size w w' := by
  have a1 : IntKind.u32.min = 0 := rfl
  have a2 : IntKind.u32.max = 4294967295 := rfl
  simp only [Lit.wf, Bool.and_eq_true, decide_eq_true_eq] at hn
  obtain ⟨m, rfl⟩ : ∃ m : Nat, n = (m : Int) := ⟨n.toNat, by omega⟩
  exact forms_in m l pt w (by omega) hl hb h10 h16

end Go.Proofs.YtgmjfnddeogfdabDoor
