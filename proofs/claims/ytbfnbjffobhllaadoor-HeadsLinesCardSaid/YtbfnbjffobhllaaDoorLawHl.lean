/-
  footmanlaw12.HeadsLines: control bytes.
-/
import Derived.Test.YtbfnbjffobhllaaDoorHdX
import Derived.Test.YtbfnbjffobhllaaDoorHdR
namespace Go.Proofs.YtbfnbjffobhllaaDoor
open Go.RowKit

/-- A byte that is no control byte. -/
def plB (c : UInt8) : Bool := decide (32 ≤ c.toNat) && !(c.toNat == 127)
theorem plB_tx {l : List UInt8} (h : l.all plB = true) : l.all txB = true := by
  rw [List.all_eq_true] at h ⊢
  intro c hc
  have := h c hc
  unfold plB at this
  unfold txB
  rw [this, Bool.or_true]
set_option maxRecDepth 100000 in
set_option maxHeartbeats 4000000 in
theorem hlines_walk (c : Nat) (s t : ByteArray) (m : Int) (w : World) (hc : c < 256) (hs : s.size ≤ 140737488355328) (ht : t.size ≤ 140737488355328) (hw : MxAt m w) :
    Calls Tryd.prog 7 #[.int .u8 (c : Int), .string s, .string t] w fun e w' => e = .returned (.bool true) ∧ Below w.heap.size w w' := by
  have HM := Lib.hid hw
  have HA := Lib.hid fun w h => alive12_any m w h
  obtain ⟨X, HX⟩ : ∃ X, Hid (s ++ t = X) := ⟨_, Lib.hid rfl⟩
  have hX : X.size ≤ 281474976710656 := by rw [← HX.out, ByteArray.size_append]; omega
  clear hw
  go_enter Tryd.func7, Tryd.ntmps7
  go_wp2
  rw [HX.out]
  go_loopw [8] (fun i wr => ∃ k : Nat, k ≤ X.size ∧ i = .int .i64 (k : Int) ∧ Hid ((X.data.toList.take k).all plB = true) ∧ ∃ q, wr = w.drewN q) (fun i _ => X.size - (intOf i).toNat)
  case atStart => exact ⟨0, Nat.zero_le _, rfl, Lib.hid rfl, 0, rfl⟩
  case round =>
    obtain ⟨k, hk, rfl, HP, q, rfl⟩ := hrel
    by_cases hlt : k < X.size
    · have hltI : (k : Int) < (X.size : Int) := by omega
      have hkl : k < X.data.toList.length := by rw [lenB]; exact hlt
      obtain ⟨x, Hx, Hxt⟩ : ∃ x : UInt8, Hid (X[k] = x) ∧ Hid (X.data.toList.take (k + 1) = X.data.toList.take k ++ [x]) := ⟨X[k], Lib.hid rfl, Lib.hid (by
        rw [List.take_add_one, List.getElem?_eq_getElem hkl]; rfl)⟩
      have hxe : X[k] = x := Hx.out
      by_cases hpl : plB x = true
      · have h32 : ¬ (x.toNat : Int) < 32 := by
          unfold plB at hpl
          simp at hpl
          omega
        have h127 : ¬ (x.toNat : Int) = 127 := by
          unfold plB at hpl
          simp at hpl
          omega
        have HP2 : Hid ((X.data.toList.take (k + 1)).all plB = true) := Lib.hid (by rw [Hxt.out, List.all_append, HP.out]; simp [hpl])
        clear hpl
        go_wp2_with fail
        go_roundw
        case rel => exact ⟨k + 1, by omega, by go_num, HP2, _, rfl⟩
        case measure => simp [intOf]; omega
      · have HAw := Lib.hid (HA.out (w.drewN q) (HM.out.later ⟨rfl, rfl, rfl, Nat.le_refl _, fun _ _ => rfl⟩))
        have hor : (x.toNat : Int) < 32 ∨ (¬ (x.toNat : Int) < 32 ∧ (x.toNat : Int) = 127) := by
          unfold plB at hpl
          simp at hpl
          omega
        clear hpl
        rcases hor with h1 | ⟨h1, h2⟩
        · go_wp2_with fail
          refine HAw.out.mono ?_
          rintro e w1 ⟨rfl, b1⟩
          go_wp2
          go_ret
          exact ⟨rfl, Below.trans (⟨rfl, rfl, rfl, Nat.le_refl _, fun _ _ => rfl⟩ : Below w.heap.size w (w.drewN q)) (b1.mono (Nat.le_refl _))⟩
        · go_wp2_with fail
          refine HAw.out.mono ?_
          rintro e w1 ⟨rfl, b1⟩
          go_wp2
          go_ret
          exact ⟨rfl, Below.trans (⟨rfl, rfl, rfl, Nat.le_refl _, fun _ _ => rfl⟩ : Below w.heap.size w (w.drewN q)) (b1.mono (Nat.le_refl _))⟩
    · have hge : ¬ (k : Int) < (X.size : Int) := by omega
      have HAll : Hid (X.data.toList.all plB = true) := Lib.hid (by
        have := HP.out
        rwa [List.take_of_length_le (by rw [lenB]; omega)] at this)
      have HB0 : Hid (Below w.heap.size w (w.drewN q)) := Lib.hid ⟨rfl, rfl, rfl, Nat.le_refl _, fun _ _ => rfl⟩
      have HAw := Lib.hid (HA.out (w.drewN q) (HM.out.later HB0.out))
      have hcase : (32 ≤ (c : Int) ∧ ¬ (c : Int) = 127) ∨ (¬ 32 ≤ (c : Int) ∧ (c : Int) = 9) ∨ (32 ≤ (c : Int) ∧ (c : Int) = 127 ∧ ¬ (c : Int) = 9) ∨ (¬ 32 ≤ (c : Int) ∧ ¬ (c : Int) = 9) := by omega
      have HCt : Hid (¬ (32 ≤ (c : Int) ∧ ¬ (c : Int) = 127) → ¬ (c : Int) = 9 → txB (UInt8.ofNat c) = false) := Lib.hid (fun h1 h2 => by
        have e : (UInt8.ofNat c).toNat = c := by simp; omega
        unfold txB
        rw [e]
        simp
        omega)
      have HSt : Hid (s.data.toList.all txB = true ∧ t.data.toList.all txB = true ∧ s.size + t.size = X.size) := Lib.hid (by
        have e : X.data.toList = s.data.toList ++ t.data.toList := by rw [← HX.out]; simp
        have h := HAll.out
        rw [e, List.all_append, Bool.and_eq_true] at h
        exact ⟨plB_tx h.1, plB_tx h.2, by rw [← HX.out, ByteArray.size_append]⟩)
      obtain ⟨xs, Hxs⟩ : ∃ xs : ByteArray, Hid (xs = ⟨#[UInt8.ofNat c]⟩) := ⟨_, Lib.hid rfl⟩
      obtain ⟨w1, Hw1⟩ : ∃ W, Hid ((w.drewN q).alloc (.cells #[.int .u8 (c : Int)] 5) = W) := ⟨_, Lib.hid rfl⟩
      have hcv : (convert 24 9 (.slice (some ⟨w.heap.size, 0, none⟩) 1 1)).run Tryd.prog ((w.drewN q).alloc (.cells #[.int .u8 (c : Int)] 5)) = .ok (.string xs) w1 := by
        rw [Hxs.out, Hw1.out]
        have hg : w1.heap[w.heap.size]? = some (.cells #[.int .u8 (c : Int)] 5 (0, 0)) := by rw [← Hw1.out]; exact heap_alloc_new (w.drewN q) _
        exact run_convert_bytes_back (P := Tryd.prog) w1 24 9 5 ⟨w.heap.size, 0, none⟩ 1 [UInt8.ofNat c] Tryd.underlying24 Tryd.underlying5 Tryd.underlying9 (fun j hj => by
          obtain rfl : j = 0 := by simpa using hj
          show w1.cell? ⟨w.heap.size, 0, none⟩ = _
          rw [cell_of_row w1 _ 0 _ _ _ hg]
          have e : (UInt8.ofNat c).toNat = c := by simp; omega
          simp [e])
      have HB1 : Hid (Below w.heap.size w w1) := Lib.hid (by rw [← Hw1.out]; exact HB0.out.alloc (Nat.le_refl _) _)
      have HAw1 := Lib.hid (HA.out w1 (HM.out.later HB1.out))
      have HBd : Hid (∀ (B : ByteArray) w', Below w.heap.size w w' → B.size ≤ 1000000 → readD resD B.data.toList = (msg0, 0, 8) → Calls Tryd.prog 26 #[.string B, .int .i64 8] w' fun e w2 => e = .returned (.bool true) ∧ Below w'.heap.size w' w2) := Lib.hid fun B w' h1 h2 h3 => bad12_yes B 8 m w' h2 (HM.out.later h1) h3
      clear HP
      rcases hcase with ⟨h1, h2⟩ | ⟨h1, h2⟩ | h3
      · go_wp2_with fail
        refine HAw.out.mono ?_
        rintro e w2 ⟨rfl, b2⟩
        go_wp2
        go_ret
        exact ⟨rfl, HB0.out.trans (b2.mono (Nat.le_refl _))⟩
      · go_wp2_with fail
        refine HAw.out.mono ?_
        rintro e w2 ⟨rfl, b2⟩
        go_wp2
        go_ret
        exact ⟨rfl, HB0.out.trans (b2.mono (Nat.le_refl _))⟩
      · have HC2 : Hid (txB (UInt8.ofNat c) = false) := Lib.hid (HCt.out (by omega) (by omega))
        by_cases hbig : 60000 < X.size
        · have hbigI : (60000 : Int) < (X.size : Int) := by omega
          rcases h3 with ⟨h1, h2, h3⟩ | ⟨h1, h2⟩
          all_goals
            go_wp2_with fail
            refine HAw.out.mono ?_
            rintro e w2 ⟨rfl, b2⟩
            go_wp2
            go_ret
            exact ⟨rfl, HB0.out.trans (b2.mono (Nat.le_refl _))⟩
        · have hbigI : ¬ (60000 : Int) < (X.size : Int) := by omega
          have hsz := HSt.out.2.2
          have F1 : Hid (readD resD ((⟨#[72, 84, 84, 80, 47, 49, 46, 49, 32, 50, 48, 48, 32]⟩ : ByteArray) ++ s ++ xs ++ t ++ (⟨#[13, 10, 13, 10]⟩ : ByteArray)).data.toList = (msg0, 0, 8)) := Lib.hid (by
            have := bad_first HSt.out.1 HSt.out.2.1 HC2.out (by rw [lenB, lenB]; omega)
            rw [← this, Hxs.out]
            congr 1
            simp [joinP, hl200, http1, crlf])
          have F2 : Hid (readD resD ((⟨#[72, 84, 84, 80, 47, 49, 46, 49, 32, 50, 48, 48, 13, 10, 65, 58, 32]⟩ : ByteArray) ++ s ++ xs ++ t ++ (⟨#[33, 13, 10, 13, 10]⟩ : ByteArray)).data.toList = (msg0, 0, 8)) := Lib.hid (by
            have := bad_value HSt.out.1 HSt.out.2.1 HC2.out (by rw [lenB, lenB]; omega)
            rw [← this, Hxs.out]
            congr 1
            simp [joinP, hl200, http1, crlf])
          have F3 : Hid (readD resD ((⟨#[72, 84, 84, 80, 47, 49, 46, 49, 32, 50, 48, 48, 13, 10]⟩ : ByteArray) ++ xs ++ (⟨#[65, 58, 13, 10, 13, 10]⟩ : ByteArray)).data.toList = (msg0, 0, 8)) := Lib.hid (by
            have := bad_name HC2.out
            rw [← this, Hxs.out]
            congr 1)
          have hx1 : xs.size = 1 := by rw [Hxs.out]; rfl
          have z1 : ((⟨#[72, 84, 84, 80, 47, 49, 46, 49, 32, 50, 48, 48, 32]⟩ : ByteArray) ++ s ++ xs ++ t ++ (⟨#[13, 10, 13, 10]⟩ : ByteArray)).size ≤ 1000000 := by
            simp only [ByteArray.size_append, hx1]
            have e1 : (⟨#[72, 84, 84, 80, 47, 49, 46, 49, 32, 50, 48, 48, 32]⟩ : ByteArray).size = 13 := rfl
            have e2 : (⟨#[13, 10, 13, 10]⟩ : ByteArray).size = 4 := rfl
            omega
          have z2 : ((⟨#[72, 84, 84, 80, 47, 49, 46, 49, 32, 50, 48, 48, 13, 10, 65, 58, 32]⟩ : ByteArray) ++ s ++ xs ++ t ++ (⟨#[33, 13, 10, 13, 10]⟩ : ByteArray)).size ≤ 1000000 := by
            simp only [ByteArray.size_append, hx1]
            have e1 : (⟨#[72, 84, 84, 80, 47, 49, 46, 49, 32, 50, 48, 48, 13, 10, 65, 58, 32]⟩ : ByteArray).size = 17 := rfl
            have e2 : (⟨#[33, 13, 10, 13, 10]⟩ : ByteArray).size = 5 := rfl
            omega
          have z3 : ((⟨#[72, 84, 84, 80, 47, 49, 46, 49, 32, 50, 48, 48, 13, 10]⟩ : ByteArray) ++ xs ++ (⟨#[65, 58, 13, 10, 13, 10]⟩ : ByteArray)).size ≤ 1000000 := by
            simp only [ByteArray.size_append, hx1]
            have e1 : (⟨#[72, 84, 84, 80, 47, 49, 46, 49, 32, 50, 48, 48, 13, 10]⟩ : ByteArray).size = 14 := rfl
            have e2 : (⟨#[65, 58, 13, 10, 13, 10]⟩ : ByteArray).size = 6 := rfl
            omega
          have Hz := Lib.hid (And.intro z1 (And.intro z2 z3))
          have hs6 : s.size ≤ 60000 := by omega
          have ht6 : t.size ≤ 60000 := by omega
          clear z1 z2 z3
          rcases h3 with ⟨h1, h2, h3⟩ | ⟨h1, h2⟩
          all_goals
            first | (rw [h2] at hcv) | skip
            go_upto_region 9 with (fail)
            go_wp2_with fail
            refine HAw1.out.mono ?_
            rintro e w2 ⟨rfl, b2⟩
            have HB2 := Lib.hid (HB1.out.trans (b2.mono HB1.out.size))
            clear b2
            go_wp2_with fail
            refine (HBd.out _ _ HB2.out Hz.out.1 F1.out).mono ?_
            rintro e w3 ⟨rfl, b3⟩
            have HB3 := Lib.hid (HB2.out.trans (b3.mono HB2.out.size))
            clear b3
            go_wp2_with fail
            refine (HBd.out _ _ HB3.out Hz.out.2.1 F2.out).mono ?_
            rintro e w4 ⟨rfl, b4⟩
            have HB4 := Lib.hid (HB3.out.trans (b4.mono HB3.out.size))
            clear b4
            go_wp2_with fail
            refine (HBd.out _ _ HB4.out Hz.out.2.2 F3.out).mono ?_
            rintro e w5 ⟨rfl, b5⟩
            have HB5 := Lib.hid (HB4.out.trans (b5.mono HB4.out.size))
            clear b5
            go_wp2_with fail
            go_ret
            exact ⟨rfl, HB5.out⟩

end Go.Proofs.YtbfnbjffobhllaaDoor
