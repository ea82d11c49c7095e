/-
  The walk of PercentSigns.
-/
import Derived.Test.YtamcdpgjgpohpaaPcY
import Derived.Deep.DeepCutAuto
namespace Go.Proofs.Ytamcdpgjgpohpaa
open Go.RowKit

theorem bcell {W w1 : World} (hb : Below W.heap.size W w1) : (∀ b o, b < W.heap.size → w1.cell? ⟨b, o, none⟩ = W.cell? ⟨b, o, none⟩) ∧ (∀ b o, b < W.heap.size → w1.frozen? ⟨b, o, none⟩ = W.frozen? ⟨b, o, none⟩) :=
  ⟨fun b o h => hb.cell (p := ⟨b, o, none⟩) h, fun b o h => hb.frozen (p := ⟨b, o, none⟩) h⟩
theorem byte_str (c : Nat) (hc : c < 256) (W : World) (g : Nat) (h : W.cell? ⟨g, 0, none⟩ = some (.int .u8 (c : Int))) :
    (convert 32 9 (.slice (some ⟨g, 0, none⟩) 1 1)).run Try.prog W = .ok (.string ⟨#[UInt8.ofNat c]⟩) W := by
  refine run_convert_bytes_back (P := Try.prog) W 32 9 5 ⟨g, 0, none⟩ 1 [UInt8.ofNat c] Try.underlying32 Try.underlying5 Try.underlying9 (fun j hj => ?_)
  obtain rfl : j = 0 := by simpa using hj
  rw [show (⟨g, 0, none⟩ : Addr).add 0 = ⟨g, 0, none⟩ from rfl, h]
  simp [Nat.mod_eq_of_lt hc]

set_option maxHeartbeats 1000000 in
theorem signs_yes (c : Nat) (t : ByteArray) (w : World) (hs : t.size ≤ 140737488351232) (hb : 1048576 < t.size) :
    Calls Try.prog 10 #[.int .u8 c, .string t] w fun e w' => e = .returned (.bool true) ∧ Below w.heap.size w w' := by
  go_enter Try.func10, Try.ntmps10
  go_wp2_with fail
  refine (alive_any _).mono ?_
  rintro e w1 ⟨rfl, b1⟩
  have B1 := Lib.hid b1; clear b1
  go_wp2_with fail
  refine (Beyond1_yes w1.heap.size t.size _ (by unfold maxLen; omega) (by simp) hb).mono ?_
  rintro e w2 ⟨rfl, rfl⟩
  go_wp2_with fail
  refine (alive_any _).mono ?_
  rintro e w3 ⟨rfl, b3⟩
  have B3 := Lib.hid b3; clear b3
  go_wp2
  go_ret
  have h1 := B1.out.size
  exact ⟨rfl, B1.out.trans ((((Below.refl _ _).alloc (Nat.le_refl _) _).trans (B3.out.mono (by simp))).mono h1)⟩

/-- A table of sixteen digits. -/
def goodT (T : ByteArray) : Prop := T.size = 16 ∧ ∀ n, (h : n < T.size) → hexV T[n] = n
theorem good_s : goodT ⟨#[48, 49, 50, 51, 52, 53, 54, 55, 56, 57, 97, 98, 99, 100, 101, 102]⟩ := ⟨rfl, fun n h => by
  have h16 : ∀ n : Fin 16, hexV ((⟨#[48, 49, 50, 51, 52, 53, 54, 55, 56, 57, 97, 98, 99, 100, 101, 102]⟩ : ByteArray)[n.1]'n.2) = n.1 := by decide +kernel
  exact h16 ⟨n, h⟩⟩
theorem good_g : goodT ⟨#[48, 49, 50, 51, 52, 53, 54, 55, 56, 57, 65, 66, 67, 68, 69, 70]⟩ := ⟨rfl, fun n h => by
  have h16 : ∀ n : Fin 16, hexV ((⟨#[48, 49, 50, 51, 52, 53, 54, 55, 56, 57, 65, 66, 67, 68, 69, 70]⟩ : ByteArray)[n.1]'n.2) = n.1 := by decide +kernel
  exact h16 ⟨n, h⟩⟩
theorem ext_one (T : ByteArray) (n : Nat) (h : n < T.size) : (T.extract n (n + 1)).data.toList = [T[n]] := by
  have hl : T.data.toList.length = T.size := by simp
  rw [ByteArray.data_extract, Array.toList_extract, List.extract_eq_take_drop, drop_at T n h]
  simp
theorem dec_sign (T1 T2 : ByteArray) (g1 : goodT T1) (g2 : goodT T2) (c A B : Nat) (hc : c < 256) (hA : A = c / 16) (hB : B = c % 16) (t : ByteArray) :
    decS (⟨#[37]⟩ ++ T1.extract A (A + 1) ++ T2.extract B (B + 1) ++ t) = ⟨#[UInt8.ofNat c]⟩ ++ decS t := by
  have z1 := g1.1
  have z2 := g2.1
  apply ba_ext
  rw [app_list]
  show decL (⟨#[37]⟩ ++ T1.extract A (A + 1) ++ T2.extract B (B + 1) ++ t : ByteArray).data.toList = [UInt8.ofNat c] ++ decL t.data.toList
  rw [app_list, app_list, app_list, ext_one T1 A (by omega), ext_one T2 B (by omega)]
  show decL (37 :: T1[A] :: T2[B] :: t.data.toList) = UInt8.ofNat c :: decL t.data.toList
  have v1 := g1.2 A (by omega)
  have v2 := g2.2 B (by omega)
  rw [decL_yes (by rw [v1]; omega) (by rw [v2]; omega), v1, v2, show 16 * A + B = c by omega]
theorem sign_size (T1 T2 : ByteArray) (A B : Nat) (t : ByteArray) (ht : t.size ≤ 1048576) : (⟨#[37]⟩ ++ T1.extract A (A + 1) ++ T2.extract B (B + 1) ++ t : ByteArray).size ≤ 9000000 := by
  have e1 : (⟨#[37]⟩ : ByteArray).size = 1 := rfl
  simp only [ByteArray.size_append, ByteArray.size_extract, e1]
  omega
theorem Sign_dec (T1 T2 : ByteArray) (g1 : goodT T1) (g2 : goodT T2) (c A B : Nat) (hc : c < 256) (hA : A = c / 16) (hB : B = c % 16) (t d : ByteArray) (hd : decS t = d) (ht : t.size ≤ 1048576) (W : World) :
    Calls Try.prog 16 #[.string (⟨#[37]⟩ ++ T1.extract A (A + 1) ++ T2.extract B (B + 1) ++ t)] W fun e w' => e = .returned (.string (⟨#[UInt8.ofNat c]⟩ ++ d)) ∧ Below W.heap.size W w' := by
  have := Decode_any (⟨#[37]⟩ ++ T1.extract A (A + 1) ++ T2.extract B (B + 1) ++ t) W (sign_size T1 T2 A B t ht)
  rwa [dec_sign T1 T2 g1 g2 c A B hc hA hB t, hd] at this

set_option maxHeartbeats 8000000 in
set_option maxRecDepth 100000 in
theorem signs_no (c : Nat) (t : ByteArray) (w : World) (hc' : c < 256) (hb : t.size ≤ 1048576) :
    Calls Try.prog 10 #[.int .u8 c, .string t] w fun e w' => e = .returned (.bool true) ∧ Below w.heap.size w w' := by
  obtain ⟨g, HG⟩ : ∃ g, Hid (g = w.heap.size) := ⟨_, Lib.hid rfl⟩
  rw [← HG.out]
  obtain ⟨d, HDd⟩ : ∃ d, Hid (decS t = d) := ⟨_, Lib.hid rfl⟩
  have hds : d.size ≤ t.size := by
    rw [← HDd.out]
    have := decL_len t.data.toList
    have e : t.data.toList.length = t.size := by simp
    have e2 : (decS t).size = (decL t.data.toList).length := rfl
    omega
  have hcv := byte_str c hc'
  go_enter Try.func10, Try.ntmps10
  go_wp2_with fail
  refine (alive_any _).mono ?_
  rintro e w1 ⟨rfl, b1⟩
  have B1 := Lib.hid b1; clear b1
  go_wp2_with fail
  refine (Beyond1_no w1.heap.size t.size _ (by simp) (by omega)).mono ?_
  rintro e w2 ⟨rfl, rfl⟩
  obtain ⟨wo, HW⟩ : ∃ wo, Hid (wo = w1.alloc (.cells #[.int .i64 (t.size : Int)] 3)) := ⟨_, Lib.hid rfl⟩
  rw [← HW.out]
  have BO : Hid (Below g w wo) := Lib.hid (by
    rw [HW.out, HG.out]; exact B1.out.alloc B1.out.size _)
  clear HW B1
  have HDC : Hid (∀ W, Calls Try.prog 16 #[.string t] W fun e w' => e = .returned (.string d) ∧ Below W.heap.size W w') := Lib.hid (fun W => by
    have := Decode_any t W (by omega)
    rwa [HDd.out] at this)
  go_upto_region 5 with fail
  go_cut [7] (fun s7 wx => s7 = .string (⟨#[UInt8.ofNat c]⟩ ++ d) ∧ Hid (Below g w wx))
  case first =>
    go_region_with (go_at_call 16; (with_reducible refine (HDC.out _).mono ?_); rintro e w3 ⟨rfl, b3⟩; obtain ⟨hcc, hcf⟩ := bcell b3)
    all_goals
      have hgo : g ≤ wo.heap.size := by have := BO.out.size; rw [HG.out]; exact this
      go_wp2_with fail
      go_meet
      refine ⟨rfl, Lib.hid ?_⟩
      first
        | exact (BO.out.drew.alloc hgo _).trans (b3.mono (by simp; omega))
        | exact (BO.out.drew.trans (b3.mono hgo)).alloc (Nat.le_trans hgo b3.size) _
  case rest =>
  obtain ⟨rfl, BR⟩ := hcut
  clear hcv
  go_wp2
  go_loopw [8] (fun i wr => ∃ k : Nat, k ≤ 4 ∧ i = .int .i64 k ∧ Hid (Below g w wr)) (fun i _ => 4 - (intOf i).toNat)
  case atStart => exact ⟨0, by decide, rfl, BR⟩
  case round =>
    obtain ⟨k, hk, rfl, HB⟩ := hrel
    by_cases hlt : k < 4
    · obtain ⟨A, HA⟩ : ∃ A : Nat, Hid (A = c / 16) := ⟨_, Lib.hid rfl⟩
      obtain ⟨B, HBb⟩ : ∃ B : Nat, Hid (B = c % 16) := ⟨_, Lib.hid rfl⟩
      have hA16 : A < 16 := by rw [HA.out]; omega
      have hB16 : B < 16 := by rw [HBb.out]; omega
      have hA : (c : Int) / 16 = (A : Int) := by rw [HA.out]; omega
      have hB : (c : Int).tmod 16 = (B : Int) := by rw [HBb.out, Int.tmod_eq_emod_of_nonneg (by omega)]; omega
      have hAw : IntKind.u8.wrap (A : Int) = (A : Int) := IntWalk.u8_in _ (by omega)
      have hAw1 : IntKind.u8.wrap ((A : Int) + 1) = (A : Int) + 1 := IntWalk.u8_in _ (by omega)
      have hBw1 : IntKind.u8.wrap ((B : Int) + 1) = (B : Int) + 1 := IntWalk.u8_in _ (by omega)
      have hk4 : k = 0 ∨ k = 1 ∨ k = 2 ∨ k = 3 := by omega
      have HC1 := Lib.hid (Sign_dec _ _ good_s good_s c A B hc' HA.out HBb.out t d HDd.out hb)
      have HC2 := Lib.hid (Sign_dec _ _ good_g good_s c A B hc' HA.out HBb.out t d HDd.out hb)
      have HC3 := Lib.hid (Sign_dec _ _ good_s good_g c A B hc' HA.out HBb.out t d HDd.out hb)
      have HC4 := Lib.hid (Sign_dec _ _ good_g good_g c A B hc' HA.out HBb.out t d HDd.out hb)
      rcases hk4 with rfl | rfl | rfl | rfl
      · clear HC2 HC3 HC4
        go_wp2
        go_region_with (go_at_call 16; ((with_reducible refine (HC1.out _).mono ?_); rintro e w5 ⟨rfl, b5⟩))
        all_goals
          have B5 : Hid (Below g w w5) := Lib.hid (HB.out.drew.trans (b5.mono (by have := HB.out.drew.size; rw [HG.out]; exact this)))
          clear b5
          go_wp2
          go_roundw
          case rel => exact ⟨_, by decide, rfl, B5⟩
          case measure => simp [intOf]
      · clear HC1 HC3 HC4
        go_wp2
        go_region_with (go_at_call 16; ((with_reducible refine (HC2.out _).mono ?_); rintro e w5 ⟨rfl, b5⟩))
        all_goals
          have B5 : Hid (Below g w w5) := Lib.hid (HB.out.drew.trans (b5.mono (by have := HB.out.drew.size; rw [HG.out]; exact this)))
          clear b5
          go_wp2
          go_roundw
          case rel => exact ⟨_, by decide, rfl, B5⟩
          case measure => simp [intOf]
      · clear HC1 HC2 HC4
        go_wp2
        go_region_with (go_at_call 16; ((with_reducible refine (HC3.out _).mono ?_); rintro e w5 ⟨rfl, b5⟩))
        all_goals
          have B5 : Hid (Below g w w5) := Lib.hid (HB.out.drew.trans (b5.mono (by have := HB.out.drew.size; rw [HG.out]; exact this)))
          clear b5
          go_wp2
          go_roundw
          case rel => exact ⟨_, by decide, rfl, B5⟩
          case measure => simp [intOf]
      · clear HC1 HC2 HC3
        go_wp2
        go_region_with (go_at_call 16; ((with_reducible refine (HC4.out _).mono ?_); rintro e w5 ⟨rfl, b5⟩))
        all_goals
          have B5 : Hid (Below g w w5) := Lib.hid (HB.out.drew.trans (b5.mono (by have := HB.out.drew.size; rw [HG.out]; exact this)))
          clear b5
          go_wp2
          go_roundw
          case rel => exact ⟨_, by decide, rfl, B5⟩
          case measure => simp [intOf]
    · go_wp2
      go_ret
      exact ⟨rfl, HB.out⟩

theorem signs_walk (c : Int) (t : ByteArray) (w : World) (hc : (Lit.int .u8 c).wf = true) (ht : t.size ≤ 140737488351232) :
    Calls Try.prog 10 #[.int .u8 c, .string t] w fun e w' => e = .returned (.bool true) ∧ Below w.heap.size w w' := by
  obtain ⟨c, rfl, hc'⟩ := nat_u8 c hc
  by_cases hb : 1048576 < t.size
  · exact signs_yes c t w ht hb
  · exact signs_no c t w hc' (by omega)

end Go.Proofs.Ytamcdpgjgpohpaa
