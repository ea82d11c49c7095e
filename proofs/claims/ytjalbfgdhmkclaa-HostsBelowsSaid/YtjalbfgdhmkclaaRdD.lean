/-
  Contract: the reader's part.
-/
import Derived.Test.YtjalbfgdhmkclaaRdC
namespace Go.Proofs.Ytjalbfgdhmkclaa
open Go.RowKit

theorem cut_yes (b : Nat) (t p : ByteArray) (w : World) (h : Rd w b t) (hp : p.data.toList.isPrefixOf t.data.toList = true) :
    Calls Try.prog 19 #[.pointer (some ⟨b, 0, none⟩), .string p] w fun e w' => e = .returned (.bool true) ∧ Rd w' b (asB (t.data.toList.drop p.size)) ∧ Kp (Only b) w w' := by
  refine (cut_any b t p w h).mono fun e w' ⟨he, hr, hk⟩ => ⟨?_, ?_, hk⟩
  · rw [he]; exact ret_bool hp
  · have : Lib.trimPrefix t.data.toList p.data.toList = t.data.toList.drop p.size := by
      unfold Lib.trimPrefix Lib.hasPrefix
      rw [if_pos hp, lenB]
    rwa [this] at hr
theorem cut_no (b : Nat) (t p : ByteArray) (w : World) (h : Rd w b t) (hp : p.data.toList.isPrefixOf t.data.toList = false) :
    Calls Try.prog 19 #[.pointer (some ⟨b, 0, none⟩), .string p] w fun e w' => e = .returned (.bool false) ∧ Rd w' b t ∧ Kp (Only b) w w' := by
  refine (cut_any b t p w h).mono fun e w' ⟨he, hr, hk⟩ => ⟨?_, ?_, hk⟩
  · rw [he]; exact ret_bool hp
  · have : Lib.trimPrefix t.data.toList p.data.toList = t.data.toList := by
      unfold Lib.trimPrefix Lib.hasPrefix
      rw [hp]; rfl
    rw [this, asB_back] at hr; exact hr
theorem Reads1.from {b : Nat} {o : Option (List Nat × List UInt8)} {w w1 w' : World} {e : Ending} (k : Kp (Only b) w w1) (h : Reads1 b o w1 e w') : Reads1 b o w e w' := by
  obtain ⟨v, r, h1, h2, h3, h4⟩ := h
  refine ⟨v, r, h1, k.trans h2, fun ns u ho => ?_, h4⟩
  obtain ⟨a1, ⟨g, g1, g2, g3⟩, a3⟩ := h3 ns u ho
  exact ⟨a1, ⟨g, Nat.le_trans k.size g1, g2, g3⟩, a3⟩

set_option maxHeartbeats 1000000 in
theorem part_any (b : Nat) (t : ByteArray) (w : World) (h : Rd w b t) (hs : t.size ≤ 1048600) (hsm : Sml t.data.toList) :
    Calls Try.prog 18 #[.pointer (some ⟨b, 0, none⟩)] w (Reads1 b (rpart t.data.toList) w) := by
  have hl := lenB t
  have HSm := Lib.hid hsm
  have Hh := Lib.hid h
  clear hsm h
  cases h1 : ([48, 120] : List UInt8).isPrefixOf t.data.toList
  · cases h2 : ([48] : List UInt8).isPrefixOf t.data.toList
    · have HR : Hid (rpart t.data.toList = rdec t.data.toList) := Lib.hid (by rw [rpart, h1, h2]; rfl)
      obtain ⟨o, HO⟩ : ∃ o, Hid (rdec t.data.toList = o) := ⟨_, Lib.hid rfl⟩
      rw [HR.out, HO.out]
      have H1 := Lib.hid h1
      have H2 := Lib.hid h2
      clear h1 h2 hl
      go_enter Try.func18, Try.ntmps18
      go_wp2_with fail
      refine (cut_no b t _ _ Hh.out H1.out).mono ?_
      rintro e w1 ⟨rfl, r1, k1⟩
      have R1 := Lib.hid r1; have K1 := Lib.hid k1; clear r1 k1
      go_wp2_with fail
      refine (cut_no b t _ _ R1.out H2.out).mono ?_
      rintro e w2 ⟨rfl, r2, k2⟩
      have R2 := Lib.hid r2; have K2 := Lib.hid k2; clear r2 k2
      go_wp2_with fail
      refine (decimal_any b t _ R2.out hs HSm.out).mono ?_
      rw [HO.out]
      rintro e w3 h3
      obtain ⟨v, r, a1, a2, a3, a4⟩ := Reads1.from (K1.out.trans K2.out) h3
      have A1 := Lib.hid a1; have A2 := Lib.hid a2; have A3 := Lib.hid a3; have A4 := Lib.hid a4
      clear a1 a2 a3 a4 h3
      cases o with
      | none =>
        obtain rfl := A4.out rfl
        go_wp2
        go_ret2
        exact Reads1.no v r A1.out A2.out rfl
      | some x =>
        obtain ⟨ns, u⟩ := x
        obtain ⟨rfl, hn, hr⟩ := A3.out ns u rfl
        have HN := Lib.hid hn; have HRR := Lib.hid hr
        clear hn hr
        go_wp2
        go_ret2
        exact Reads1.yes v (by rw [← HRR.out]; exact A1.out) A2.out HN.out rfl
    · have HR : Hid (rpart t.data.toList = some ([fol 8 (dgs 8 (t.data.toList.drop 1))], (t.data.toList.drop 1).dropWhile (dig 8))) := Lib.hid (by rw [rpart, h1, h2]; rfl)
      rw [HR.out]
      have H1 := Lib.hid h1
      have H2 := Lib.hid h2
      have hz : (asB (t.data.toList.drop 1)).size ≤ 1048600 := by rw [asB_size, List.length_drop]; omega
      obtain ⟨T, HT⟩ : ∃ T, Hid (asB (t.data.toList.drop 1) = T) := ⟨_, Lib.hid rfl⟩
      have HTs : Hid (Sml T.data.toList) := Lib.hid (by rw [← HT.out]; exact HSm.out.drop 1)
      have HTe : Hid (t.data.toList.drop 1 = T.data.toList) := Lib.hid (by rw [← HT.out]; rfl)
      rw [HT.out] at hz
      rw [HTe.out]
      clear h1 h2 hl
      go_enter Try.func18, Try.ntmps18
      go_wp2_with fail
      refine (cut_no b t _ _ Hh.out H1.out).mono ?_
      rintro e w1 ⟨rfl, r1, k1⟩
      have R1 := Lib.hid r1; have K1 := Lib.hid k1; clear r1 k1
      go_wp2_with fail
      refine (cut_yes b t ⟨#[48]⟩ _ R1.out H2.out).mono ?_
      rw [show asB (t.data.toList.drop (⟨#[48]⟩ : ByteArray).size) = T from HT.out]
      rintro e w2 ⟨rfl, r2, k2⟩
      have R2 := Lib.hid r2; have K2 := Lib.hid k2; clear r2 k2
      go_wp2_with fail
      refine (rd_digits_any b 8 T _ R2.out hz (by omega) HTs.out).mono ?_
      rintro e w3 ⟨rfl, r3, k3⟩
      have R3 := Lib.hid r3; have K3 := Lib.hid k3; clear r3 k3
      go_wp2
      go_ret2
      have K := (K1.out.trans K2.out).trans K3.out
      exact Reads1.yes _ (R3.out.alloc _) (K.alloc _) (nums_one w w3 _ b K) rfl
  · have HR : Hid (rpart t.data.toList = some ([fol 16 (dgs 16 (t.data.toList.drop 2))], (t.data.toList.drop 2).dropWhile (dig 16))) := Lib.hid (by rw [rpart, h1]; rfl)
    rw [HR.out]
    have H1 := Lib.hid h1
    have hz : (asB (t.data.toList.drop 2)).size ≤ 1048600 := by rw [asB_size, List.length_drop]; omega
    obtain ⟨T, HT⟩ : ∃ T, Hid (asB (t.data.toList.drop 2) = T) := ⟨_, Lib.hid rfl⟩
    have HTs : Hid (Sml T.data.toList) := Lib.hid (by rw [← HT.out]; exact HSm.out.drop 2)
    have HTe : Hid (t.data.toList.drop 2 = T.data.toList) := Lib.hid (by rw [← HT.out]; rfl)
    rw [HT.out] at hz
    rw [HTe.out]
    clear h1 hl
    go_enter Try.func18, Try.ntmps18
    go_wp2_with fail
    refine (cut_yes b t ⟨#[48, 120]⟩ _ Hh.out H1.out).mono ?_
    rw [show asB (t.data.toList.drop (⟨#[48, 120]⟩ : ByteArray).size) = T from HT.out]
    rintro e w2 ⟨rfl, r2, k2⟩
    have R2 := Lib.hid r2; have K2 := Lib.hid k2; clear r2 k2
    go_wp2_with fail
    refine (rd_digits_any b 16 T _ R2.out hz (by omega) HTs.out).mono ?_
    rintro e w3 ⟨rfl, r3, k3⟩
    have R3 := Lib.hid r3; have K3 := Lib.hid k3; clear r3 k3
    go_wp2
    go_ret2
    have K := K2.out.trans K3.out
    exact Reads1.yes _ (R3.out.alloc _) (K.alloc _) (nums_one w w3 _ b K) rfl

end Go.Proofs.Ytjalbfgdhmkclaa
