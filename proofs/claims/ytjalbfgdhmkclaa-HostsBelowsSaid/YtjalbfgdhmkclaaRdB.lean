/-
  Contract: the reader's digits.
-/
import Derived.Test.YtjalbfgdhmkclaaRdA
namespace Go.Proofs.Ytjalbfgdhmkclaa
open Go.RowKit

theorem drewN_two (w : World) (a b : Nat) : (w.drewN a).drewN b = w.drewN (a + b) := by
  simp [World.drewN, Nat.add_assoc]

set_option maxRecDepth 100000 in
set_option maxHeartbeats 1000000 in
theorem rd_digits_any (b base : Nat) (t : ByteArray) (w : World) (h : Rd w b t) (hs : t.size ≤ 1048600) (hb : base ≤ 16) (hsm : Sml t.data.toList) :
    Calls Try.prog 30 #[.pointer (some ⟨b, 0, none⟩), .int .i64 base] w fun e w' => e = .returned (.tuple #[.int .i64 (fol base (dgs base t.data.toList)), .int .i64 ((dgs base t.data.toList).length : Int)]) ∧ Rd w' b (asB (t.data.toList.dropWhile (dig base))) ∧ Kp (Only b) w w' := by
  have hc := h.cell
  have hf := h.free
  have hlt0 := h.lt
  have hl := lenB t
  obtain ⟨D, HD⟩ : ∃ D, Hid (dgs base t.data.toList = D) := ⟨_, Lib.hid rfl⟩
  have hDl := dgs_len base t.data.toList
  have HDrop := Lib.hid (dgs_drop base t.data.toList)
  have HYes : Hid (∀ k, (hk : k < t.size) → k < D.length → dig base t[k] = true ∧ D.take (k + 1) = D.take k ++ [t[k]]) := Lib.hid (by
    intro k hk hkD
    rw [← HD.out] at hkD
    obtain ⟨h1, h2, h3⟩ := dgs_take hkD
    refine ⟨h3, ?_⟩
    rw [← HD.out, List.take_succ_eq_append_getElem hkD, h2]; rfl)
  have HNo : Hid (∀ hk : D.length < t.size, dig base t[D.length] = false) := Lib.hid (by
    intro hk
    have h3 : (dgs base t.data.toList).length < t.data.toList.length := by rw [hl, HD.out]; exact hk
    have := dgs_stop h3
    rw [← this]
    congr 1
    show t.data.toList[D.length]'_ = _
    congr 1
    rw [HD.out])
  rw [HD.out] at HDrop hDl
  rw [HD.out]
  rw [hl] at hDl
  have HSm := Lib.hid hsm
  clear hl hsm
  go_enter Try.func30, Try.ntmps30
  go_wp2
  go_loopw [4, 5] (fun x i wr => ∃ k n : Nat, k ≤ D.length ∧ i = .int .i64 k ∧ x = .int .i64 (fol base (D.take k)) ∧ wr = w.drewN n) (fun _ i _ => t.size - (intOf i).toNat)
  case atStart => exact ⟨0, 0, Nat.zero_le _, rfl, rfl, rfl⟩
  case round =>
    obtain ⟨k, n, hk, rfl, rfl, rfl⟩ := hrel
    obtain ⟨W, HW⟩ : ∃ W, Hid (w.drewN n = W) := ⟨_, Lib.hid rfl⟩
    rw [HW.out]
    have hcW : W.cell? ⟨b, 0, none⟩ = some (.string t) := by rw [← HW.out]; exact hc
    have hfW : W.frozen? ⟨b, 0, none⟩ = false := by rw [← HW.out]; exact hf
    by_cases hlt : k < t.size
    · have hsk : ¬ (65 ≤ t[k].toNat ∧ t[k].toNat ≤ 90) := HSm.out _ (by
        have : t[k] = t.data.toList[k]'(by simpa using hlt) := rfl
        rw [this]; exact List.getElem_mem _)
      by_cases hkD : k < D.length
      · obtain ⟨hd, htk⟩ := HYes.out k hlt hkD
        have HTk := Lib.hid htk
        have hfl := fol_le base (D.take k)
        have hx := hexV_le t[k]
        obtain ⟨F, HF⟩ : ∃ F, Hid (fol base (D.take k) = F) := ⟨_, Lib.hid rfl⟩
        rw [HF.out] at hfl
        rw [HF.out]
        have HI : Hid (∀ w, Calls Try.prog 42 #[.string (({ data := #[48, 49, 50, 51, 52, 53, 54, 55, 56, 57, 97, 98, 99, 100, 101, 102] } : ByteArray).extract 0 base), .int .u8 (t[k].toNat : Int)] w fun e w' => e = .returned (.int .i64 (hexV t[k])) ∧ w' = w) := Lib.hid (idx_yes base hb t[k] hsk hd)
        clear htk hd hsk
        obtain ⟨x, HX⟩ : ∃ x, Hid (hexV t[k] = x) := ⟨_, Lib.hid rfl⟩
        rw [HX.out] at HI hx
        have hltI : (k : Int) < (t.size : Int) := by omega
        go_wp2
        have hsl := slice_digs base hb
        go_quiet ((go_loud (exact Calls.quiet_of_same (HI.out _))))
        go_wp2
        have hF36 : F * base ≤ 68719476736 := Nat.le_trans (Nat.mul_le_mul hfl hb) (by omega)
        obtain ⟨m, hm⟩ : ∃ m : Nat, F * base = m := ⟨_, rfl⟩
        refine ⟨⟨k + 1, n + nq, by omega, by go_num, ?_, ?_⟩, by simp [intOf]; omega⟩
        · rw [HTk.out, fol_snoc, HF.out, stp, HX.out, hm]
          rw [show ((F : Int) * (base : Int)) = (m : Int) by rw [← hm]; simp]
          rw [hm] at hF36
          rw [IntWalk.wrap64_in (m : Int) (by omega), IntWalk.wrap64_in ((m : Int) + (x : Int)) (by omega)]
          congr 1
          omega
        · rw [← HW.out]; exact (drewN_two w n nq)
      · obtain rfl : k = D.length := by omega
        have hd := HNo.out hlt
        have HI : Hid (∀ w, Calls Try.prog 42 #[.string (({ data := #[48, 49, 50, 51, 52, 53, 54, 55, 56, 57, 97, 98, 99, 100, 101, 102] } : ByteArray).extract 0 base), .int .u8 (t[D.length].toNat : Int)] w fun e w' => e = .returned (.int .i64 (-1)) ∧ w' = w) := Lib.hid (idx_no base hb t[D.length] hsk hd)
        clear hd hsk
        have hltI : (D.length : Int) < (t.size : Int) := by omega
        go_wp2
        have hsl := slice_digs base hb
        go_quiet ((go_loud (exact Calls.quiet_of_same (HI.out _))))
        go_wp2
        all_goals
          go_ret2
          refine ⟨ret_two (by rw [List.take_length]) rfl, ?_, ?_⟩
          · have h1 : Rd (W.drewN nq) b t := by rw [← HW.out]; exact h
            have h2 := h1.set (.string (t.extract D.length t.size))
            unfold Rd
            rw [← HDrop.out, ← ext_asB]
            exact h2
          · exact Kp.setCell (X := Only b) (p := ⟨b, 0, none⟩) (by rw [← HW.out]; exact ((Kp.refl _ _).drewN n).drewN nq) rfl _
    · obtain rfl : k = t.size := by omega
      have hDk : D.length = t.size := by omega
      have HTk : Hid (fol base (D.take t.size) = fol base D) := Lib.hid (by rw [← hDk, List.take_length])
      go_wp2
      all_goals
        go_ret2
        refine ⟨ret_two (by rw [HTk.out]) (by rw [hDk]), ?_, ?_⟩
        · have h1 : Rd W b t := by rw [← HW.out]; exact h
          have h2 := h1.set (.string ByteArray.empty)
          unfold Rd
          rw [← HDrop.out, hDk, List.drop_of_length_le (by rw [lenB]; omega)]
          exact h2
        · exact Kp.setCell (X := Only b) (p := ⟨b, 0, none⟩) (by rw [← HW.out]; exact (Kp.refl _ _).drewN n) rfl _

end Go.Proofs.Ytjalbfgdhmkclaa
