/-
  Contracts: the document's Hex and Decode.
-/
import Derived.Test.YtdifdikfgkiocaaGreatDoorMaG
import Derived.Test.YtdifdikfgkiocaaGreatDoorMrA
namespace Go.Proofs.YtdifdikfgkiocaaGreatDoor
open Go.RowKit

theorem Pcdrop_at (s : ByteArray) (k : Nat) (h : k < s.size) : s.data.toList.drop k = s[k] :: s.data.toList.drop (k + 1) := by
 rw [List.drop_eq_getElem_cons (by simpa using h)]; rfl
/-- A step of the document's decoding. -/
theorem dec_no (s : ByteArray) (k : Nat) (h : k < s.size) (hn : sig3 (s.data.toList.drop k) = false) : pc_decL (s.data.toList.drop k) = s[k] :: pc_decL (s.data.toList.drop (k + 1)) := by
 rw [Pcdrop_at s k h] at hn ⊢
 exact pc_decL_no hn
theorem dec_yes (s : ByteArray) (k : Nat) (h : k + 2 < s.size) (h0 : s[k].toNat = 37) (h1 : hexV s[k + 1] < 16) (h2 : hexV s[k + 2] < 16) : pc_decL (s.data.toList.drop k) = UInt8.ofNat (16 * hexV s[k + 1] + hexV s[k + 2]) :: pc_decL (s.data.toList.drop (k + 3)) := by
 rw [Pcdrop_at s k (by omega), Pcdrop_at s (k + 1) (by omega), Pcdrop_at s (k + 2) h]
 have : s[k] = 37 := by rw [← UInt8.toNat_inj]; exact h0
 rw [this]
 exact pc_decL_yes h1 h2
theorem sig_short (s : ByteArray) (k : Nat) (h : k < s.size) (h2 : s.size ≤ k + 2) : sig3 (s.data.toList.drop k) = false := by
 cases hh : sig3 (s.data.toList.drop k)
 ·rfl
 ·have := sig3_len hh
  rw [List.length_drop] at this
  have hl : s.data.toList.length = s.size := by simp
  omega
theorem sig_at (s : ByteArray) (k : Nat) (h : k + 2 < s.size) : sig3 (s.data.toList.drop k) = ((s[k] == 37) && decide (hexV s[k + 1] < 16) && decide (hexV s[k + 2] < 16)) := by
 rw [Pcdrop_at s k (by omega), Pcdrop_at s (k + 1) (by omega), Pcdrop_at s (k + 2) h]
 rfl

set_option maxRecDepth 100000 in
set_option maxHeartbeats 2000000 in
theorem PcRefDecode_any (s : ByteArray) (w : World) (hs : s.size ≤ 9000000) :
  Calls Tryz.prog 73 #[.string s] w fun e w' => e = .returned (.string (decS s)) ∧ Below w.heap.size w w' := by
 obtain ⟨g, HG⟩ : ∃ g, Hid (g = w.heap.size) := ⟨_, Lib.hid rfl⟩
 rw [← HG.out]
 have hl : s.data.toList.length = s.size := by simp
 have HL := Lib.hid hl
 clear hl
 go_enter Tryz.func73, Tryz.ntmps73
 go_wp2
 go_loopw [3, 4] (fun b i wr => ∃ (k : Nat) (D : List UInt8), k ≤ s.size ∧ i = .int .i64 k ∧ D.length ≤ k ∧ Hid (D ++ pc_decL (s.data.toList.drop k) = pc_decL s.data.toList) ∧ Hid (wr.ownsRow g 5 1 b D.length (D.map pc_bv)) ∧ Hid (Below g w wr)) (fun _ i _ => s.size - (intOf i).toNat)
 case atStart => exact ⟨0, [], Nat.zero_le _, rfl, Nat.le_refl _, Lib.hid (by simp), Lib.hid ⟨rfl, .inl ⟨rfl, rfl⟩⟩, Lib.hid (by rw [HG.out]; exact Below.refl _ _)⟩
 case round =>
  obtain ⟨k, D, hk, rfl, hDk, HD, HR, HB⟩ := hrel
  by_cases hlt : k < s.size
  ·have hby := byte_lt s[k]
   have hgz : g ≤ wr.heap.size := by have := HB.out.size; rw [HG.out]; exact this
   have HStep : Hid (∀ (b : Bool) (c : UInt8), ∃ v' w1, (Builtin.append_ #[34, 34] 34 #[u3, .slice (some ⟨wr.heap.size, 0, none⟩) 1 1]).run Tryz.prog ((bif b then wr.drew else wr).alloc (.cells #[.int .u8 (c.toNat : Int)] 5)) = .ok v' w1 ∧
     Hid (w1.ownsRow g 5 1 v' (D ++ [c]).length ((D ++ [c]).map pc_bv)) ∧ Hid (Below g w w1)) := Lib.hid (fun b c => by
    cases b
    ·obtain ⟨v', w1, h1, h2, h3⟩ := pc_appB g u3 (D.map pc_bv) #[.int .u8 (c.toNat : Int)] wr w (by rw [List.length_map]; exact HR.out) (by rw [List.length_map]; simp; omega) (by simp [Value.oneCell']) hgz HB.out
     exact ⟨v', w1, h1, Lib.hid (by simpa [pc_bv] using h2), Lib.hid h3⟩
    ·obtain ⟨v', w1, h1, h2, h3⟩ := pc_appB g u3 (D.map pc_bv) #[.int .u8 (c.toNat : Int)] wr.drew w (by rw [List.length_map]; exact HR.out.drew) (by rw [List.length_map]; simp; omega) (by simp [Value.oneCell']) hgz HB.out.drew
     exact ⟨v', w1, h1, Lib.hid (by simpa [pc_bv] using h2), Lib.hid h3⟩)
   clear hgz
   have hone : ∀ (c : UInt8), Hid (pc_decL (s.data.toList.drop k) = c :: pc_decL (s.data.toList.drop (k + 1))) → Hid ((D ++ [c]) ++ pc_decL (s.data.toList.drop (k + 1)) = pc_decL s.data.toList) := fun c hc => Lib.hid (by
    rw [← HD.out, hc.out]; simp)
   have HOne := Lib.hid hone
   clear hone
   by_cases h37 : s[k].toNat = 37
   ·have hcI : ((s[k].toNat : Int) == 37) = true := by rw [h37]; rfl
    by_cases hk2 : k + 2 < s.size
    ·obtain ⟨a, HA⟩ : ∃ a, Hid (a = s[k + 1]) := ⟨_, Lib.hid rfl⟩
     obtain ⟨b, HBb⟩ : ∃ b, Hid (b = s[k + 2]) := ⟨_, Lib.hid rfl⟩
     have HYes : Hid (hexV a < 16 → hexV b < 16 → pc_decL (s.data.toList.drop k) = UInt8.ofNat (16 * hexV a + hexV b) :: pc_decL (s.data.toList.drop (k + 3))) := Lib.hid (by
      rw [HA.out, HBb.out]; exact dec_yes s k hk2 h37)
     have HNo : Hid (¬ (hexV a < 16 ∧ hexV b < 16) → pc_decL (s.data.toList.drop k) = s[k] :: pc_decL (s.data.toList.drop (k + 1))) := Lib.hid (by
      rw [HA.out, HBb.out]
      intro h
      refine dec_no s k hlt ?_
      rw [sig_at s k hk2]
      simp only [Bool.and_eq_false_iff, decide_eq_false_iff_not]
      by_cases h1 : hexV s[k + 1] < 16
      ·exact .inr (fun h2 => h ⟨h1, h2⟩)
      ·exact .inl (.inr h1))
     clear h37
     by_cases ha : hexV a < 16
     ·obtain ⟨x, HX⟩ : ∃ x : Nat, Hid (x = hexV a) := ⟨_, Lib.hid rfl⟩
      have hx16 : x < 16 := by rw [HX.out]; exact ha
      have HIa : Hid (hexI a = (x : Int)) := Lib.hid (by rw [hexI_yes ha, HX.out])
      by_cases hb : hexV b < 16
      ·obtain ⟨y, HY⟩ : ∃ y : Nat, Hid (y = hexV b) := ⟨_, Lib.hid rfl⟩
       have hy16 : y < 16 := by rw [HY.out]; exact hb
       have HIb : Hid (hexI b = (y : Int)) := Lib.hid (by rw [hexI_yes hb, HY.out])
       have HDec : Hid (pc_decL (s.data.toList.drop k) = UInt8.ofNat (16 * x + y) :: pc_decL (s.data.toList.drop (k + 3))) := Lib.hid (by rw [HX.out, HY.out]; exact HYes.out ha hb)
       clear ha hb HYes HNo HOne
       obtain ⟨v', w1, hrun, H1, H2⟩ := HStep.out true (UInt8.ofNat (16 * x + y))
       have hcv : ((UInt8.ofNat (16 * x + y)).toNat : Int) = 16 * (x : Int) + (y : Int) := by simp; omega
       rw [hcv] at hrun
       have HRun := Lib.hid hrun
       clear hrun hcv HStep
       go_wp2_with fail
       rw [← HA.out]
       refine (Hex_any a _).mono ?_
       rw [HIa.out]
       rintro e w3 ⟨rfl, rfl⟩
       go_wp2_with fail
       rw [← HBb.out]
       refine (Hex_any b _).mono ?_
       rw [HIb.out]
       rintro e w3 ⟨rfl, rfl⟩
       go_wp2_with fail
       have HXA : Hid (∀ w, Calls Tryz.prog 108 #[.int .u8 a.toNat] w fun e w' => e = .returned (.int .i64 x) ∧ w = w') := Lib.hid (fun w => by
        have := Hex_any a w
        rwa [HIa.out] at this)
       have HXB : Hid (∀ w, Calls Tryz.prog 108 #[.int .u8 b.toNat] w fun e w' => e = .returned (.int .i64 y) ∧ w = w') := Lib.hid (fun w => by
        have := Hex_any b w
        rwa [HIb.out] at this)
       have hA1 : s[k + 1] = a := HA.out.symm
       have hB1 : s[k + 2] = b := HBb.out.symm
       have k1 : IntKind.i64.wrap ((k : Int) + 1) = (k : Int) + 1 := IntWalk.i64_in _ (by omega)
       have k2 : IntKind.i64.wrap ((k : Int) + 2) = (k : Int) + 2 := IntWalk.i64_in _ (by omega)
       have k3 : IntKind.i64.wrap (16 * (x : Int)) = 16 * (x : Int) := IntWalk.i64_in _ (by omega)
       have k4 : IntKind.i64.wrap (16 * (x : Int) + (y : Int)) = 16 * (x : Int) + (y : Int) := IntWalk.i64_in _ (by omega)
       have k5 : IntKind.u8.wrap (16 * (x : Int) + (y : Int)) = 16 * (x : Int) + (y : Int) := IntWalk.u8_in _ (by omega)
       have k6 : ((k : Int) + 1).toNat = k + 1 := by omega
       have k7 : ((k : Int) + 2).toNat = k + 2 := by omega
       have k8 : 0 ≤ (k : Int) + 1 := by omega
       have k9 : 0 ≤ (k : Int) + 2 := by omega
       go_region_law (first | (go_simp; go_at_call 108; (with_reducible refine (HXA.out _).mono ?_); rintro e w3 ⟨rfl, rfl⟩) | (go_simp; go_at_call 108; (with_reducible refine (HXB.out _).mono ?_); rintro e w3 ⟨rfl, rfl⟩) | (refine step_append_run _ rfl _ _ _ _ rfl _ _ rfl rfl _ _ HRun.out ?_))
       all_goals
        go_wp2
        exact ⟨⟨k + 3, D ++ [UInt8.ofNat (16 * x + y)], by omega, by go_num, by simp; omega, Lib.hid (by rw [← HD.out, HDec.out]; simp), H1, H2⟩, by simp [intOf]; omega⟩
      ·have HIb : Hid (hexI b = -1) := Lib.hid (hexI_no hb)
       have HDec : Hid (pc_decL (s.data.toList.drop k) = s[k] :: pc_decL (s.data.toList.drop (k + 1))) := Lib.hid (HNo.out (fun h => hb h.2))
       have HDn := HOne.out _ HDec
       clear ha hb HYes HNo HOne
       obtain ⟨v', w1, hrun, H1, H2⟩ := HStep.out false s[k]
       have HRun := Lib.hid hrun
       clear hrun HStep
       go_wp2_with fail
       rw [← HA.out]
       refine (Hex_any a _).mono ?_
       rw [HIa.out]
       rintro e w3 ⟨rfl, rfl⟩
       go_wp2_with fail
       rw [← HBb.out]
       refine (Hex_any b _).mono ?_
       rw [HIb.out]
       rintro e w3 ⟨rfl, rfl⟩
       go_wp2_with (at_builtin; refine Lib.wpList_append_run _ rfl _ _ _ _ rfl _ _ rfl rfl _ _ HRun.out ?_)
       exact ⟨⟨k + 1, D ++ [s[k]], by omega, by go_num, by simp; omega, HDn, H1, H2⟩, by simp [intOf]; omega⟩
     ·have HIa : Hid (hexI a = -1) := Lib.hid (hexI_no ha)
      have HDec : Hid (pc_decL (s.data.toList.drop k) = s[k] :: pc_decL (s.data.toList.drop (k + 1))) := Lib.hid (HNo.out (fun h => ha h.1))
      have HDn := HOne.out _ HDec
      clear ha HYes HNo HOne
      obtain ⟨v', w1, hrun, H1, H2⟩ := HStep.out false s[k]
      have HRun := Lib.hid hrun
      clear hrun HStep
      go_wp2_with fail
      rw [← HA.out]
      refine (Hex_any a _).mono ?_
      rw [HIa.out]
      rintro e w3 ⟨rfl, rfl⟩
      go_wp2_with (at_builtin; refine Lib.wpList_append_run _ rfl _ _ _ _ rfl _ _ rfl rfl _ _ HRun.out ?_)
      exact ⟨⟨k + 1, D ++ [s[k]], by omega, by go_num, by simp; omega, HDn, H1, H2⟩, by simp [intOf]; omega⟩
    ·have HDec : Hid (pc_decL (s.data.toList.drop k) = s[k] :: pc_decL (s.data.toList.drop (k + 1))) := Lib.hid (dec_no s k hlt (sig_short s k hlt (by omega)))
     have HDn := HOne.out _ HDec
     clear h37 HOne
     obtain ⟨v', w1, hrun, H1, H2⟩ := HStep.out false s[k]
     have HRun := Lib.hid hrun
     clear hrun HStep
     go_wp2_with (at_builtin; refine Lib.wpList_append_run _ rfl _ _ _ _ rfl _ _ rfl rfl _ _ HRun.out ?_)
     exact ⟨⟨k + 1, D ++ [s[k]], by omega, by go_num, by simp; omega, HDn, H1, H2⟩, by simp [intOf]; omega⟩
   ·have hcI : ((s[k].toNat : Int) == 37) = false := beq_eq_false_iff_ne.2 (by omega)
    have HDec : Hid (pc_decL (s.data.toList.drop k) = s[k] :: pc_decL (s.data.toList.drop (k + 1))) := Lib.hid (dec_no s k hlt (by
     rw [Pcdrop_at s k hlt]; exact sig3_ne (fun h => h37 (by rw [h]; rfl))))
    have HDn := HOne.out _ HDec
    clear h37 HOne
    obtain ⟨v', w1, hrun, H1, H2⟩ := HStep.out false s[k]
    have HRun := Lib.hid hrun
    clear hrun HStep
    go_wp2_with (at_builtin; refine Lib.wpList_append_run _ rfl _ _ _ _ rfl _ _ rfl rfl _ _ HRun.out ?_)
    exact ⟨⟨k + 1, D ++ [s[k]], by omega, by go_num, by simp; omega, HDn, H1, H2⟩, by simp [intOf]; omega⟩
  ·have HE : Hid (D = pc_decL s.data.toList) := Lib.hid (by
    have hd : s.data.toList.drop k = [] := List.drop_eq_nil_of_le (by rw [HL.out]; omega)
    rw [← HD.out, hd, pc_decL_nil, List.append_nil])
   rw [HE.out] at HR
   have hcv := pc_bytes_back _ _ _ _ HR.out
   go_wp2
   go_ret
   exact ⟨rfl, HB.out⟩

end Go.Proofs.YtdifdikfgkiocaaGreatDoor
