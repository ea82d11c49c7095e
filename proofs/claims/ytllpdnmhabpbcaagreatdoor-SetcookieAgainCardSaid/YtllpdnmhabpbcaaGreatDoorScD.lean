/-
  Package setcookie: the parts that are heard.
-/
import Derived.Test.YtllpdnmhabpbcaaGreatDoorScC
namespace Go.Proofs.YtllpdnmhabpbcaaGreatDoor
open Go.RowKit

theorem say_key (t : Cki) (j : Nat) (hj : j < 7) (v : ByteArray) : say t (keyL7.getD j []) v = match j with | 0 => sayEx t v | 1 => sayAg t v | 2 => sayDm t v | 3 => sayPa t v | 4 => { t with se := true } | 5 => { t with hi := true } | _ => saySi t v := by
  match j, hj with
  | 0, _ => rfl
  | 1, _ => rfl
  | 2, _ => rfl
  | 3, _ => rfl
  | 4, _ => rfl
  | 5, _ => rfl
  | 6, _ => rfl
theorem say_none (t : Cki) (n : List UInt8) (v : ByteArray) (h : ∀ j, j < 7 → n ≠ keyL7.getD j []) : say t n v = t := by
  unfold say
  rw [if_neg (show n ≠ kEx from h 0 (by decide)), if_neg (show n ≠ kAg from h 1 (by decide)), if_neg (show n ≠ kDm from h 2 (by decide)), if_neg (show n ≠ kPa from h 3 (by decide)), if_neg (show n ≠ kSe from h 4 (by decide)), if_neg (show n ≠ kHi from h 5 (by decide)), if_neg (show n ≠ kSi from h 6 (by decide))]
theorem Map7.at {r b : Nat} {w1 wr : World} (h : Map7 r w1) (hb : r ≠ b) (k : Kp (Only b) w1 wr) : Map7 r wr := by
  refine h.of (k.block r ?_ hb) fun _ _ => rfl
  obtain ⟨es, c, hh, _⟩ := h
  exact lt_of_block hh
theorem Map7.yes {r : Nat} {w : World} (h : Map7 r w) {j : Nat} (hj : j < 7) : (Instr.lookup 49 (.map (some r)) (.string (keyJ j)) true).run Tryz.prog w = .ok (.tuple #[fnJ j, .bool true]) w := by
  obtain ⟨es, c, hb, hx, hk⟩ := h
  refine run_get_ok Tryz.underlying49 Tryz.underlying9 hb (fun x hm => ?_) (fun x hm hkx => ?_) (hk j hj rfl)
  · obtain ⟨i, _, _, hki, _⟩ := hx x hm
    exact ⟨_, hki⟩
  · obtain ⟨i, hi, _, hki, hvi⟩ := hx x hm
    rw [hkx] at hki
    injection hki with hki
    rw [hvi, key_inj hj hi hki]
theorem Map7.no {r : Nat} {w : World} (h : Map7 r w) {k : ByteArray} (hn : ∀ j, j < 7 → keyJ j ≠ k) : (Instr.lookup 49 (.map (some r)) (.string k) true).run Tryz.prog w = .ok (.tuple #[.nilFunc, .bool false]) w := by
  obtain ⟨es, c, hb, hx, hk⟩ := h
  refine run_get_no Tryz.underlying49 Tryz.underlying9 (by kernel_rfl) hb fun x hm => ?_
  obtain ⟨i, hi, _, hki, _⟩ := hx x hm
  exact ⟨_, hki, hn i hi⟩

set_option maxHeartbeats 4000000 in
set_option maxRecDepth 100000 in
theorem hear_any (b : Nat) (t : Cki) (g off : Nat) (a0 : Option Addr) (c : Nat) (L : List ByteArray) (m : Int) (w : World) (h : CkAt w b t) (hA : ∀ j (hj : j < L.length), w.cell? ⟨g, off + j, none⟩ = some (.string L[j])) (ha : 0 < L.length → a0 = some ⟨g, off, none⟩) (hgb : g ≠ b)
    (hn : L.length ≤ 100000) (hs : ∀ x ∈ L, x.size ≤ 1048600) (hW : ∀ w2, Kp (Only b) w w2 → DtC0 m w2) :
    Calls Tryz.prog 13 #[.pointer (some ⟨b, 0, none⟩), .slice a0 L.length c] w (SaidPost w b (L.foldl heard t)) := by
  obtain ⟨n, HN⟩ : ∃ n, Hid (L.length = n) := ⟨_, Lib.hid rfl⟩
  have HA := Lib.hid hA
  have HAd := Lib.hid ha
  have HS := Lib.hid hs
  have HWd := Lib.hid hW
  have HL := h.lt
  have H0 := Lib.hid h
  have HGB := Lib.hid hgb
  clear hA ha hs hW h hgb
  rw [HN.out] at hn ⊢
  go_enter Tryz.func13, Tryz.ntmps13
  go_wp2_with fail
  refine (attributes_any _).mono ?_
  rintro e w1 ⟨r, rfl, hr, h7, b1⟩
  have HM : Hid (∀ wr, Kp (Only b) w1 wr → Map7 r wr) := Lib.hid fun wr k => h7.at (by omega) k
  have HB1 := Lib.hid b1
  clear h7 b1 hr
  go_wp2
  go_loopw [15] (fun i wr => ∃ k : Nat, k ≤ n ∧ i = .int .i64 k ∧ Hid (CkAt wr b ((L.take k).foldl heard t)) ∧ Hid (Kp (Only b) w1 wr)) (fun i _ => n - (intOf i).toNat)
  case atStart => exact ⟨0, Nat.zero_le _, rfl, Lib.hid (H0.out.below HB1.out), Lib.hid (Kp.refl _ _)⟩
  case round =>
    obtain ⟨k, hk, rfl, HC, HK⟩ := hrel
    by_cases hlt : k < n
    · have hkL : k < L.length := by rw [HN.out]; exact hlt
      obtain ⟨x, Hx⟩ : ∃ x, Hid (L[k] = x) := ⟨_, Lib.hid rfl⟩
      have hxs : x.size ≤ 1048600 := by rw [← Hx.out]; exact HS.out _ (List.getElem_mem hkL)
      have HKW : Hid (Kp (Only b) w wr) := Lib.hid ((Kp.of_below HB1.out).trans HK.out)
      have hx : wr.cell? ⟨g, off + k, none⟩ = some (.string x) := by rw [← Hx.out]; exact HKW.out.cell (HA.out k hkL) HGB.out
      have ha : a0 = some ⟨g, off, none⟩ := HAd.out (by omega)
      subst ha
      have HD := Lib.hid (HWd.out wr HKW.out)
      have HP := Lib.hid (pairOf_any x hxs m wr HD.out.mx)
      have hN1 := pnm_le x
      have hV1 := pvl_le x
      have HLw := Lib.hid fun w => Lower_any (pnm x) w (by unfold maxLen; omega)
      obtain ⟨T, HT⟩ : ∃ T, Hid ((L.take k).foldl heard t = T) := ⟨_, Lib.hid rfl⟩
      rw [HT.out] at HC
      have HF : Hid ((L.take (k + 1)).foldl heard t = heard T x) := Lib.hid (by
        rw [List.take_succ_eq_append_getElem hkL, List.foldl_append, HT.out, Hx.out]; rfl)
      rw [show (lowS (pnm x)) = asB ((pnm x).data.toList.map low) from rfl] at HLw
      have hHe : heard T x = if (pvl x).size ≤ 1024 then say T ((pnm x).data.toList.map low) (pvl x) else T := rfl
      rw [hHe] at HF
      clear hHe
      have hV : (pvl x).size ≤ 1048600 := by omega
      generalize (pnm x).data.toList.map low = Kl at *
      generalize pnm x = N at *
      generalize pvl x = V at *
      generalize eqF x = E at *
      clear hN1 hV1
      have hkI : (k : Int) < (n : Int) := by omega
      obtain ⟨Ks, HKs⟩ : ∃ Ks, Hid (asB Kl = Ks) := ⟨_, Lib.hid rfl⟩
      rw [HKs.out] at HLw
      by_cases hk7 : ∃ j, j < 7 ∧ Kl = keyL7.getD j []
      · obtain ⟨j, hj, rfl⟩ := hk7
        by_cases hv : V.size ≤ 1024
        · rw [if_pos hv] at HF
          have hvI : (V.size : Int) ≤ 1024 := by omega
          rcases (show j = 0 ∨ j = 1 ∨ j = 2 ∨ j = 3 ∨ j = 4 ∨ j = 5 ∨ j = 6 by omega) with rfl | rfl | rfl | rfl | rfl | rfl | rfl
          · go_wp2_with fail
            refine HP.out.mono ?_
            rintro e w2 ⟨rfl, b2⟩
            go_wp2_with fail
            refine (HLw.out _).mono ?_
            rintro e w3 ⟨rfl, b3⟩
            have HB3 := Lib.hid (b2.trans (b3.mono b2.size))
            clear b2 b3
            have hl := (HM.out _ (HK.out.trans (Kp.of_below HB3.out))).yes (j := 0) (by decide)
            have h1 := HC.out.below HB3.out
            have HSay : Hid (Calls Tryz.prog 28 #[.pointer (some ⟨b, 0, none⟩), .string V] w3 (SaidPost w3 b (say T (keyL7.getD 0 []) V))) := Lib.hid (by
              have hC := HD.out.below HB3.out
              have := expires_any b T V hV m w3 h1 hC
              exact this)
            clear h1
            have hl2 : (Instr.lookup 49 (.map (some r)) (.string Ks) true).run Tryz.prog w3 = .ok (.tuple #[.func (.func 28) #[] #[], .bool true]) w3 := by rw [← HKs.out]; exact hl
            clear hl
            go_wp2_with fail
            refine HSay.out.mono ?_
            rintro e w4 ⟨rfl, hc4, k4⟩
            rw [← HF.out] at hc4
            have HC4 := Lib.hid hc4
            have HK4 := Lib.hid (HK.out.trans ((Kp.of_below HB3.out).trans k4))
            clear hc4 k4 hl2 HSay
            go_wp2
            exact ⟨⟨k + 1, by omega, by go_num, HC4, HK4⟩, by simp [intOf]; omega⟩
          · go_wp2_with fail
            refine HP.out.mono ?_
            rintro e w2 ⟨rfl, b2⟩
            go_wp2_with fail
            refine (HLw.out _).mono ?_
            rintro e w3 ⟨rfl, b3⟩
            have HB3 := Lib.hid (b2.trans (b3.mono b2.size))
            clear b2 b3
            have hl := (HM.out _ (HK.out.trans (Kp.of_below HB3.out))).yes (j := 1) (by decide)
            have h1 := HC.out.below HB3.out
            have HSay : Hid (Calls Tryz.prog 29 #[.pointer (some ⟨b, 0, none⟩), .string V] w3 (SaidPost w3 b (say T (keyL7.getD 1 []) V))) := Lib.hid (by
              have hC := HD.out.below HB3.out
              have := age_any b T V hV w3 h1
              exact this)
            clear h1
            have hl2 : (Instr.lookup 49 (.map (some r)) (.string Ks) true).run Tryz.prog w3 = .ok (.tuple #[.func (.func 29) #[] #[], .bool true]) w3 := by rw [← HKs.out]; exact hl
            clear hl
            go_wp2_with fail
            refine HSay.out.mono ?_
            rintro e w4 ⟨rfl, hc4, k4⟩
            rw [← HF.out] at hc4
            have HC4 := Lib.hid hc4
            have HK4 := Lib.hid (HK.out.trans ((Kp.of_below HB3.out).trans k4))
            clear hc4 k4 hl2 HSay
            go_wp2
            exact ⟨⟨k + 1, by omega, by go_num, HC4, HK4⟩, by simp [intOf]; omega⟩
          · go_wp2_with fail
            refine HP.out.mono ?_
            rintro e w2 ⟨rfl, b2⟩
            go_wp2_with fail
            refine (HLw.out _).mono ?_
            rintro e w3 ⟨rfl, b3⟩
            have HB3 := Lib.hid (b2.trans (b3.mono b2.size))
            clear b2 b3
            have hl := (HM.out _ (HK.out.trans (Kp.of_below HB3.out))).yes (j := 2) (by decide)
            have h1 := HC.out.below HB3.out
            have HSay : Hid (Calls Tryz.prog 30 #[.pointer (some ⟨b, 0, none⟩), .string V] w3 (SaidPost w3 b (say T (keyL7.getD 2 []) V))) := Lib.hid (by
              have hC := HD.out.below HB3.out
              have := domain_any b T V hV w3 h1
              exact this)
            clear h1
            have hl2 : (Instr.lookup 49 (.map (some r)) (.string Ks) true).run Tryz.prog w3 = .ok (.tuple #[.func (.func 30) #[] #[], .bool true]) w3 := by rw [← HKs.out]; exact hl
            clear hl
            go_wp2_with fail
            refine HSay.out.mono ?_
            rintro e w4 ⟨rfl, hc4, k4⟩
            rw [← HF.out] at hc4
            have HC4 := Lib.hid hc4
            have HK4 := Lib.hid (HK.out.trans ((Kp.of_below HB3.out).trans k4))
            clear hc4 k4 hl2 HSay
            go_wp2
            exact ⟨⟨k + 1, by omega, by go_num, HC4, HK4⟩, by simp [intOf]; omega⟩
          · go_wp2_with fail
            refine HP.out.mono ?_
            rintro e w2 ⟨rfl, b2⟩
            go_wp2_with fail
            refine (HLw.out _).mono ?_
            rintro e w3 ⟨rfl, b3⟩
            have HB3 := Lib.hid (b2.trans (b3.mono b2.size))
            clear b2 b3
            have hl := (HM.out _ (HK.out.trans (Kp.of_below HB3.out))).yes (j := 3) (by decide)
            have h1 := HC.out.below HB3.out
            have HSay : Hid (Calls Tryz.prog 31 #[.pointer (some ⟨b, 0, none⟩), .string V] w3 (SaidPost w3 b (say T (keyL7.getD 3 []) V))) := Lib.hid (by
              have hC := HD.out.below HB3.out
              have := path_any b T V w3 h1
              exact this)
            clear h1
            have hl2 : (Instr.lookup 49 (.map (some r)) (.string Ks) true).run Tryz.prog w3 = .ok (.tuple #[.func (.func 31) #[] #[], .bool true]) w3 := by rw [← HKs.out]; exact hl
            clear hl
            go_wp2_with fail
            refine HSay.out.mono ?_
            rintro e w4 ⟨rfl, hc4, k4⟩
            rw [← HF.out] at hc4
            have HC4 := Lib.hid hc4
            have HK4 := Lib.hid (HK.out.trans ((Kp.of_below HB3.out).trans k4))
            clear hc4 k4 hl2 HSay
            go_wp2
            exact ⟨⟨k + 1, by omega, by go_num, HC4, HK4⟩, by simp [intOf]; omega⟩
          · go_wp2_with fail
            refine HP.out.mono ?_
            rintro e w2 ⟨rfl, b2⟩
            go_wp2_with fail
            refine (HLw.out _).mono ?_
            rintro e w3 ⟨rfl, b3⟩
            have HB3 := Lib.hid (b2.trans (b3.mono b2.size))
            clear b2 b3
            have hl := (HM.out _ (HK.out.trans (Kp.of_below HB3.out))).yes (j := 4) (by decide)
            have h1 := HC.out.below HB3.out
            have HSay : Hid (Calls Tryz.prog 32 #[.pointer (some ⟨b, 0, none⟩), .string V] w3 (SaidPost w3 b (say T (keyL7.getD 4 []) V))) := Lib.hid (by
              have hC := HD.out.below HB3.out
              have := secure_any b T V w3 h1
              exact this)
            clear h1
            have hl2 : (Instr.lookup 49 (.map (some r)) (.string Ks) true).run Tryz.prog w3 = .ok (.tuple #[.func (.func 32) #[] #[], .bool true]) w3 := by rw [← HKs.out]; exact hl
            clear hl
            go_wp2_with fail
            refine HSay.out.mono ?_
            rintro e w4 ⟨rfl, hc4, k4⟩
            rw [← HF.out] at hc4
            have HC4 := Lib.hid hc4
            have HK4 := Lib.hid (HK.out.trans ((Kp.of_below HB3.out).trans k4))
            clear hc4 k4 hl2 HSay
            go_wp2
            exact ⟨⟨k + 1, by omega, by go_num, HC4, HK4⟩, by simp [intOf]; omega⟩
          · go_wp2_with fail
            refine HP.out.mono ?_
            rintro e w2 ⟨rfl, b2⟩
            go_wp2_with fail
            refine (HLw.out _).mono ?_
            rintro e w3 ⟨rfl, b3⟩
            have HB3 := Lib.hid (b2.trans (b3.mono b2.size))
            clear b2 b3
            have hl := (HM.out _ (HK.out.trans (Kp.of_below HB3.out))).yes (j := 5) (by decide)
            have h1 := HC.out.below HB3.out
            have HSay : Hid (Calls Tryz.prog 33 #[.pointer (some ⟨b, 0, none⟩), .string V] w3 (SaidPost w3 b (say T (keyL7.getD 5 []) V))) := Lib.hid (by
              have hC := HD.out.below HB3.out
              have := hidden_any b T V w3 h1
              exact this)
            clear h1
            have hl2 : (Instr.lookup 49 (.map (some r)) (.string Ks) true).run Tryz.prog w3 = .ok (.tuple #[.func (.func 33) #[] #[], .bool true]) w3 := by rw [← HKs.out]; exact hl
            clear hl
            go_wp2_with fail
            refine HSay.out.mono ?_
            rintro e w4 ⟨rfl, hc4, k4⟩
            rw [← HF.out] at hc4
            have HC4 := Lib.hid hc4
            have HK4 := Lib.hid (HK.out.trans ((Kp.of_below HB3.out).trans k4))
            clear hc4 k4 hl2 HSay
            go_wp2
            exact ⟨⟨k + 1, by omega, by go_num, HC4, HK4⟩, by simp [intOf]; omega⟩
          · go_wp2_with fail
            refine HP.out.mono ?_
            rintro e w2 ⟨rfl, b2⟩
            go_wp2_with fail
            refine (HLw.out _).mono ?_
            rintro e w3 ⟨rfl, b3⟩
            have HB3 := Lib.hid (b2.trans (b3.mono b2.size))
            clear b2 b3
            have hl := (HM.out _ (HK.out.trans (Kp.of_below HB3.out))).yes (j := 6) (by decide)
            have h1 := HC.out.below HB3.out
            have HSay : Hid (Calls Tryz.prog 34 #[.pointer (some ⟨b, 0, none⟩), .string V] w3 (SaidPost w3 b (say T (keyL7.getD 6 []) V))) := Lib.hid (by
              have hC := HD.out.below HB3.out
              have := site_any b T V hV w3 h1
              exact this)
            clear h1
            have hl2 : (Instr.lookup 49 (.map (some r)) (.string Ks) true).run Tryz.prog w3 = .ok (.tuple #[.func (.func 34) #[] #[], .bool true]) w3 := by rw [← HKs.out]; exact hl
            clear hl
            go_wp2_with fail
            refine HSay.out.mono ?_
            rintro e w4 ⟨rfl, hc4, k4⟩
            rw [← HF.out] at hc4
            have HC4 := Lib.hid hc4
            have HK4 := Lib.hid (HK.out.trans ((Kp.of_below HB3.out).trans k4))
            clear hc4 k4 hl2 HSay
            go_wp2
            exact ⟨⟨k + 1, by omega, by go_num, HC4, HK4⟩, by simp [intOf]; omega⟩
        · rw [if_neg hv] at HF
          have hvI : (1024 : Int) < (V.size : Int) := by omega
          go_wp2_with fail
          refine HP.out.mono ?_
          rintro e w2 ⟨rfl, b2⟩
          go_wp2_with fail
          refine (HLw.out _).mono ?_
          rintro e w3 ⟨rfl, b3⟩
          have HB3 := Lib.hid (b2.trans (b3.mono b2.size))
          clear b2 b3
          have hl := (HM.out _ (HK.out.trans (Kp.of_below HB3.out))).yes hj
          have hl2 : (Instr.lookup 49 (.map (some r)) (.string Ks) true).run Tryz.prog w3 = .ok (.tuple #[fnJ j, .bool true]) w3 := by rw [← HKs.out]; exact hl
          have HC4 : Hid (CkAt w3 b ((L.take (k + 1)).foldl heard t)) := Lib.hid (by rw [HF.out]; exact HC.out.below HB3.out)
          have HK4 := Lib.hid (HK.out.trans (Kp.of_below HB3.out))
          clear hl
          go_wp2
          exact ⟨⟨k + 1, by omega, by go_num, HC4, HK4⟩, by simp [intOf]; omega⟩
      · go_wp2_with fail
        refine HP.out.mono ?_
        rintro e w2 ⟨rfl, b2⟩
        go_wp2_with fail
        refine (HLw.out _).mono ?_
        rintro e w3 ⟨rfl, b3⟩
        have HB3 := Lib.hid (b2.trans (b3.mono b2.size))
        clear b2 b3
        have hl := (HM.out _ (HK.out.trans (Kp.of_below HB3.out))).no (k := asB Kl) (fun j hj e => hk7 ⟨j, hj, (congrArg (fun b : ByteArray => b.data.toList) e).symm⟩)
        rw [HKs.out] at hl
        have HC4 : Hid (CkAt w3 b ((L.take (k + 1)).foldl heard t)) := Lib.hid (by
          rw [HF.out, say_none T Kl V (fun j hj e => hk7 ⟨j, hj, e⟩), ite_self]; exact HC.out.below HB3.out)
        have HK4 := Lib.hid (HK.out.trans (Kp.of_below HB3.out))
        clear hk7
        go_wp2
        exact ⟨⟨k + 1, by omega, by go_num, HC4, HK4⟩, by simp [intOf]; omega⟩
    · obtain rfl : k = n := by omega
      have HP : Hid (SaidPost w b (L.foldl heard t) (.returned (.tuple #[])) wr) := Lib.hid ⟨rfl, by
        have := HC.out
        rwa [List.take_of_length_le (by rw [HN.out]; exact Nat.le_refl _)] at this, (Kp.of_below HB1.out).trans HK.out⟩
      go_wp2
      refine bodyPost_ret (results_none rfl _ _ _) rfl ?_
      exact HP.out

end Go.Proofs.YtllpdnmhabpbcaaGreatDoor
