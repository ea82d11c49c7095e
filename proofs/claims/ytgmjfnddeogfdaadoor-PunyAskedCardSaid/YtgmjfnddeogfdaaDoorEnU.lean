/-
  Contract: the document's Encode.
-/
import Derived.Test.YtgmjfnddeogfdaaDoorEnT
import Derived.Deep.DeepCutAuto
namespace Go.Proofs.YtgmjfnddeogfdaaDoor
open Go.RowKit

theorem byte_strP (c : Nat) (hc : c < 256) (W : World) (g : Nat) (h : W.cell? ⟨g, 0, none⟩ = some (.int .u8 (c : Int))) :
    (convert 48 9 (.slice (some ⟨g, 0, none⟩) 1 1)).run Tryd.prog W = .ok (.string ⟨#[UInt8.ofNat c]⟩) W := by
  refine run_convert_bytes_back (P := Tryd.prog) W 48 9 5 ⟨g, 0, none⟩ 1 [UInt8.ofNat c] Tryd.underlying48 Tryd.underlying5 Tryd.underlying9 (fun j hj => ?_)
  obtain rfl : j = 0 := by simpa using hj
  rw [show (⟨g, 0, none⟩ : Addr).add 0 = ⟨g, 0, none⟩ from rfl, h]
  simp [Nat.mod_eq_of_lt hc]
theorem cat_one (o : ByteArray) (c : UInt8) : (o ++ (⟨#[c]⟩ : ByteArray)).data.toList = o.data.toList ++ [c] := by simp

set_option maxRecDepth 100000 in
set_option maxHeartbeats 8000000 in
theorem RefEncode_row (s : ByteArray) (w : World) (hs : s.size ≤ 1000) (l : List Nat) (hl : l.length ≤ 1000) (hbd : ∀ x ∈ l, x ≤ 1114111)
    (HSg : Hid (Calls Tryd.prog 23 #[.string s] w fun e w' => ∃ g cap, e = .returned (.tuple #[.slice (some ⟨g, 0, none⟩) l.length cap, .bool true]) ∧ (∀ k, (h : k < l.length) → w'.cell? ⟨g, k, none⟩ = some (.int .i64 (l[k] : Nat))) ∧ g < w'.heap.size ∧ Below w.heap.size w w')) :
    Calls Tryd.prog 26 #[.string s] w fun e w' => e = .returned (.tuple #[.string ⟨(docE l).toArray⟩, .int .i64 0]) ∧ Below w.heap.size w w' := by
  have HBd := Lib.hid hbd
  clear hbd
  go_enter Tryd.func26, Tryd.ntmps26
  go_wp2_with fail
  refine HSg.out.mono ?_
  rintro e w1 ⟨g, cap, rfl, hRow, hg, hB1⟩
  have HRow := Lib.hid hRow
  have HB1 := Lib.hid hB1
  clear hRow hB1
  go_wp2
  go_loopw [6, 7] (fun t i wr => ∃ (k : Nat) (o : ByteArray), t = .string o ∧ i = .int .i64 k ∧ k ≤ l.length ∧ o.size ≤ k ∧ Hid (o.data.toList = plL (l.take k)) ∧ Hid (Below w1.heap.size w1 wr)) (fun _ i _ => l.length - (intOf i).toNat)
  case atStart => exact ⟨0, ⟨#[]⟩, rfl, rfl, Nat.zero_le _, Nat.le_refl _, Lib.hid rfl, Lib.hid (Below.refl _ _)⟩
  case round =>
    obtain ⟨k, o, rfl, rfl, hk, hok, HO, HB⟩ := hrel
    by_cases hlt : k < l.length
    · obtain ⟨x, HX⟩ : ∃ x, Hid (l[k] = x) := ⟨_, Lib.hid rfl⟩
      have hc : wr.cell? ⟨g, k, none⟩ = some (.int .i64 (x : Int)) := by
        rw [HB.out.cell (p := ⟨g, k, none⟩) hg, HRow.out k hlt, HX.out]
      have HTk : Hid (l.take (k + 1) = l.take k ++ [x]) := Lib.hid (by rw [List.take_succ_eq_append_getElem hlt, HX.out])
      by_cases hx : x < 128
      · have hcv := byte_strP x (by omega)
        have HCat := Lib.hid (cat_one o (UInt8.ofNat x))
        have hw8 : IntKind.u8.wrap (x : Int) = (x : Int) := IntWalk.u8_in _ (by omega)
        go_wp2
        go_roundw
        case rel => exact ⟨k + 1, _, rfl, by go_num, by omega, by rw [ByteArray.size_append]; show o.size + 1 ≤ k + 1; omega, Lib.hid (by rw [HCat.out, HTk.out, plL_snoc_yes hx, HO.out]), Lib.hid (HB.out.alloc HB.out.size _)⟩
        case measure => simp [intOf]; omega
      · go_wp2
        go_roundw
        case rel => exact ⟨k + 1, o, rfl, by go_num, by omega, by omega, Lib.hid (by rw [HTk.out, plL_snoc_no hx, HO.out]), HB⟩
        case measure => simp [intOf]; omega
    · have HOl : Hid (o.data.toList = plL l) := Lib.hid (by rw [HO.out, List.take_of_length_le (by omega)])
      obtain ⟨P, HP⟩ : ∃ P, Hid (o.size = P) := ⟨_, Lib.hid rfl⟩
      have HPl : Hid ((plL l).length = P) := Lib.hid (by rw [← HOl.out, dLen]; exact HP.out)
      have hPk : P ≤ 1000 := by rw [← HP.out]; omega
      have hPc : Hid (P = l.countP fun x => decide (x < 128)) := Lib.hid (by rw [← HPl.out, plL_count])
      have HW : Hid (Below w.heap.size w wr) := Lib.hid (HB1.out.trans (HB.out.mono HB1.out.size))
      have HRow2 : Hid (∀ k, (h : k < l.length) → wr.cell? ⟨g, k, none⟩ = some (.int .i64 (l[k] : Nat))) := Lib.hid (fun k h => by
        rw [HB.out.cell (p := ⟨g, k, none⟩) hg]; exact HRow.out k h)
      clear HRow HB
      obtain ⟨t0, HT0⟩ : ∃ t0 : ByteArray, Hid (t0 = if 0 < P then o ++ ⟨#[45]⟩ else o) := ⟨_, Lib.hid rfl⟩
      have ht0 : t0.size ≤ 1001 := by
        rw [HT0.out]; split
        · rw [ByteArray.size_append]; show o.size + 1 ≤ 1001; omega
        · omega
      have HT0l : Hid (t0.data.toList = plL l ++ (if plL l = [] then [] else [45])) := Lib.hid (by
        rw [HT0.out]
        by_cases h : 0 < P
        · rw [if_pos h, if_neg (fun e => by have := HPl.out; rw [e] at this; simp at this; omega), cat_one, HOl.out]
        · rw [if_neg h, if_pos (List.eq_nil_of_length_eq_zero (by have := HPl.out; omega)), HOl.out, List.append_nil])
      have HE0 : Hid (t0.data.toList ++ docOut P l l.length 0 128 P 72 = docE l) := Lib.hid (by rw [HT0l.out, docE, HPl.out])
      have hPl : P ≤ l.length := by rw [hPc.out]; exact List.countP_le_length
      have hP := HP.out
      go_upto_if 50 with (fail)
      clear hP
      go_cut [6] (fun s6 wx => s6 = .string t0 ∧ wr = wx)
      case first =>
        by_cases h0 : 0 < P
        · rw [if_pos h0] at HT0
          go_wp2
          go_meet
          exact ⟨by rw [HT0.out], rfl⟩
        · rw [if_neg h0] at HT0
          go_wp2
          go_meet
          exact ⟨by rw [HT0.out], rfl⟩
      case rest =>
      obtain ⟨rfl, rfl⟩ := hcut
      clear HT0 HT0l HO HOl HP
      go_wp2
      go_loop [6, 9, 10, 11, 12] (fun x6 x9 x10 x11 x12 => ∃ (t : ByteArray) (many bias number last f : Nat), x6 = .string t ∧ x9 = .int .i64 many ∧ x10 = .int .i64 bias ∧ x11 = .int .i64 number ∧ x12 = .int .i64 last ∧ P ≤ many ∧ many ≤ l.length ∧ l.length ≤ many + f ∧ bias ≤ 756 ∧ number ≤ 1001 ∧ last ≤ 1114112 ∧ t.size ≤ 1001 + 17 * many ∧
        Hid (many = l.countP fun x => decide (x < last)) ∧ Hid (t.data.toList ++ docOut P l f number last many bias = docE l)) (fun _ x9 _ _ _ => l.length - (intOf x9).toNat)
      case atStart => exact ⟨t0, P, 72, 0, 128, l.length, rfl, rfl, rfl, rfl, rfl, Nat.le_refl _, hPl, by omega, by decide, by decide, by decide, by omega, hPc, HE0⟩
      case round =>
        obtain ⟨t, many, bias, number, last, f, rfl, rfl, rfl, rfl, rfl, hPm, hml, hlf, hbl, hnl, hll, hts, HM, HE⟩ := hrel
        by_cases hmany : many < l.length
        · obtain ⟨f, rfl⟩ : ∃ q, f = q + 1 := ⟨f - 1, by omega⟩
          have hms := minS_ge last l HBd.out (by rw [← HM.out]; exact hmany)
          obtain ⟨m, HMm⟩ : ∃ m, Hid (minS last l = m) := ⟨_, Lib.hid rfl⟩
          rw [HMm.out] at hms
          obtain ⟨hm1, hm2, hm3, hm4⟩ := hms
          have HStep := Lib.hid (countP_step l last m hm4 hm1)
          have HMem : Hid (0 < l.countP fun x => decide (x = m)) := Lib.hid (by rw [List.countP_pos_iff]; exact ⟨m, hm2, by simp⟩)
          clear hm2 hm4
          go_wp2
          go_loop [13, 14] (fun x13 x14 => ∃ j : Nat, x14 = .int .i64 j ∧ j ≤ l.length ∧ x13 = .int .i64 (minS last (l.take j))) (fun _ x14 => l.length - (intOf x14).toNat)
          case atStart => exact ⟨0, rfl, Nat.zero_le _, rfl⟩
          case round =>
            obtain ⟨j, rfl, hj, rfl⟩ := hrel
            obtain ⟨mj, Hmj⟩ : ∃ x, Hid (minS last (l.take j) = x) := ⟨_, Lib.hid rfl⟩
            rw [Hmj.out]
            by_cases hjl : j < l.length
            · obtain ⟨x, HX⟩ : ∃ x, Hid (l[j] = x) := ⟨_, Lib.hid rfl⟩
              have hc : wr.cell? ⟨g, j, none⟩ = some (.int .i64 (x : Int)) := by rw [HRow2.out j hjl, HX.out]
              have HTk : Hid (minS last (l.take (j + 1)) = if last ≤ x ∧ x < mj then x else mj) := Lib.hid (by rw [List.take_succ_eq_append_getElem hjl, HX.out, minS_snoc, Hmj.out])
              by_cases h1 : last ≤ x
              · by_cases h2 : x < mj
                · go_wp2
                  go_round
                  case rel => exact ⟨j + 1, by go_num, by omega, by rw [HTk.out, if_pos ⟨h1, h2⟩]⟩
                  case measure => simp [intOf]; omega
                · go_wp2
                  go_round
                  case rel => exact ⟨j + 1, by go_num, by omega, by rw [HTk.out, if_neg (by omega)]⟩
                  case measure => simp [intOf]; omega
              · go_wp2
                go_round
                case rel => exact ⟨j + 1, by go_num, by omega, by rw [HTk.out, if_neg (by omega)]⟩
                case measure => simp [intOf]; omega
            · have hmj : mj = m := by rw [← Hmj.out, List.take_of_length_le (by omega), HMm.out]
              subst hmj
              obtain ⟨d, Hd⟩ : ∃ d, Hid (d = mj - last) := ⟨_, Lib.hid rfl⟩
              obtain ⟨q, Hq⟩ : ∃ q, Hid (q = d * (many + 1)) := ⟨_, Lib.hid rfl⟩
              have hdI : (mj : Int) - (last : Int) = (d : Int) := by rw [Hd.out]; omega
              have hqI : (d : Int) * ((many : Int) + 1) = (q : Int) := by rw [Hq.out]; simp
              have hqb : q ≤ 1200000000 := by
                rw [Hq.out]
                have : d * (many + 1) ≤ 1114111 * 1001 := Nat.mul_le_mul (by rw [Hd.out]; omega) (by omega)
                omega
              obtain ⟨R, HRr⟩ : ∃ R, Hid (R = docIn P mj l (number + q) many bias) := ⟨_, Lib.hid rfl⟩
              have HE2 : Hid (t.data.toList ++ (R.1 ++ docOut P l f (R.2.1 + 1) (mj + 1) R.2.2.1 R.2.2.2) = docE l) := Lib.hid (by
                have h := HE.out
                rw [docOut, if_pos hmany, HMm.out, ← Hd.out, ← Hq.out, ← HRr.out] at h
                exact h)
              have HRm : Hid (R.2.2.1 = l.countP fun x => decide (x < mj + 1)) := Lib.hid (by
                rw [HRr.out, docIn_many, HM.out, HStep.out])
              have HRm1 : Hid (many < R.2.2.1) := Lib.hid (by
                rw [HRr.out, docIn_many]; have := HMem.out; omega)
              have hRle : R.2.2.1 ≤ l.length := by rw [HRm.out]; exact List.countP_le_length
              have hqI2 := hqI
              have HRn : Hid (R.2.1 ≤ 1000) := Lib.hid (by rw [HRr.out]; exact Nat.le_trans (docIn_reset P mj l _ _ _ HMem.out) hl)
              clear HStep HMem hqI2
              go_wp2
              go_loop [6, 9, 10, 11, 15] (fun x6 x9 x10 x11 x15 => ∃ (j : Nat) (t' : ByteArray) (many' bias' number' : Nat), x6 = .string t' ∧ x9 = .int .i64 many' ∧ x10 = .int .i64 bias' ∧ x11 = .int .i64 number' ∧ x15 = .int .i64 j ∧ j ≤ l.length ∧ P ≤ many' ∧ bias' ≤ 756 ∧ number' ≤ 3200000000 + j ∧ many' ≤ R.2.2.1 ∧ t'.size ≤ 1001 + 17 * many' ∧
                Hid (t'.data.toList ++ (docIn P mj (l.drop j) number' many' bias').1 = t.data.toList ++ R.1) ∧ Hid ((docIn P mj (l.drop j) number' many' bias').2 = R.2)) (fun _ _ _ _ x15 => l.length - (intOf x15).toNat)
              case atStart => exact ⟨0, t, many, bias, number + q, rfl, rfl, rfl, by go_num, rfl, Nat.zero_le _, hPm, hbl, by omega, by have := HRm1.out; omega, hts, Lib.hid (by rw [List.drop_zero, ← HRr.out]), Lib.hid (by rw [List.drop_zero, ← HRr.out])⟩
              case round =>
                obtain ⟨j2, t', many', bias', number', rfl, rfl, rfl, rfl, rfl, hj2, hPm', hbl', hnl', hmR, hts', HA1, HA2⟩ := hrel
                by_cases hjl2 : j2 < l.length
                · obtain ⟨x, HX⟩ : ∃ x, Hid (l[j2] = x) := ⟨_, Lib.hid rfl⟩
                  have hc : wr.cell? ⟨g, j2, none⟩ = some (.int .i64 (x : Int)) := by rw [HRow2.out j2 hjl2, HX.out]
                  have HDr : Hid (l.drop j2 = x :: l.drop (j2 + 1)) := Lib.hid (by rw [List.drop_eq_getElem_cons hjl2, HX.out])
                  rw [HDr.out] at HA1 HA2
                  by_cases h1 : x < mj
                  · rw [docIn_lt h1] at HA1 HA2
                    go_wp2
                    go_round
                    case rel => exact ⟨j2 + 1, t', many', bias', number' + 1, rfl, rfl, rfl, by go_num, by go_num, by omega, hPm', hbl', by omega, hmR, hts', HA1, HA2⟩
                    case measure => simp [intOf]; omega
                  · by_cases h2 : x = mj
                    · rw [docIn_eq h2] at HA1 HA2
                      obtain ⟨b0, HB0⟩ : ∃ b0, Hid (b0 = (many' == P)) := ⟨_, Lib.hid rfl⟩
                      have hb0 : ((many' : Int) == (P : Int)) = b0 := by rw [HB0.out, Bool.eq_iff_iff]; simp; omega
                      rw [← HB0.out] at HA1 HA2
                      have h2I : ((x : Int) == (mj : Int)) = true := by rw [h2]; simp
                      obtain ⟨tt, HTt⟩ : ∃ tt : ByteArray, Hid (tt = ⟨(digsL number' number' 36 bias').toArray⟩) := ⟨_, Lib.hid rfl⟩
                      have htt : tt.size ≤ 17 := by
                        have h := digs_len bias' 16 number' number' 36 (by have : (10 : Nat) ^ 16 = 10000000000000000 := by decide
                                                                           omega)
                        rw [HTt.out]; exact h
                      have HTd : Hid (tt.data.toList = digsL number' number' 36 bias') := Lib.hid (by rw [HTt.out])
                      have HCatT : Hid ((t' ++ tt).data.toList = t'.data.toList ++ tt.data.toList) := Lib.hid (by simp)
                      obtain ⟨nbv, HNb⟩ : ∃ x, Hid (x = nb number' (many' + 1) b0) := ⟨_, Lib.hid rfl⟩
                      have hnbl : nbv ≤ 756 := by rw [HNb.out]; exact nb_bd _ _ _
                      rw [← HNb.out] at HA1 HA2
                      have HM1 : Hid (many' + 1 ≤ R.2.2.1) := Lib.hid (by
                        have h := congrArg (fun p => p.2.1) HA2.out
                        simp only at h
                        rw [docIn_many] at h
                        omega)
                      have hm1 := HM1.out
                      have HNx : Hid (∀ W, Calls Tryd.prog 42 #[.int .i64 number', .int .i64 ((many' : Int) + 1), .bool b0] W fun e w' => e = .returned (.int .i64 nbv) ∧ W = w') := Lib.hid (fun W => by
                        have := next_any number' (many' + 1) b0 W (by omega) (by omega) (by omega)
                        rwa [← HNb.out] at this)
                      clear h2
                      go_wp2_with fail
                      refine (told_any number' bias' _ (by omega) hbl').mono ?_
                      rw [← HTt.out]
                      rintro e w3 ⟨rfl, rfl⟩
                      go_wp2_with fail
                      refine (HNx.out _).mono ?_
                      rintro e w3 ⟨rfl, rfl⟩
                      go_wp2
                      go_round
                      case rel => exact ⟨j2 + 1, t' ++ tt, many' + 1, nbv, 0, rfl, by go_num, rfl, rfl, by go_num, by omega, by omega, hnbl, by omega, hm1, by rw [ByteArray.size_append]; omega, Lib.hid (by rw [← HA1.out, HCatT.out, HTd.out]; simp), HA2⟩
                      case measure => simp [intOf]; omega
                    · have h2I : ((x : Int) == (mj : Int)) = false := beq_eq_false_iff_ne.2 (by omega)
                      rw [docIn_no h1 h2] at HA1 HA2
                      clear h2
                      go_wp2
                      go_round
                      case rel => exact ⟨j2 + 1, t', many', bias', number', rfl, rfl, rfl, rfl, by go_num, by omega, hPm', hbl', by omega, hmR, hts', HA1, HA2⟩
                      case measure => simp [intOf]; omega
                · have hdn : l.drop j2 = [] := List.drop_eq_nil_of_le (by omega)
                  rw [hdn] at HA1 HA2
                  have HA1' : Hid (t'.data.toList = t.data.toList ++ R.1) := Lib.hid (by have := HA1.out; simpa [docIn] using this)
                  have HA2' : Hid (R.2.1 = number' ∧ R.2.2.1 = many' ∧ R.2.2.2 = bias') := Lib.hid (by
                    have := HA2.out
                    rw [docIn] at this
                    rw [← this]; exact ⟨rfl, rfl, rfl⟩)
                  have hmm' : many < many' := by rw [← HA2'.out.2.1]; exact HRm1.out
                  have hnum : number' ≤ 1000 := by rw [← HA2'.out.1]; exact HRn.out
                  have hml' : many' ≤ l.length := by omega
                  clear hdn HA1 HA2
                  go_wp2
                  go_round
                  case rel => exact ⟨t', many', bias', number' + 1, mj + 1, f, rfl, rfl, rfl, by go_num, by go_num, hPm', hml', by omega, hbl', by omega, by omega, hts', Lib.hid (by rw [← HA2'.out.2.1]; exact HRm.out), Lib.hid (by
                    have h := HE2.out
                    rw [HA2'.out.1, HA2'.out.2.1, HA2'.out.2.2] at h
                    rw [← h, HA1'.out]; simp)⟩
                  case measure => simp [intOf]; omega
        · have HFin : Hid (t.data.toList = docE l) := Lib.hid (by
            have h := HE.out
            have h0 : docOut P l f number last many bias = [] := by
              cases f with
              | zero => rfl
              | succ f => rw [docOut, if_neg hmany]
            rw [h0, List.append_nil] at h; exact h)
          have HStr : Hid (t = ⟨(docE l).toArray⟩) := Lib.hid (baE HFin.out)
          have hstr := HStr.out
          subst hstr
          go_wp2
          go_ret2
          exact ⟨rfl, HW.out⟩

set_option maxRecDepth 100000 in
set_option maxHeartbeats 2000000 in
/-- A text of no signs. -/
theorem RefEncode_nil (s : ByteArray) (w : World) (hs : s.size ≤ 1000)
    (HSg : Hid (Calls Tryd.prog 23 #[.string s] w fun e w' => ∃ a cap, e = .returned (.tuple #[.slice a 0 cap, .bool true]) ∧ Below w.heap.size w w')) :
    Calls Tryd.prog 26 #[.string s] w fun e w' => e = .returned (.tuple #[.string ⟨#[]⟩, .int .i64 0]) ∧ Below w.heap.size w w' := by
  go_enter Tryd.func26, Tryd.ntmps26
  go_wp2_with fail
  refine HSg.out.mono ?_
  rintro e w1 ⟨a, cap, rfl, hB1⟩
  have HB1 := Lib.hid hB1
  clear hB1
  go_wp2
  refine wp_loop_rounds 1 ?_
  rw [rounds_succ]
  go_wp2
  refine wp_loop_rounds 1 ?_
  rw [rounds_succ]
  go_wp2
  go_ret2
  exact ⟨rfl, HB1.out⟩

set_option maxRecDepth 100000 in
set_option maxHeartbeats 2000000 in
/-- What is no text in UTF-8. -/
theorem RefEncode_bad (s : ByteArray) (w : World) (hs : s.size ≤ 1000)
    (HSg : Hid (Calls Tryd.prog 23 #[.string s] w fun e w' => e = .returned (.tuple #[.slice none 0 0, .bool false]) ∧ Below w.heap.size w w')) :
    Calls Tryd.prog 26 #[.string s] w fun e w' => e = .returned (.tuple #[.string ⟨#[]⟩, .int .i64 4]) ∧ Below w.heap.size w w' := by
  go_enter Tryd.func26, Tryd.ntmps26
  go_wp2_with fail
  refine HSg.out.mono ?_
  rintro e w1 ⟨rfl, hB1⟩
  have HB1 := Lib.hid hB1
  clear hB1
  go_wp2
  go_ret2
  exact ⟨rfl, HB1.out⟩

set_option maxRecDepth 100000 in
set_option maxHeartbeats 2000000 in
theorem RefEncode_long (s : ByteArray) (w : World) (hs : s.size ≤ maxLen) (h : 65536 < s.size) :
    Calls Tryd.prog 26 #[.string s] w fun e w' => e = .returned (.tuple #[.string ⟨#[]⟩, .int .i64 3]) ∧ Below w.heap.size w w' := by
  unfold maxLen at hs
  go_enter Tryd.func26, Tryd.ntmps26
  go_wp2
  go_ret2
  exact ⟨rfl, Below.refl _ _⟩

end Go.Proofs.YtgmjfnddeogfdaaDoor
