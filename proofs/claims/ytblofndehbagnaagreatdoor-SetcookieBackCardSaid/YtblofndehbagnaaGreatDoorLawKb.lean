/-
  The walk of SetcookieBack.
-/
import Derived.Test.YtblofndehbagnaaGreatDoorScI
import Derived.Test.YtblofndehbagnaaGreatDoorBeyond
namespace Go.Proofs.YtblofndehbagnaaGreatDoor
open Go.RowKit

theorem okP_of {s : ByteArray} {t : Cki} (h : prsC s = (t, 0)) : okP s t = true := by
  unfold okP
  rw [h, (ckEq_iff _ _).2 rfl]; rfl
theorem of_okP {s : ByteArray} {t : Cki} (h : okP s t = true) : prsC s = (t, 0) := by
  unfold okP at h
  rw [Bool.and_eq_true, beq_iff_eq] at h
  exact Prod.ext ((ckEq_iff _ _).1 h.2) h.1
theorem wide_ok {s : ByteArray} {t : Cki} (h : okP s t = true) (hl : (wid s.data.toList).length ≤ 60000) : okP (asB (wid s.data.toList ++ [32, 59, 59])) t = true := by
  have h1 := of_okP h
  rw [prsC_eq] at h1
  exact okP_of (by rw [prsC_eq]; exact prsL_wide h1 hl)

theorem wid_snoc (l : List UInt8) (c : UInt8) : wid (l ++ [c]) = wid l ++ if c = 59 then [59, 32, 9] else [c] := by
  unfold wid
  rw [List.flatMap_append]
  simp
def szC (t : Cki) : Nat := t.nm.size + t.vl.size + t.dm.size + t.pa.size
set_option maxHeartbeats 1000000 in
theorem size10_any (t : Cki) (w : World) (h : szC t ≤ 9000000000000000) :
    Calls Tryz.prog 14 #[.agg (ckR t)] w fun e w' => e = .returned (.int .i64 (szC t : Int)) ∧ Below w.heap.size w w' := by
  obtain ⟨nm, vl, dm, pa, ex, hx, ag, ha, se, hi, si⟩ := t
  unfold szC at h ⊢
  simp only at h ⊢
  unfold ckR
  simp only
  go_enter Tryz.func14, Tryz.ntmps14
  go_wp2
  go_ret
  exact ⟨ret_int (by omega), (Below.refl _ _).alloc (Nat.le_refl _) _⟩

theorem sc_slice (s : ByteArray) (a b : Nat) (hab : a ≤ b) (hb : b ≤ s.size) (va vb : Int) (h1 : va = a) (h2 : vb = b) (w : World) : (Instr.slice 9 (.string s) (some (.int .i64 va)) (some (.int .i64 vb)) none).run Tryz.prog w = .ok (.string (s.extract a b)) w := by
  subst h1
  subst h2
  have h := run_slice_string_if (P := Tryz.prog) (w := w) 9 s .i64 .i64 (a : Int) (b : Int) Tryz.underlying9
  rw [if_pos ⟨by omega, by omega⟩, if_pos ⟨by omega, by omega⟩, Int.toNat_natCast, Int.toNat_natCast] at h
  exact h
theorem one_byte (s : ByteArray) (k : Nat) (h : k < s.size) : s.extract k (k + 1) = asB [s[k]] := by
  apply ba_list
  rw [asB_data, ByteArray.data_extract, Array.toList_extract, List.extract_eq_take_drop]
  have hk : k < s.data.toList.length := by rw [lenB]; exact h
  rw [show k + 1 - k = 1 by omega, List.drop_eq_getElem_cons hk]
  rfl
set_option maxHeartbeats 4000000 in
set_option maxRecDepth 100000 in
theorem kback_walk (t : Cki) (hz : szC t ≤ 9000000000000000) (h0 : -9223372036854775808 ≤ t.ag) (h1 : t.ag ≤ 9223372036854775807) (m : Int) (w : World) (hw : DtG m w) :
    Calls Tryz.prog 5 #[.agg (ckR t)] w fun e w' => e = .returned (.bool true) ∧ Below w.heap.size w w' := by
  obtain ⟨D, hD⟩ := date_some t.ex
  have HG := Lib.hid hw
  have HAl := Lib.hid fun w hw => alive10_any m w hw
  have HSz := Lib.hid fun w => size10_any t w hz
  obtain ⟨C, HC, HCs, HC1⟩ : ∃ C, Hid (ckR t = C) ∧ Hid (C.size = 11) ∧ Hid (C.all (·.oneCell') = true) := ⟨_, Lib.hid rfl, Lib.hid rfl, Lib.hid (ckR_one _)⟩
  have HA0 : Hid (∀ C : Array Value, (w.alloc (.cells C 24)).heap[w.heap.size]? = some (.cells C 24 (0, 0))) := Lib.hid fun C => heap_alloc_new w _
  have HB0 : Hid (∀ C : Array Value, Below w.heap.size w (w.alloc (.cells C 24))) := Lib.hid fun C => (Below.refl _ _).alloc (Nat.le_refl _) _
  by_cases hbig : 1048576 < szC t
  · rw [HC.out] at HSz ⊢
    obtain ⟨n, Hn⟩ : ∃ n, Hid (szC t = n) := ⟨_, Lib.hid rfl⟩
    rw [Hn.out] at hbig hz HSz
    go_enter Tryz.func5, Tryz.ntmps5
    go_wp2_with fail
    refine (HAl.out _ (HG.out.below (HB0.out C))).mono ?_
    rintro e w1 ⟨rfl, b1⟩
    have HB1 := Lib.hid ((HB0.out C).trans (b1.mono (HB0.out C).size))
    have HA1 : Hid (w1.heap[w.heap.size]? = some (.cells C 24 (0, 0))) := Lib.hid ((b1.block _ (lt_of_block (HA0.out C))).trans (HA0.out C))
    clear b1
    go_wp2_with (refine scW_load rfl 24 _ rfl w.heap.size ?_ 24 C (0, 0) _ ?_ Tryz.underlying24 rfl ?_ ?_; (exact rfl); (exact HA1.out); (rw [HCs.out]; exact infoTo))
    refine (HSz.out _).mono ?_
    rintro e w2 ⟨rfl, b2⟩
    have HB2 := Lib.hid (HB1.out.trans (b2.mono HB1.out.size))
    have HA2 : Hid (w2.heap[w.heap.size]? = some (.cells C 24 (0, 0))) := Lib.hid ((b2.block _ (lt_of_block HA1.out)).trans HA1.out)
    clear b2
    have hlt2 : w.heap.size < w2.heap.size := lt_of_block HA2.out
    have hcb : (w2.alloc (.cells #[.int .i64 (n : Int)] 3)).cell? ⟨w2.heap.size, 0, none⟩ = some (.int .i64 (n : Int)) := cell_new _ _ _ _ rfl
    have HBy := Lib.hid (Beyond1_yes w2.heap.size n _ (by unfold maxLen; omega) hcb hbig)
    clear hcb
    go_wp2_with fail
    refine HBy.out.mono ?_
    rintro e w3 ⟨rfl, rfl⟩
    have HB3 : Hid (Below w.heap.size w (w2.alloc (.cells #[.int .i64 (n : Int)] 3))) := Lib.hid (HB2.out.alloc HB2.out.size _)
    have HA3 : Hid ((w2.alloc (.cells #[.int .i64 (n : Int)] 3)).heap[w.heap.size]? = some (.cells C 24 (0, 0))) := Lib.hid ((Below.heap_alloc _ _ _ hlt2).trans HA2.out)
    clear hlt2
    go_wp2_with fail
    refine (HAl.out _ (HG.out.below HB3.out)).mono ?_
    rintro e w4 ⟨rfl, b4⟩
    go_wp2
    go_ret
    exact ⟨rfl, HB3.out.trans (b4.mono HB3.out.size)⟩
  · have HTx := Lib.hid fun w hw => CkText_any t D hD (by unfold szC at hbig; omega) h0 h1 m w hw
    have HIs := Lib.hid fun s w hw => is10_any s t m w hw
    have hXs : (txtC t D).size ≤ 100000000 := by
      unfold txtC
      rw [asB_size]
      have hdl := date_len hD
      refine Nat.le_trans (join_bd 3000000 _ ?_) ?_
      · intro x hx
        obtain ⟨y, hy, rfl⟩ := List.mem_map.1 hx
        rw [lenB]
        exact pcs_bd t D (by unfold szC at hbig; omega) hdl (itoa_len _ h0 h1) y hy
      · rw [List.length_map]
        have : (pcs t D).length ≤ 8 := by
          have ho : ∀ b x, (opt b x).length ≤ 1 := fun b x => by unfold opt; split <;> simp
          unfold pcs
          simp only [List.length_append, List.length_cons, List.length_nil]
          have := ho t.hx (cEx ++ asB D); have := ho t.ha (cAg ++ asB (Lib.itoa t.ag)); have := ho (!t.dm.toList.isEmpty) (cDm ++ t.dm); have := ho (!t.pa.toList.isEmpty) (cPa ++ t.pa)
          have := ho t.se cSe; have := ho t.hi cHi; have := ho (t.si != 0) (cSi ++ asB (siteL t.si))
          omega
        omega
    rw [HC.out] at HSz HTx HIs ⊢
    obtain ⟨n, Hn⟩ : ∃ n, Hid (szC t = n) := ⟨_, Lib.hid rfl⟩
    rw [Hn.out] at hbig hz HSz
    have hnI : ¬ (1048576 : Int) < (n : Int) := by omega
    cases hok : okT t D with
    | false =>
      have hR : txtR t D = .tuple #[.string noB, .int .i64 1] := by unfold txtR; rw [hok]; rfl
      rw [hR] at HTx
      obtain ⟨a1, a2⟩ : noB.toList = [] ∧ noB.toList.isEmpty = true := ⟨(str_empty rfl).1, (str_empty rfl).2.1⟩
      clear hR hok hD h0 h1 hXs
      go_enter Tryz.func5, Tryz.ntmps5
      go_wp2_with fail
      refine (HAl.out _ (HG.out.below (HB0.out C))).mono ?_
      rintro e w1 ⟨rfl, b1⟩
      have HB1 := Lib.hid ((HB0.out C).trans (b1.mono (HB0.out C).size))
      have HA1 : Hid (w1.heap[w.heap.size]? = some (.cells C 24 (0, 0))) := Lib.hid ((b1.block _ (lt_of_block (HA0.out C))).trans (HA0.out C))
      clear b1
      go_wp2_with (refine scW_load rfl 24 _ rfl w.heap.size ?_ 24 C (0, 0) _ ?_ Tryz.underlying24 rfl ?_ ?_; (exact rfl); (exact HA1.out); (rw [HCs.out]; exact infoTo))
      refine (HSz.out _).mono ?_
      rintro e w2 ⟨rfl, b2⟩
      have HB2 := Lib.hid (HB1.out.trans (b2.mono HB1.out.size))
      have HA2 : Hid (w2.heap[w.heap.size]? = some (.cells C 24 (0, 0))) := Lib.hid ((b2.block _ (lt_of_block HA1.out)).trans HA1.out)
      clear b2
      have hlt2 : w.heap.size < w2.heap.size := lt_of_block HA2.out
      have hcb : (w2.alloc (.cells #[.int .i64 (n : Int)] 3)).cell? ⟨w2.heap.size, 0, none⟩ = some (.int .i64 (n : Int)) := cell_new _ _ _ _ rfl
      have HBy := Lib.hid (Beyond1_no w2.heap.size n _ hcb (by omega))
      clear hcb
      go_wp2_with fail
      refine HBy.out.mono ?_
      rintro e w3 ⟨rfl, rfl⟩
      have HB3 : Hid (Below w.heap.size w (w2.alloc (.cells #[.int .i64 (n : Int)] 3))) := Lib.hid (HB2.out.alloc HB2.out.size _)
      have HA3 : Hid ((w2.alloc (.cells #[.int .i64 (n : Int)] 3)).heap[w.heap.size]? = some (.cells C 24 (0, 0))) := Lib.hid ((Below.heap_alloc _ _ _ hlt2).trans HA2.out)
      clear hlt2
      go_wp2_with (refine scW_load rfl 24 _ rfl w.heap.size ?_ 24 C (0, 0) _ ?_ Tryz.underlying24 rfl ?_ ?_; (exact rfl); (exact HA3.out); (rw [HCs.out]; exact infoTo))
      refine (HTx.out _ (HG.out.below HB3.out)).mono ?_
      rintro e w4 ⟨rfl, b4⟩
      go_wp2
      go_ret
      exact ⟨rfl, HB3.out.trans (b4.mono HB3.out.size)⟩
    | true =>
      have hR : txtR t D = .tuple #[.string (txtC t D), .int .i64 0] := by unfold txtR; rw [hok, if_pos rfl]
      rw [hR] at HTx
      have hIs1 : okP (txtC t D) t = true := hok
      obtain ⟨X, HX⟩ : ∃ X, Hid (txtC t D = X) := ⟨_, Lib.hid rfl⟩
      rw [HX.out] at HTx hXs hIs1
      have HI1 := Lib.hid fun w hw => HIs.out X w hw
      have HO1 := Lib.hid hIs1
      rw [hIs1] at HI1
      have hlX := lenB X
      clear hR hok hD h0 h1 hIs1
      go_enter Tryz.func5, Tryz.ntmps5
      go_wp2_with fail
      refine (HAl.out _ (HG.out.below (HB0.out C))).mono ?_
      rintro e w1 ⟨rfl, b1⟩
      have HB1 := Lib.hid ((HB0.out C).trans (b1.mono (HB0.out C).size))
      have HA1 : Hid (w1.heap[w.heap.size]? = some (.cells C 24 (0, 0))) := Lib.hid ((b1.block _ (lt_of_block (HA0.out C))).trans (HA0.out C))
      clear b1
      go_wp2_with (refine scW_load rfl 24 _ rfl w.heap.size ?_ 24 C (0, 0) _ ?_ Tryz.underlying24 rfl ?_ ?_; (exact rfl); (exact HA1.out); (rw [HCs.out]; exact infoTo))
      refine (HSz.out _).mono ?_
      rintro e w2 ⟨rfl, b2⟩
      have HB2 := Lib.hid (HB1.out.trans (b2.mono HB1.out.size))
      have HA2 : Hid (w2.heap[w.heap.size]? = some (.cells C 24 (0, 0))) := Lib.hid ((b2.block _ (lt_of_block HA1.out)).trans HA1.out)
      clear b2
      have hlt2 : w.heap.size < w2.heap.size := lt_of_block HA2.out
      have hcb : (w2.alloc (.cells #[.int .i64 (n : Int)] 3)).cell? ⟨w2.heap.size, 0, none⟩ = some (.int .i64 (n : Int)) := cell_new _ _ _ _ rfl
      have HBy := Lib.hid (Beyond1_no w2.heap.size n _ hcb (by omega))
      clear hcb
      go_wp2_with fail
      refine HBy.out.mono ?_
      rintro e w3 ⟨rfl, rfl⟩
      have HB3 : Hid (Below w.heap.size w (w2.alloc (.cells #[.int .i64 (n : Int)] 3))) := Lib.hid (HB2.out.alloc HB2.out.size _)
      have HA3 : Hid ((w2.alloc (.cells #[.int .i64 (n : Int)] 3)).heap[w.heap.size]? = some (.cells C 24 (0, 0))) := Lib.hid ((Below.heap_alloc _ _ _ hlt2).trans HA2.out)
      clear hlt2
      go_wp2_with (refine scW_load rfl 24 _ rfl w.heap.size ?_ 24 C (0, 0) _ ?_ Tryz.underlying24 rfl ?_ ?_; (exact rfl); (exact HA3.out); (rw [HCs.out]; exact infoTo))
      refine (HTx.out _ (HG.out.below HB3.out)).mono ?_
      rintro e w4 ⟨rfl, b4⟩
      have HB4 := Lib.hid (HB3.out.trans (b4.mono HB3.out.size))
      have HA4 : Hid (w4.heap[w.heap.size]? = some (.cells C 24 (0, 0))) := Lib.hid ((b4.block _ (lt_of_block HA3.out)).trans HA3.out)
      clear b4
      go_upto_region 7 with (fail)
      go_wp2
      go_loop [5, 6] (fun wd i => ∃ (k : Nat) (W : ByteArray), k ≤ X.size ∧ i = .int .i64 k ∧ wd = .string W ∧ W.size ≤ 3 * k ∧ Hid (W.data.toList = wid (X.data.toList.take k))) (fun _ i => X.size - (intOf i).toNat)
      case atStart => exact ⟨0, noB, Nat.zero_le _, rfl, rfl, Nat.le_refl _, Lib.hid rfl⟩
      case round =>
        obtain ⟨k, W, hk, rfl, rfl, hWs, HW⟩ := hrel
        by_cases hlt : k < X.size
        · have hby := byte_lt X[k]
          have hsl := sc_slice X k (k + 1) (by omega) (by omega) (k : Int) ((k : Int) + 1) rfl (by omega) w4
          rw [one_byte X k hlt] at hsl
          have hkI : (k : Int) < (X.size : Int) := by omega
          have HT : Hid (wid (X.data.toList.take (k + 1)) = wid (X.data.toList.take k) ++ if X[k] = 59 then [59, 32, 9] else [X[k]]) := Lib.hid (by rw [take_snoc X k hlt, wid_snoc])
          obtain ⟨E, HE⟩ : ∃ E, Hid (asB [X[k]] = E) := ⟨_, Lib.hid rfl⟩
          rw [HE.out] at hsl
          have hEs : E.size = 1 := by rw [← HE.out]; rfl
          by_cases hc : X[k] = 59
          · have e1 : ((X[k].toNat : Int) == 59) = true := by rw [hc]; rfl
            have HW2 : Hid ((W ++ E ++ ⟨#[32, 9]⟩).data.toList = wid (X.data.toList.take (k + 1))) := Lib.hid (by
              rw [HT.out, if_pos hc, ByteArray.data_append, ByteArray.data_append, Array.toList_append, Array.toList_append, HW.out, ← HE.out, hc]; simp [asB])
            have hs2 : (W ++ E ++ (⟨#[32, 9]⟩ : ByteArray)).size ≤ 3 * (k + 1) := by rw [ByteArray.size_append, ByteArray.size_append, hEs]; show W.size + 1 + 2 ≤ _; omega
            have HS2 := Lib.hid hs2
            clear hc hs2
            go_wp2
            exact ⟨⟨k + 1, _, by omega, by go_num, rfl, HS2.out, HW2⟩, by simp [intOf]; omega⟩
          · have e1 : ((X[k].toNat : Int) == 59) = false := beq_eq_false_iff_ne.2 (fun e => hc (UInt8.toNat_inj.1 (by have : (59 : UInt8).toNat = 59 := rfl; omega)))
            have HW2 : Hid ((W ++ E).data.toList = wid (X.data.toList.take (k + 1))) := Lib.hid (by
              rw [HT.out, if_neg hc, ByteArray.data_append, Array.toList_append, HW.out, ← HE.out]; rfl)
            have hs2 : (W ++ E).size ≤ 3 * (k + 1) := by rw [ByteArray.size_append, hEs]; omega
            have HS2 := Lib.hid hs2
            clear hc hs2
            go_wp2
            exact ⟨⟨k + 1, _, by omega, by go_num, rfl, HS2.out, HW2⟩, by simp [intOf]; omega⟩
        · obtain rfl : k = X.size := by omega
          have hWl : W.data.toList = wid X.data.toList := by
            have := HW.out
            rwa [List.take_of_length_le (by rw [lenB]; exact Nat.le_refl _)] at this
          have hWX : W.size = (wid X.data.toList).length := by rw [← lenB, hWl]
          have HI2 : Hid (W.size ≤ 60000 → ∀ w', DtC0 m w' → Calls Tryz.prog 18 #[.string (W ++ ⟨#[32, 59, 59]⟩), .agg C] w' fun e w'' => e = .returned (.bool true) ∧ Below w'.heap.size w' w'') := Lib.hid fun hl w' hw' => by
            have h1 := HIs.out (W ++ ⟨#[32, 59, 59]⟩) w' hw'
            have e : W ++ ⟨#[32, 59, 59]⟩ = asB (wid X.data.toList ++ [32, 59, 59]) := ba_list (by rw [ByteArray.data_append, Array.toList_append, hWl]; rfl)
            rw [e, wide_ok HO1.out (by omega), ← e] at h1
            exact h1
          clear hWl hWX HW
          go_wp2_with (refine scW_load rfl 24 _ rfl w.heap.size ?_ 24 C (0, 0) _ ?_ Tryz.underlying24 rfl ?_ ?_; (exact rfl); (exact HA4.out); (rw [HCs.out]; exact infoTo))
          refine (HI1.out _ (HG.out.below HB4.out).c0).mono ?_
          rintro e w5 ⟨rfl, b5⟩
          have HB5 := Lib.hid (HB4.out.trans (b5.mono HB4.out.size))
          have HA5 : Hid (w5.heap[w.heap.size]? = some (.cells C 24 (0, 0))) := Lib.hid ((b5.block _ (lt_of_block HA4.out)).trans HA4.out)
          clear b5
          by_cases hl : W.size ≤ 60000
          · have HI3 := Lib.hid (HI2.out hl)
            have hlI : ¬ (60000 : Int) < (W.size : Int) := by omega
            have hsD : decide ((60000 : Int) < (W.size : Int)) = false := decide_eq_false hlI
            clear hl
            go_wp2_with (refine scW_load rfl 24 _ rfl w.heap.size ?_ 24 C (0, 0) _ ?_ Tryz.underlying24 rfl ?_ ?_; (exact rfl); (exact HA5.out); (rw [HCs.out]; exact infoTo))
            refine (HI3.out _ (HG.out.below HB5.out).c0).mono ?_
            rintro e w6 ⟨rfl, b6⟩
            go_wp2
            go_ret
            exact ⟨rfl, HB5.out.trans (b6.mono HB5.out.size)⟩
          · have hlI : (60000 : Int) < (W.size : Int) := by omega
            clear hl
            go_wp2
            go_ret
            exact ⟨rfl, HB5.out⟩

end Go.Proofs.YtblofndehbagnaaGreatDoor
