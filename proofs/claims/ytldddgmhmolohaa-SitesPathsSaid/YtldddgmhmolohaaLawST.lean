/-
  The document's Path and Usual; the walk of SitesPaths.
-/
import Derived.Test.YtldddgmhmolohaaBey
import Derived.Test.YtldddgmhmolohaaStQ
namespace Go.Proofs.Ytldddgmhmolohaa
open Go.RowKit

theorem pmchL_short2 {p c : List UInt8} (hne : p ≠ c) (h : p.length ≤ c.length) : pmchL p c = false := by
  rw [Bool.eq_false_iff]
  intro e
  rcases (pmchL_iff _ _).1 e with h1 | ⟨_, h1, _⟩
  · exact hne h1
  · omega
theorem pmchL_other {p c : List UInt8} (h : p.take c.length ≠ c) : pmchL p c = false := by
  rw [Bool.eq_false_iff]
  intro e
  rcases (pmchL_iff _ _).1 e with rfl | ⟨h1, _, _⟩
  · exact h (List.take_length)
  · obtain ⟨t, rfl⟩ := h1
    exact h (List.take_left' rfl)
theorem pmchL_at {p c : List UInt8} (h : p.take c.length = c) (hl : c.length < p.length) : pmchL p c = (decide (c.getLast? = some 47) || decide (p[c.length]'hl = 47)) := by
  rw [Bool.eq_iff_iff, pmchL_iff]
  simp only [Bool.or_eq_true, decide_eq_true_eq, List.getElem?_eq_getElem hl, Option.some.injEq]
  constructor
  · rintro (rfl | ⟨_, _, h⟩)
    · omega
    · exact h
  · exact fun h2 => .inr ⟨by rw [← h]; exact List.take_prefix _ _, hl, h2⟩
set_option maxRecDepth 100000 in
set_option maxHeartbeats 1000000 in
theorem RefPath_any (p c : ByteArray) (w : World) (hc : c.size ≤ 140737488355328) :
    Calls Try.prog 7 #[.string p, .string c] w fun e w' => e = .returned (.bool (pmchL p.data.toList c.data.toList)) ∧ w' = w := by
  obtain ⟨R, HR⟩ : ∃ R, Hid (pmchL p.data.toList c.data.toList = R) := ⟨_, Lib.hid rfl⟩
  rw [HR.out]
  by_cases hab : p = c
  · have HT : Hid (R = true) := Lib.hid (by rw [← HR.out, hab, pmchL_self])
    subst hab
    go_enter Try.func7, Try.ntmps7
    go_wp2
    go_ret
    exact ⟨ret_bool HT.out.symm, rfl⟩
  have hne := neL hab
  by_cases hs : p.size ≤ c.size
  · have HF : Hid (R = false) := Lib.hid (by rw [← HR.out, pmchL_short2 (fun e => hab (ba_of e)) (by rw [lenB, lenB]; exact hs)])
    clear HR hab
    go_enter Try.func7, Try.ntmps7
    go_wp2
    go_ret
    exact ⟨ret_bool HF.out.symm, rfl⟩
  have hlt : c.size < p.size := by omega
  have hle : c.size ≤ p.size := by omega
  by_cases hx : p.extract 0 c.size = c
  · have hxe : ((p.extract 0 c.size).toList == c.toList) = true := by rw [hx]; simp
    have htk : p.data.toList.take c.data.toList.length = c.data.toList := by
      have : (p.extract 0 c.size).data.toList = c.data.toList := by rw [hx]
      rw [← this]; simp
    have HV : Hid (R = (decide (c.data.toList.getLast? = some 47) || decide (p[c.size] = 47))) := Lib.hid (by
      rw [← HR.out, pmchL_at htk (by rw [lenB, lenB]; exact hlt)]
      congr 1)
    clear HR hab hx htk
    have h47 : ∀ x : UInt8, ((x.toNat : Int) == 47) = decide (x = 47) := fun x => by
      rw [Bool.eq_iff_iff, beq_iff_eq, decide_eq_true_eq]
      constructor
      · intro e; exact UInt8.toNat_inj.1 (by have : (47 : UInt8).toNat = 47 := rfl; omega)
      · rintro rfl; rfl
    by_cases h0 : c.size = 0
    · have h0I : ¬ (0 : Int) < (c.size : Int) := by omega
      have HV2 : Hid (R = decide (p[c.size] = 47)) := Lib.hid (by
        have : c.data.toList = [] := List.eq_nil_of_length_eq_zero (by rw [lenB]; exact h0)
        rw [HV.out, this]; rfl)
      have hq := h47 p[c.size]
      clear HV h0 h47
      go_enter Try.func7, Try.ntmps7
      go_wp2
      go_ret
      exact ⟨ret_bool (by rw [HV2.out]), rfl⟩
    · obtain ⟨k, hk⟩ : ∃ k, c.size = k + 1 := ⟨c.size - 1, by omega⟩
      have hkc : k < c.size := by omega
      have hkI : (c.size : Int) - 1 = (k : Int) := by omega
      have h0I : (0 : Int) < (c.size : Int) := by omega
      have hq := h47 p[c.size]
      have hq2 := h47 c[k]
      have hgl : c.data.toList.getLast? = some c[k] := by
        rw [List.getLast?_eq_getElem?, lenB, hk, Nat.add_sub_cancel, List.getElem?_eq_getElem (by rw [lenB]; exact hkc)]; rfl
      have HV2 : Hid (R = (decide (c[k] = 47) || decide (p[c.size] = 47))) := Lib.hid (by
        rw [HV.out, hgl]; simp)
      clear HV h0 h47 hgl
      by_cases h9 : c[k] = 47
      · have h9b : ((c[k].toNat : Int) == 47) = true := by rw [hq2, decide_eq_true h9]
        have HV3 : Hid (R = true) := Lib.hid (by rw [HV2.out, decide_eq_true h9, Bool.true_or])
        clear HV2 hq2 h9 hk
        go_enter Try.func7, Try.ntmps7
        go_wp2
        go_ret
        exact ⟨ret_bool (by rw [HV3.out]), rfl⟩
      · have h9b : ((c[k].toNat : Int) == 47) = false := by rw [hq2, decide_eq_false h9]
        have HV3 : Hid (R = decide (p[c.size] = 47)) := Lib.hid (by rw [HV2.out, decide_eq_false h9, Bool.false_or])
        clear HV2 hq2 h9 hk
        go_enter Try.func7, Try.ntmps7
        go_wp2
        go_ret
        exact ⟨ret_bool (by rw [HV3.out]), rfl⟩
  · have hxe : ((p.extract 0 c.size).toList == c.toList) = false := neL hx
    have HF : Hid (R = false) := Lib.hid (by
      rw [← HR.out]
      refine pmchL_other fun e => hx (ba_of ?_)
      rw [← e]; simp)
    clear HR hab hx
    go_enter Try.func7, Try.ntmps7
    go_wp2
    go_ret
    exact ⟨ret_bool HF.out.symm, rfl⟩

theorem lastK_le (p : List UInt8) : ∀ k, lastK p k ≤ k
  | 0 => Nat.le_refl _
  | k + 1 => by
    rw [lastK]
    split
    · omega
    · have := lastK_le p k; omega
set_option maxRecDepth 100000 in
set_option maxHeartbeats 2000000 in
theorem RefUsual_any (p : ByteArray) (w : World) (hp : p.size ≤ 140737488355328) :
    Calls Try.prog 9 #[.string p] w fun e w' => e = .returned (.string (usB p)) ∧ w' = w := by
  obtain ⟨R, HR⟩ : ∃ R, Hid (usB p = R) := ⟨_, Lib.hid rfl⟩
  rw [HR.out]
  have h47 : ∀ x : UInt8, ((x.toNat : Int) == 47) = decide (x = 47) := fun x => by
    rw [Bool.eq_iff_iff, beq_iff_eq, decide_eq_true_eq]
    constructor
    · intro e; exact UInt8.toNat_inj.1 (by have : (47 : UInt8).toNat = 47 := rfl; omega)
    · rintro rfl; rfl
  have HK1 : Hid (∀ k (h : k < p.size), p[k] = 47 → lastK p.data.toList (k + 1) = k) := Lib.hid (fun k h e => by
    rw [lastK, if_pos]
    rw [List.getElem?_eq_getElem (by rw [lenB]; exact h)]
    exact congrArg some e)
  have HK0 : Hid (∀ k (h : k < p.size), p[k] ≠ 47 → lastK p.data.toList (k + 1) = lastK p.data.toList k) := Lib.hid (fun k h e => by
    rw [lastK, if_neg]
    rw [List.getElem?_eq_getElem (by rw [lenB]; exact h)]
    exact fun q => e (Option.some.inj q))
  have H47 := Lib.hid h47
  clear h47
  go_enter Try.func9, Try.ntmps9
  go_wp2
  go_loopw [3, 4] (fun l i wr => ∃ k m : Nat, k ≤ p.size ∧ i = .int .i64 (k : Int) ∧ l = .int .i64 (m : Int) ∧ Hid (lastK p.data.toList k = m) ∧ wr = w) (fun _ i _ => p.size - (intOf i).toNat)
  case atStart => exact ⟨0, 0, Nat.zero_le _, rfl, rfl, Lib.hid rfl, rfl⟩
  case round =>
    obtain ⟨k, m, hk, rfl, rfl, HM, rfl⟩ := hrel
    by_cases hlt : k < p.size
    · by_cases hx : p[k] = 47
      · have hxb : ((p[k].toNat : Int) == 47) = true := by rw [H47.out, decide_eq_true hx]
        have HM2 : Hid (lastK p.data.toList (k + 1) = k) := Lib.hid (HK1.out k hlt hx)
        clear hx
        go_wp2
        exact ⟨⟨k + 1, k, by omega, by go_num, rfl, HM2, trivial⟩, by simp [intOf]; omega⟩
      · have hxb : ((p[k].toNat : Int) == 47) = false := by rw [H47.out, decide_eq_false hx]
        have HM2 : Hid (lastK p.data.toList (k + 1) = m) := Lib.hid ((HK0.out k hlt hx).trans HM.out)
        clear hx
        go_wp2
        exact ⟨⟨k + 1, m, by omega, by go_num, rfl, HM2, trivial⟩, by simp [intOf]; omega⟩
    · obtain rfl : k = p.size := by omega
      have hmk : m ≤ p.size := by rw [← HM.out]; exact lastK_le _ _
      by_cases h0 : p.size = 0
      · have hem := emT h0
        have HV : Hid (R = ⟨#[47]⟩) := Lib.hid (by
          rw [← HR.out]; exact usB_one (fun h => by
            have : p.data.toList = [] := List.eq_nil_of_length_eq_zero (by rw [lenB]; exact h0)
            rw [this] at h; cases h.1))
        clear hk hmk
        go_wp2
        go_ret
        exact ⟨ret_usl HV.out.symm, rfl⟩
      · have hem := emF (s := p) (by omega)
        have hp0 : 0 < p.size := by omega
        have hhd : p.data.toList.head? = some p[0] := by
          rw [List.head?_eq_getElem?, List.getElem?_eq_getElem (by rw [lenB]; exact hp0)]; rfl
        by_cases hx : p[0] = 47
        · have hxb : ((p[0].toNat : Int) == 47) = true := by rw [H47.out, decide_eq_true hx]
          have hxn : ((p[0].toNat : Int) != 47) = false := by rw [bne, hxb]; rfl
          by_cases hm0 : m = 0
          · have HV : Hid (R = ⟨#[47]⟩) := Lib.hid (by rw [← HR.out]; exact usB_one (fun h => h.2 (HM.out.trans hm0)))
            subst hm0
            clear hx hhd h0
            go_wp2
            go_ret
            exact ⟨ret_usl HV.out.symm, rfl⟩
          · have HV : Hid (R = p.extract 0 m) := Lib.hid (by rw [← HR.out]; exact usB_cut (by rw [hhd, hx]) HM.out hm0)
            have hmI : ((m : Int) == 0) = false := beq_eq_false_iff_ne.2 (by omega)
            clear hx hhd h0 hm0
            go_wp2
            go_ret
            exact ⟨ret_usl HV.out.symm, rfl⟩
        · have hxb : ((p[0].toNat : Int) == 47) = false := by rw [H47.out, decide_eq_false hx]
          have hxn : ((p[0].toNat : Int) != 47) = true := by rw [bne, hxb]; rfl
          have HV : Hid (R = ⟨#[47]⟩) := Lib.hid (by rw [← HR.out]; exact usB_one (fun h => hx (Option.some.inj (hhd.symm.trans h.1))))
          clear hx hhd h0
          go_wp2
          go_ret
          exact ⟨ret_usl HV.out.symm, rfl⟩

set_option maxHeartbeats 1000000 in
theorem spaths_walk (a b : ByteArray) (w : World) (ha : a.size ≤ 140737488351232) (hb : b.size ≤ 140737488351232) :
    Calls Try.prog 3 #[.string a, .string b] w fun e w' => e = .returned (.bool true) ∧ Below w.heap.size w w' := by
  by_cases hbg : 1048576 < a.size + b.size
  · go_enter Try.func3, Try.ntmps3
    go_wp2_with fail
    refine (pc_Beyond2_yes w.heap.size a.size b.size _ (by simp) (by simp) hbg (by unfold maxLen; omega)).mono ?_
    rintro e w1 ⟨rfl, rfl⟩
    go_wp2
    go_ret
    exact ⟨rfl, (Below.refl _ _).alloc (Nat.le_refl _) _⟩
  · obtain ⟨R, HR⟩ : ∃ R, Hid (pmchL a.data.toList b.data.toList = R) := ⟨_, Lib.hid rfl⟩
    obtain ⟨U, HU⟩ : ∃ U, Hid (usB a = U) := ⟨_, Lib.hid rfl⟩
    have C1 : Hid (∀ w, Calls Try.prog 6 #[.string a, .string b] w fun e w' => e = .returned (.bool R) ∧ w' = w) := Lib.hid (fun w => by rw [← HR.out]; exact SPath_any a b w (by omega))
    have C2 : Hid (∀ w, Calls Try.prog 7 #[.string a, .string b] w fun e w' => e = .returned (.bool R) ∧ w' = w) := Lib.hid (fun w => by rw [← HR.out]; exact RefPath_any a b w (by omega))
    have C3 : Hid (∀ w, Calls Try.prog 8 #[.string a] w fun e w' => e = .returned (.string U) ∧ w' = w) := Lib.hid (fun w => by rw [← HU.out]; exact SUsual_any a w (by omega))
    have C4 : Hid (∀ w, Calls Try.prog 9 #[.string a] w fun e w' => e = .returned (.string U) ∧ w' = w) := Lib.hid (fun w => by rw [← HU.out]; exact RefUsual_any a w (by omega))
    go_enter Try.func3, Try.ntmps3
    go_wp2_with fail
    refine (pc_Beyond2_no w.heap.size a.size b.size _ (by simp) (by simp) (by omega)).mono ?_
    rintro e w1 ⟨rfl, rfl⟩
    have B0 : Hid (Below w.heap.size w (w.alloc (.cells #[.int .i64 (a.size : Int), .int .i64 (b.size : Int)] 3))) := Lib.hid ((Below.refl _ _).alloc (Nat.le_refl _) _)
    go_wp2_with fail
    refine (C1.out _).mono ?_
    rintro e w1 ⟨rfl, rfl⟩
    go_wp2_with fail
    refine (C2.out _).mono ?_
    rintro e w2 ⟨rfl, rfl⟩
    go_wp2_with fail
    refine (C3.out _).mono ?_
    rintro e w3 ⟨rfl, rfl⟩
    go_wp2_with fail
    refine (C4.out _).mono ?_
    rintro e w4 ⟨rfl, rfl⟩
    go_wp2
    go_ret
    exact ⟨ret_bool (by simp), B0.out⟩

end Go.Proofs.Ytldddgmhmolohaa
