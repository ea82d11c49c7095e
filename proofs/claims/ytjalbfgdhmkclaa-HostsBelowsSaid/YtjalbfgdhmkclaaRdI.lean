/-
  Contract: looksLikeFour.
-/
import Derived.Test.YtjalbfgdhmkclaaRdH
namespace Go.Proofs.Ytjalbfgdhmkclaa
open Go.RowKit

theorem trimS_P (l : List UInt8) : Lib.trimSuffix l [46] = trimP l := by
  unfold Lib.trimSuffix Lib.hasSuffix trimP
  rcases List.eq_nil_or_concat l with rfl | ⟨r, x, rfl⟩
  · rfl
  · rw [List.concat_eq_append]
    have hs : ([46] : List UInt8).isSuffixOf (r ++ [x]) = true ↔ x = 46 := by
      rw [List.isSuffixOf_iff_suffix]
      constructor
      · rintro ⟨p, hp⟩
        have := congrArg List.getLast? hp
        simpa [eq_comm] using this
      · rintro rfl; exact ⟨r, rfl⟩
    by_cases hx : x = 46
    · subst hx
      rw [if_pos (hs.2 rfl), if_pos (by simp)]
      simp
    · rw [if_neg (fun h => hx (hs.1 h)), if_neg (by simpa using hx)]
theorem lastQ_at (T : ByteArray) : ∃ k : Nat, Lib.lastIndexByte T 46 + 1 = (k : Int) ∧ k ≤ T.size ∧ lastQ (pts 46 T.data.toList) = T.data.toList.drop k ∧ ∀ c ∈ T.data.toList.drop k, c ≠ 46 := by
  have hl := lenB T
  have hget : ∀ j, (hj : j < T.size) → ((T.data[j]!).toNat : Int) = ((T.data.toList[j]'(by omega)).toNat : Int) := by
    intro j hj
    rw [getElem!_pos T.data j hj]; rfl
  rcases Lib.lastIndexByte_spec T 46 with ⟨e, hn⟩ | ⟨i, hi, e, hc, hn⟩
  · refine ⟨0, by rw [e]; rfl, Nat.zero_le _, ?_, ?_⟩
    · have : ∀ c ∈ T.data.toList, c ≠ 46 := by
        intro c hc h46
        obtain ⟨j, hj, rfl⟩ := List.mem_iff_getElem.1 hc
        have hj' : j < T.size := by omega
        apply hn j hj'
        rw [hget j hj', h46]; rfl
      rw [pts_none 46 _ this]; rfl
    · intro c hc h46
      rw [List.drop_zero] at hc
      obtain ⟨j, hj, rfl⟩ := List.mem_iff_getElem.1 hc
      have hj' : j < T.size := by omega
      apply hn j hj'
      rw [hget j hj', h46]; rfl
  · have hd : ∀ c ∈ T.data.toList.drop (i + 1), c ≠ 46 := by
      intro c hc h46
      obtain ⟨j, hj, rfl⟩ := List.mem_iff_getElem.1 hc
      rw [List.length_drop] at hj
      apply hn (i + 1 + j) (by omega) (by omega)
      rw [hget _ (by omega)]
      rw [List.getElem_drop] at h46
      rw [h46]; rfl
    refine ⟨i + 1, by rw [e]; simp, by omega, ?_, hd⟩
    have hi46 : T.data.toList[i]'(by omega) = 46 := by
      have := hget i hi
      rw [hc] at this
      apply UInt8.toNat_inj.1
      have h2 : ((T.data.toList[i]'(by omega)).toNat : Int) = 46 := this.symm
      show _ = 46
      omega
    have hsplit : T.data.toList = T.data.toList.take i ++ 46 :: T.data.toList.drop (i + 1) := by
      rw [← hi46, ← List.drop_eq_getElem_cons (by omega), List.take_append_drop]
    conv => lhs; rw [hsplit, pts_append, pts_none 46 _ hd]
    simp [lastQ]

def trimB (s : ByteArray) : ByteArray := asB (trimP s.data.toList)
theorem trimB_size (s : ByteArray) : (trimB s).size ≤ s.size := by
  have h : (trimP s.data.toList).length ≤ s.data.toList.length := by
    unfold trimP; split
    · rw [List.length_dropLast]; omega
    · exact Nat.le_refl _
  have := lenB s
  show (trimP s.data.toList).toArray.size ≤ _
  rw [List.size_toArray]; omega
def looksF (s : ByteArray) : Bool := looksQ (lastQ (pts 46 (trimP s.data.toList)))

set_option maxRecDepth 100000 in
set_option maxHeartbeats 1000000 in
theorem looksLike_any (s : ByteArray) (w : World) (hs : s.size ≤ 1048600) :
    Calls Try.prog 15 #[.string s] w fun e w' => e = .returned (.bool (looksF s)) ∧ Below w.heap.size w w' := by
  obtain ⟨T, HT⟩ : ∃ T, Hid (trimB s = T) := ⟨_, Lib.hid rfl⟩
  have hTs : T.size ≤ 1048600 := by rw [← HT.out]; have := trimB_size s; omega
  have HTr : Hid (∀ w, Calls Try.prog 24 #[.string s, .string ⟨#[46]⟩] w fun e w' => e = .returned (.string T) ∧ w = w') := Lib.hid (fun w => (Try.strings_TrimSuffix s ⟨#[46]⟩ w (by omega)).mono fun e w' ⟨he, hw⟩ => ⟨by rw [he, ← HT.out, trimB, ← trimS_P]; rfl, hw.symm⟩)
  obtain ⟨k, hk1, hk2, hk3, hk4⟩ := lastQ_at T
  obtain ⟨i, HI⟩ : ∃ i, Hid (Lib.lastIndexByte T 46 = i) := ⟨_, Lib.hid rfl⟩
  rw [HI.out] at hk1
  have HLi : Hid (∀ w, Calls Try.prog 25 #[.string T, .string ⟨#[46]⟩] w fun e w' => e = .returned (.int .i64 i) ∧ w = w') := Lib.hid (fun w => (Try.strings_LastIndex_one T ⟨#[46]⟩ rfl (by omega) w).mono fun e w' ⟨he, hw⟩ => ⟨by rw [he, ← HI.out]; rfl, hw.symm⟩)
  obtain rfl : i = (k : Int) - 1 := by omega
  obtain ⟨Q, HQ⟩ : ∃ Q, Hid (T.extract k T.size = Q) := ⟨_, Lib.hid rfl⟩
  have hQs : Q.size ≤ 1048600 := by rw [← HQ.out]; simp; omega
  have HQd : Hid (Q.data.toList = T.data.toList.drop k) := Lib.hid (by rw [← HQ.out, ext_asB]; rfl)
  have HLk : Hid ((orElse (whole1 rpart) (whole1 rdec) (lowS Q).data.toList).isSome = looksF s) := Lib.hid (by
    have h1 : looksF s = looksQ Q.data.toList := by
      unfold looksF
      rw [HQd.out, ← hk3, ← HT.out]; rfl
    rw [h1, ← looksQ_low]
    refine looks_ways _ ?_ (sml_88 (lowS_sml Q))
    intro c hc
    have : c ∈ Q.data.toList.map low := hc
    obtain ⟨x, hx, rfl⟩ := List.mem_map.1 this
    rw [HQd.out] at hx
    exact fun e => hk4 x hx ((low_46 x).1 e))
  obtain ⟨oo, HO⟩ : ∃ oo, Hid (orElse (whole1 rpart) (whole1 rdec) (lowS Q).data.toList = oo) := ⟨_, Lib.hid rfl⟩
  rw [HO.out] at HLk
  rw [← HLk.out]
  have hmf := mkfK
  clear hk1 hk3 hk4
  go_enter Try.func15, Try.ntmps15
  go_wp2_with fail
  refine (HTr.out _).mono ?_
  rintro e w1 ⟨rfl, rfl⟩
  go_wp2_with fail
  refine (HLi.out _).mono ?_
  rintro e w1 ⟨rfl, rfl⟩
  go_wp2_with fail
  rw [HQ.out]
  refine (readerOf_any Q _ (by unfold maxLen; omega)).mono ?_
  rintro e w1 ⟨b, hb, rfl, r1, b1⟩
  have R1 := Lib.hid r1; have B1 := Lib.hid b1
  have hb1 := r1.lt
  clear r1 b1
  go_wp2_with fail
  refine (whole_any _ _ _ rfl rfl ⟨_, rfl⟩ ⟨_, _, _, rfl⟩).mono ?_
  rintro e w2 ⟨rfl, h2⟩
  obtain ⟨p1, p2, z2, b2⟩ := two_new h2
  have P1 := Lib.hid p1; have P2 := Lib.hid p2; have Z2 := Lib.hid z2; have B2 := Lib.hid b2
  clear h2 p1 p2 z2 b2
  go_wp2_with fail
  refine (whole_any _ _ _ rfl rfl ⟨_, rfl⟩ ⟨_, _, _, rfl⟩).mono ?_
  rintro e w3 ⟨rfl, h3⟩
  obtain ⟨p1, p2, z2, b2⟩ := two_new h3
  have Q1 := Lib.hid p1; have Q2 := Lib.hid p2; have Z3 := Lib.hid z2; have B3 := Lib.hid b2
  clear h3 p1 p2 z2 b2
  go_wp2_with fail
  refine (either_any _ _ _ _ _).mono ?_
  rintro e w5 ⟨rfl, h5⟩
  obtain ⟨p1, p2, z2, b2⟩ := two_new h5
  have hx := (b2.block w3.heap.size (by simp)).trans (heap_alloc_new w3 _)
  have E1 := Lib.hid p1; have E2 := Lib.hid p2; have Z5 := Lib.hid z2; have HX := Lib.hid hx
  have K35 : Hid (Below w3.heap.size w3 w5) := Lib.hid (((Below.refl _ _).alloc (Nat.le_refl _) _).trans (b2.mono (by simp)))
  clear h5 p1 p2 z2 b2 hx
  have HZ : Hid ((w3.alloc (.cells #[.func (.func 39) #[] #[.pointer (some ⟨w1.heap.size + 1, 0, none⟩), .pointer (some ⟨w1.heap.size, 0, none⟩)], .func (.func 39) #[] #[.pointer (some ⟨w2.heap.size + 1, 0, none⟩), .pointer (some ⟨w2.heap.size, 0, none⟩)]] 47)).heap.size = w3.heap.size + 1) := Lib.hid (by simp)
  rw [HZ.out] at E1 E2 Z5
  rw [HZ.out]
  have k23 : Kp (Only b) w2 w3 := Kp.of_below B3.out
  have k35 : Kp (Only b) w3 w5 := Kp.of_below K35.out
  have hW1 : Way b _ _ _ (whole1 rpart) w5 := (way_whole P2.out P1.out (by omega) (by omega) (way_part b w2)).later (k23.trans k35)
  have hW2 : Way b _ _ _ (whole1 rdec) w5 := (way_whole Q2.out Q1.out (by have := Z2.out; omega) (by have := Z2.out; omega) (way_decimal b w3)).later k35
  have hW := way_either E1.out E2.out HX.out (by have := Z2.out; have := Z3.out; omega) (by have := Z2.out; have := Z3.out; omega) (by have := Z2.out; have := Z3.out; omega) hW1 hW2
  have hR5 : Rd w5 b (lowS Q) := ((R1.out.kept (Kp.of_below (X := fun _ => False) B2.out) id).kept (Kp.of_below (X := fun _ => False) B3.out) id).kept (Kp.of_below (X := fun _ => False) K35.out) id
  have HGo := Lib.hid (hW.go w5 (lowS Q) (Kp.refl _ _) hR5 (by rw [lowS_size]; exact hQs) (lowS_sml Q))
  have hent := hW.ent
  have BB : Hid (Below w.heap.size w w5) := Lib.hid (by
    have hz := B1.out.size
    exact B1.out.trans ((B2.out.mono hz).trans ((B3.out.mono (by have := Z2.out; omega)).trans (K35.out.mono (by have := Z2.out; have := Z3.out; omega)))))
  have hbw : w.heap.size ≤ b := hb
  clear k23 k35 hW1 hW2 hW hR5
  rw [HO.out] at HGo
  go_wp2_with fail
  refine HGo.out.mono ?_
  rintro e w6 h6
  obtain ⟨v, r, a1, a2, a3, a4⟩ := h6
  have K6 : Hid (Below w.heap.size w w6) := Lib.hid (BB.out.trans (a2.below (by have := BB.out.size; omega) (fun k hk => by rw [show k = b from hk]; exact hbw)))
  cases oo with
  | none =>
    obtain rfl := a4 rfl
    clear a1 a2 a3 a4
    go_wp2
    go_ret
    exact ⟨rfl, K6.out⟩
  | some x =>
    obtain ⟨ns, u⟩ := x
    obtain ⟨rfl, _, _⟩ := a3 ns u rfl
    clear a1 a2 a3 a4
    go_wp2
    go_ret
    exact ⟨rfl, K6.out⟩

end Go.Proofs.Ytjalbfgdhmkclaa
