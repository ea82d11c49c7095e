/-
  Contract: the document's Decode, where plain signs stand ahead.
-/
import Derived.Test.YtdifdikfgkiocaaGreatDoorPnV
namespace Go.Proofs.YtdifdikfgkiocaaGreatDoor
open Go.RowKit

set_option maxRecDepth 10000000 in
set_option maxHeartbeats 4000000 in
/-- The numbers of the document's Decode, from the digits on. -/
theorem RefDecode_cut (s : ByteArray) (w : World) (hs3 : s.size ≤ 1000) (hC0 : 0 < (lastI s.data.toList).toNat) :
  Calls Tryz.prog 114 #[.string s] w fun e w' => e = .returned (.tuple #[.string (decT s).1, .int .i64 (decT s).2]) ∧ Below w.heap.size w w' := by
 have h1 : ¬ 65536 < s.size := by omega
 have HF4 : Hid (plainL s.data.toList = false → decT s = (⟨#[]⟩, 4)) := Lib.hid (fun h => by rw [decT, if_neg h1, if_pos h])
 obtain ⟨C, HC⟩ : ∃ C, Hid (C = (lastI s.data.toList).toNat) := ⟨_, Lib.hid rfl⟩
 have hCs : C ≤ s.size := by
  have := lastI_bd s.data.toList
  have hl : (s.data.toList.length : Int) = s.size := by simp
  rw [HC.out]; omega
 obtain ⟨T, HT⟩ : ∃ T, Hid (T = decR (s.size - pAt s) ((s.data.toList.take C).map (·.toNat)) (s.data.toList.drop (pAt s)) 0 128 72 true) := ⟨_, Lib.hid rfl⟩
 have HFd : Hid (plainL s.data.toList = true → decT s = decW T) := Lib.hid (fun h => by
  rw [decT, if_neg h1, if_neg (by rw [h]; simp), HT.out, decR_eq, decO, pSigns_data, pRest_data, pRest_size, HC.out]
  have hA : C ≤ pAt s := by rw [pAt, ← HC.out]; split <;> omega
  simp; omega)
 go_enter Tryz.func114, Tryz.ntmps114
 go_wp2
 go_loop [4, 5] (fun c i => ∃ k : Nat, k ≤ s.size ∧ i = .int .i64 k ∧ c = .int .i64 ((lastI (s.data.toList.take k)).toNat : Int) ∧ Hid (plainL (s.data.toList.take k) = true)) (fun _ i => s.size - (intOf i).toNat)
 case atStart => exact ⟨0, Nat.zero_le _, rfl, rfl, Lib.hid rfl⟩
 case round =>
  obtain ⟨k, hk, rfl, rfl, HP⟩ := hrel
  by_cases hlt : k < s.size
  ·have HS := Lib.hid (take_snoc s k hlt)
   by_cases hc : s[k].toNat < 128
   ·have HP2 : Hid (plainL (s.data.toList.take (k + 1)) = true) := Lib.hid (by rw [HS.out, plainL_snoc, HP.out]; simpa using hc)
    by_cases hd : s[k] = 45
    ·have hd' : ((s[k].toNat : Int) == 45) = true := by rw [hd]; rfl
     have HL : Hid ((lastI (s.data.toList.take (k + 1))).toNat = k) := Lib.hid (by rw [HS.out, lastI_snoc, if_pos hd]; simp; omega)
     go_wp2
     go_round
     case rel => exact ⟨k + 1, by omega, by go_num, by rw [HL.out], HP2⟩
     case measure => simp [intOf]; omega
    ·have hd' : ((s[k].toNat : Int) == 45) = false := beq_eq_false_iff_ne.2 (fun h => hd (UInt8.toNat_inj.1 (by show s[k].toNat = 45; omega)))
     have HL : Hid (lastI (s.data.toList.take (k + 1)) = lastI (s.data.toList.take k)) := Lib.hid (by rw [HS.out, lastI_snoc, if_neg hd])
     go_wp2
     go_round
     case rel => exact ⟨k + 1, by omega, by go_num, by rw [HL.out], HP2⟩
     case measure => simp [intOf]; omega
   ·have HF := Lib.hid (HF4.out (plainL_at_false s k hlt hc))
    have hl256 := s[k].toNat_lt
    go_wp2
    go_ret2
    exact ⟨by rw [HF.out]; rfl, Below.refl _ _⟩
  ·have HT1 : Hid (s.data.toList.take k = s.data.toList) := Lib.hid (List.take_of_length_le (by simp; omega))
   rw [HT1.out] at HP ⊢
   rw [← HC.out]
   have HF := Lib.hid (HFd.out HP.out)
   go_wp2
   go_loopw [6, 7] (fun v i wr => ∃ k : Nat, k ≤ C ∧ i = .int .i64 k ∧ Hid (wr.ownsRow w.heap.size 3 1 v (((s.data.toList.take k).map (·.toNat)).map iv).length (((s.data.toList.take k).map (·.toNat)).map iv)) ∧ Hid (Below w.heap.size w wr)) (fun _ i _ => C - (intOf i).toNat)
   case atStart => exact ⟨0, Nat.zero_le _, rfl, Lib.hid (World.ownsRow_nil _ _ _ _), Lib.hid (Below.refl _ _)⟩
   case round =>
    obtain ⟨k, hk, rfl, HR, HB⟩ := hrel
    by_cases hlt : k < C
    ·have hks : k < s.size := by omega
     have hl256 := s[k].toNat_lt
     have HS := Lib.hid (take_snoc s k hks)
     obtain ⟨v', w1, hrun, hown1, hgrow⟩ := appI w.heap.size u6 (((s.data.toList.take k).map (·.toNat)).map iv) [iv s[k].toNat] ⟨wr.heap.size, 0, none⟩ 1 1 (wr.alloc (.cells #[iv s[k].toNat] 3)) (HR.out.alloc _) rfl (by simp; omega) (by simp; rfl) (by have := HB.out.size; simp; omega)
      (World.news_of_block (cs := #[iv s[k].toNat]) (t := 3) (fr := (0, 0)) (heap_alloc_new wr _))
     have HRun := Lib.hid hrun
     have HO1 : Hid (w1.ownsRow w.heap.size 3 1 v' (((s.data.toList.take (k + 1)).map (·.toNat)).map iv).length (((s.data.toList.take (k + 1)).map (·.toNat)).map iv)) := Lib.hid (by
      rw [HS.out, List.map_append, List.map_append]; exact hown1)
     have HB1 : Hid (Below w.heap.size w w1) := Lib.hid ((HB.out.alloc HB.out.size _).grown hgrow (by have := HB.out.size; simp; omega) (fun q hq => (HR.out.lt q hq).1))
     clear hrun hown1 hgrow
     go_wp2_with (at_builtin; refine Lib.wpList_append_run _ rfl _ _ _ _ rfl _ _ rfl rfl _ _ HRun.out ?_)
     exact ⟨⟨k + 1, by omega, by go_num, HO1, HB1⟩, by simp [intOf]; omega⟩
    ·obtain rfl : k = C := by omega
     rw [List.length_map] at HR
     obtain ⟨L0, HL0⟩ : ∃ L0, Hid (L0 = (s.data.toList.take k).map (·.toNat)) := ⟨_, Lib.hid rfl⟩
     rw [← HL0.out] at HR HT
     have hl0 : L0.length = k := by rw [HL0.out]; simp; omega
     have HBad : Hid (∀ x ∈ L0, badS x = false) := Lib.hid (by rw [HL0.out]; exact small_ok _ (plain_sub HP.out (fun c hc => List.mem_of_mem_take hc)))
     obtain ⟨a0, cap0, Hv0⟩ : ∃ a cap, Hid (u6 = .slice a L0.length cap) := by
      rcases HR.out.2 with ⟨rfl, hn⟩ | ⟨g, cap, cur, rfl, hgb, hg, hnc, hcm, hcs, hct⟩
      ·exact ⟨none, 0, Lib.hid (by rw [hn])⟩
      ·exact ⟨_, _, Lib.hid rfl⟩
     obtain ⟨A, HA⟩ : ∃ A, Hid (A = pAt s) := ⟨_, Lib.hid rfl⟩
     have hA1 : (0 < k ∧ A = k + 1) ∨ (k = 0 ∧ A = 0) := by
      rw [HA.out, pAt, ← HC.out]; split <;> omega
     rw [← HA.out] at HT
     have hlK : (0 < k → k < s.size) := fun h0 => by
      have := lastI_bd s.data.toList
      have hl : (s.data.toList.length : Int) = s.size := by simp
      have := HC.out
      omega
     have HGo : Hid (∀ wz : World, True) := Lib.hid (fun _ => trivial)
     rw [Hv0.out] at HR ⊢
     obtain ⟨h0, rfl⟩ : 0 < k ∧ A = k + 1 := by have := HC.out; omega
     have hlk := hlK h0
     clear hlK
     go_wp2
     go_loopw [6, 8, 9, 10, 11, 12] (fun a6 a8 a9 a10 a11 a12 wr => ∃ (L : List Nat) (p place sign bias f : Nat) (first : Bool) (a : Option Addr) (cap : Nat), a6 = .slice a L.length cap ∧ Hid (wr.ownsRow w.heap.size 3 1 (.slice a L.length cap) L.length (L.map iv)) ∧ a8 = .int .i64 p ∧ a9 = .int .i64 bias ∧ a10 = .int .i64 place ∧ a11 = .int .i64 sign ∧ a12 = .bool first ∧
       p ≤ s.size ∧ s.size - p ≤ f ∧ Hid (decR f L (s.data.toList.drop p) place sign bias first = T) ∧ place ≤ L.length ∧ sign ≤ 1114111 ∧ bias ≤ 756 ∧ L.length + (s.size - p) ≤ 1000 ∧ Hid (∀ x ∈ L, badS x = false) ∧ Hid (Below w.heap.size w wr)) (fun _ a8 _ _ _ _ _ => s.size - (intOf a8).toNat)
     case atStart => exact ⟨L0, k + 1, 0, 128, 72, s.size - (k + 1), true, a0, cap0, by rw [hl0], HR, by go_num, rfl, rfl, rfl, rfl, by omega, by omega, Lib.hid HT.out.symm, Nat.zero_le _, by omega, by omega, by omega, HBad, HB⟩
     case round =>
      clear HR HB HBad
      obtain ⟨L, p, place, sign, bias, f, first, a, cap, rfl, HR, rfl, rfl, rfl, rfl, rfl, hp, hf, HT2, hpl, hsg, hbi, hL, HBad, HB⟩ := hrel
      by_cases hlt2 : p < s.size
      ·have hne : s.data.toList.drop p ≠ [] := fun h => by have := congrArg List.length h; simp at this; omega
       have HNe := Lib.hid hne; clear hne
       obtain ⟨f, rfl⟩ : ∃ j, f = j + 1 := ⟨f - 1, by omega⟩
       cases hrd : rdN bias (s.data.toList.drop p) 0 1 place with
       | none =>
        have HFn : Hid (T = none) := Lib.hid (by rw [← HT2.out, decR_none HNe.out hrd])
        have HRd := Lib.hid hrd; clear hrd
        go_wp2_with fail
        refine (number_any s p place bias _ (by omega) (by omega) (by omega) hbi).mono ?_
        rw [HRd.out]
        rintro e w1 ⟨rfl, rfl⟩
        dsimp only [rdR]
        go_wp2
        go_ret2
        exact ⟨by rw [HF.out, HFn.out]; rfl, HB.out⟩
       | some q =>
        obtain ⟨n, m⟩ := q
        have hbd := rdN_bd bias _ _ _ _ _ _ hrd
        rw [List.length_drop, dLen] at hbd
        obtain ⟨hn, hnp, hm0, hm⟩ := hbd
        have HRd := Lib.hid hrd; clear hrd
        rcases (show a = none ∧ cap = 0 ∧ L.length = 0 ∨ ∃ g, a = some ⟨g, 0, none⟩ ∧ cap ≤ maxLen ∧ L.length ≤ cap by
         rcases HR.out.2 with ⟨hv, hn⟩ | ⟨g, cap, cur, hv, hgb, hg, hnc, hcm, hcs, hct⟩
         ·injection hv with e1 e2 e3; exact .inl ⟨e1, e3, hn⟩
         ·injection hv with e1 e2 e3; subst e3; exact .inr ⟨g, e1, hcm, hnc⟩) with ⟨rfl, rfl, hl0'⟩ | ⟨g, rfl, hcm, hnc⟩
        ·obtain rfl : L = [] := List.eq_nil_of_length_eq_zero hl0'
         obtain rfl : place = 0 := by simpa using hpl
         have hnb : nb n 1 first ≤ 756 := nb_bd n 1 first
         have HNb : Hid (∀ w, Calls Tryz.prog 143 #[.int .i64 (n : Int), .int .i64 1, .bool first] w fun e w' => e = .returned (.int .i64 (nb n 1 first)) ∧ w = w') := Lib.hid (fun w => next_any n 1 first _ (by omega) (by omega) (by omega))
         obtain ⟨S, HS⟩ : ∃ S : Nat, Hid (S = sign + n) := ⟨_, Lib.hid rfl⟩
         have hS : (sign : Int) + (n : Int) = (S : Int) := by rw [HS.out]; simp
         have hS2 : S ≤ 2149600000 := by rw [HS.out]; omega
         cases hbad : badS S with
         | true =>
          have HFn : Hid (T = none) := Lib.hid (by rw [← HT2.out, decR_bad HNe.out HRd.out (by rw [List.length_nil, Nat.zero_add, Nat.div_one, ← HS.out]; exact hbad)])
          rw [badS_true] at hbad
          rcases (show 1114111 < S ∨ (S ≤ 1114111 ∧ 55296 ≤ S ∧ S ≤ 57343) by omega) with hx | ⟨hx1, hx2, hx3⟩
          ·clear hbad
           go_wp2_with (first | (go_at_call 144; refine (number_any s p 0 bias _ (by omega) (by omega) (by omega) hbi).mono ?_; rw [HRd.out]; rintro e w1 ⟨rfl, rfl⟩; dsimp only [rdR]) | (go_at_call 143; refine (HNb.out _).mono ?_; rintro e w1 ⟨rfl, rfl⟩))
           go_ret2
           exact ⟨by rw [HF.out, HFn.out]; rfl, HB.out⟩
          ·clear hbad
           go_wp2_with (first | (go_at_call 144; refine (number_any s p 0 bias _ (by omega) (by omega) (by omega) hbi).mono ?_; rw [HRd.out]; rintro e w1 ⟨rfl, rfl⟩; dsimp only [rdR]) | (go_at_call 143; refine (HNb.out _).mono ?_; rintro e w1 ⟨rfl, rfl⟩))
           go_ret2
           exact ⟨by rw [HF.out, HFn.out]; rfl, HB.out⟩
         | false =>
          have HO : Hid (decR (f + 1) [] (s.data.toList.drop p) 0 sign bias first = decR f (insN [] 0 S) ((s.data.toList.drop p).drop m) (0 + 1) S (nb n 1 first) false) := Lib.hid (by
           have h := decR_on (f := f) (l := []) (place := 0) (sign := sign) (first := first) HNe.out HRd.out (by rw [List.length_nil, Nat.zero_add, Nat.div_one, ← HS.out]; exact hbad)
           rw [List.length_nil, Nat.zero_add, Nat.div_one, Nat.mod_one, ← HS.out] at h
           exact h)
          have HBad2 : Hid (∀ x ∈ insN [] 0 S, badS x = false) := Lib.hid (fun x hx => by
           rcases insN_mem hx with rfl | h
           ·exact hbad
           ·exact HBad.out x h)
          rw [badS_false] at hbad
          obtain ⟨v1, w1, v2, w2, a', cap', w3, r1, r2, r3, HO3, HB3⟩ := insStep w.heap.size [] 0 S none 0 wr w HR.out (Nat.le_refl _) (by simp) HB.out.size HB.out
          rw [if_pos rfl] at r3
          simp only [List.length_nil, Nat.sub_zero] at r3
          have R1 := Lib.hid r1
          have R2 := Lib.hid r2
          have R3 := Lib.hid r3
          clear r1 r2 r3
          rcases hbad with ⟨hx1, hx | hx⟩
          ·go_wp2_with (first | (go_at_call 144; refine (number_any s p 0 bias _ (by omega) (by omega) (by omega) hbi).mono ?_; rw [HRd.out]; rintro e w1 ⟨rfl, rfl⟩; dsimp only [rdR]) | (go_at_call 143; refine (HNb.out _).mono ?_; rintro e w1 ⟨rfl, rfl⟩) | (at_builtin; refine Lib.wpList_append_run _ rfl _ _ _ _ rfl _ _ rfl rfl _ _ R1.out ?_) | (at_builtin; refine Lib.wpList_append_run _ rfl _ _ _ _ rfl _ _ rfl rfl _ _ R2.out ?_) | (at_builtin; refine Lib.wpList_append_run _ rfl _ _ _ _ rfl _ _ rfl rfl _ _ R3.out ?_))
           exact ⟨⟨insN [] 0 S, p + m, 0 + 1, S, nb n 1 first, f, false, a', cap', rfl, HO3, by go_num, rfl, by go_num, by go_num, rfl, by omega, by omega, Lib.hid (by rw [← List.drop_drop, ← HO.out]; exact HT2.out), by rw [insN_length]; omega, by omega, hnb, by rw [insN_length]; omega, HBad2, HB3⟩, by simp [intOf]; omega⟩
          ·have hx2 : 55296 ≤ S := by omega
           go_wp2_with (first | (go_at_call 144; refine (number_any s p 0 bias _ (by omega) (by omega) (by omega) hbi).mono ?_; rw [HRd.out]; rintro e w1 ⟨rfl, rfl⟩; dsimp only [rdR]) | (go_at_call 143; refine (HNb.out _).mono ?_; rintro e w1 ⟨rfl, rfl⟩) | (at_builtin; refine Lib.wpList_append_run _ rfl _ _ _ _ rfl _ _ rfl rfl _ _ R1.out ?_) | (at_builtin; refine Lib.wpList_append_run _ rfl _ _ _ _ rfl _ _ rfl rfl _ _ R2.out ?_) | (at_builtin; refine Lib.wpList_append_run _ rfl _ _ _ _ rfl _ _ rfl rfl _ _ R3.out ?_))
           exact ⟨⟨insN [] 0 S, p + m, 0 + 1, S, nb n 1 first, f, false, a', cap', rfl, HO3, by go_num, rfl, by go_num, by go_num, rfl, by omega, by omega, Lib.hid (by rw [← List.drop_drop, ← HO.out]; exact HT2.out), by rw [insN_length]; omega, by omega, hnb, by rw [insN_length]; omega, HBad2, HB3⟩, by simp [intOf]; omega⟩
        ·unfold maxLen at hcm
         obtain ⟨Q, HQ⟩ : ∃ Q, Hid (Q = n / (L.length + 1)) := ⟨_, Lib.hid rfl⟩
         obtain ⟨R, HRm⟩ : ∃ R, Hid (R = n % (L.length + 1)) := ⟨_, Lib.hid rfl⟩
         have hQ : (n : Int) / ((L.length : Int) + 1) = (Q : Int) := by rw [HQ.out]; simp
         have hR : (n : Int) % ((L.length : Int) + 1) = (R : Int) := by rw [HRm.out]; simp
         have hQl : Q ≤ n := by rw [HQ.out]; exact Nat.div_le_self _ _
         have hRl : R ≤ L.length := by rw [HRm.out]; have := Nat.mod_lt n (show 0 < L.length + 1 by omega); omega
         have hnb := nb_bd (n - place) (L.length + 1) first
         have hc1 : ((L.length + 1 : Nat) : Int) = (L.length : Int) + 1 := by simp
         have hc2 : ((n - place : Nat) : Int) = (n : Int) - (place : Int) := by omega
         have HNb : Hid (∀ w, Calls Tryz.prog 143 #[.int .i64 ((n : Int) - (place : Int)), .int .i64 ((L.length : Int) + 1), .bool first] w fun e w' => e = .returned (.int .i64 (nb (n - place) (L.length + 1) first)) ∧ w = w') := Lib.hid (fun w => by
          rw [← hc1, ← hc2]; exact next_any _ _ _ _ (by omega) (by omega) (by omega))
         clear hc1 hc2
         obtain ⟨S, HS⟩ : ∃ S : Nat, Hid (S = sign + Q) := ⟨_, Lib.hid rfl⟩
         have hS : (sign : Int) + (Q : Int) = (S : Int) := by rw [HS.out]; simp
         have hS2 : S ≤ 2149600000 := by rw [HS.out]; omega
         cases hbad : badS S with
         | true =>
          have HFn : Hid (T = none) := Lib.hid (by rw [← HT2.out, decR_bad HNe.out HRd.out (by rw [← HQ.out, ← HS.out]; exact hbad)])
          rw [badS_true] at hbad
          rcases (show 1114111 < S ∨ (S ≤ 1114111 ∧ 55296 ≤ S ∧ S ≤ 57343) by omega) with hx | ⟨hx1, hx2, hx3⟩
          ·clear hbad
           go_wp2_with (first | (go_at_call 144; refine (number_any s p place bias _ (by omega) (by omega) (by omega) hbi).mono ?_; rw [HRd.out]; rintro e w1 ⟨rfl, rfl⟩; dsimp only [rdR]) | (go_at_call 143; refine (HNb.out _).mono ?_; rintro e w1 ⟨rfl, rfl⟩))
           go_ret2
           exact ⟨by rw [HF.out, HFn.out]; rfl, HB.out⟩
          ·clear hbad
           go_wp2_with (first | (go_at_call 144; refine (number_any s p place bias _ (by omega) (by omega) (by omega) hbi).mono ?_; rw [HRd.out]; rintro e w1 ⟨rfl, rfl⟩; dsimp only [rdR]) | (go_at_call 143; refine (HNb.out _).mono ?_; rintro e w1 ⟨rfl, rfl⟩))
           go_ret2
           exact ⟨by rw [HF.out, HFn.out]; rfl, HB.out⟩
         | false =>
          have HO := Lib.hid (decR_on (f := f) (first := first) HNe.out HRd.out (by rw [← HQ.out, ← HS.out]; exact hbad))
          rw [← HQ.out, ← HRm.out, ← HS.out] at HO
          have HBad2 : Hid (∀ x ∈ insN L R S, badS x = false) := Lib.hid (fun x hx => by
           rcases insN_mem hx with rfl | h
           ·exact hbad
           ·exact HBad.out x h)
          rw [badS_false] at hbad
          obtain ⟨v1, w1, v2, w2, a', cap', w3, r1, r2, r3, HO3, HB3⟩ := insStep w.heap.size L R S (some ⟨g, 0, none⟩) cap wr w HR.out hRl (by omega) HB.out.size HB.out
          by_cases hcR : cap = R
          ·rw [if_pos hcR] at r3
           obtain rfl : R = L.length := by omega
           obtain rfl : cap = L.length := hcR
           rw [Nat.sub_self] at r3
           have R1 := Lib.hid r1
           have R2 := Lib.hid r2
           have R3 := Lib.hid r3
           clear r1 r2 r3
           rcases hbad with ⟨hx1, hx | hx⟩
           ·go_wp2_with (first | (go_at_call 144; refine (number_any s p place bias _ (by omega) (by omega) (by omega) hbi).mono ?_; rw [HRd.out]; rintro e w1 ⟨rfl, rfl⟩; dsimp only [rdR]) | (go_at_call 143; refine (HNb.out _).mono ?_; rintro e w1 ⟨rfl, rfl⟩) | (at_builtin; refine Lib.wpList_append_run _ rfl _ _ _ _ rfl _ _ rfl rfl _ _ R1.out ?_) | (at_builtin; refine Lib.wpList_append_run _ rfl _ _ _ _ rfl _ _ rfl rfl _ _ R2.out ?_) | (at_builtin; refine Lib.wpList_append_run _ rfl _ _ _ _ rfl _ _ rfl rfl _ _ R3.out ?_))
            exact ⟨⟨insN L L.length S, p + m, L.length + 1, S, nb (n - place) (L.length + 1) first, f, false, a', cap', rfl, HO3, by go_num, rfl, by go_num, by go_num, rfl, by omega, by omega, Lib.hid (by rw [← List.drop_drop, ← HO.out]; exact HT2.out), by rw [insN_length]; omega, by omega, hnb, by rw [insN_length]; omega, HBad2, HB3⟩, by simp [intOf]; omega⟩
           ·have hx2 : 55296 ≤ S := by omega
            go_wp2_with (first | (go_at_call 144; refine (number_any s p place bias _ (by omega) (by omega) (by omega) hbi).mono ?_; rw [HRd.out]; rintro e w1 ⟨rfl, rfl⟩; dsimp only [rdR]) | (go_at_call 143; refine (HNb.out _).mono ?_; rintro e w1 ⟨rfl, rfl⟩) | (at_builtin; refine Lib.wpList_append_run _ rfl _ _ _ _ rfl _ _ rfl rfl _ _ R1.out ?_) | (at_builtin; refine Lib.wpList_append_run _ rfl _ _ _ _ rfl _ _ rfl rfl _ _ R2.out ?_) | (at_builtin; refine Lib.wpList_append_run _ rfl _ _ _ _ rfl _ _ rfl rfl _ _ R3.out ?_))
            exact ⟨⟨insN L L.length S, p + m, L.length + 1, S, nb (n - place) (L.length + 1) first, f, false, a', cap', rfl, HO3, by go_num, rfl, by go_num, by go_num, rfl, by omega, by omega, Lib.hid (by rw [← List.drop_drop, ← HO.out]; exact HT2.out), by rw [insN_length]; omega, by omega, hnb, by rw [insN_length]; omega, HBad2, HB3⟩, by simp [intOf]; omega⟩
          ·rw [if_neg hcR] at r3
           simp only [Option.map_some] at r3
           have R1 := Lib.hid r1
           have R2 := Lib.hid r2
           have R3 := Lib.hid r3
           clear r1 r2 r3
           rcases hbad with ⟨hx1, hx | hx⟩
           ·go_wp2_with (first | (go_at_call 144; refine (number_any s p place bias _ (by omega) (by omega) (by omega) hbi).mono ?_; rw [HRd.out]; rintro e w1 ⟨rfl, rfl⟩; dsimp only [rdR]) | (go_at_call 143; refine (HNb.out _).mono ?_; rintro e w1 ⟨rfl, rfl⟩) | (at_builtin; refine Lib.wpList_append_run _ rfl _ _ _ _ rfl _ _ rfl rfl _ _ R1.out ?_) | (at_builtin; refine Lib.wpList_append_run _ rfl _ _ _ _ rfl _ _ rfl rfl _ _ R2.out ?_) | (at_builtin; refine Lib.wpList_append_run _ rfl _ _ _ _ rfl _ _ rfl rfl _ _ R3.out ?_))
            exact ⟨⟨insN L R S, p + m, R + 1, S, nb (n - place) (L.length + 1) first, f, false, a', cap', rfl, HO3, by go_num, rfl, by go_num, by go_num, rfl, by omega, by omega, Lib.hid (by rw [← List.drop_drop, ← HO.out]; exact HT2.out), by rw [insN_length]; omega, by omega, hnb, by rw [insN_length]; omega, HBad2, HB3⟩, by simp [intOf]; omega⟩
           ·have hx2 : 55296 ≤ S := by omega
            go_wp2_with (first | (go_at_call 144; refine (number_any s p place bias _ (by omega) (by omega) (by omega) hbi).mono ?_; rw [HRd.out]; rintro e w1 ⟨rfl, rfl⟩; dsimp only [rdR]) | (go_at_call 143; refine (HNb.out _).mono ?_; rintro e w1 ⟨rfl, rfl⟩) | (at_builtin; refine Lib.wpList_append_run _ rfl _ _ _ _ rfl _ _ rfl rfl _ _ R1.out ?_) | (at_builtin; refine Lib.wpList_append_run _ rfl _ _ _ _ rfl _ _ rfl rfl _ _ R2.out ?_) | (at_builtin; refine Lib.wpList_append_run _ rfl _ _ _ _ rfl _ _ rfl rfl _ _ R3.out ?_))
            exact ⟨⟨insN L R S, p + m, R + 1, S, nb (n - place) (L.length + 1) first, f, false, a', cap', rfl, HO3, by go_num, rfl, by go_num, by go_num, rfl, by omega, by omega, Lib.hid (by rw [← List.drop_drop, ← HO.out]; exact HT2.out), by rw [insN_length]; omega, by omega, hnb, by rw [insN_length]; omega, HBad2, HB3⟩, by simp [intOf]; omega⟩
      ·have HFs : Hid (T = some L) := Lib.hid (by rw [← HT2.out, List.drop_of_length_le (by simp; omega), decR_nil])
       go_wp2_with fail
       refine (RefBytes_any w.heap.size _ L _ HR.out (by omega) HBad.out).mono ?_
       rintro e w1 ⟨rfl, hb1⟩
       go_wp2
       go_ret2
       exact ⟨by rw [HF.out, HFs.out]; rfl, HB.out.trans (hb1.mono HB.out.size)⟩

end Go.Proofs.YtdifdikfgkiocaaGreatDoor
