/-
  The walk of HostsUp.
-/
import Derived.Test.YtjalbfgdhmkclaaGreatDoorLawHA
namespace Go.Proofs.YtjalbfgdhmkclaaGreatDoor
open Go.RowKit

theorem up_head {L : List ByteArray} {i : Nat} (h : i < L.length) : upB L i = ⟨#[46]⟩ ++ upS L i := by rw [upB, if_pos h]
theorem up_none {L : List ByteArray} {i : Nat} (h : ¬ i < L.length) : upB L i = ⟨#[]⟩ := by rw [upB, if_neg h]
theorem ext_one (y : ByteArray) : ((⟨#[46]⟩ : ByteArray) ++ y).extract 1 (1 + y.size) = y := by
  refine ba_of ?_
  have h1 := lenB y
  have h2 : ((⟨#[46]⟩ : ByteArray) ++ y).size = 1 + y.size := by rw [ByteArray.size_append]; rfl
  rw [ext_mid _ 1 _ (by omega), ByteArray.data_append, Array.toList_append]
  show List.take _ y.data.toList = _
  rw [List.take_of_length_le (by omega)]
theorem up_bd {L : List ByteArray} (i : Nat) (h : i < L.length) : (upS L i).size ≤ (dotJ L).size := by
  by_cases e : i = 0
  · subst e; exact Nat.le_refl _
  · have := up_size L 0 i (by omega) h
    rw [up_zero] at this; omega

set_option maxRecDepth 100000 in
set_option maxHeartbeats 4000000 in
theorem hup_walk (s : ByteArray) (w : World) (hs : s.size ≤ 140737488351232) (hW : Hw w) :
    Calls Tryz.prog 7 #[.string s] w fun e w' => e = .returned (.bool true) ∧ Below w.heap.size w w' := by
  have HW := Lib.hid hW; clear hW
  by_cases h1000 : 1000 < s.size
  · go_enter Tryz.func7, Tryz.ntmps7
    go_wp2_with fail
    refine (alive5_any _ HW.out).mono ?_
    rintro e w1 ⟨rfl, b1⟩
    have Z1 : Hid (Below w.heap.size w w1) := Lib.hid (b1)
    clear b1
    have hI : (1000 : Int) < (s.size : Int) := by omega
    go_wp2_with fail
    refine (alive5_any _ (HW.out.later Z1.out)).mono ?_
    rintro e w2 ⟨rfl, b2⟩
    have Z2 : Hid (Below w.heap.size w w2) := Lib.hid (keepW Z1.out b2)
    clear b2
    go_wp2
    go_ret
    exact ⟨rfl, Z2.out⟩
  have hI : (s.size : Int) ≤ 1000 := by omega
  have hs1 : s.size ≤ 1000 := by omega
  clear h1000
  cases hO : hostO s with
  | none =>
    have C1 := Lib.hid (fun w hW => Parse_none (s := s) w hs1 hO hW)
    clear hO
    go_enter Tryz.func7, Tryz.ntmps7
    go_wp2_with fail
    refine (alive5_any _ HW.out).mono ?_
    rintro e w1 ⟨rfl, b1⟩
    have Z1 : Hid (Below w.heap.size w w1) := Lib.hid (b1)
    clear b1
    go_wp2_with fail
    refine (C1.out _ (HW.out.later Z1.out)).mono ?_
    rintro e w2 ⟨rfl, b2⟩
    have Z2 : Hid (Below w.heap.size w w2) := Lib.hid (keepW Z1.out b2)
    clear b2
    go_wp2
    go_ret
    exact ⟨rfl, Z2.out⟩
  | some x =>
    have C1 := Lib.hid (fun w hW => Parse_some (s := s) (x := x) w hs1 hO hW)
    have hm := host_made hs1 hO
    clear hO
    have h0 : 0 < x.size := by
      rcases hm with h | h
      · exact h.size.1
      · exact h.size.1
    have hx : x.size ≤ 253 := by
      rcases hm with h | h
      · exact h.size.2
      · have := h.size.2; omega
    have hz1 : ¬ 9223372036854775807 < 2 + x.size := by omega
    have hz2 : ¬ 9223372036854775807 < 1 + x.size := by omega
    have hxa : (⟨#[97, 46]⟩ : ByteArray) ++ x = ⟨#[97]⟩ ++ ⟨#[46]⟩ ++ x := rfl
    obtain ⟨xa, HXa⟩ : ∃ y, Hid ((⟨#[97, 46]⟩ : ByteArray) ++ x = y) := ⟨_, Lib.hid rfl⟩
    have hxas : xa.size ≤ 1000 := by rw [← HXa.out, ByteArray.size_append]; show 2 + x.size ≤ 1000; omega
    obtain ⟨L, HL⟩ : ∃ L, Hid (labelsL x = L) := ⟨_, Lib.hid rfl⟩
    have C2 : Hid (∀ w, Hw w → Calls Tryz.prog 13 #[.string x] w fun e w' => (∃ g, e = .returned (.slice (some ⟨g, 0, none⟩) L.length L.length) ∧ w'.heap[g]? = some (.cells (L.map Value.string).toArray 9 (0, 0))) ∧ Below w.heap.size w w') := Lib.hid (fun w hW => by
      obtain ⟨m, hm⟩ := hW.ml
      have := Labels_some x m w (by omega) h0 hm
      rw [HL.out] at this
      exact this.mono fun e w' ⟨g, h1, _, h2, h3⟩ => ⟨⟨g, h1, h2⟩, h3⟩)
    obtain ⟨M, HM⟩ : ∃ M, Hid (machB x = M) := ⟨_, Lib.hid rfl⟩
    have C3 : Hid (∀ w, Calls Tryz.prog 16 #[.string x] w fun e w' => e = .returned (.bool M) ∧ Below w.heap.size w w') := Lib.hid (fun w => by rw [← HM.out]; exact Machine_any x w (by omega))
    cases M
    · have hN : NameX x := by
        rcases hm with h | h
        · exact h
        · have := h.mach; rw [HM.out] at this; cases this
      have hNM := hN.noMach HM.out
      obtain ⟨hne, hgd, hdot⟩ := hN.parts
      have hLr : rawB 46 x = L := by rw [← HL.out, labelsL, if_neg (by omega), HM.out]; rfl
      rw [hLr] at hNM hne hgd hdot
      have HU1 : Hid (∀ i j, i ≤ j → j < L.length → belowB (upS L i) (upS L j) = true) := Lib.hid hNM.below
      have HBa : Hid (belowB xa x = true) := Lib.hid (by rw [← HXa.out, hxa, ← hdot]; exact hNM.below_a hne)
      have HX0 : Hid (upS L 0 = x) := Lib.hid (by rw [up_zero, hdot])
      have HUs : Hid (∀ i, i < L.length → (upS L i).size ≤ 253 ∧ 0 < (upS L i).size) := Lib.hid (fun i hi => by
        have := up_bd i hi
        rw [hdot] at this
        exact ⟨by omega, (hNM.up i hi).2⟩)
      obtain ⟨n, HN⟩ : ∃ n, Hid (L.length = n) := ⟨_, Lib.hid rfl⟩
      have hLn : 0 < n := by rw [← HN.out]; exact List.length_pos_iff.2 hne
      have hLb : n ≤ 1000 := by rw [← HN.out, ← hLr]; have := rawB_count 46 x; omega
      have CB : Hid (∀ (a b : ByteArray) (r : Bool) (w : World), a.size ≤ 1048600 → b.size ≤ 1048600 → belowB a b = r → Calls Tryz.prog 23 #[.string a, .string b] w fun e w' => e = .returned (.bool r) ∧ Below w.heap.size w w') := Lib.hid (fun a b r w ha hb hr => by rw [← hr]; exact Below5_any a b w ha hb)
      have CXa : Hid (∀ w, Calls Tryz.prog 23 #[.string (⟨#[97, 46]⟩ ++ x), .string x] w fun e w' => e = .returned (.bool true) ∧ Below w.heap.size w w') := Lib.hid (fun w => by rw [HXa.out]; exact CB.out xa x true w (by omega) (by omega) HBa.out)
      rw [HN.out] at C2 HU1 HUs
      clear hN hNM hne hgd hdot hLr hm hxa
      go_enter Tryz.func7, Tryz.ntmps7
      go_wp2_with fail
      refine (alive5_any _ HW.out).mono ?_
      rintro e w1 ⟨rfl, b1⟩
      have Z1 : Hid (Below w.heap.size w w1) := Lib.hid (b1)
      clear b1
      go_wp2_with fail
      refine (C1.out _ (HW.out.later Z1.out)).mono ?_
      rintro e w2 ⟨rfl, b2⟩
      have Z2 : Hid (Below w.heap.size w w2) := Lib.hid (keepW Z1.out b2)
      clear b2
      go_wp2_with fail
      refine (C2.out _ (HW.out.later Z2.out)).mono ?_
      rintro e w3 ⟨⟨g, rfl, hg⟩, b3⟩
      have Z3 : Hid (Below w.heap.size w w3) := Lib.hid (keepW Z2.out b3)
      have HG := Lib.hid hg; clear hg
      have hgl := lt_of_block HG.out
      clear b3
      go_wp2_with fail
      refine (C3.out _).mono ?_
      rintro e w4 ⟨rfl, b4⟩
      have Z4 : Hid (Below w.heap.size w w4) := Lib.hid (keepW Z3.out b4)
      have Z4' := Lib.hid b4
      clear b4
      have HG4 : Hid (w4.heap[g]? = some (.cells (L.map Value.string).toArray 9 (0, 0))) := Lib.hid ((Z4'.out.block g hgl).trans HG.out)
      go_wp2
      go_loopw [6, 7, 8] (fun u i _ wr => ∃ j : Nat, j ≤ n ∧ i = .int .i64 ((j : Int) - 1) ∧ u = .string (upB L j) ∧ Hid (Below w.heap.size w wr) ∧ Hid (Below w4.heap.size w4 wr)) (fun _ i _ _ => (intOf i + 1).toNat)
      case atStart => exact ⟨n, Nat.le_refl _, rfl, by rw [up_none (by rw [HN.out]; omega)], Z4, Lib.hid (Below.refl _ _)⟩
      case round =>
        obtain ⟨j, hj, rfl, rfl, HB, HB1⟩ := hrel
        by_cases hj0 : 0 < j
        · obtain ⟨i, rfl⟩ : ∃ i, j = i + 1 := ⟨j - 1, by omega⟩
          have hiI : ((i + 1 : Nat) : Int) - 1 = (i : Int) := by omega
          rw [hiI]
          have hiL : i < L.length := by rw [HN.out]; omega
          obtain ⟨l, Hl⟩ : ∃ l, Hid (L[i] = l) := ⟨_, Lib.hid rfl⟩
          obtain ⟨u, HU⟩ : ∃ u, Hid (upS L i = u) := ⟨_, Lib.hid rfl⟩
          obtain ⟨v, HV⟩ : ∃ v, Hid (upB L (i + 1) = v) := ⟨_, Lib.hid rfl⟩
          have HLV : Hid (l ++ v = u) := Lib.hid (by rw [← Hl.out, ← HV.out, ← HU.out, up_step L i hiL])
          have hus : u.size ≤ 253 ∧ 0 < u.size := by rw [← HU.out]; exact HUs.out i (by omega)
          have hlv : l.size + v.size = u.size := by rw [← HLV.out, ByteArray.size_append]
          have hc : wr.cell? ⟨g, i, none⟩ = some (.string l) := by
            rw [HB1.out.cell (p := ⟨g, i, none⟩) (lt_of_block HG4.out), cell_of_row w4 _ _ _ _ _ HG4.out, List.getElem?_toArray, List.getElem?_map, List.getElem?_eq_getElem hiL, Hl.out]; rfl
          have CX : Hid (∀ w, Calls Tryz.prog 23 #[.string x, .string u] w fun e w' => e = .returned (.bool true) ∧ Below w.heap.size w w') := Lib.hid (fun w => CB.out x u true w (by omega) (by omega) (by rw [← HX0.out, ← HU.out]; exact HU1.out 0 i (by omega) (by omega)))
          have hz3 : ¬ 9223372036854775807 < l.size + v.size := by omega
          have hz4 : ¬ 9223372036854775807 < 1 + u.size := by omega
          have HUB : Hid (upB L i = ⟨#[46]⟩ ++ u) := Lib.hid (by rw [up_head hiL, HU.out])
          clear hiI
          rw [HV.out]
          by_cases hin : i + 1 < n
          · obtain ⟨y, HY⟩ : ∃ y, Hid (upS L (i + 1) = y) := ⟨_, Lib.hid rfl⟩
            have HVY : Hid (v = ⟨#[46]⟩ ++ y) := Lib.hid (by rw [← HV.out, up_head (by rw [HN.out]; exact hin), HY.out])
            have hys : y.size ≤ 253 := by rw [← HY.out]; exact (HUs.out (i + 1) hin).1
            have hvs : v.size = 1 + y.size := by rw [HVY.out, ByteArray.size_append]; rfl
            have CY : Hid (∀ w, Calls Tryz.prog 23 #[.string u, .string (v.extract 1 v.size)] w fun e w' => e = .returned (.bool true) ∧ Below w.heap.size w w') := Lib.hid (fun w => by
              rw [hvs, HVY.out, ext_one]
              exact CB.out u y true w (by omega) (by omega) (by rw [← HY.out, ← HU.out]; exact HU1.out i (i + 1) (by omega) hin))
            have CZ : Hid (∀ w, Calls Tryz.prog 23 #[.string (v.extract 1 v.size), .string u] w fun e w' => e = .returned (.bool false) ∧ Below w.heap.size w w') := Lib.hid (fun w => by
              rw [hvs, HVY.out, ext_one]
              exact CB.out y u false w (by omega) (by omega) (by rw [← HY.out, ← HU.out]; exact up_not L i (i + 1) (by omega) (by rw [HN.out]; exact hin)))
            have hem := emF (s := v) (by omega)
            have hv1 : 1 ≤ v.size := by omega
            clear hvs
            go_wp2_with (first | fail)
            rw [HLV.out]
            refine (CX.out _).mono ?_
            rintro e v1 ⟨rfl, b1⟩
            have Y1 : Hid (Below w.heap.size w v1) := Lib.hid (keepW HB.out b1)
            have X1 : Hid (Below w4.heap.size w4 v1) := Lib.hid (keepW HB1.out b1)
            clear b1 hc
            go_wp2_with fail
            refine (CY.out _).mono ?_
            rintro e v2 ⟨rfl, b2⟩
            have Y2 : Hid (Below w.heap.size w v2) := Lib.hid (keepW Y1.out b2)
            have X2 : Hid (Below w4.heap.size w4 v2) := Lib.hid (keepW X1.out b2)
            clear b2
            go_wp2_with fail
            refine (CZ.out _).mono ?_
            rintro e v3 ⟨rfl, b3⟩
            have Y3 : Hid (Below w.heap.size w v3) := Lib.hid (keepW Y2.out b3)
            have X3 : Hid (Below w4.heap.size w4 v3) := Lib.hid (keepW X2.out b3)
            clear b3
            go_wp2
            exact ⟨⟨i, by omega, by go_num, by rw [HUB.out], Y3, X3⟩, by simp [intOf]⟩
          · have hv0 : v.size = 0 := by rw [← HV.out, up_none (by rw [HN.out]; omega)]; rfl
            have hem := emT hv0
            go_wp2_with (first | fail)
            rw [HLV.out]
            refine (CX.out _).mono ?_
            rintro e v1 ⟨rfl, b1⟩
            have Y1 : Hid (Below w.heap.size w v1) := Lib.hid (keepW HB.out b1)
            have X1 : Hid (Below w4.heap.size w4 v1) := Lib.hid (keepW HB1.out b1)
            clear b1 hc
            go_wp2
            exact ⟨⟨i, by omega, by go_num, by rw [HUB.out], Y1, X1⟩, by simp [intOf]⟩
        · obtain rfl : j = 0 := by omega
          have HUZ : Hid (upB L 0 = ⟨#[46]⟩ ++ x) := Lib.hid (by rw [up_head (by rw [HN.out]; exact hLn), HX0.out])
          rw [HUZ.out]
          go_wp2_with fail
          refine (CXa.out _).mono ?_
          rintro e v1 ⟨rfl, b1⟩
          have Y1 : Hid (Below w.heap.size w v1) := Lib.hid (keepW HB.out b1)
          clear b1
          go_wp2
          go_ret
          exact ⟨rfl, Y1.out⟩
    · have HL1 : Hid (L = [x]) := Lib.hid (by rw [← HL.out, labelsL, if_neg (by omega), HM.out]; rfl)
      have CB : Hid (∀ (a b : ByteArray) (r : Bool) (w : World), a.size ≤ 1048600 → b.size ≤ 1048600 → belowB a b = r → Calls Tryz.prog 23 #[.string a, .string b] w fun e w' => e = .returned (.bool r) ∧ Below w.heap.size w w') := Lib.hid (fun a b r w ha hb hr => by rw [← hr]; exact Below5_any a b w ha hb)
      have CX : Hid (∀ w, Calls Tryz.prog 23 #[.string x, .string x] w fun e w' => e = .returned (.bool true) ∧ Below w.heap.size w w') := Lib.hid (fun w => CB.out x x true w (by omega) (by omega) (below_self x))
      have CXa : Hid (∀ w, Calls Tryz.prog 23 #[.string (⟨#[97, 46]⟩ ++ x), .string x] w fun e w' => e = .returned (.bool false) ∧ Below w.heap.size w w') := Lib.hid (fun w => CB.out _ x false w (by rw [HXa.out]; omega) (by omega) (by rw [hxa]; exact mach_not_a HM.out))
      have CX2 : Hid (∀ w, 4 ≤ x.size → Calls Tryz.prog 23 #[.string x, .string (x.extract 2 x.size)] w fun e w' => e = .returned (.bool false) ∧ Below w.heap.size w w') := Lib.hid (fun w h4 => CB.out x _ false w (by omega) (by rw [ByteArray.size_extract]; omega) (mach_not_2 HM.out (by rw [ByteArray.size_extract]; omega)))
      rw [HL1.out] at C2
      clear hm hxa
      go_enter Tryz.func7, Tryz.ntmps7
      go_wp2_with fail
      refine (alive5_any _ HW.out).mono ?_
      rintro e w1 ⟨rfl, b1⟩
      have Z1 : Hid (Below w.heap.size w w1) := Lib.hid (b1)
      clear b1
      go_wp2_with fail
      refine (C1.out _ (HW.out.later Z1.out)).mono ?_
      rintro e w2 ⟨rfl, b2⟩
      have Z2 : Hid (Below w.heap.size w w2) := Lib.hid (keepW Z1.out b2)
      clear b2
      go_wp2_with fail
      refine (C2.out _ (HW.out.later Z2.out)).mono ?_
      rintro e w3 ⟨⟨g, rfl, hg⟩, b3⟩
      have Z3 : Hid (Below w.heap.size w w3) := Lib.hid (keepW Z2.out b3)
      have HG := Lib.hid hg; clear hg
      have hgl := lt_of_block HG.out
      clear b3
      go_wp2_with fail
      refine (C3.out _).mono ?_
      rintro e w4 ⟨rfl, b4⟩
      have Z4 : Hid (Below w.heap.size w w4) := Lib.hid (keepW Z3.out b4)
      have hc : w4.cell? ⟨g, 0, none⟩ = some (.string x) := by
        rw [b4.cell (p := ⟨g, 0, none⟩) hgl, cell_of_row w3 _ _ _ _ _ HG.out]; rfl
      clear b4
      go_wp2_with fail
      refine (CX.out _).mono ?_
      rintro e w5 ⟨rfl, b5⟩
      have Z5 : Hid (Below w.heap.size w w5) := Lib.hid (keepW Z4.out b5)
      clear b5
      go_wp2_with fail
      refine (CXa.out _).mono ?_
      rintro e w6 ⟨rfl, b6⟩
      have Z6 : Hid (Below w.heap.size w w6) := Lib.hid (keepW Z5.out b6)
      clear b6
      by_cases h4 : x.size < 4
      · have h4I : (x.size : Int) < 4 := by omega
        go_wp2
        go_ret
        exact ⟨rfl, Z6.out⟩
      · have h4I : 4 ≤ (x.size : Int) := by omega
        have h42 : 2 ≤ x.size := by omega
        go_wp2_with fail
        refine (CX2.out _ (by omega)).mono ?_
        rintro e w7 ⟨rfl, b7⟩
        have Z7 : Hid (Below w.heap.size w w7) := Lib.hid (keepW Z6.out b7)
        clear b7
        go_wp2
        go_ret
        exact ⟨rfl, Z7.out⟩

end Go.Proofs.YtjalbfgdhmkclaaGreatDoor
