/-
  The walk of HostsSigns.
-/
import Derived.Test.YtjalbfgdhmkclaaGreatDoorLawHA
namespace Go.Proofs.YtjalbfgdhmkclaaGreatDoor
open Go.RowKit

set_option maxRecDepth 100000 in
set_option maxHeartbeats 4000000 in
theorem hsigns_walk (s : ByteArray) (w : World) (hs : s.size ≤ 140737488351232) (hW : Hw w) :
    Calls Tryz.prog 6 #[.string s] w fun e w' => e = .returned (.bool true) ∧ Below w.heap.size w w' := by
  have HW := Lib.hid hW; clear hW
  by_cases h1000 : 1000 < s.size
  · go_enter Tryz.func6, Tryz.ntmps6
    go_wp2_with fail
    refine (alive5_any _ HW.out).mono ?_
    rintro e w1 ⟨rfl, b1⟩
    have Z1 : Hid (Below w.heap.size w w1) := Lib.hid (b1)
    clear b1
    have hI : (1000 : Int) < (s.size : Int) := by omega
    go_wp2_with fail
    refine (alive5_any _ (HW.out.later Z1.out)).mono ?_
    rintro e w2 ⟨rfl, b2⟩
    have Z2 : Hid (Below w.heap.size w w2) := Lib.hid (keepW Z1.out b2)
    clear b2
    go_wp2
    go_ret
    exact ⟨rfl, Z2.out⟩
  have hI : (s.size : Int) ≤ 1000 := by omega
  have hs1 : s.size ≤ 1000 := by omega
  clear h1000
  cases hO : hostO s with
  | none =>
    have C1 := Lib.hid (fun w hW => Parse_none (s := s) w hs1 hO hW)
    clear hO
    go_enter Tryz.func6, Tryz.ntmps6
    go_wp2_with fail
    refine (alive5_any _ HW.out).mono ?_
    rintro e w1 ⟨rfl, b1⟩
    have Z1 : Hid (Below w.heap.size w w1) := Lib.hid (b1)
    clear b1
    go_wp2_with fail
    refine (C1.out _ (HW.out.later Z1.out)).mono ?_
    rintro e w2 ⟨rfl, b2⟩
    have Z2 : Hid (Below w.heap.size w w2) := Lib.hid (keepW Z1.out b2)
    clear b2
    go_wp2
    go_ret
    exact ⟨rfl, Z2.out⟩
  | some x =>
    have C1 := Lib.hid (fun w hW => Parse_some (s := s) (x := x) w hs1 hO hW)
    have hm := host_made hs1 hO
    clear hO
    rcases hm with hN | hB
    · obtain ⟨h0, hx⟩ := hN.size
      have h91 := hN.first h0
      have h0I : (0 : Int) < (x.size : Int) := by omega
      have hxI : (x.size : Int) ≤ 253 := by omega
      have HBy := Lib.hid hN.byte
      obtain ⟨L, HL⟩ : ∃ L, Hid (labelsL x = L) := ⟨_, Lib.hid rfl⟩
      have HLp : Hid (∀ l ∈ L, 0 < l.size) := Lib.hid (by rw [← HL.out]; exact hN.label)
      have hLn : 0 < L.length := by rw [← HL.out]; exact List.length_pos_iff.2 (labels_ne h0)
      have hLb : L.length ≤ 1000 := by
        rw [← HL.out, labelsL, if_neg (by omega)]
        split
        · simp
        · have := rawB_count 46 x; omega
      obtain ⟨n, HN⟩ : ∃ n, Hid (L.length = n) := ⟨_, Lib.hid rfl⟩
      rw [HN.out] at hLn hLb
      have C2 : Hid (∀ w, Hw w → Calls Tryz.prog 13 #[.string x] w fun e w' => (∃ g, e = .returned (.slice (some ⟨g, 0, none⟩) n n) ∧ w'.heap[g]? = some (.cells (L.map Value.string).toArray 9 (0, 0))) ∧ Below w.heap.size w w') := Lib.hid (fun w hW => by
        obtain ⟨m, hm⟩ := hW.ml
        have := Labels_some x m w (by omega) h0 hm
        rw [HL.out, HN.out] at this
        exact this.mono fun e w' ⟨g, h1, _, h2, h3⟩ => ⟨⟨g, h1, h2⟩, h3⟩)
      clear hN
      go_enter Tryz.func6, Tryz.ntmps6
      go_wp2_with fail
      refine (alive5_any _ HW.out).mono ?_
      rintro e w1 ⟨rfl, b1⟩
      have Z1 : Hid (Below w.heap.size w w1) := Lib.hid (b1)
      clear b1
      go_wp2_with fail
      refine (C1.out _ (HW.out.later Z1.out)).mono ?_
      rintro e w2 ⟨rfl, b2⟩
      have Z2 : Hid (Below w.heap.size w w2) := Lib.hid (keepW Z1.out b2)
      clear b2
      go_wp2_with fail
      refine (C2.out _ (HW.out.later Z2.out)).mono ?_
      rintro e w3 ⟨⟨g, rfl, hg⟩, b3⟩
      have Z3 : Hid (Below w.heap.size w w3) := Lib.hid (keepW Z2.out b3)
      have HG := Lib.hid hg; clear hg
      clear b3
      have hnI : (0 : Int) < (n : Int) := by omega
      go_wp2
      go_loop [6] (fun i => ∃ k : Nat, k ≤ n ∧ i = .int .i64 k) (fun i => n - (intOf i).toNat)
      case atStart => exact ⟨0, Nat.zero_le _, rfl⟩
      case round =>
        obtain ⟨k, hk, rfl⟩ := hrel
        by_cases hlt : k < n
        · have hkL : k < L.length := by rw [HN.out]; exact hlt
          obtain ⟨l, Hl⟩ : ∃ l, Hid (L[k] = l) := ⟨_, Lib.hid rfl⟩
          have hem : l.toList.isEmpty = false := emF (HLp.out l (by rw [← Hl.out]; exact List.getElem_mem hkL))
          have hc : w3.cell? ⟨g, k, none⟩ = some (.string l) := by
            rw [cell_of_row w3 _ _ _ _ _ HG.out, List.getElem?_toArray, List.getElem?_map, List.getElem?_eq_getElem hkL, Hl.out]; rfl

          go_wp2
          go_round
          case rel => exact ⟨k + 1, by omega, by go_num⟩
          case measure => simp [intOf]; omega
        · obtain rfl : k = n := by omega
          clear HG HLp
          go_wp2
          go_loop [7, 8] (fun j _ => ∃ i : Nat, i ≤ x.size ∧ j = .int .i64 i) (fun j _ => x.size - (intOf j).toNat)
          case atStart => exact ⟨0, Nat.zero_le _, rfl⟩
          case round =>
            obtain ⟨i, hi, rfl⟩ := hrel
            by_cases hlt2 : i < x.size
            · obtain ⟨c1, c2, c3, c4, c5, c6, c7, c8, c9, c10, c11⟩ := HBy.out i hlt2
              have d1 : (32 : Int) < (x[i].toNat : Int) := by omega
              have d2 : (x[i].toNat : Int) < 127 := by omega
              have d3 : ((x[i].toNat : Int) == 35) = false := beq_eq_false_iff_ne.2 (by omega)
              have d4 : ((x[i].toNat : Int) == 37) = false := beq_eq_false_iff_ne.2 (by omega)
              have d5 : ((x[i].toNat : Int) == 47) = false := beq_eq_false_iff_ne.2 (by omega)
              have d6 : ((x[i].toNat : Int) == 58) = false := beq_eq_false_iff_ne.2 (by omega)
              have d7 : ((x[i].toNat : Int) == 63) = false := beq_eq_false_iff_ne.2 (by omega)
              have d8 : ((x[i].toNat : Int) == 64) = false := beq_eq_false_iff_ne.2 (by omega)
              have d9 : ((x[i].toNat : Int) == 91) = false := beq_eq_false_iff_ne.2 (by omega)
              have d10 : ((x[i].toNat : Int) == 92) = false := beq_eq_false_iff_ne.2 (by omega)
              have d11 : ((x[i].toNat : Int) == 93) = false := beq_eq_false_iff_ne.2 (by omega)
              clear c1 c2 c3 c4 c5 c6 c7 c8 c9 c10 c11
              go_wp2
              go_round
              case rel => exact ⟨i + 1, by omega, by go_num⟩
              case measure => simp [intOf]; omega
            · go_wp2
              go_ret
              exact ⟨rfl, Z3.out⟩
    · obtain ⟨h0, hx⟩ := hB.size
      have h91 := hB.first h0
      have h0I : (0 : Int) < (x.size : Int) := by omega
      clear hB
      go_enter Tryz.func6, Tryz.ntmps6
      go_wp2_with fail
      refine (alive5_any _ HW.out).mono ?_
      rintro e w1 ⟨rfl, b1⟩
      have Z1 : Hid (Below w.heap.size w w1) := Lib.hid (b1)
      clear b1
      go_wp2_with fail
      refine (C1.out _ (HW.out.later Z1.out)).mono ?_
      rintro e w2 ⟨rfl, b2⟩
      have Z2 : Hid (Below w.heap.size w w2) := Lib.hid (keepW Z1.out b2)
      clear b2
      go_wp2
      go_ret
      exact ⟨rfl, Z2.out⟩

end Go.Proofs.YtjalbfgdhmkclaaGreatDoor
