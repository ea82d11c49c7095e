/-
  The walk of SuffixNone.
-/
import Derived.Test.YtdifdikfgkiocaaGreatDoorSxL
namespace Go.Proofs.YtdifdikfgkiocaaGreatDoor
open Go.RowKit

theorem nil_tx (w : World) : TxAt [] none 0 0 w := ⟨fun h => absurd h (Nat.not_lt_zero _), fun _ h => absurd h (Nat.not_lt_zero _)⟩
theorem nil_fair {h : ByteArray} (hh : h.size ≤ 1000) : Fair [] h := ⟨Nat.zero_le _, fun _ h => (by cases h), hh⟩
theorem SufNil {h : ByteArray} (hh : h.size ≤ 1000) {E : ByteArray} {c : Int} (hE : sufT [] h 0 = (E, c)) (w : World) (hW : Hw w) :
    Calls Tryz.prog 12 #[.slice none 0 0, .string h] w fun e w' => e = .returned (.tuple #[.string E, .int .i64 c]) ∧ Below w.heap.size w w' := by
  have := Suffix_any [] none 0 0 0 h w (nil_tx w) (nil_fair hh) hW
  rwa [hE] at this
theorem OwnNil {h : ByteArray} (hh : h.size ≤ 1000) {E : ByteArray} {c : Int} (hE : sufT [] h 1 = (E, c)) (w : World) (hW : Hw w) :
    Calls Tryz.prog 15 #[.slice none 0 0, .string h] w fun e w' => e = .returned (.tuple #[.string E, .int .i64 c]) ∧ Below w.heap.size w w' := by
  have := Own_any [] none 0 0 0 h w (nil_tx w) (nil_fair hh) hW
  rwa [hE] at this
theorem suf_noname {h : ByteArray} (hn : nameB h = false) (k : Nat) : sufT [] h k = (⟨#[]⟩, 5) := by
  rw [sufT, if_neg (by decide), if_pos hn]
set_option maxRecDepth 100000 in
set_option maxHeartbeats 4000000 in
theorem snone_walk (h : ByteArray) (w : World) (hh : h.size ≤ 140737488351232) (hW : Hw w) :
    Calls Tryz.prog 7 #[.string h] w fun e w' => e = .returned (.bool true) ∧ Below w.heap.size w w' := by
  have HW := Lib.hid hW; clear hW
  by_cases h1000 : 1000 < h.size
  · go_enter Tryz.func7, Tryz.ntmps7
    go_wp2_with fail
    refine (alive8_any _ HW.out).mono ?_
    rintro e w1 ⟨rfl, b1⟩
    have Z1 : Hid (Below w.heap.size w w1) := Lib.hid b1
    clear b1
    have hI : (1000 : Int) < (h.size : Int) := by omega
    go_wp2_with fail
    refine (alive8_any _ (HW.out.later Z1.out)).mono ?_
    rintro e w2 ⟨rfl, b2⟩
    have Z2 : Hid (Below w.heap.size w w2) := Lib.hid (keepW Z1.out b2)
    clear b2
    go_wp2
    go_ret
    exact ⟨rfl, Z2.out⟩
  have hI : (h.size : Int) ≤ 1000 := by omega
  have hh1 : h.size ≤ 1000 := by omega
  clear h1000
  obtain ⟨M, HMM⟩ : ∃ M, Hid (machB h = M) := ⟨_, Lib.hid rfl⟩
  have CM : Hid (∀ w, Calls Tryz.prog 21 #[.string h] w fun e w' => e = .returned (.bool M) ∧ Below w.heap.size w w') := Lib.hid (fun w => by rw [← HMM.out]; exact Machine_any h w (by omega))
  cases hO : hostO h with
  | none =>
    have hn : nameB h = false := by rw [nameB, hO, decide_eq_false (by simp), Bool.false_and]
    have C0 := Lib.hid (SufNil hh1 (suf_noname hn 0))
    have C1 := Lib.hid (OwnNil hh1 (suf_noname hn 1))
    have CP := Lib.hid (fun w hW => Parse_none (s := h) w hh1 hO hW)
    clear hO hn
    go_enter Tryz.func7, Tryz.ntmps7
    go_wp2_with fail
    refine (alive8_any _ HW.out).mono ?_
    rintro e w1 ⟨rfl, b1⟩
    have Z1 : Hid (Below w.heap.size w w1) := Lib.hid b1
    clear b1
    go_wp2_with fail
    refine (C0.out _ (HW.out.later Z1.out)).mono ?_
    rintro e w2 ⟨rfl, b2⟩
    have Z2 : Hid (Below w.heap.size w w2) := Lib.hid (keepW Z1.out b2)
    clear b2
    go_wp2_with fail
    refine (C1.out _ (HW.out.later Z2.out)).mono ?_
    rintro e w3 ⟨rfl, b3⟩
    have Z3 : Hid (Below w.heap.size w w3) := Lib.hid (keepW Z2.out b3)
    clear b3
    go_wp2_with fail
    refine (CP.out _ (HW.out.later Z3.out)).mono ?_
    rintro e w4 ⟨rfl, b4⟩
    have Z4 : Hid (Below w.heap.size w w4) := Lib.hid (keepW Z3.out b4)
    clear b4
    go_wp2
    go_ret
    exact ⟨rfl, Z4.out⟩
  | some x =>
    have CP := Lib.hid (fun w hW => Parse_some (s := h) (x := x) w hh1 hO hW)
    by_cases hx : x = h
    · subst hx
      cases M
      · have hn : nameB x = true := by rw [nameB, hO, decide_eq_true rfl, HMM.out]; rfl
        obtain ⟨L, hL, hl, hs0, hs1, hs2⟩ := none_facts hh1 hn
        have hx0 := (sx_labels hh1 hn).2.2.2.2.2
        have hx1 := (sx_labels hh1 hn).2.2.2.2.1
        have HLs : Hid (∀ l ∈ L, l.size ≤ 253) := Lib.hid (fun l hl => by
          rw [← hL, (sx_labels hh1 hn).1] at hl
          have := (rawB_mem 46 x l hl).1; omega)
        have hLc : L.length ≤ 254 := by
          rw [← hL, (sx_labels hh1 hn).1]
          have := rawB_count 46 x; omega
        obtain ⟨m, hm⟩ := HW.out.ml
        have HM := Lib.hid hm; clear hm
        have CL : Hid (∀ w, w.cell? ⟨0, 0, none⟩ = some (.int .i64 m) → Calls Tryz.prog 19 #[.string x] w fun e w' => ∃ g, e = .returned (.slice (some ⟨g, 0, none⟩) L.length L.length) ∧ w'.heap[g]? = some (.cells (L.map Value.string).toArray 9 (0, 0)) ∧ Below w.heap.size w w') := Lib.hid (fun w hm => by
          have := Labels_some x m w (by omega) hx0 hm
          rw [hL] at this
          exact this.mono fun e w' ⟨g, h1, _, h3, h4⟩ => ⟨g, h1, h3, h4⟩)
        have C0 := Lib.hid (SufNil hh1 hs0)
        obtain ⟨n, HN⟩ : ∃ n, Hid (L.length = n) := ⟨_, Lib.hid rfl⟩
        obtain ⟨E, HE⟩ : ∃ E, Hid (L[L.length - 1] = E) := ⟨_, Lib.hid rfl⟩
        rw [HE.out] at C0
        have hEc : ∀ (W : World) g, W.heap[g]? = some (.cells (L.map Value.string).toArray 9 (0, 0)) → W.cell? ⟨g, n - 1, none⟩ = some (.string E) := fun W g hg => by
          rw [cell_of_row _ _ _ _ _ _ hg, List.getElem?_toArray, List.getElem?_map, ← HN.out, List.getElem?_eq_getElem (by omega), HE.out]; rfl
        have HEc := Lib.hid hEc
        clear hEc
        by_cases h1 : n = 1
        · have C1 := Lib.hid (OwnNil hh1 (hs1 (by rw [HN.out, h1])))
          rw [HN.out, h1] at CL
          subst h1
          clear hs0 hs1 hs2 hn hO hL
          go_enter Tryz.func7, Tryz.ntmps7
          go_wp2_with fail
          refine (alive8_any _ HW.out).mono ?_
          rintro e w1 ⟨rfl, b1⟩
          have Z1 : Hid (Below w.heap.size w w1) := Lib.hid b1
          clear b1
          go_wp2_with fail
          refine (C0.out _ (HW.out.later Z1.out)).mono ?_
          rintro e w2 ⟨rfl, b2⟩
          have Z2 : Hid (Below w.heap.size w w2) := Lib.hid (keepW Z1.out b2)
          clear b2
          go_wp2_with fail
          refine (C1.out _ (HW.out.later Z2.out)).mono ?_
          rintro e w3 ⟨rfl, b3⟩
          have Z3 : Hid (Below w.heap.size w w3) := Lib.hid (keepW Z2.out b3)
          clear b3
          go_wp2_with fail
          refine (CP.out _ (HW.out.later Z3.out)).mono ?_
          rintro e w4 ⟨rfl, b4⟩
          have Z4 : Hid (Below w.heap.size w w4) := Lib.hid (keepW Z3.out b4)
          clear b4
          go_wp2_with fail
          refine (CM.out _).mono ?_
          rintro e w5 ⟨rfl, b5⟩
          have Z5 : Hid (Below w.heap.size w w5) := Lib.hid (keepW Z4.out b5)
          clear b5
          go_wp2_with fail
          refine (CL.out _ ((Z5.out.cell (block_lt_of_cell HM.out)).trans HM.out)).mono ?_
          rintro e w6 ⟨g, rfl, hg, b6⟩
          have Z6 : Hid (Below w.heap.size w w6) := Lib.hid (keepW Z5.out b6)
          have hc : w6.cell? ⟨g, 0, none⟩ = some (.string E) := HEc.out w6 g hg
          clear b6 hg
          go_wp2
          go_ret
          exact ⟨rfl, Z6.out⟩
        · have hn2 : 2 ≤ L.length := by rw [HN.out] at hl ⊢; omega
          have C1 := Lib.hid (OwnNil hh1 (hs2 hn2))
          obtain ⟨A, HA⟩ : ∃ A, Hid (L[L.length - 2] = A) := ⟨_, Lib.hid rfl⟩
          rw [HA.out, HE.out] at C1
          have hAs : A.size ≤ 253 := by rw [← HA.out]; exact HLs.out _ (List.getElem_mem _)
          have hEs : E.size ≤ 253 := by rw [← HE.out]; exact HLs.out _ (List.getElem_mem _)
          have HAc : Hid (∀ (W : World) g, W.heap[g]? = some (.cells (L.map Value.string).toArray 9 (0, 0)) → W.cell? ⟨g, n - 2, none⟩ = some (.string A)) := Lib.hid (fun W g hg => by
            rw [cell_of_row _ _ _ _ _ _ hg, List.getElem?_toArray, List.getElem?_map, ← HN.out, List.getElem?_eq_getElem (by omega), HA.out]; rfl)
          rw [HN.out] at CL hn2
          have z1 : ¬ 9223372036854775807 < A.size + 1 := by omega
          have z2 : ¬ 9223372036854775807 < A.size + 1 + E.size := by omega
          have i0 : ((n : Int) == 0) = false := beq_eq_false_iff_ne.2 (by omega)
          have i1 : ((n : Int) == 1) = false := beq_eq_false_iff_ne.2 (by omega)
          have i2 : (2 : Int) ≤ (n : Int) := by omega
          have i3 : (n : Int) ≤ 254 := by have := HN.out; omega
          clear hs0 hs1 hs2 hn hO hL h1
          go_enter Tryz.func7, Tryz.ntmps7
          go_wp2_with fail
          refine (alive8_any _ HW.out).mono ?_
          rintro e w1 ⟨rfl, b1⟩
          have Z1 : Hid (Below w.heap.size w w1) := Lib.hid b1
          clear b1
          go_wp2_with fail
          refine (C0.out _ (HW.out.later Z1.out)).mono ?_
          rintro e w2 ⟨rfl, b2⟩
          have Z2 : Hid (Below w.heap.size w w2) := Lib.hid (keepW Z1.out b2)
          clear b2
          go_wp2_with fail
          refine (C1.out _ (HW.out.later Z2.out)).mono ?_
          rintro e w3 ⟨rfl, b3⟩
          have Z3 : Hid (Below w.heap.size w w3) := Lib.hid (keepW Z2.out b3)
          clear b3
          go_wp2_with fail
          refine (CP.out _ (HW.out.later Z3.out)).mono ?_
          rintro e w4 ⟨rfl, b4⟩
          have Z4 : Hid (Below w.heap.size w w4) := Lib.hid (keepW Z3.out b4)
          clear b4
          go_wp2_with fail
          refine (CM.out _).mono ?_
          rintro e w5 ⟨rfl, b5⟩
          have Z5 : Hid (Below w.heap.size w w5) := Lib.hid (keepW Z4.out b5)
          clear b5
          go_wp2_with fail
          refine (CL.out _ ((Z5.out.cell (block_lt_of_cell HM.out)).trans HM.out)).mono ?_
          rintro e w6 ⟨g, rfl, hg, b6⟩
          have Z6 : Hid (Below w.heap.size w w6) := Lib.hid (keepW Z5.out b6)
          have hc : w6.cell? ⟨g, n - 1, none⟩ = some (.string E) := HEc.out w6 g hg
          have hc2 : w6.cell? ⟨g, n - 2, none⟩ = some (.string A) := HAc.out w6 g hg
          clear b6 hg
          go_wp2
          go_ret
          exact ⟨ret_bool (by simp), Z6.out⟩
      · have hn : nameB x = false := by rw [nameB, HMM.out, Bool.not_true, Bool.and_false]
        have C0 := Lib.hid (SufNil hh1 (suf_noname hn 0))
        have C1 := Lib.hid (OwnNil hh1 (suf_noname hn 1))
        clear hO hn
        go_enter Tryz.func7, Tryz.ntmps7
        go_wp2_with fail
        refine (alive8_any _ HW.out).mono ?_
        rintro e w1 ⟨rfl, b1⟩
        have Z1 : Hid (Below w.heap.size w w1) := Lib.hid b1
        clear b1
        go_wp2_with fail
        refine (C0.out _ (HW.out.later Z1.out)).mono ?_
        rintro e w2 ⟨rfl, b2⟩
        have Z2 : Hid (Below w.heap.size w w2) := Lib.hid (keepW Z1.out b2)
        clear b2
        go_wp2_with fail
        refine (C1.out _ (HW.out.later Z2.out)).mono ?_
        rintro e w3 ⟨rfl, b3⟩
        have Z3 : Hid (Below w.heap.size w w3) := Lib.hid (keepW Z2.out b3)
        clear b3
        go_wp2_with fail
        refine (CP.out _ (HW.out.later Z3.out)).mono ?_
        rintro e w4 ⟨rfl, b4⟩
        have Z4 : Hid (Below w.heap.size w w4) := Lib.hid (keepW Z3.out b4)
        clear b4
        go_wp2_with fail
        refine (CM.out _).mono ?_
        rintro e w5 ⟨rfl, b5⟩
        have Z5 : Hid (Below w.heap.size w w5) := Lib.hid (keepW Z4.out b5)
        clear b5
        go_wp2
        go_ret
        exact ⟨rfl, Z5.out⟩
    · have hn : nameB h = false := by rw [nameB, hO, decide_eq_false (fun e => hx (Option.some.inj e)), Bool.false_and]
      have C0 := Lib.hid (SufNil hh1 (suf_noname hn 0))
      have C1 := Lib.hid (OwnNil hh1 (suf_noname hn 1))
      have e1 : ¬ x.toList = h.toList := fun e => hx (ba_of (by rw [ByteArray.toList_eq, ByteArray.toList_eq] at e; exact e))
      have e1b : (x.toList == h.toList) = false := beq_eq_false_iff_ne.2 e1
      clear hO hn hx
      go_enter Tryz.func7, Tryz.ntmps7
      go_wp2_with fail
      refine (alive8_any _ HW.out).mono ?_
      rintro e w1 ⟨rfl, b1⟩
      have Z1 : Hid (Below w.heap.size w w1) := Lib.hid b1
      clear b1
      go_wp2_with fail
      refine (C0.out _ (HW.out.later Z1.out)).mono ?_
      rintro e w2 ⟨rfl, b2⟩
      have Z2 : Hid (Below w.heap.size w w2) := Lib.hid (keepW Z1.out b2)
      clear b2
      go_wp2_with fail
      refine (C1.out _ (HW.out.later Z2.out)).mono ?_
      rintro e w3 ⟨rfl, b3⟩
      have Z3 : Hid (Below w.heap.size w w3) := Lib.hid (keepW Z2.out b3)
      clear b3
      go_wp2_with fail
      refine (CP.out _ (HW.out.later Z3.out)).mono ?_
      rintro e w4 ⟨rfl, b4⟩
      have Z4 : Hid (Below w.heap.size w w4) := Lib.hid (keepW Z3.out b4)
      clear b4
      go_wp2
      go_ret
      exact ⟨rfl, Z4.out⟩

end Go.Proofs.YtdifdikfgkiocaaGreatDoor
