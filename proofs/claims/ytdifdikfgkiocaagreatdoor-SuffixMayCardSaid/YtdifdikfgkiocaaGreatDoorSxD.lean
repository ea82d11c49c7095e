/-
  Contracts: suffix.isName, lastParts, Suffix, Own; great of suffix's statements.
-/
import Derived.Test.YtdifdikfgkiocaaGreatDoorSxB
import Derived.Test.YtdifdikfgkiocaaGreatDoorSxP
namespace Go.Proofs.YtdifdikfgkiocaaGreatDoor
open Go.RowKit

set_option maxRecDepth 100000 in
set_option maxHeartbeats 1000000 in
theorem isName_any (s : ByteArray) (w : World) (hs : s.size ≤ 1000) (hW : Hw w) :
    Calls Tryz.prog 40 #[.string s] w fun e w' => e = .returned (.bool (nameB s)) ∧ Below w.heap.size w w' := by
  cases hO : hostO s with
  | none =>
    have C1 := Lib.hid (Parse_none w hs hO hW)
    have HR : Hid (nameB s = false) := Lib.hid (by rw [nameB, hO, decide_eq_false (by simp), Bool.false_and])
    clear hO hW
    go_enter Tryz.func40, Tryz.ntmps40
    go_wp2_with fail
    refine C1.out.mono ?_
    rintro e w1 ⟨rfl, b1⟩
    have B1 := Lib.hid b1; clear b1
    go_wp2
    go_ret
    exact ⟨ret_bool (by rw [HR.out]), B1.out⟩
  | some x =>
    have C1 := Lib.hid (Parse_some w hs hO hW)
    by_cases hx : x = s
    · subst hx
      obtain ⟨M, HMM⟩ : ∃ M, Hid (machB x = M) := ⟨_, Lib.hid rfl⟩
      have CM : Hid (∀ w, Calls Tryz.prog 21 #[.string x] w fun e w' => e = .returned (.bool M) ∧ Below w.heap.size w w') := Lib.hid (fun w => by rw [← HMM.out]; exact Machine_any x w (by omega))
      have HR : Hid (nameB x = !M) := Lib.hid (by rw [nameB, hO, decide_eq_true rfl, HMM.out, Bool.true_and])
      clear hO hW
      go_enter Tryz.func40, Tryz.ntmps40
      go_wp2_with fail
      refine C1.out.mono ?_
      rintro e w1 ⟨rfl, b1⟩
      have B1 := Lib.hid b1; clear b1
      go_wp2_with fail
      refine (CM.out _).mono ?_
      rintro e w2 ⟨rfl, b2⟩
      have B2 : Hid (Below w.heap.size w w2) := Lib.hid (keepW B1.out b2)
      clear b2
      go_wp2
      go_ret
      exact ⟨ret_bool (by rw [HR.out]), B2.out⟩
    · have HR : Hid (nameB s = false) := Lib.hid (by rw [nameB, hO, decide_eq_false (fun e => hx (Option.some.inj e)), Bool.false_and])
      have e1 : ¬ x.toList = s.toList := fun e => hx (ba_of (by rw [ByteArray.toList_eq, ByteArray.toList_eq] at e; exact e))
      have e1b : (x.toList == s.toList) = false := beq_eq_false_iff_ne.2 e1
      clear hO hW hx
      go_enter Tryz.func40, Tryz.ntmps40
      go_wp2_with fail
      refine C1.out.mono ?_
      rintro e w1 ⟨rfl, b1⟩
      have B1 := Lib.hid b1; clear b1
      go_wp2
      go_ret
      exact ⟨ret_bool (by rw [HR.out]), B1.out⟩

theorem dotJ_small : ∀ L : List ByteArray, (∀ l ∈ L, l.size ≤ 253) → (Lib.join (L.map (·.data.toList)) [46]).length ≤ 254 * L.length
  | [], _ => by simp [Lib.join_nil]
  | [x], h => by
    have := h x List.mem_cons_self
    rw [List.map_cons, List.map_nil, Lib.join_one, lenB]; simp; omega
  | x :: y :: r, h => by
    have h1 := h x List.mem_cons_self
    have h2 := dotJ_small (y :: r) (fun l hl => h l (List.mem_cons_of_mem _ hl))
    rw [List.map_cons, List.map_cons, join_split, List.length_append, List.length_cons, lenB, List.length_cons]
    rw [List.map_cons] at h2
    simp only [List.length_cons] at h2 ⊢
    omega
set_option maxRecDepth 100000 in
set_option maxHeartbeats 2000000 in
theorem lastParts_any (R : List ByteArray) (a0 : Option Addr) (b off cap : Nat) (h : ByteArray) (k : Nat) (hk : k ≤ 1) (w : World) (hT : TxAt R a0 b off w) (hF : Fair R h) (hW : Hw w) :
    Calls Tryz.prog 25 #[.slice a0 R.length cap, .string h, .int .i64 (k : Int)] w fun e w' => e = .returned (.tuple #[.string (sufT R h k).1, .int .i64 (sufT R h k).2]) ∧ Below w.heap.size w w' := by
  obtain ⟨hRl, hRs, hh⟩ := hF
  have HW := Lib.hid hW; clear hW
  have HTx := Lib.hid hT; clear hT
  obtain ⟨m, hm⟩ := HW.out.ml
  have HM := Lib.hid hm; clear hm
  obtain ⟨c, Hc⟩ : ∃ c, Hid (rulesB R = c) := ⟨_, Lib.hid rfl⟩
  have CC := Lib.hid (Check_any R a0 b off cap m w HTx.out (by omega) hRs HM.out)
  rw [Hc.out] at CC
  cases c
  · have HR : Hid (sufT R h k = (⟨#[]⟩, 1)) := Lib.hid (by rw [sufT, if_pos Hc.out])
    rw [HR.out]
    go_enter Tryz.func25, Tryz.ntmps25
    go_wp2_with fail
    refine CC.out.mono ?_
    rintro e w1 ⟨rfl, b1⟩
    have B1 := Lib.hid b1; clear b1
    go_wp2
    go_ret2
    exact ⟨rfl, B1.out⟩
  obtain ⟨d, Hd⟩ : ∃ d, Hid (nameB h = d) := ⟨_, Lib.hid rfl⟩
  have CN := Lib.hid (fun w hW => isName_any h w hh hW)
  rw [Hd.out] at CN
  cases d
  · have HR : Hid (sufT R h k = (⟨#[]⟩, 5)) := Lib.hid (by rw [sufT, if_neg (by rw [Hc.out]; simp), if_pos Hd.out])
    rw [HR.out]
    go_enter Tryz.func25, Tryz.ntmps25
    go_wp2_with fail
    refine CC.out.mono ?_
    rintro e w1 ⟨rfl, b1⟩
    have B1 := Lib.hid b1; clear b1
    go_wp2_with fail
    refine (CN.out _ (HW.out.later B1.out)).mono ?_
    rintro e w2 ⟨rfl, b2⟩
    have B2 : Hid (Below w.heap.size w w2) := Lib.hid (keepW B1.out b2)
    clear b2
    go_wp2
    go_ret2
    exact ⟨rfl, B2.out⟩
  obtain ⟨hl1, hl2, -, hl4, hl5, hl6⟩ := sx_labels hh Hd.out
  obtain ⟨L, HL⟩ : ∃ L, Hid (rawB 46 h = L) := ⟨_, Lib.hid rfl⟩
  rw [HL.out] at hl1 hl2 hl4
  obtain ⟨n, HN⟩ : ∃ n, Hid (L.length = n) := ⟨_, Lib.hid rfl⟩
  obtain ⟨N, HNN⟩ : ∃ N, Hid (manyN R L = N) := ⟨_, Lib.hid rfl⟩
  have hN1 : 1 ≤ N := by rw [← HNN.out]; exact manyN_pos L Hc.out
  have hN2 : N ≤ n := by rw [← HNN.out, ← HN.out]; exact manyN_le R L hl4
  have hn : n ≤ 254 := by rw [← HN.out, ← HL.out]; have := rawB_count 46 h; omega
  have HLs : Hid (∀ l ∈ L, l.size ≤ 253) := Lib.hid (fun l hl => by rw [← HL.out] at hl; have := (rawB_mem 46 h l hl).1; omega)
  have CL : Hid (∀ w, w.cell? ⟨0, 0, none⟩ = some (.int .i64 m) → Calls Tryz.prog 19 #[.string h] w fun e w' => ∃ g, e = .returned (.slice (some ⟨g, 0, none⟩) n n) ∧ w'.heap[g]? = some (.cells (L.map Value.string).toArray 9 (0, 0)) ∧ Below w.heap.size w w') := Lib.hid (fun w hm => by
    have := Labels_some h m w (by omega) hl6 hm
    rw [hl1, HN.out] at this
    exact this.mono fun e w' ⟨g, h1, _, h3, h4⟩ => ⟨g, h1, h3, h4⟩)
  have CS : Hid (∀ w g, TxAt R a0 b off w → (∀ j (h : j < L.length), w.cell? ⟨g, j, none⟩ = some (.string L[j])) → g < w.heap.size → w.cell? ⟨0, 0, none⟩ = some (.int .i64 m) →
      Calls Tryz.prog 41 #[.slice a0 R.length cap, .slice (some ⟨g, 0, none⟩) n n] w fun e w' => e = .returned (.int .i64 N) ∧ Below w.heap.size w w') := Lib.hid (fun w g hT hH hg hm => by
    have := suffixLength_any R L a0 b off cap g n m w Hc.out hRl hRs (by rw [HN.out]; omega) hT hH hg hm
    rwa [HN.out, HNN.out] at this)
  have hni : ((n : Int) - (N : Int)) = ((n - N : Nat) : Int) := by omega
  by_cases hlt : n < N + k
  · have HR : Hid (sufT R h k = (⟨#[]⟩, 0)) := Lib.hid (by rw [sufT, if_neg (by rw [Hc.out]; simp), if_neg (by rw [Hd.out]; simp), HL.out, HN.out, HNN.out, if_pos hlt])
    rw [HR.out]
    have hI : (n : Int) - (N : Int) - (k : Int) < 0 := by omega
    have hb1 : (N : Int) ≤ (n : Int) := by omega
    have hb2 : (k : Int) ≤ 1 := by omega
    clear hni hl1 hl2 hl4
    go_enter Tryz.func25, Tryz.ntmps25
    go_wp2_with fail
    refine CC.out.mono ?_
    rintro e w1 ⟨rfl, b1⟩
    have B1 := Lib.hid b1; clear b1
    go_wp2_with fail
    refine (CN.out _ (HW.out.later B1.out)).mono ?_
    rintro e w2 ⟨rfl, b2⟩
    have B2 : Hid (Below w.heap.size w w2) := Lib.hid (keepW B1.out b2)
    clear b2
    go_wp2_with fail
    refine (CL.out _ ((B2.out.cell (block_lt_of_cell HM.out)).trans HM.out)).mono ?_
    rintro e w3 ⟨g, rfl, hg, b3⟩
    have B3 : Hid (Below w.heap.size w w3) := Lib.hid (keepW B2.out b3)
    have HG := Lib.hid hg
    clear b3 hg
    go_wp2_with fail
    refine (CS.out _ g (HTx.out.later B3.out) (fun j h => by rw [cell_of_row _ _ _ _ _ _ HG.out, List.getElem?_toArray, List.getElem?_map, List.getElem?_eq_getElem h]; rfl) (lt_of_block HG.out) ((B3.out.cell (block_lt_of_cell HM.out)).trans HM.out)).mono ?_
    rintro e w4 ⟨rfl, b4⟩
    have B4 : Hid (Below w.heap.size w w4) := Lib.hid (keepW B3.out b4)
    clear b4
    go_wp2
    go_ret2
    exact ⟨rfl, B4.out⟩
  · obtain ⟨a, ha⟩ : ∃ a : Nat, (n : Int) - (N : Int) - (k : Int) = (a : Int) := ⟨n - (N + k), by omega⟩
    have han : a + (N + k) = n := by omega
    have HA := Lib.hid ha
    obtain ⟨X, HX⟩ : ∃ X, Hid (L.drop a = X) := ⟨_, Lib.hid rfl⟩
    have hXl : X.length = n - a := by rw [← HX.out, List.length_drop, HN.out]
    have HR : Hid (sufT R h k = (dotJ X, 0)) := Lib.hid (by rw [sufT, if_neg (by rw [Hc.out]; simp), if_neg (by rw [Hd.out]; simp), HL.out, HN.out, HNN.out, if_neg hlt, lastB, HN.out, show n - (N + k) = a by omega, HX.out])
    rw [HR.out]
    have CJ : Hid (∀ w g, w.heap[g]? = some (.cells (L.map Value.string).toArray 9 (0, 0)) → Calls Tryz.prog 42 #[.slice (some ⟨g, a, none⟩) (n - a) (n - a), .string ⟨#[46]⟩] w fun e w' => e = .returned (.string (dotJ X)) ∧ Below w.heap.size w w') := Lib.hid (fun w g hg => by
      have hsz := dotJ_small X (fun l hl => by rw [← HX.out] at hl; exact HLs.out l (List.mem_of_mem_drop hl))
      have := Tryz.strings_Join g a (n - a) X ⟨#[46]⟩ w (fun j x hx => by
        rw [cell_of_row _ _ _ _ _ _ hg, List.getElem?_toArray, List.getElem?_map]
        rw [← HX.out, List.getElem?_drop] at hx
        rw [hx]; rfl) (lt_of_block hg) (by omega) (by omega) (by show (Lib.join (X.map (·.data.toList)) [46]).length ≤ _; omega)
      rw [hXl] at this
      exact this)
    have haI : (a : Int) ≤ (n : Int) := by omega
    have halt : a < n := by omega
    have hb1 : (N : Int) ≤ (n : Int) := by omega
    have hb2 : (k : Int) ≤ 1 := by omega
    clear hni hl1 hl2 hl4 hXl
    go_enter Tryz.func25, Tryz.ntmps25
    go_wp2_with fail
    refine CC.out.mono ?_
    rintro e w1 ⟨rfl, b1⟩
    have B1 := Lib.hid b1; clear b1
    go_wp2_with fail
    refine (CN.out _ (HW.out.later B1.out)).mono ?_
    rintro e w2 ⟨rfl, b2⟩
    have B2 : Hid (Below w.heap.size w w2) := Lib.hid (keepW B1.out b2)
    clear b2
    go_wp2_with fail
    refine (CL.out _ ((B2.out.cell (block_lt_of_cell HM.out)).trans HM.out)).mono ?_
    rintro e w3 ⟨g, rfl, hg, b3⟩
    have B3 : Hid (Below w.heap.size w w3) := Lib.hid (keepW B2.out b3)
    have HG := Lib.hid hg
    clear b3 hg
    go_wp2_with fail
    refine (CS.out _ g (HTx.out.later B3.out) (fun j h => by rw [cell_of_row _ _ _ _ _ _ HG.out, List.getElem?_toArray, List.getElem?_map, List.getElem?_eq_getElem h]; rfl) (lt_of_block HG.out) ((B3.out.cell (block_lt_of_cell HM.out)).trans HM.out)).mono ?_
    rintro e w4 ⟨rfl, b4⟩
    have B4 : Hid (Below w.heap.size w w4) := Lib.hid (keepW B3.out b4)
    have HG4 : Hid (w4.heap[g]? = some (.cells (L.map Value.string).toArray 9 (0, 0))) := Lib.hid ((b4.block g (lt_of_block HG.out)).trans HG.out)
    clear b4
    go_wp2_with fail
    refine (CJ.out _ g HG4.out).mono ?_
    rintro e w5 ⟨rfl, b5⟩
    have B5 : Hid (Below w.heap.size w w5) := Lib.hid (keepW B4.out b5)
    clear b5
    go_wp2
    go_ret2
    exact ⟨rfl, B5.out⟩

theorem Suffix_any (R : List ByteArray) (a0 : Option Addr) (b off cap : Nat) (h : ByteArray) (w : World) (hT : TxAt R a0 b off w) (hF : Fair R h) (hW : Hw w) :
    Calls Tryz.prog 12 #[.slice a0 R.length cap, .string h] w fun e w' => e = .returned (.tuple #[.string (sufT R h 0).1, .int .i64 (sufT R h 0).2]) ∧ Below w.heap.size w w' := by
  have C := Lib.hid (lastParts_any R a0 b off cap h 0 (by omega) w hT hF hW)
  go_enter Tryz.func12, Tryz.ntmps12
  go_wp2_with fail
  refine C.out.mono ?_
  rintro e w1 ⟨rfl, b1⟩
  have B1 := Lib.hid b1; clear b1
  go_wp2
  go_ret2
  exact ⟨rfl, B1.out⟩
theorem Own_any (R : List ByteArray) (a0 : Option Addr) (b off cap : Nat) (h : ByteArray) (w : World) (hT : TxAt R a0 b off w) (hF : Fair R h) (hW : Hw w) :
    Calls Tryz.prog 15 #[.slice a0 R.length cap, .string h] w fun e w' => e = .returned (.tuple #[.string (sufT R h 1).1, .int .i64 (sufT R h 1).2]) ∧ Below w.heap.size w w' := by
  have C := Lib.hid (lastParts_any R a0 b off cap h 1 (by omega) w hT hF hW)
  go_enter Tryz.func15, Tryz.ntmps15
  go_wp2_with fail
  refine C.out.mono ?_
  rintro e w1 ⟨rfl, b1⟩
  have B1 := Lib.hid b1; clear b1
  go_wp2
  go_ret2
  exact ⟨rfl, B1.out⟩

set_option maxRecDepth 100000 in
set_option maxHeartbeats 1000000 in
theorem great_any (R : List ByteArray) (a0 : Option Addr) (b off cap : Nat) (h : ByteArray) (w : World) (hT : TxAt R a0 b off w) (hn : R.length ≤ 140737488355328) (hs : ∀ x ∈ R, x.size ≤ 140737488355328) (hh : h.size ≤ 140737488355328) :
    Calls Tryz.prog 10 #[.slice a0 R.length cap, .string h] w fun e w' => ∃ g : Bool, e = .returned (.bool g) ∧ (g = false → Fair R h) ∧ Below w.heap.size w w' := by
  obtain ⟨n, HN⟩ : ∃ n, Hid (R.length = n) := ⟨_, Lib.hid rfl⟩
  by_cases hbig : 2000 < n
  · rw [HN.out] at hn ⊢
    have hI : (2000 : Int) < (n : Int) := by omega
    go_enter Tryz.func10, Tryz.ntmps10
    go_wp2
    go_ret
    exact ⟨true, rfl, fun h => (by cases h), Below.refl _ _⟩
  have hI : (n : Int) ≤ 2000 := by omega
  have CT := Lib.hid (TextsSz_any R a0 b off cap w hT.at0 hT.cell (by rw [HN.out]; omega) hs)
  rw [HN.out] at hn CT ⊢
  have HS := Lib.hid hs
  clear hs hT hbig
  go_enter Tryz.func10, Tryz.ntmps10
  go_wp2_with fail
  refine CT.out.mono ?_
  rintro e w1 ⟨r, rfl, hr, b1⟩
  have B1 := Lib.hid b1; clear b1
  by_cases h2 : 50000 < r
  · have hrI : (50000 : Int) < (r : Int) := by omega
    clear hr
    go_wp2
    go_ret
    exact ⟨true, rfl, fun h => (by cases h), B1.out⟩
  have hrI : (r : Int) ≤ 50000 := by omega
  have hsum := hr (by omega)
  have HZ : Hid (∀ x ∈ R, x.size ≤ 50000) := Lib.hid (fun x hx => by have := szL_mem hx; omega)
  clear hr hsum h2
  by_cases h3 : 1000 < h.size
  · have hsI : (1000 : Int) < (h.size : Int) := by omega
    go_wp2
    go_ret
    exact ⟨true, rfl, fun h => (by cases h), B1.out⟩
  · have hsI : (h.size : Int) ≤ 1000 := by omega
    go_wp2
    go_ret
    exact ⟨false, ret_bool (by rw [decide_eq_false (show ¬ (2000 : Int) < (n : Int) by omega), decide_eq_false (show ¬ (50000 : Int) < (r : Int) by omega), decide_eq_false (show ¬ (1000 : Int) < (h.size : Int) by omega)]; rfl), fun _ => ⟨by rw [HN.out]; omega, HZ.out, by omega⟩, B1.out⟩

end Go.Proofs.YtdifdikfgkiocaaGreatDoor
