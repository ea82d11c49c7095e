/-
  footmanlaw12.HeadsNames: a name finds the values of the fields.
-/
import Derived.Test.YtbfnbjffobhllaaDoorHdY
import Derived.Test.YtbfnbjffobhllaaDoorHdR
import Derived.Test.YtbfnbjffobhllaaDoorBeyond
import Derived.Test.YtbfnbjffobhllaaDoorBase
namespace Go.Proofs.YtbfnbjffobhllaaDoor
open Go.RowKit

theorem find_take_le (F : List Fld) (k : Nat) (n : List UInt8) : ∃ T, findD F n = findD (F.take k) n ++ T := by
  refine ⟨findD (F.drop k) n, ?_⟩
  conv => lhs; rw [← List.take_append_drop k F]
  unfold findD
  rw [List.filter_append, List.map_append]
theorem lowS_map (s : ByteArray) : (lowS s).data.toList = s.data.toList.map low := rfl
theorem flL_take (F : List BF) (k : Nat) : flL (F.take k) = (flL F).take k := by unfold flL; rw [List.map_take]
theorem flL_app (A B : List BF) : flL (A ++ B) = flL A ++ flL B := by unfold flL; rw [List.map_append]
set_option maxHeartbeats 400000 in
theorem SameTexts12_none (a b : Option Addr) (ca cb : Nat) (w : World) : Calls Tryd.prog 14 #[.slice a 0 ca, .slice b 0 cb] w fun e w' => e = .returned (.bool true) ∧ Below w.heap.size w w' := by
  go_enter Tryd.func14, Tryd.ntmps14
  go_wp2
  refine wp_loop_rounds 1 ?_
  rw [rounds_succ]
  go_wp2
  go_ret
  exact ⟨rfl, Below.refl _ _⟩
/-- Two rows of texts of the call's own that hold the same. -/
theorem SameOwn {b1 b2 : Nat} {a a' : Option Addr} {c c' n n' : Nat} {L : List (List UInt8)} {w : World} (h : OwnS b1 (.slice a n c) L w) (h' : OwnS b2 (.slice a' n' c') L w) (hn : L.length ≤ maxLen) :
    Calls Tryd.prog 14 #[.slice a n c, .slice a' n' c'] w fun e w' => e = .returned (.bool true) ∧ Below w.heap.size w w' := by
  obtain ⟨x, y, g, e, h0, hc, _⟩ := ownS_at h
  obtain ⟨x', y', g', e', h0', hc', _⟩ := ownS_at h'
  injection e with e1 e2 e3
  injection e' with e1' e2' e3'
  subst e1 e2 e3 e1' e2' e3'
  by_cases hl : 0 < L.length
  · obtain rfl := h0 hl
    obtain rfl := h0' hl
    have hm : (L.map asB).length = L.length := List.length_map ..
    have := SameTexts12_eq g 0 c g' 0 c' (L.map asB) w (by rw [hm]; exact hn) (fun j hj => by
      rw [Nat.zero_add, hc j (by rwa [hm] at hj), List.getElem_map]) (fun j hj => by
      rw [Nat.zero_add, hc' j (by rwa [hm] at hj), List.getElem_map])
    rwa [hm] at this
  · have : L.length = 0 := by omega
    rw [this]
    exact SameTexts12_none a a' c c' w
set_option maxRecDepth 100000 in
set_option maxHeartbeats 8000000 in
theorem hnames_walk (aA aB : Option Addr) (cA bA oA cB bB oB : Nat) (A B : List BF) (nm : ByteArray) (m : Int) (w : World)
    (hA : FxAt A aA bA oA w) (hAn : A.length ≤ 140737488355328) (hAs : ∀ f ∈ A, f.1.size ≤ 140737488355328 ∧ f.2.size ≤ 140737488355328)
    (hB : FxAt B aB bB oB w) (hBn : B.length ≤ 140737488355328) (hBs : ∀ f ∈ B, f.1.size ≤ 140737488355328 ∧ f.2.size ≤ 140737488355328) (hnm : nm.size ≤ 140737488355328) (hw : MxAt m w) :
    Calls Tryd.prog 8 #[.slice aA A.length cA, .slice aB B.length cB, .string nm] w fun e w' => e = .returned (.bool true) ∧ Below w.heap.size w w' := by
  have HA := Lib.hid fun w' (h : Below w.heap.size w w') => alive12_any m w' (hw.later h)
  have HAx := Lib.hid hA
  have HBx := Lib.hid hB
  have HGa : Hid (∀ w', Below w.heap.size w w' → Calls Tryd.prog 10 #[.agg #[.string ⟨#[]⟩, .string ⟨#[]⟩, .int .i64 0, .slice aA A.length cA, .slice none 0 0]] w' fun e w'' => e = .returned (.bool (decide (200000 < grN 0 A))) ∧ Below w'.heap.size w' w'') := Lib.hid fun w' h => great12_any ⟨#[]⟩ ⟨#[]⟩ 0 aA cA bA oA A none 0 0 w' (hA.later h) (by decide) (by decide) (by decide) hAs hAn
  have HGb : Hid (∀ w', Below w.heap.size w w' → Calls Tryd.prog 10 #[.agg #[.string ⟨#[]⟩, .string ⟨#[]⟩, .int .i64 0, .slice aB B.length cB, .slice none 0 0]] w' fun e w'' => e = .returned (.bool (decide (200000 < grN 0 B))) ∧ Below w'.heap.size w' w'') := Lib.hid fun w' h => great12_any ⟨#[]⟩ ⟨#[]⟩ 0 aB cB bB oB B none 0 0 w' (hB.later h) (by decide) (by decide) (by decide) hBs hBn
  have HSz : Hid (∀ f ∈ A ++ B, f.1.size ≤ maxLen) := Lib.hid fun f hf => by
    unfold maxLen
    rcases List.mem_append.1 hf with h | h
    · have := (hAs f h).1; omega
    · have := (hBs f h).1; omega
  have HSa : Hid (∀ f ∈ A, f.1.size ≤ maxLen) := Lib.hid fun f hf => HSz.out f (List.mem_append_left _ hf)
  have HSb : Hid (∀ f ∈ B, f.1.size ≤ maxLen) := Lib.hid fun f hf => HSz.out f (List.mem_append_right _ hf)
  obtain ⟨NA, HNA⟩ : ∃ N, Hid (grN 0 A = N) := ⟨_, Lib.hid rfl⟩
  obtain ⟨NB, HNB⟩ : ∃ N, Hid (grN 0 B = N) := ⟨_, Lib.hid rfl⟩
  have HLA : Hid (2 * A.length ≤ NA) := Lib.hid (by have := grN_ge A 0; rw [HNA.out] at this; omega)
  have HLB : Hid (2 * B.length ≤ NB) := Lib.hid (by have := grN_ge B 0; rw [HNB.out] at this; omega)
  rw [HNA.out] at HGa
  rw [HNB.out] at HGb
  obtain ⟨nA, HnA⟩ : ∃ n, Hid (A.length = n) := ⟨_, Lib.hid rfl⟩
  obtain ⟨nB, HnB⟩ : ∃ n, Hid (B.length = n) := ⟨_, Lib.hid rfl⟩
  rw [HnA.out] at hAn HGa HLA ⊢
  rw [HnB.out] at hBn HGb HLB ⊢
  have HA0 := Lib.hid (HA.out w (Below.refl _ _))
  clear hA hB hAs hBs hw
  go_enter Tryd.func8, Tryd.ntmps8
  go_wp2_with fail
  refine HA0.out.mono ?_
  rintro e w1 ⟨rfl, b1⟩
  have HB1 := Lib.hid b1
  clear b1
  go_wp2_with fail
  refine (HGa.out _ HB1.out).mono ?_
  rintro e w2 ⟨rfl, b2⟩
  have HB2 := Lib.hid (HB1.out.trans (b2.mono HB1.out.size))
  clear b2
  by_cases hga : 200000 < NA
  · have hgd : decide (200000 < NA) = true := decide_eq_true hga
    go_wp2_with fail
    refine (HA.out _ HB2.out).mono ?_
    rintro e w3 ⟨rfl, b3⟩
    go_wp2
    go_ret
    exact ⟨rfl, HB2.out.trans (b3.mono HB2.out.size)⟩
  have hgd : decide (200000 < NA) = false := decide_eq_false hga
  go_wp2_with fail
  refine (HGb.out _ HB2.out).mono ?_
  rintro e w3 ⟨rfl, b3⟩
  have HB3 := Lib.hid (HB2.out.trans (b3.mono HB2.out.size))
  clear b3
  by_cases hgb : 200000 < NB
  · have hge : decide (200000 < NB) = true := decide_eq_true hgb
    go_wp2_with fail
    refine (HA.out _ HB3.out).mono ?_
    rintro e w4 ⟨rfl, b4⟩
    go_wp2
    go_ret
    exact ⟨rfl, HB3.out.trans (b4.mono HB3.out.size)⟩
  have hge : decide (200000 < NB) = false := decide_eq_false hgb
  obtain ⟨W4, HW4⟩ : ∃ W, Hid (w3.alloc (.cells #[.int .i64 (nm.size : Int)] 3) = W) := ⟨_, Lib.hid rfl⟩
  have HB4 : Hid (Below w.heap.size w W4) := Lib.hid (by rw [← HW4.out]; exact HB3.out.alloc HB3.out.size _)
  by_cases hbe : 1048576 < nm.size
  · have HBy := Lib.hid (Beyond1_yes w3.heap.size nm.size W4 (by unfold maxLen; omega) (by rw [← HW4.out]; exact pc_cell_new w3 _ _ _ rfl) hbe)
    go_wp2_with fail
    rw [HW4.out]
    refine HBy.out.mono ?_
    rintro e w5 ⟨rfl, rfl⟩
    go_wp2_with fail
    refine (HA.out _ HB4.out).mono ?_
    rintro e w5 ⟨rfl, b5⟩
    go_wp2
    go_ret
    exact ⟨rfl, HB4.out.trans (b5.mono HB4.out.size)⟩
  have HBy := Lib.hid (Beyond1_no w3.heap.size nm.size W4 (by rw [← HW4.out]; exact pc_cell_new w3 _ _ _ rfl) (by omega))
  have hlA := HLA.out
  have hlB := HLB.out
  obtain ⟨v5, w5, r5, o5, k5⟩ := (OwnF.nil W4.heap.size W4).app (cap := cA) (HAx.out.later HB4.out) (by rw [HnA.out, List.length_nil]; omega) (Nat.le_refl _)
  rw [List.nil_append] at o5
  have HB5 : Hid (Below W4.heap.size W4 w5) := Lib.hid (k5 _ _ (Nat.le_refl _) (Below.refl _ _))
  have HBw5 := Lib.hid (HB4.out.trans (HB5.out.mono HB4.out.size))
  obtain ⟨v6, w6, r6, o6, k6⟩ := o5.app (cap := cB) (HBx.out.later HBw5.out) (by rw [HnA.out, HnB.out]; omega) HB5.out.size
  have HB6 : Hid (Below W4.heap.size W4 w6) := Lib.hid (k6 _ _ (Nat.le_refl _) HB5.out)
  have HBw6 := Lib.hid (HB4.out.trans (HB6.out.mono HB4.out.size))
  rw [HnA.out] at r5
  rw [HnB.out] at r6
  obtain ⟨p5, c5, rfl⟩ := own_form o5
  obtain ⟨p6, c6, g6, rfl, hx6, hg6⟩ := ownF_at o6
  obtain ⟨n6, Hn6⟩ : ∃ n, Hid ((A ++ B).length = n) := ⟨_, Lib.hid rfl⟩
  have hn6 : n6 ≤ 200000 := by rw [← Hn6.out, List.length_append, HnA.out, HnB.out]; omega
  have HR5 := Lib.hid r5
  have HR6 := Lib.hid r6
  have HX6 := Lib.hid hx6
  have HFi := Lib.hid (Find_any p6 c6 g6 0 (A ++ B) nm w6 hx6 (by unfold maxLen; omega) HSz.out (by rw [Hn6.out]; omega))
  rw [Hn6.out] at HFi HR6
  clear r5 o5 k5 r6 o6 k6 hx6 hlA hlB
  go_wp2_with fail
  rw [HW4.out]
  refine HBy.out.mono ?_
  rintro e wz ⟨rfl, rfl⟩
  go_wp2_with (first
    | (at_builtin; refine Lib.wpList_append_run _ rfl _ _ _ _ rfl _ _ rfl rfl _ _ HR5.out ?_)
    | (at_builtin; refine Lib.wpList_append_run _ rfl _ _ _ _ rfl _ _ rfl rfl _ _ HR6.out ?_))
  refine HFi.out.mono ?_
  rintro e w7 ⟨v7, rfl, o7, b7⟩
  have HB7 := Lib.hid (HBw6.out.trans (b7.mono HBw6.out.size))
  have HO7 := Lib.hid o7
  obtain ⟨a7, c7, g7, rfl, ha7, hs7, -⟩ := ownS_at o7
  obtain ⟨L, HL⟩ : ∃ L, Hid (findD (flL (A ++ B)) nm.data.toList = L) := ⟨_, Lib.hid rfl⟩
  obtain ⟨nL, HnL⟩ : ∃ L', Hid (L.length = L') := ⟨_, Lib.hid rfl⟩
  have HX7 := Lib.hid (HX6.out.later b7)
  have hnL : nL ≤ n6 := by
    have := find_le (flL (A ++ B)) nm.data.toList
    rwa [flL_len, Hn6.out, HL.out, HnL.out] at this
  rw [HL.out] at ha7 hs7 HO7
  rw [HL.out, HnL.out] 
  have HS7 := Lib.hid hs7
  have Ha7 := Lib.hid ha7
  clear o7 b7 hs7 ha7
  go_wp2
  go_loopw [9, 10] (fun nv i wr => ∃ k N : Nat, k ≤ n6 ∧ i = .int .i64 (k : Int) ∧ nv = .int .i64 (N : Int) ∧ Hid ((findD (flL ((A ++ B).take k)) nm.data.toList).length = N) ∧ Hid (Below w7.heap.size w7 wr)) (fun _ i _ => n6 - (intOf i).toNat)
  case atStart => exact ⟨0, 0, Nat.zero_le _, rfl, rfl, Lib.hid rfl, Lib.hid (Below.refl _ _)⟩
  case round =>
    obtain ⟨k, N, hk, rfl, rfl, HN, HBr⟩ := hrel
    by_cases hlt : k < n6
    · have hltI : (k : Int) < (n6 : Int) := by omega
      have hkF : k < (A ++ B).length := by rw [Hn6.out]; exact hlt
      have HXr := Lib.hid (HX7.out.later HBr.out)
      obtain ⟨x, y, hx⟩ := nx_of HXr.out hkF
      have HX := Lib.hid hx
      obtain rfl := HXr.out.at0 (by omega)
      have d0 : wr.cell? ⟨g6, k * 2, none⟩ = some (.string x) := by have := HX.out.r 0 _ rfl; simpa using this
      have HC := Lib.hid (Same_any x nm wr (HSz.out _ (List.mem_of_getElem? HX.out.e)) (by unfold maxLen; omega))
      have HK : Hid (findD (flL ((A ++ B).take (k + 1))) nm.data.toList = findD (flL ((A ++ B).take k)) nm.data.toList ++ if sameS x nm = true then [y.data.toList] else []) := Lib.hid (by
        rw [take_flL HX.out.e, find_snoc, same_dec]
        by_cases h : x.data.toList.map low = nm.data.toList.map low
        · rw [if_pos h, if_pos (decide_eq_true h)]
        · rw [if_neg h, if_neg (by rw [decide_eq_false h]; simp)])
      obtain ⟨f, Hf⟩ : ∃ f, Hid (sameS x nm = f) := ⟨_, Lib.hid rfl⟩
      rw [Hf.out] at HC HK
      clear hx hkF
      go_wp2_with fail
      refine HC.out.mono ?_
      rintro e w8 ⟨rfl, b8⟩
      have HB8 := Lib.hid (HBr.out.trans (b8.mono HBr.out.size))
      clear b8
      cases f with
      | false =>
        have HN2 : Hid ((findD (flL ((A ++ B).take (k + 1))) nm.data.toList).length = N) := Lib.hid (by rw [HK.out]; simp [HN.out])
        go_wp2
        go_roundw
        case rel => exact ⟨k + 1, N, by omega, by go_num, rfl, HN2, HB8⟩
        case measure => simp [intOf]; omega
      | true =>
        have HN2 : Hid ((findD (flL ((A ++ B).take (k + 1))) nm.data.toList).length = N + 1) := Lib.hid (by rw [HK.out]; simp [HN.out])
        obtain ⟨T, hT⟩ := find_take_le (flL (A ++ B)) (k + 1) nm.data.toList
        rw [← flL_take, HK.out, HL.out, if_pos rfl] at hT
        have hNL : N < nL := by
          rw [← HnL.out, hT]
          simp [HN.out]
        have HgN : Hid (∀ h : N < L.length, asB L[N] = y) := Lib.hid fun h => by
          have e : L[N] = y.data.toList := by
            have h2 : L[N]? = some y.data.toList := by
              rw [hT, List.append_assoc, List.getElem?_append_right (by rw [HN.out]; exact Nat.le_refl _), HN.out, Nat.sub_self]
              rfl
            rw [List.getElem?_eq_getElem h] at h2
            exact Option.some.inj h2
          rw [e]; unfold asB; simp
        have hne : ¬ (N : Int) = (nL : Int) := by omega
        have hNLI : (N : Int) < (nL : Int) := by omega
        have hLN : N < L.length := by rw [HnL.out]; exact hNL
        obtain rfl := Ha7.out (by omega)
        have c7' : w8.cell? ⟨g7, N, none⟩ = some (.string y) := by
          have := HS7.out N hLN
          rw [HgN.out hLN] at this
          exact (HB8.out.cell (p := ⟨g7, N, none⟩) (block_lt_of_cell this)).trans this
        have d1 : w8.cell? ⟨g6, k * 2 + 1, none⟩ = some (.string y) := by
          have h1 : wr.cell? ⟨g6, k * 2 + 1, none⟩ = some (.string y) := by have := HX.out.r 1 _ rfl; simpa using this
          have h2 := HX7.out.c1 k (by rw [Hn6.out]; exact hlt)
          have h3 : w7.cell? ⟨g6, k * 2 + 1, none⟩ = some (.string y) := by
            have h4 := (HBr.out.cell (p := ⟨g6, k * 2 + 1, none⟩) (by have := block_lt_of_cell h2; exact this))
            rw [← h4]; exact h1
          exact (HB8.out.cell (p := ⟨g6, k * 2 + 1, none⟩) (block_lt_of_cell h3)).trans h3
        have hyy : (y.toList != y.toList) = false := by simp
        clear hT hLN d0
        go_wp2
        go_quiet (fail)
        go_wp2
        exact ⟨⟨k + 1, N + 1, by omega, by go_num, by go_num, HN2, Lib.hid (HB8.out.trans ⟨rfl, rfl, rfl, Nat.le_refl _, fun _ _ => rfl⟩)⟩, by simp [intOf]; omega⟩
    · have hge : ¬ (k : Int) < (n6 : Int) := by omega
      have hNL : N = nL := by
        rw [← HN.out, List.take_of_length_le (by rw [Hn6.out]; omega), HL.out, HnL.out]
      subst hNL
      have hnA2 : nA ≤ 100000 := by have := HLA.out; omega
      have hnB2 : nB ≤ 100000 := by have := HLB.out; omega
      have HBwr := Lib.hid (HB7.out.trans (HBr.out.mono HB7.out.size))
      have hLA : (findD (flL A) nm.data.toList).length ≤ nA := by
        have := find_le (flL A) nm.data.toList
        rwa [flL_len, HnA.out] at this
      have hLB : (findD (flL B) (lowS nm).data.toList).length ≤ nB := by
        have := find_le (flL B) (lowS nm).data.toList
        rwa [flL_len, HnB.out] at this
      have HLL : Hid (findD (flL A) nm.data.toList ++ findD (flL B) (lowS nm).data.toList = L) := Lib.hid (by
        rw [← HL.out, flL_app, find_app, lowS_map])
      have HFa := Lib.hid (Find_any aA cA bA oA A nm wr (HAx.out.later HBwr.out) (by unfold maxLen; omega) HSa.out (by rw [HnA.out]; omega))
      rw [HnA.out] at HFa
      obtain ⟨LA, HLA2⟩ : ∃ l, Hid (findD (flL A) nm.data.toList = l) := ⟨_, Lib.hid rfl⟩
      obtain ⟨LB, HLB2⟩ : ∃ l, Hid (findD (flL B) (lowS nm).data.toList = l) := ⟨_, Lib.hid rfl⟩
      rw [HLA2.out] at hLA HLL HFa
      rw [HLB2.out] at hLB HLL
      go_wp2_with fail
      refine HFa.out.mono ?_
      rintro e w9 ⟨v9, rfl, o9, b9⟩
      have HB9 := Lib.hid b9
      have HBw9 := Lib.hid (HBwr.out.trans (b9.mono HBwr.out.size))
      obtain ⟨v10, w10, r10, o10, k10⟩ := (OwnS.nil wr.heap.size w9).app o9 (by rw [List.length_nil]; omega) HB9.out.size
      rw [List.nil_append] at o10
      have HB10 : Hid (Below wr.heap.size wr w10) := Lib.hid (k10 _ _ (Nat.le_refl _) HB9.out)
      obtain ⟨p9, c9, rfl, -⟩ := own_room o9.h
      obtain ⟨p10, c10, rfl, -⟩ := own_room o10.h
      have HR10 := Lib.hid r10
      have HO10 := Lib.hid o10
      have HLo := Lib.hid (Lower_any nm w10 (by unfold maxLen; omega))
      clear o9 o10 r10 k10 b9
      go_wp2_with (at_builtin; refine Lib.wpList_append_run _ rfl _ _ _ _ rfl _ _ rfl rfl _ _ HR10.out ?_)
      refine HLo.out.mono ?_
      rintro e w11 ⟨rfl, b11⟩
      have HB11 := Lib.hid (HB10.out.trans (b11.mono HB10.out.size))
      have HBw11 := Lib.hid (HBwr.out.trans (HB11.out.mono HBwr.out.size))
      have HO11 := Lib.hid (HO10.out.later b11)
      have HFb := Lib.hid (Find_any aB cB bB oB B (lowS nm) w11 (HBx.out.later HBw11.out) (by rw [lowS_size]; unfold maxLen; omega) HSb.out (by rw [HnB.out]; omega))
      rw [HnB.out, HLB2.out] at HFb
      clear b11
      go_wp2_with fail
      refine HFb.out.mono ?_
      rintro e w12 ⟨v12, rfl, o12, b12⟩
      have HB12 := Lib.hid (HB11.out.trans (b12.mono HB11.out.size))
      obtain ⟨v13, w13, r13, o13, k13⟩ := (HO11.out.later b12).app o12 (by omega) HB12.out.size
      rw [HLL.out] at o13
      have HB13 : Hid (Below wr.heap.size wr w13) := Lib.hid (k13 _ _ (Nat.le_refl _) HB12.out)
      have HBv13 : Hid (Below w7.heap.size w7 w13) := Lib.hid (HBr.out.trans (HB13.out.mono HBr.out.size))
      obtain ⟨p12, c12, rfl, -⟩ := own_room o12.h
      obtain ⟨p13, c13, rfl, -⟩ := own_room o13.h
      have HR13 := Lib.hid r13
      have HSO := Lib.hid (SameOwn (HO7.out.later HBv13.out) o13 (by rw [HnL.out]; unfold maxLen; omega))
      rw [HnL.out] at HSO HR13
      have HnL2 := HnL.out
      clear r13 o13 o12 k13 b12 HnL2
      go_wp2_with (at_builtin; refine Lib.wpList_append_run _ rfl _ _ _ _ rfl _ _ rfl rfl _ _ HR13.out ?_)
      refine HSO.out.mono ?_
      rintro e w14 ⟨rfl, b14⟩
      go_wp2
      go_ret
      exact ⟨rfl, HB7.out.trans ((HBv13.out.trans (b14.mono HBv13.out.size)).mono HB7.out.size)⟩

end Go.Proofs.YtbfnbjffobhllaaDoor
