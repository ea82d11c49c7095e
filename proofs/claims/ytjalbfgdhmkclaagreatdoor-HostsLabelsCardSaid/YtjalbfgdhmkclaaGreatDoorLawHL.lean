/-
  The document's Labels; the walk of HostsLabels.
-/
import Derived.Test.YtjalbfgdhmkclaaGreatDoorMbB
import Derived.Test.YtjalbfgdhmkclaaGreatDoorHsT
import Derived.Test.YtjalbfgdhmkclaaGreatDoorMbC
import Derived.Laws.IdiomStrings
import Derived.RegionTactic
namespace Go.Proofs.YtjalbfgdhmkclaaGreatDoor
open Go.RowKit

set_option maxHeartbeats 400000 in
theorem Texts_any (b base n : Nat) (k : Nat) (la : Option Addr) (ln lc : Nat) (v : Value) (xs : List Value) (C : Array Value) (w : World) (hk : k < 1000) (hn : n < 1000)
    (hB : w.heap[b]? = some (.cells C 39 (0, 0))) (h0 : C[0]? = some (.int .i64 k)) (h3 : C[3]? = some v)
    (hown : w.ownsRow base 94 3 v n xs) (hbase : base ≤ w.heap.size) (hvb : v.ownBlock ≠ some b) :
    Calls Tryz.prog 18 #[.pointer (some ⟨b, 0, none⟩), .slice la ln lc] w (KeepsT b base n k (.slice la ln lc) v xs C w) := by
  have HC := Lib.hid (keepText_any b base n k la ln lc v xs C w hk hn hB h0 h3 hown hbase hvb)
  clear hB h0 h3 hown
  go_enter Tryz.func18, Tryz.ntmps18
  go_wp2_with fail
  refine HC.out.mono ?_
  rintro e w' ⟨rfl, h⟩
  have H := Lib.hid h; clear h
  go_wp2
  go_end0
  exact ⟨rfl, H.out⟩

def book0 : Array Value := #[.int .i64 0, .slice none 0 0, .slice none 0 0, .slice none 0 0, .slice none 0 0, .slice none 0 0, .slice none 0 0, .slice none 0 0, .slice none 0 0]

theorem below_kept {B : Nat} {X : Nat → Prop} {w a b : World} (h : Below B w a) (k : Kept X a b) (hB : B ≤ a.heap.size) (hX : ∀ q, X q → B ≤ q) : Below B w b :=
  h.trans ⟨k.os, k.tape, k.output, k.size, fun q hq => k.block q (by omega) (fun hx => by have := hX q hx; omega)⟩
/-- Two lists of the same texts are held. -/
def two (b gT cT ga gb n : Nat) : Lists := { b := b, gT := gT, N := 2, cT := cT, g := fun i => if i = 0 then ga else gb, n := fun _ => n, id := fun i => i + 1, la := fun _ => none, ln := fun _ => 0, lc := fun _ => 0 }
theorem two_fit (b gT cT ga gb n : Nat) (hn : n ≤ 4294967296) (h1 : ga ≠ b) (h2 : gb ≠ b) (h3 : ga ≠ gT) (h4 : gb ≠ gT) (h5 : ga ≠ gb) : (two b gT cT ga gb n).Fit := {
  hN := (by decide : 2 < 1000)
  hn := fun _ _ => hn
  hid := fun i hi => by
    have : i < 2 := hi
    show i + 1 < 100
    omega
  hb := fun i _ => by
    show (if i = 0 then ga else gb) ≠ b
    split <;> assumption
  hT := fun i _ => by
    show (if i = 0 then ga else gb) ≠ gT
    split <;> assumption
  hz := fun _ _ h => by cases h
  hg := fun i j hi hj h => by
    have hi' : i < 2 := hi
    have hj' : j < 2 := hj
    have h' : (if i = 0 then ga else gb) = (if j = 0 then ga else gb) := h
    by_cases e1 : i = 0
    · by_cases e2 : j = 0
      · omega
      · rw [if_pos e1, if_neg e2] at h'; exact absurd h' h5
    · by_cases e2 : j = 0
      · rw [if_neg e1, if_pos e2] at h'; exact absurd h'.symm h5
      · omega }
theorem two_in (b base gT cT ga gb n : Nat) (C : Array Value) (w : World) (hB : w.heap[b]? = some (.cells C 39 (0, 0))) (h3 : C[3]? = some (.slice (some ⟨gT, 0, none⟩) 2 cT))
    (hown : w.ownsRow base 94 3 (.slice (some ⟨gT, 0, none⟩) 2 cT) 2 [.slice (some ⟨ga, 0, none⟩) n n, .slice none 0 0, .int .i64 1, .slice (some ⟨gb, 0, none⟩) n n, .slice none 0 0, .int .i64 2]) : (two b gT cT ga gb n).In w := {
  h3 := (cell_of_row w b 3 C _ _ hB).trans h3
  e0 := fun i hi => by
    have hi' : i < 2 := hi
    have h := hown.cellAt (i * 3) (by omega)
    show w.cell? ⟨gT, i * 3, none⟩ = _
    rw [h]
    rcases (show i = 0 ∨ i = 1 by omega) with rfl | rfl <;> rfl
  e1 := fun i hi => by
    have hi' : i < 2 := hi
    have h := hown.cellAt (i * 3 + 1) (by omega)
    show w.cell? ⟨gT, i * 3 + 1, none⟩ = _
    rw [h]
    rcases (show i = 0 ∨ i = 1 by omega) with rfl | rfl <;> rfl
  e2 := fun i hi => by
    have hi' : i < 2 := hi
    have h := hown.cellAt (i * 3 + 2) (by omega)
    show w.cell? ⟨gT, i * 3 + 2, none⟩ = _
    rw [h]
    rcases (show i = 0 ∨ i = 1 by omega) with rfl | rfl <;> rfl
  fT := fun o => hown.frozenAt o
  lT := (hown.lt gT rfl).2 }
theorem spl_infoB : (Tryz.prog.info? 39).map (·.size) = some book0.size := by kernel_rfl
theorem book0_one : book0.all (·.oneCell') = true := by simp [book0, Value.oneCell']

set_option maxHeartbeats 400000 in
theorem SameTexts_eq (ga oa ca gb ob cb : Nat) (L : List ByteArray) (w : World) (hn : L.length ≤ maxLen)
    (hA : ∀ j (h : j < L.length), w.cell? ⟨ga, oa + j, none⟩ = some (.string L[j])) (hB : ∀ j (h : j < L.length), w.cell? ⟨gb, ob + j, none⟩ = some (.string L[j])) :
    Calls Tryz.prog 14 #[.slice (some ⟨ga, oa, none⟩) L.length ca, .slice (some ⟨gb, ob, none⟩) L.length cb] w fun e w' => e = .returned (.bool true) ∧ ∃ m, w' = w.drewN m := by
  unfold maxLen at hn
  have HA := Lib.hid hA; clear hA
  have HB := Lib.hid hB; clear hB
  go_enter Tryz.func14, Tryz.ntmps14
  go_wp2
  go_loopw [5] (fun i wr => ∃ k : Nat, k ≤ L.length ∧ i = .int .i64 k ∧ ∃ m, wr = w.drewN m) (fun i _ => L.length - (intOf i).toNat)
  case atStart => exact ⟨0, Nat.zero_le _, rfl, 0, rfl⟩
  case round =>
    obtain ⟨k, hk, rfl, m, rfl⟩ := hrel
    by_cases hlt : k < L.length
    · have ha := HA.out k hlt
      have hb := HB.out k hlt
      have hlt' : (k : Int) < (L.length : Int) := by omega
      have hne : (L[k].toList != L[k].toList) = false := by simp
      go_wp2
      go_quiet (fail)
      go_wp2
      exact ⟨⟨k + 1, by omega, by go_num, _, rfl⟩, by simp [intOf]; omega⟩
    · go_wp2
      go_ret
      exact ⟨rfl, m, rfl⟩

set_option maxHeartbeats 400000 in
theorem SameTexts_nil (w : World) : Calls Tryz.prog 14 #[.slice none 0 0, .slice none 0 0] w fun e w' => e = .returned (.bool true) ∧ w = w' := by
  go_enter Tryz.func14, Tryz.ntmps14
  go_wp2
  refine wp_loop_rounds 1 ?_
  rw [rounds_succ]
  go_wp2
  go_ret
  exact ⟨rfl, rfl⟩
set_option maxRecDepth 100000 in
set_option maxHeartbeats 1000000 in
theorem RefLabels_some (s : ByteArray) (w : World) (hs : s.size ≤ 1048600) (h0 : 0 < s.size) :
    Calls Tryz.prog 15 #[.string s] w fun e w' => ∃ g cap, e = .returned (.slice (some ⟨g, 0, none⟩) (labelsL s).length cap) ∧ (∀ j (h : j < (labelsL s).length), w'.cell? ⟨g, 0 + j, none⟩ = some (.string (labelsL s)[j])) ∧ Below w.heap.size w w' := by
  have hem := emF h0
  obtain ⟨M, HMM⟩ : ∃ M, Hid (machB s = M) := ⟨_, Lib.hid rfl⟩
  have CM : Hid (∀ w, Calls Tryz.prog 17 #[.string s] w fun e w' => e = .returned (.bool M) ∧ Below w.heap.size w w') := Lib.hid (fun w => by rw [← HMM.out]; exact RefMachine_any s w hs)
  obtain ⟨L, HL⟩ : ∃ L, Hid (labelsL s = L) := ⟨_, Lib.hid rfl⟩
  rw [HL.out]
  have hs0 : ¬ s.size = 0 := by omega
  cases M
  · have HLr : Hid (rawB 46 s = L) := Lib.hid (by rw [← HL.out, labelsL, if_neg hs0, HMM.out]; rfl)
    have hLn : 0 < L.length := by rw [← HLr.out]; exact List.length_pos_iff.2 (rawB_ne 46 s)
    have CP := Lib.hid (fun w => RefParts5_any s w hs)
    rw [HLr.out] at CP
    obtain ⟨n, HN⟩ : ∃ n, Hid (L.length = n) := ⟨_, Lib.hid rfl⟩
    rw [HN.out] at CP hLn
    clear hs0
    go_enter Tryz.func15, Tryz.ntmps15
    go_wp2_with fail
    refine (CM.out _).mono ?_
    rintro e w1 ⟨rfl, b1⟩
    have B1 := Lib.hid b1; clear b1
    go_wp2_with fail
    refine (CP.out _).mono ?_
    rintro e w2 ⟨v, rfl, own, b2⟩
    have B2 : Hid (Below w.heap.size w w2) := Lib.hid (keepW B1.out b2)
    have HOw := Lib.hid own
    clear b2 own
    go_wp2
    go_ret
    rcases HOw.out.2 with ⟨_, h⟩ | ⟨g, cap, cur, rfl, hg, hgb, hcap, _⟩
    · omega
    · refine ⟨g, cap, by rw [HN.out]; rfl, fun j hj => ?_, B2.out⟩
      rw [Nat.zero_add, HOw.out.cellAt j (by rw [HN.out] at hj; omega), List.getElem?_map, List.getElem?_eq_getElem hj]; rfl
  · have HLr : Hid (L = [s]) := Lib.hid (by rw [← HL.out, labelsL, if_neg hs0, HMM.out]; rfl)
    rw [HLr.out]
    clear hs0
    go_enter Tryz.func15, Tryz.ntmps15
    go_wp2_with fail
    refine (CM.out _).mono ?_
    rintro e w1 ⟨rfl, b1⟩
    have B1 := Lib.hid b1; clear b1
    go_wp2
    go_ret
    refine ⟨w1.heap.size, 1, rfl, fun j hj => ?_, B1.out.alloc B1.out.size _⟩
    have : j = 0 := by simpa using hj
    subst this
    rw [cell_of_row _ _ _ _ _ _ (heap_alloc_new w1 _)]; rfl
theorem Labels_none (s : ByteArray) (w : World) (h0 : s.size = 0) : Calls Tryz.prog 13 #[.string s] w fun e w' => e = .returned (.slice none 0 0) ∧ w = w' := by
  have hem := emT h0
  go_enter Tryz.func13, Tryz.ntmps13
  go_wp2
  go_ret
  exact ⟨rfl, rfl⟩
theorem RefLabels_none (s : ByteArray) (w : World) (h0 : s.size = 0) : Calls Tryz.prog 15 #[.string s] w fun e w' => e = .returned (.slice none 0 0) ∧ w = w' := by
  have hem := emT h0
  go_enter Tryz.func15, Tryz.ntmps15
  go_wp2
  go_ret
  exact ⟨rfl, rfl⟩
/-- Twice no list is held. -/
def none2 (b gT cT : Nat) : Lists := { b := b, gT := gT, N := 2, cT := cT, g := fun i => b + gT + 1 + i, n := fun _ => 0, id := fun i => i + 1, la := fun _ => none, ln := fun _ => 0, lc := fun _ => 0, z := fun _ => true }
theorem none2_fit (b gT cT : Nat) : (none2 b gT cT).Fit := {
  hN := (by decide : 2 < 1000)
  hn := fun _ _ => Nat.zero_le _
  hid := fun i hi => by
    have : i < 2 := hi
    show i + 1 < 100
    omega
  hb := fun i _ => by show b + gT + 1 + i ≠ b; omega
  hT := fun i _ => by show b + gT + 1 + i ≠ gT; omega
  hz := fun _ _ _ => rfl
  hg := fun i j _ _ h => by
    have : b + gT + 1 + i = b + gT + 1 + j := h
    omega }
theorem none2_in (b base gT cT : Nat) (C : Array Value) (w : World) (hB : w.heap[b]? = some (.cells C 39 (0, 0))) (h3 : C[3]? = some (.slice (some ⟨gT, 0, none⟩) 2 cT))
    (hown : w.ownsRow base 94 3 (.slice (some ⟨gT, 0, none⟩) 2 cT) 2 [.slice none 0 0, .slice none 0 0, .int .i64 1, .slice none 0 0, .slice none 0 0, .int .i64 2]) : (none2 b gT cT).In w := {
  h3 := (cell_of_row w b 3 C _ _ hB).trans h3
  e0 := fun i hi => by
    have hi' : i < 2 := hi
    have h := hown.cellAt (i * 3) (by omega)
    show w.cell? ⟨gT, i * 3, none⟩ = _
    rw [h]
    rcases (show i = 0 ∨ i = 1 by omega) with rfl | rfl <;> rfl
  e1 := fun i hi => by
    have hi' : i < 2 := hi
    have h := hown.cellAt (i * 3 + 1) (by omega)
    show w.cell? ⟨gT, i * 3 + 1, none⟩ = _
    rw [h]
    rcases (show i = 0 ∨ i = 1 by omega) with rfl | rfl <;> rfl
  e2 := fun i hi => by
    have hi' : i < 2 := hi
    have h := hown.cellAt (i * 3 + 2) (by omega)
    show w.cell? ⟨gT, i * 3 + 2, none⟩ = _
    rw [h]
    rcases (show i = 0 ∨ i = 1 by omega) with rfl | rfl <;> rfl
  fT := fun o => hown.frozenAt o
  lT := (hown.lt gT rfl).2 }

set_option maxHeartbeats 2000000 in
set_option maxRecDepth 100000 in
theorem hlabels_walk (s : ByteArray) (m : Int) (w : World) (hs : s.size ≤ 140737488351232) (hm : w.cell? ⟨2, 0, none⟩ = some (.int .i64 m)) :
    Calls Tryz.prog 4 #[.string s] w fun e w' => e = .returned (.bool true) ∧ Below w.heap.size w w' := by
  have HM := Lib.hid hm; clear hm
  by_cases hb : 1048576 < s.size
  · go_enter Tryz.func4, Tryz.ntmps4
    go_wp2_with fail
    refine (pc_Beyond1_yes w.heap.size s.size _ (by unfold maxLen; omega) (by simp) hb).mono ?_
    rintro e w1 ⟨rfl, rfl⟩
    go_wp2
    go_ret
    exact ⟨rfl, (Below.refl _ _).alloc (Nat.le_refl _) _⟩
  obtain ⟨M, HMM⟩ : ∃ M, Hid (machB s = M) := ⟨_, Lib.hid rfl⟩
  have CM : Hid (∀ w, Calls Tryz.prog 16 #[.string s] w fun e w' => e = .returned (.bool M) ∧ Below w.heap.size w w') := Lib.hid (fun w => by rw [← HMM.out]; exact Machine_any s w (by omega))
  have CR : Hid (∀ w, Calls Tryz.prog 17 #[.string s] w fun e w' => e = .returned (.bool M) ∧ Below w.heap.size w w') := Lib.hid (fun w => by rw [← HMM.out]; exact RefMachine_any s w (by omega))
  by_cases h0 : s.size = 0
  · have H0 := Lib.hid h0
    clear h0
    go_enter Tryz.func4, Tryz.ntmps4
    go_wp2_with fail
    refine (pc_Beyond1_no w.heap.size s.size _ (by simp) (by omega)).mono ?_
    rintro e w1 ⟨rfl, rfl⟩
    go_wp2_with fail
    refine (Labels_none s _ H0.out).mono ?_
    rintro e w1 ⟨rfl, rfl⟩
    go_wp2_with fail
    refine (Labels_none s _ H0.out).mono ?_
    rintro e w1 ⟨rfl, rfl⟩
    go_wp2_with fail
    refine (RefLabels_none s _ H0.out).mono ?_
    rintro e w1 ⟨rfl, rfl⟩
    go_wp2_with fail
    refine (SameTexts_nil _).mono ?_
    rintro e w1 ⟨rfl, rfl⟩
    have B0 : Hid (Below w.heap.size w (w.alloc (.cells #[.int .i64 (s.size : Int)] 3))) := Lib.hid ((Below.refl _ _).alloc (Nat.le_refl _) _)
    go_wp2_with fail
    refine (CM.out _).mono ?_
    rintro e w1 ⟨rfl, b1⟩
    have B1 : Hid (Below w.heap.size w w1) := Lib.hid (keepW B0.out b1)
    clear b1
    go_wp2_with fail
    refine (CR.out _).mono ?_
    rintro e w4 ⟨rfl, b4⟩
    have B4 : Hid (Below w.heap.size w w4) := Lib.hid (keepW B1.out b4)
    clear b4
    go_wp2_with (refine wpList_store_row rfl 39 _ _ rfl w4.heap.size book0 rfl rfl 39 book0 (heap_alloc_new _ _) spl_infoB rfl book0_one ?_; rw [World.setRow_alloc_new])
    have hB0 : (w4.alloc (.cells book0 39)).heap[w4.heap.size]? = some (.cells book0 39 (0, 0)) := heap_alloc_new _ _
    refine (Texts_any w4.heap.size (w4.heap.size + 1) 0 0 _ _ _ (.slice none 0 0) [] book0 _ (by omega) (by omega) hB0 rfl rfl (World.ownsRow_nil _ _ _ _) (by simp) (by simp [Value.ownBlock])).mono ?_
    rintro e w5 ⟨rfl, g1, p1, hb1, ho1, hat1, hne1, hk1⟩
    have hg1 : g1 = w4.heap.size + 2 := by
      rcases hat1 with h | h
      · cases h
      · simpa using h
    have Hb1 := Lib.hid hb1
    have Ho1 := Lib.hid ho1
    have Hk1 := Lib.hid hk1
    have Hg1 := Lib.hid hg1
    have hz5 : w4.heap.size + 1 ≤ w5.heap.size := by have := hk1.size; simpa using this
    clear hB0 hb1 ho1 hk1 hat1 hg1
    go_wp2_with fail
    refine (Texts_any w4.heap.size (w4.heap.size + 1) 1 1 _ _ _ (.slice (some ⟨g1, 0, none⟩) (0 + 1) p1) _ _ _ (by omega) (by omega) Hb1.out rfl rfl Ho1.out hz5 (by simp [Value.ownBlock]; exact hne1)).mono ?_
    rintro e w6 ⟨rfl, g2, p2, hb2, ho2, hat2, hne2, hk2⟩
    have Hb2 := Lib.hid hb2
    have Ho2 := Lib.hid ho2
    have Hk2 := Lib.hid hk2
    have hg2 : w4.heap.size + 1 ≤ g2 := (ho2.lt g2 rfl).1
    clear hb2 ho2 hk2 hat2
    have hg1l : w4.heap.size + 1 ≤ g1 := by rw [Hg1.out]; omega
    have hrow : ∀ q, q < w4.heap.size → w6.heap[q]? = w4.heap[q]? := fun q hq => by
      rw [Hk2.out.block q (by omega) (fun h => by
        rcases h with h | h
        · omega
        · simp [Value.ownBlock] at h; omega), Hk1.out.block q (by simp; omega) (fun h => by
        rcases h with h | h
        · omega
        · cases h)]
      exact Below.heap_alloc _ _ _ hq
    have HRow := Lib.hid hrow; clear hrow
    have HIn : Hid ((none2 w4.heap.size g2 p2).In w6) := Lib.hid (none2_in _ _ _ _ _ _ Hb2.out rfl Ho2.out)
    have HFit : Hid ((none2 w4.heap.size g2 p2).Fit) := Lib.hid (none2_fit _ _ _)
    have HNo : Hid (NoOther w4.heap.size w6) := Lib.hid (fun f hf => by
      rw [cell_of_row _ _ _ _ _ _ Hb2.out]
      rcases hf with rfl | rfl | rfl | rfl | rfl | rfl | rfl <;> rfl)
    have B6 : Hid (Below w.heap.size w w6) := Lib.hid (by
      have h0 := B4.out.size
      have h1 : Below w.heap.size w (w4.alloc (.cells book0 39)) := B4.out.alloc h0 _
      have h2 := below_kept h1 Hk1.out (by simp; omega) (fun q hq => by
        rcases hq with h | h
        · omega
        · cases h)
      exact below_kept h2 Hk2.out (by omega) (fun q hq => by
        rcases hq with h | h
        · omega
        · simp [Value.ownBlock] at h; omega))
    have hw4 := B4.out.size
    clear Hb1 Ho1 Hk1 Hb2 Ho2 Hk2 HRow B4
    go_wp2_with fail
    refine (Apart_any (none2 w4.heap.size g2 p2) HFit.out (show w4.heap.size ≠ g2 by omega) (fun _ => #[]) w6 HIn.out (fun _ _ h => by cases h) HNo.out).mono ?_
    rintro e w7 ⟨rfl, hk7⟩
    have HK7 := Lib.hid hk7; clear hk7
    go_wp2
    go_ret
    refine ⟨rfl, below_kept B6.out HK7.out B6.out.size (fun q hq => ?_)⟩
    rcases hq with ⟨i, _, rfl⟩ | hq
    · show w.heap.size ≤ w4.heap.size + g2 + 1 + i
      omega
    · have hq' : q = g2 := hq
      omega
  · obtain ⟨A, HA⟩ : ∃ A, Hid (labelsL s = A) := ⟨_, Lib.hid rfl⟩
    have hA0 : 0 < A.length := by rw [← HA.out]; exact List.length_pos_iff.2 (labels_ne (by omega))
    have hAl : A.length ≤ 1048577 := by
      rw [← HA.out, labelsL, if_neg h0]
      split
      · simp
      · have := rawB_count 46 s; omega
    go_enter Tryz.func4, Tryz.ntmps4
    go_wp2_with fail
    refine (pc_Beyond1_no w.heap.size s.size _ (by simp) (by omega)).mono ?_
    rintro e w1 ⟨rfl, rfl⟩
    go_wp2_with fail
    refine (Labels_some s m _ (by omega) (by omega) (cell_old _ HM.out)).mono ?_
    rw [HA.out]
    rintro e w1 ⟨ga, rfl, hga, hra, b1⟩
    have HRa := Lib.hid hra; clear hra
    have hga1 : ga < w1.heap.size := lt_of_block HRa.out
    have hgaw : w.heap.size ≤ ga := by simp at hga; omega
    have B1 : Hid (Below w.heap.size w w1) := Lib.hid (((Below.refl _ _).alloc (Nat.le_refl _) _).trans (b1.mono (by simp)))
    clear b1 hga
    go_wp2_with fail
    refine (Labels_some s m _ (by omega) (by omega) ((B1.out.cell (block_lt_of_cell HM.out)).trans HM.out)).mono ?_
    rw [HA.out]
    rintro e w2 ⟨gb, rfl, hgb, hrb, b2⟩
    have HRb := Lib.hid hrb; clear hrb
    have hgb2 : gb < w2.heap.size := lt_of_block HRb.out
    have HRa2 : Hid (w2.heap[ga]? = some (.cells (A.map Value.string).toArray 9 (0, 0))) := Lib.hid ((b2.block ga hga1).trans HRa.out)
    have B2 : Hid (Below w.heap.size w w2) := Lib.hid (B1.out.trans (b2.mono B1.out.size))
    clear b2 HRa
    go_wp2_with fail
    refine (RefLabels_some s _ (by omega) (by omega)).mono ?_
    rw [HA.out]
    rintro e w3 ⟨gc, cc, rfl, hcc, b3⟩
    have HCc := Lib.hid hcc; clear hcc
    have HRa3 : Hid (w3.heap[ga]? = some (.cells (A.map Value.string).toArray 9 (0, 0))) := Lib.hid ((b3.block ga (by omega)).trans HRa2.out)
    have HRb3 : Hid (w3.heap[gb]? = some (.cells (A.map Value.string).toArray 9 (0, 0))) := Lib.hid ((b3.block gb hgb2).trans HRb.out)
    have B3 : Hid (Below w.heap.size w w3) := Lib.hid (B2.out.trans (b3.mono B2.out.size))
    have hz3 : w2.heap.size ≤ w3.heap.size := b3.size
    clear b3 HRa2 HRb
    go_wp2_with fail
    have hST := SameTexts_eq ga 0 A.length gc 0 cc A w3 (by unfold maxLen; omega) (fun j hj => by
        rw [cell_of_row _ _ _ _ _ _ HRa3.out, List.getElem?_toArray, List.getElem?_map, Nat.zero_add, List.getElem?_eq_getElem hj]; rfl) HCc.out
    refine hST.mono ?_
    rintro e wx ⟨rfl, nx, hwx⟩
    have BX : Hid (Below w3.heap.size w3 wx) := Lib.hid (by
      rw [hwx]
      exact ⟨rfl, rfl, rfl, Nat.le_refl _, fun _ _ => rfl⟩)
    clear hST HCc hwx
    go_wp2_with fail
    refine (CM.out _).mono ?_
    rintro e wy ⟨rfl, by1⟩
    have BY : Hid (Below w3.heap.size w3 wy) := Lib.hid (keepW BX.out by1)
    clear by1 BX
    go_wp2_with fail
    refine (CR.out _).mono ?_
    rintro e w4 ⟨rfl, b4⟩
    have BZ : Hid (Below w3.heap.size w3 w4) := Lib.hid (keepW BY.out b4)
    clear b4 BY
    have HRa4 : Hid (w4.heap[ga]? = some (.cells (A.map Value.string).toArray 9 (0, 0))) := Lib.hid ((BZ.out.block ga (by omega)).trans HRa3.out)
    have HRb4 : Hid (w4.heap[gb]? = some (.cells (A.map Value.string).toArray 9 (0, 0))) := Lib.hid ((BZ.out.block gb (by omega)).trans HRb3.out)
    have hz4 : w2.heap.size ≤ w4.heap.size := Nat.le_trans hz3 BZ.out.size
    have B4 : Hid (Below w.heap.size w w4) := Lib.hid (keepW B3.out BZ.out)
    clear HRa3 HRb3 B3 hz3 BZ
    go_wp2_with (refine wpList_store_row rfl 39 _ _ rfl w4.heap.size book0 rfl rfl 39 book0 (heap_alloc_new _ _) spl_infoB rfl book0_one ?_; rw [World.setRow_alloc_new])
    have hB0 : (w4.alloc (.cells book0 39)).heap[w4.heap.size]? = some (.cells book0 39 (0, 0)) := heap_alloc_new _ _
    refine (Texts_any w4.heap.size (w4.heap.size + 1) 0 0 _ _ _ (.slice none 0 0) [] book0 _ (by omega) (by omega) hB0 rfl rfl (World.ownsRow_nil _ _ _ _) (by simp) (by simp [Value.ownBlock])).mono ?_
    rintro e w5 ⟨rfl, g1, p1, hb1, ho1, hat1, hne1, hk1⟩
    have hg1 : g1 = w4.heap.size + 2 := by
      rcases hat1 with h | h
      · cases h
      · simpa using h
    have Hb1 := Lib.hid hb1
    have Ho1 := Lib.hid ho1
    have Hk1 := Lib.hid hk1
    have Hg1 := Lib.hid hg1
    have hz5 : w4.heap.size + 1 ≤ w5.heap.size := by have := hk1.size; simpa using this
    clear hB0 hb1 ho1 hk1 hat1 hg1
    go_wp2_with fail
    refine (Texts_any w4.heap.size (w4.heap.size + 1) 1 1 _ _ _ (.slice (some ⟨g1, 0, none⟩) (0 + 1) p1) _ _ _ (by omega) (by omega) Hb1.out rfl rfl Ho1.out hz5 (by simp [Value.ownBlock]; exact hne1)).mono ?_
    rintro e w6 ⟨rfl, g2, p2, hb2, ho2, hat2, hne2, hk2⟩
    have Hb2 := Lib.hid hb2
    have Ho2 := Lib.hid ho2
    have Hk2 := Lib.hid hk2
    have hg2 : w4.heap.size + 1 ≤ g2 := (ho2.lt g2 rfl).1
    clear hb2 ho2 hk2 hat2
    have hg1l : w4.heap.size + 1 ≤ g1 := by rw [Hg1.out]; omega
    have hrow : ∀ q, q < w4.heap.size → w6.heap[q]? = w4.heap[q]? := fun q hq => by
      rw [Hk2.out.block q (by omega) (fun h => by
        rcases h with h | h
        · omega
        · simp [Value.ownBlock] at h; omega), Hk1.out.block q (by simp; omega) (fun h => by
        rcases h with h | h
        · omega
        · cases h)]
      exact Below.heap_alloc _ _ _ hq
    have HRow := Lib.hid hrow; clear hrow
    have HIn : Hid ((two w4.heap.size g2 p2 ga gb A.length).In w6) := Lib.hid (two_in _ _ _ _ _ _ _ _ _ Hb2.out rfl Ho2.out)
    have HFit : Hid ((two w4.heap.size g2 p2 ga gb A.length).Fit) := Lib.hid (two_fit _ _ _ _ _ _ (by omega) (by omega) (by omega) (by omega) (by omega) (by omega))
    have HNo : Hid (NoOther w4.heap.size w6) := Lib.hid (fun f hf => by
      rw [cell_of_row _ _ _ _ _ _ Hb2.out]
      rcases hf with rfl | rfl | rfl | rfl | rfl | rfl | rfl <;> rfl)
    have HCs : Hid (∀ i, i < (two w4.heap.size g2 p2 ga gb A.length).N → (two w4.heap.size g2 p2 ga gb A.length).z i = false → w6.heap[(two w4.heap.size g2 p2 ga gb A.length).g i]? = some (.cells (A.map Value.string).toArray 9 (0, 0)) ∧ ((A.map Value.string).toArray).size = (two w4.heap.size g2 p2 ga gb A.length).n i) := Lib.hid (fun i _ _ => by
      refine ⟨?_, by simp [two]⟩
      show w6.heap[if i = 0 then ga else gb]? = _
      split
      · rw [HRow.out ga (by omega)]; exact HRa4.out
      · rw [HRow.out gb (by omega)]; exact HRb4.out)
    have B6 : Hid (Below w.heap.size w w6) := Lib.hid (by
      have h0 := B4.out.size
      have h1 : Below w.heap.size w (w4.alloc (.cells book0 39)) := B4.out.alloc h0 _
      have h2 := below_kept h1 Hk1.out (by simp; omega) (fun q hq => by
        rcases hq with h | h
        · omega
        · cases h)
      exact below_kept h2 Hk2.out (by omega) (fun q hq => by
        rcases hq with h | h
        · omega
        · simp [Value.ownBlock] at h; omega))
    have hw4 := B4.out.size
    clear Hb1 Ho1 Hk1 Hb2 Ho2 Hk2 HRow HRa4 HRb4 B4
    go_wp2_with fail
    refine (Apart_any (two w4.heap.size g2 p2 ga gb A.length) HFit.out (show w4.heap.size ≠ g2 by omega) (fun _ => (A.map Value.string).toArray) w6 HIn.out HCs.out HNo.out).mono ?_
    rintro e w7 ⟨rfl, hk7⟩
    have HK7 := Lib.hid hk7; clear hk7
    go_wp2
    go_ret
    refine ⟨rfl, below_kept B6.out HK7.out B6.out.size (fun q hq => ?_)⟩
    rcases hq with ⟨i, _, rfl⟩ | hq
    · show w.heap.size ≤ if i = 0 then ga else gb
      have := B1.out.size
      split <;> omega
    · have hq' : q = g2 := hq
      omega

end Go.Proofs.YtjalbfgdhmkclaaGreatDoor
