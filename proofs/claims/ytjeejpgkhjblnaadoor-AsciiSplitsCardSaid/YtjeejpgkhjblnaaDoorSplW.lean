/-
  The walk of footmanlaw01.AsciiSplits.
-/
import Derived.Test.YtjeejpgkhjblnaaDoorApart
import Derived.Test.YtjeejpgkhjblnaaDoorRefSp
import Derived.Test.YtjeejpgkhjblnaaDoorSplA
import Derived.Test.YtjeejpgkhjblnaaDoorBeyond
import Derived.Test.YtjeejpgkhjblnaaDoorTokA
namespace Go.Proofs.YtjeejpgkhjblnaaDoor
open Go.RowKit

set_option maxHeartbeats 400000 in
theorem Texts_any (b base n : Nat) (k : Nat) (la : Option Addr) (ln lc : Nat) (v : Value) (xs : List Value) (C : Array Value) (w : World) (hk : k < 1000) (hn : n < 1000)
    (hB : w.heap[b]? = some (.cells C 37 (0, 0))) (h0 : C[0]? = some (.int .i64 k)) (h3 : C[3]? = some v)
    (hown : w.ownsRow base 70 3 v n xs) (hbase : base ≤ w.heap.size) (hvb : v.ownBlock ≠ some b) :
    Calls Tryd.prog 16 #[.pointer (some ⟨b, 0, none⟩), .slice la ln lc] w (KeepsT b base n k (.slice la ln lc) v xs C w) := by
  have HC := Lib.hid (keepText_any b base n k la ln lc v xs C w hk hn hB h0 h3 hown hbase hvb)
  clear hB h0 h3 hown
  go_enter Tryd.func16, Tryd.ntmps16
  go_wp2_with fail
  refine HC.out.mono ?_
  rintro e w' ⟨rfl, h⟩
  have H := Lib.hid h; clear h
  go_wp2
  go_end0
  exact ⟨rfl, H.out⟩

def book0 : Array Value := #[.int .i64 0, .slice none 0 0, .slice none 0 0, .slice none 0 0, .slice none 0 0, .slice none 0 0, .slice none 0 0, .slice none 0 0, .slice none 0 0]

theorem below_kept {B : Nat} {X : Nat → Prop} {w a b : World} (h : Below B w a) (k : Kept X a b) (hB : B ≤ a.heap.size) (hX : ∀ q, X q → B ≤ q) : Below B w b :=
  h.trans ⟨k.os, k.tape, k.output, k.size, fun q hq => k.block q (by omega) (fun hx => by have := hX q hx; omega)⟩
/-- Two lists of the same texts are held. -/
def two (b gT cT ga gb n : Nat) : Lists := { b := b, gT := gT, N := 2, cT := cT, g := fun i => if i = 0 then ga else gb, n := fun _ => n, id := fun i => i + 1, la := fun _ => none, ln := fun _ => 0, lc := fun _ => 0 }
theorem two_fit (b gT cT ga gb n : Nat) (hn : n ≤ 4294967296) (h1 : ga ≠ b) (h2 : gb ≠ b) (h3 : ga ≠ gT) (h4 : gb ≠ gT) (h5 : ga ≠ gb) : (two b gT cT ga gb n).Fit := {
  hN := (by decide : 2 < 1000)
  hn := fun _ _ => hn
  hid := fun i hi => by
    have : i < 2 := hi
    show i + 1 < 100
    omega
  hb := fun i _ => by
    show (if i = 0 then ga else gb) ≠ b
    split <;> assumption
  hT := fun i _ => by
    show (if i = 0 then ga else gb) ≠ gT
    split <;> assumption
  hg := fun i j hi hj h => by
    have hi' : i < 2 := hi
    have hj' : j < 2 := hj
    have h' : (if i = 0 then ga else gb) = (if j = 0 then ga else gb) := h
    by_cases e1 : i = 0
    · by_cases e2 : j = 0
      · omega
      · rw [if_pos e1, if_neg e2] at h'; exact absurd h' h5
    · by_cases e2 : j = 0
      · rw [if_neg e1, if_pos e2] at h'; exact absurd h'.symm h5
      · omega }
theorem two_in (b base gT cT ga gb n : Nat) (C : Array Value) (w : World) (hB : w.heap[b]? = some (.cells C 37 (0, 0))) (h3 : C[3]? = some (.slice (some ⟨gT, 0, none⟩) 2 cT))
    (hown : w.ownsRow base 70 3 (.slice (some ⟨gT, 0, none⟩) 2 cT) 2 [.slice (some ⟨ga, 0, none⟩) n n, .slice none 0 0, .int .i64 1, .slice (some ⟨gb, 0, none⟩) n n, .slice none 0 0, .int .i64 2]) : (two b gT cT ga gb n).In w := {
  h3 := (cell_of_row w b 3 C _ _ hB).trans h3
  e0 := fun i hi => by
    have hi' : i < 2 := hi
    have h := hown.cellAt (i * 3) (by omega)
    show w.cell? ⟨gT, i * 3, none⟩ = _
    rw [h]
    rcases (show i = 0 ∨ i = 1 by omega) with rfl | rfl <;> rfl
  e1 := fun i hi => by
    have hi' : i < 2 := hi
    have h := hown.cellAt (i * 3 + 1) (by omega)
    show w.cell? ⟨gT, i * 3 + 1, none⟩ = _
    rw [h]
    rcases (show i = 0 ∨ i = 1 by omega) with rfl | rfl <;> rfl
  e2 := fun i hi => by
    have hi' : i < 2 := hi
    have h := hown.cellAt (i * 3 + 2) (by omega)
    show w.cell? ⟨gT, i * 3 + 2, none⟩ = _
    rw [h]
    rcases (show i = 0 ∨ i = 1 by omega) with rfl | rfl <;> rfl
  fT := fun o => hown.frozenAt o
  lT := (hown.lt gT rfl).2 }
theorem infoB : (Tryd.prog.info? 37).map (·.size) = some book0.size := by kernel_rfl
theorem book0_one : book0.all (·.oneCell') = true := by simp [book0, Value.oneCell']

set_option maxHeartbeats 2000000 in
set_option maxRecDepth 100000 in
theorem splits_walk (s : ByteArray) (u : UInt8) (m : Int) (w : World) (hs : s.size ≤ maxLen) (hm : w.cell? ⟨2, 0, none⟩ = some (.int .i64 m)) :
    Calls Tryd.prog 4 #[.string s, .int .u8 u.toNat] w fun e w' => e = .returned (.bool true) ∧ Below w.heap.size w w' := by
  have HM := Lib.hid hm; clear hm
  by_cases hb : 1048576 < s.size
  · go_enter Tryd.func4, Tryd.ntmps4
    go_wp2_with fail
    refine (Beyond1_yes w.heap.size s.size _ hs (by simp) hb).mono ?_
    rintro e w1 ⟨rfl, rfl⟩
    go_wp2
    go_ret
    exact ⟨rfl, (Below.refl _ _).alloc (Nat.le_refl _) _⟩
  · obtain ⟨A, HA⟩ : ∃ A, Hid (A = partsA u s) := ⟨_, Lib.hid rfl⟩
    have hA0 : 0 < A.length := by rw [HA.out, partsA_len]; exact List.length_pos_iff.2 (parts_ne u _)
    have hAl : A.length ≤ 1048577 := by
      rw [HA.out, partsA_len, parts_count]
      have h := List.count_le_length (a := u) (l := s.data.toList)
      have e : s.data.toList.length = s.size := by simp
      omega
    go_enter Tryd.func4, Tryd.ntmps4
    go_wp2_with fail
    refine (Beyond1_no w.heap.size s.size _ (by simp) (by omega)).mono ?_
    rintro e w1 ⟨rfl, rfl⟩
    go_wp2_with fail
    refine (Split_any s u m _ (by omega) (cell_old _ HM.out)).mono ?_
    rw [← HA.out]
    rintro e w1 ⟨ga, rfl, hga, hra, b1⟩
    have HRa := Lib.hid hra; clear hra
    have hga1 : ga < w1.heap.size := lt_of_block HRa.out
    have hgaw : w.heap.size ≤ ga := by simp at hga; omega
    have B1 : Hid (Below w.heap.size w w1) := Lib.hid (((Below.refl _ _).alloc (Nat.le_refl _) _).trans (b1.mono (by simp)))
    clear b1 hga
    go_wp2_with fail
    refine (Split_any s u m _ (by omega) ((B1.out.cell (block_lt_of_cell HM.out)).trans HM.out)).mono ?_
    rw [← HA.out]
    rintro e w2 ⟨gb, rfl, hgb, hrb, b2⟩
    have HRb := Lib.hid hrb; clear hrb
    have hgb2 : gb < w2.heap.size := lt_of_block HRb.out
    have HRa2 : Hid (w2.heap[ga]? = some (.cells (A.map Value.string).toArray 9 (0, 0))) := Lib.hid ((b2.block ga hga1).trans HRa.out)
    have B2 : Hid (Below w.heap.size w w2) := Lib.hid (B1.out.trans (b2.mono B1.out.size))
    clear b2 HRa
    go_wp2_with fail
    refine (RefSplit_any s u _ (by omega)).mono ?_
    rw [← HA.out]
    rintro e w3 ⟨gc, cc, rfl, hcc, b3⟩
    have HCc := Lib.hid hcc; clear hcc
    have HRa3 : Hid (w3.heap[ga]? = some (.cells (A.map Value.string).toArray 9 (0, 0))) := Lib.hid ((b3.block ga (by omega)).trans HRa2.out)
    have HRb3 : Hid (w3.heap[gb]? = some (.cells (A.map Value.string).toArray 9 (0, 0))) := Lib.hid ((b3.block gb hgb2).trans HRb.out)
    have B3 : Hid (Below w.heap.size w w3) := Lib.hid (B2.out.trans (b3.mono B2.out.size))
    have hz3 : w2.heap.size ≤ w3.heap.size := b3.size
    clear b3 HRa2 HRb
    go_wp2_with fail
    have hST := SameTexts_eq ga 0 A.length gc 0 cc A w3 (by unfold maxLen; omega) (fun j hj => by
        rw [cell_of_row _ _ _ _ _ _ HRa3.out, List.getElem?_toArray, List.getElem?_map, Nat.zero_add, List.getElem?_eq_getElem hj]; rfl) HCc.out
    refine hST.mono ?_
    rintro e w4 ⟨rfl, n4, hw4⟩
    have HRa4 : Hid (w4.heap[ga]? = some (.cells (A.map Value.string).toArray 9 (0, 0))) := Lib.hid (by rw [hw4]; exact HRa3.out)
    have HRb4 : Hid (w4.heap[gb]? = some (.cells (A.map Value.string).toArray 9 (0, 0))) := Lib.hid (by rw [hw4]; exact HRb3.out)
    have hz4 : w2.heap.size ≤ w4.heap.size := by rw [hw4]; exact hz3
    have B4 : Hid (Below w.heap.size w w4) := Lib.hid (by
      rw [hw4]
      have h := B3.out
      exact ⟨h.os, h.tape, h.output, h.size, h.block⟩)
    clear hST HCc hw4 HRa3 HRb3 B3 hz3
    go_wp2_with (refine wpList_store_row rfl 37 _ _ rfl w4.heap.size book0 rfl rfl 37 book0 (heap_alloc_new _ _) infoB rfl book0_one ?_; rw [World.setRow_alloc_new])
    have hB0 : (w4.alloc (.cells book0 37)).heap[w4.heap.size]? = some (.cells book0 37 (0, 0)) := heap_alloc_new _ _
    refine (Texts_any w4.heap.size (w4.heap.size + 1) 0 0 _ _ _ (.slice none 0 0) [] book0 _ (by omega) (by omega) hB0 rfl rfl (World.ownsRow_nil _ _ _ _) (by simp) (by simp [Value.ownBlock])).mono ?_
    rintro e w5 ⟨rfl, g1, p1, hb1, ho1, hat1, hne1, hk1⟩
    have hg1 : g1 = w4.heap.size + 2 := by
      rcases hat1 with h | h
      · cases h
      · simpa using h
    have Hb1 := Lib.hid hb1
    have Ho1 := Lib.hid ho1
    have Hk1 := Lib.hid hk1
    have Hg1 := Lib.hid hg1
    have hz5 : w4.heap.size + 1 ≤ w5.heap.size := by have := hk1.size; simpa using this
    clear hB0 hb1 ho1 hk1 hat1 hg1
    go_wp2_with fail
    refine (Texts_any w4.heap.size (w4.heap.size + 1) 1 1 _ _ _ (.slice (some ⟨g1, 0, none⟩) (0 + 1) p1) _ _ _ (by omega) (by omega) Hb1.out rfl rfl Ho1.out hz5 (by simp [Value.ownBlock]; exact hne1)).mono ?_
    rintro e w6 ⟨rfl, g2, p2, hb2, ho2, hat2, hne2, hk2⟩
    have Hb2 := Lib.hid hb2
    have Ho2 := Lib.hid ho2
    have Hk2 := Lib.hid hk2
    have hg2 : w4.heap.size + 1 ≤ g2 := (ho2.lt g2 rfl).1
    clear hb2 ho2 hk2 hat2
    have hg1l : w4.heap.size + 1 ≤ g1 := by rw [Hg1.out]; omega
    have hrow : ∀ q, q < w4.heap.size → w6.heap[q]? = w4.heap[q]? := fun q hq => by
      rw [Hk2.out.block q (by omega) (fun h => by
        rcases h with h | h
        · omega
        · simp [Value.ownBlock] at h; omega), Hk1.out.block q (by simp; omega) (fun h => by
        rcases h with h | h
        · omega
        · cases h)]
      exact Below.heap_alloc _ _ _ hq
    have HRow := Lib.hid hrow; clear hrow
    have HIn : Hid ((two w4.heap.size g2 p2 ga gb A.length).In w6) := Lib.hid (two_in _ _ _ _ _ _ _ _ _ Hb2.out rfl Ho2.out)
    have HFit : Hid ((two w4.heap.size g2 p2 ga gb A.length).Fit) := Lib.hid (two_fit _ _ _ _ _ _ (by omega) (by omega) (by omega) (by omega) (by omega) (by omega))
    have HNo : Hid (NoOther w4.heap.size w6) := Lib.hid (fun f hf => by
      rw [cell_of_row _ _ _ _ _ _ Hb2.out]
      rcases hf with rfl | rfl | rfl | rfl | rfl | rfl | rfl <;> rfl)
    have HCs : Hid (∀ i, i < (two w4.heap.size g2 p2 ga gb A.length).N → w6.heap[(two w4.heap.size g2 p2 ga gb A.length).g i]? = some (.cells (A.map Value.string).toArray 9 (0, 0)) ∧ ((A.map Value.string).toArray).size = (two w4.heap.size g2 p2 ga gb A.length).n i) := Lib.hid (fun i _ => by
      refine ⟨?_, by simp [two]⟩
      show w6.heap[if i = 0 then ga else gb]? = _
      split
      · rw [HRow.out ga (by omega)]; exact HRa4.out
      · rw [HRow.out gb (by omega)]; exact HRb4.out)
    have B6 : Hid (Below w.heap.size w w6) := Lib.hid (by
      have h0 := B4.out.size
      have h1 : Below w.heap.size w (w4.alloc (.cells book0 37)) := B4.out.alloc h0 _
      have h2 := below_kept h1 Hk1.out (by simp; omega) (fun q hq => by
        rcases hq with h | h
        · omega
        · cases h)
      exact below_kept h2 Hk2.out (by omega) (fun q hq => by
        rcases hq with h | h
        · omega
        · simp [Value.ownBlock] at h; omega))
    have hw4 := B4.out.size
    clear Hb1 Ho1 Hk1 Hb2 Ho2 Hk2 HRow HRa4 HRb4 B4
    go_wp2_with fail
    refine (Apart_any (two w4.heap.size g2 p2 ga gb A.length) HFit.out (show w4.heap.size ≠ g2 by omega) (fun _ => (A.map Value.string).toArray) w6 HIn.out HCs.out HNo.out).mono ?_
    rintro e w7 ⟨rfl, hk7⟩
    have HK7 := Lib.hid hk7; clear hk7
    go_wp2
    go_ret
    refine ⟨rfl, below_kept B6.out HK7.out B6.out.size (fun q hq => ?_)⟩
    rcases hq with ⟨i, _, rfl⟩ | hq
    · show w.heap.size ≤ if i = 0 then ga else gb
      have := B1.out.size
      split <;> omega
    · have hq' : q = g2 := hq
      omega

theorem byte_ofS (n : Int) (h : (Lit.int .u8 n).wf = true) : ∃ u : UInt8, n = (u.toNat : Int) := by
  have a1 : IntKind.u8.min = 0 := rfl
  have a2 : IntKind.u8.max = 255 := rfl
  simp only [Lit.wf, Bool.and_eq_true, decide_eq_true_eq] at h
  refine ⟨UInt8.ofNat n.toNat, ?_⟩
  rw [UInt8.toNat_ofNat']
  omega
theorem splits_all (s : ByteArray) (c : Int) (m : Int) (w : World) (hs : s.size ≤ maxLen) (hc : (Lit.int .u8 c).wf = true) (hm : w.cell? ⟨2, 0, none⟩ = some (.int .i64 m)) :
    Calls Tryd.prog 4 #[.string s, .int .u8 c] w fun e w' => e = .returned (.bool true) ∧ Below w.heap.size w w' := by
  obtain ⟨u, rfl⟩ := byte_ofS c hc
  exact splits_walk s u m w hs hm

end Go.Proofs.YtjeejpgkhjblnaaDoor
