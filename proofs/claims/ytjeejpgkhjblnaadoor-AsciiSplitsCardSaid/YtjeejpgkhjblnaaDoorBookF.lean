/-
  Contracts: fillText.
-/
import Derived.Test.YtjeejpgkhjblnaaDoorBookT
namespace Go.Proofs.YtjeejpgkhjblnaaDoor
open Go.RowKit

/-- The lists of texts that a Book holds: where its row lies, and each list's block, length, mark, and its longer copy. -/
structure Lists where
  b : Nat
  gT : Nat
  N : Nat
  cT : Nat
  g : Nat → Nat
  n : Nat → Nat
  id : Nat → Nat
  la : Nat → Option Addr
  ln : Nat → Nat
  lc : Nat → Nat
/-- It is so in a world. -/
structure Lists.In (L : Lists) (w : World) : Prop where
  h3 : w.cell? ⟨L.b, 3, none⟩ = some (.slice (some ⟨L.gT, 0, none⟩) L.N L.cT)
  e0 : ∀ i, i < L.N → w.cell? ⟨L.gT, i * 3, none⟩ = some (.slice (some ⟨L.g i, 0, none⟩) (L.n i) (L.n i))
  e1 : ∀ i, i < L.N → w.cell? ⟨L.gT, i * 3 + 1, none⟩ = some (.slice (L.la i) (L.ln i) (L.lc i))
  e2 : ∀ i, i < L.N → w.cell? ⟨L.gT, i * 3 + 2, none⟩ = some (.int .i64 (L.id i))
  fT : ∀ o, w.frozen? ⟨L.gT, o, none⟩ = false
  lT : L.gT < w.heap.size
/-- What has nothing to do with a world. -/
structure Lists.Fit (L : Lists) : Prop where
  hN : L.N < 1000
  hn : ∀ i, i < L.N → L.n i ≤ 4294967296
  hid : ∀ i, i < L.N → L.id i < 100
  hb : ∀ i, i < L.N → L.g i ≠ L.b
  hT : ∀ i, i < L.N → L.g i ≠ L.gT
  hg : ∀ i j, i < L.N → j < L.N → L.g i = L.g j → i = j
def Lists.X (L : Lists) (q : Nat) : Prop := ∃ i, i < L.N ∧ q = L.g i
theorem Lists.In.kept {L : Lists} (F : L.Fit) {w w' : World} (h : L.In w) (k : Kept L.X w w') : L.In w' := by
  have hT : ¬ L.X L.gT := fun ⟨i, hi, e⟩ => F.hT i hi e.symm
  have hb : ¬ L.X L.b := fun ⟨i, hi, e⟩ => F.hb i hi e.symm
  exact ⟨k.cell h.h3 hb, fun i hi => k.cell (h.e0 i hi) hT, fun i hi => k.cell (h.e1 i hi) hT, fun i hi => k.cell (h.e2 i hi) hT, fun o => (World.frozen?_of_block (w := w) (k.block L.gT h.lT hT)).trans (h.fT o), Nat.lt_of_lt_of_le h.lT k.size⟩
/-- A block of n texts, the first j of them the mark. -/
def marked (i j : Nat) (C : Array Value) : Array Value := Array.replicate j (.string (wordS i)) ++ C.extract j C.size
theorem marked_size (i j : Nat) (C : Array Value) (h : j ≤ C.size) : (marked i j C).size = C.size := by simp [marked]; omega
theorem marked_zero (i : Nat) (C : Array Value) : marked i 0 C = C := by simp [marked]
theorem marked_all (i : Nat) (C : Array Value) : marked i C.size C = Array.replicate C.size (.string (wordS i)) := by simp [marked]
theorem marked_set (i j : Nat) (C : Array Value) (h : j < C.size) : (marked i j C).setIfInBounds j (.string (wordS i)) = marked i (j + 1) C := by
  apply Array.ext_getElem?
  intro q
  have h1 := marked_size i j C (by omega)
  rw [Array.getElem?_setIfInBounds, h1]
  by_cases e : j = q
  · subst e
    rw [if_pos rfl, if_pos h, marked, Array.getElem?_append_left (by simp)]
    simp
  · rw [if_neg e]
    unfold marked
    by_cases hq : q < j
    · rw [Array.getElem?_append_left (by simp; omega), Array.getElem?_append_left (by simp; omega)]
      rw [Array.getElem?_replicate, Array.getElem?_replicate, if_pos hq, if_pos (by omega)]
    · rw [Array.getElem?_append_right (by simp; omega), Array.getElem?_append_right (by simp; omega)]
      simp only [Array.getElem?_extract, Array.size_replicate]
      have e1 : j + (q - j) = q := by omega
      have e2 : j + 1 + (q - (j + 1)) = q := by omega
      rw [e1, e2]
      by_cases hc : q < C.size
      · rw [if_pos (by omega), if_pos (by omega)]
      · rw [if_neg (by omega), if_neg (by omega)]
theorem marked_at (i j : Nat) (C : Array Value) (h : j < C.size) : (marked i j C)[j]? = C[j]? := by
  rw [marked, Array.getElem?_append_right (by simp)]
  simp only [Array.getElem?_extract, Array.size_replicate]
  rw [if_pos (by omega)]
  congr 1
  omega

set_option maxHeartbeats 1000000 in
set_option maxRecDepth 100000 in
theorem fillText_any (L : Lists) (F : L.Fit) (C : Nat → Array Value) (w : World) (hI : L.In w) (hC : ∀ i, i < L.N → w.heap[L.g i]? = some (.cells (C i) 9 (0, 0)) ∧ (C i).size = L.n i) :
    Calls Tryd.prog 30 #[.pointer (some ⟨L.b, 0, none⟩)] w fun e w' => e = .returned (.tuple #[]) ∧ Kept L.X w w' ∧ ∀ i, i < L.N → w'.heap[L.g i]? = some (.cells (Array.replicate (L.n i) (.string (wordS (L.id i)))) 9 (0, 0)) := by
  have HI := Lib.hid hI; clear hI
  have HC := Lib.hid hC; clear hC
  have hN := F.hN
  have h3 := HI.out.h3
  go_enter Tryd.func30, Tryd.ntmps30
  go_wp2
  go_loopw [2, 3, 4] (fun i _ _ wr => ∃ k : Nat, k ≤ L.N ∧ i = .int .i64 k ∧ Kept L.X w wr ∧ (∀ i, i < k → wr.heap[L.g i]? = some (.cells (Array.replicate (L.n i) (.string (wordS (L.id i)))) 9 (0, 0))) ∧ (∀ i, k ≤ i → i < L.N → wr.heap[L.g i]? = some (.cells (C i) 9 (0, 0)))) (fun i _ _ _ => L.N - (intOf i).toNat)
  case atStart => exact ⟨0, Nat.zero_le _, rfl, Kept.refl _ _, fun i hi => absurd hi (by omega), fun i _ hi => (HC.out i hi).1⟩
  case round =>
    obtain ⟨k, hk, rfl, hK, hD, hU⟩ := hrel
    have HK := Lib.hid hK; clear hK
    have HD := Lib.hid hD; clear hD
    have HU := Lib.hid hU; clear hU
    clear h3
    have h3 := (HI.out.kept F HK.out).h3
    by_cases hlt : k < L.N
    · have c1 := (HI.out.kept F HK.out).e0 k hlt
      have c2 := (HI.out.kept F HK.out).e1 k hlt
      have c3 := (HI.out.kept F HK.out).e2 k hlt
      have hlt' : (k : Int) < (L.N : Int) := by omega
      have hid := F.hid k hlt
      have hnk := F.hn k hlt
      have HCs := Lib.hid (HC.out k hlt).2
      obtain ⟨wo, rfl⟩ : ∃ wo : World, wo = wr := ⟨_, rfl⟩
      have hgl : L.g k < wo.heap.size := lt_of_block (HU.out k (Nat.le_refl _) hlt)
      have hgne : L.g k ≠ wo.heap.size := by omega
      go_wp2
      go_loopw [4] (fun i wq => ∃ j : Nat, j ≤ L.n k ∧ i = .int .i64 j ∧ wq.cell? ⟨wo.heap.size, 0, none⟩ = some (.slice (some ⟨L.g k, 0, none⟩) (L.n k) (L.n k)) ∧ wq.cell? ⟨wo.heap.size, 2, none⟩ = some (.int .i64 (L.id k)) ∧ wq.heap[L.g k]? = some (.cells (marked (L.id k) j (C k)) 9 (0, 0)) ∧ Kept (fun q => q = L.g k) wo wq) (fun i _ => L.n k - (intOf i).toNat)
      case atStart =>
        refine ⟨0, Nat.zero_le _, rfl, ?_, ?_, ?_, (Kept.refl _ _).alloc _⟩
        · rw [World.cell?_alloc_at _ _ _ _ rfl]; rfl
        · rw [World.cell?_alloc_at _ _ _ _ rfl]; rfl
        · rw [Below.heap_alloc _ _ _ hgl, marked_zero]; exact HU.out k (Nat.le_refl _) hlt
      case round =>
        obtain ⟨j, hj, rfl, d0, d2, hrow, hKq⟩ := hrel
        by_cases hjl : j < L.n k
        · have hjl' : (j : Int) < (L.n k : Int) := by omega
          have hsz : j < (C k).size := by rw [HCs.out]; exact hjl
          obtain ⟨x, hx⟩ : ∃ x, wr.cell? ⟨L.g k, j, none⟩ = some x := by
            rw [cell_of_row _ _ _ _ _ _ hrow]
            exact ⟨_, Array.getElem?_eq_getElem (by rw [marked_size _ _ _ (by omega)]; exact hsz)⟩
          have hf := frozen_of_row wr (L.g k) j _ _ hrow
          have HRow := Lib.hid hrow; clear hrow
          have HKq := Lib.hid hKq; clear hKq
          go_wp2
          go_region_held3 (fun w' => w'.cell? ⟨wo.heap.size, 0, none⟩ = some (.slice (some ⟨L.g k, 0, none⟩) (L.n k) (L.n k)) ∧ w'.cell? ⟨wo.heap.size, 2, none⟩ = some (.int .i64 (L.id k))) (go_keep)
            (first | (go_at_call 68; refine (markText_any (L.id k) hid _).mono ?_; rintro e w' ⟨rfl, rfl⟩))
          go_wp2
          refine ⟨⟨j + 1, by omega, by go_num, ?_, ?_, ?_, ?_⟩, by simp [intOf]; omega⟩
          · rw [World.cell?_drew, World.cell?_setCell_other _ _ _ _ (by simp)]; exact d0
          · rw [World.cell?_drew, World.cell?_setCell_other _ _ _ _ (by simp)]; exact d2
          · show (wr.setCell ⟨L.g k, j, none⟩ _).heap[L.g k]? = _
            rw [heap_setCell_same _ _ _ _ _ _ HRow.out, marked_set _ _ _ hsz]
          · exact (HKq.out.setCell rfl _).drew
        · obtain rfl : j = L.n k := by omega
          have HRow := Lib.hid hrow; clear hrow
          have HKq := Lib.hid hKq; clear hKq
          have HKX : Hid (Kept L.X w wr) := Lib.hid (HK.out.trans (HKq.out.mono (fun q hq => ⟨k, hlt, hq⟩)))
          go_wp2
          refine ⟨⟨k + 1, by omega, by go_num, HKX.out, ?_, ?_⟩, by simp [intOf]; omega⟩
          · intro i hi
            by_cases e : i = k
            · subst e
              rw [HRow.out, ← HCs.out, marked_all]
            · have hi' : i < L.N := by omega
              have hw : L.g i < wo.heap.size := lt_of_block (HD.out i (by omega))
              rw [HKq.out.block (L.g i) hw (fun h => e (F.hg i k hi' hlt h))]
              exact HD.out i (by omega)
          · intro i hi hi'
            have hw : L.g i < wo.heap.size := lt_of_block (HU.out i (by omega) hi')
            rw [HKq.out.block (L.g i) hw (fun h => by have := F.hg i k hi' hlt h; omega)]
            exact HU.out i (by omega) hi'
    · obtain rfl : k = L.N := by omega
      go_wp2
      go_end0
      exact ⟨rfl, HK.out, HD.out⟩

end Go.Proofs.YtjeejpgkhjblnaaDoor
