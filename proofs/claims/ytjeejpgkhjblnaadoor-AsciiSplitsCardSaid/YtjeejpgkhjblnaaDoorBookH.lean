/-
  Contracts: growText.
-/
import Derived.Test.YtjeejpgkhjblnaaDoorBookG
namespace Go.Proofs.YtjeejpgkhjblnaaDoor
open Go.RowKit

/-- What growText leaves. -/
def Grows (L : Lists) (w : World) (e : Ending) (w' : World) : Prop :=
  e = .returned (.tuple #[]) ∧ ∃ d cp, (L.grown L.N d cp).In w' ∧ Marks L L.N d w' ∧ Kept (fun q => q = L.gT) w w'
/-- The relation of its outer loop. -/
def GrowR (L : Lists) (w : World) (k : Nat) (wr : World) : Prop := ∃ d cp, (L.grown k d cp).In wr ∧ Marks L k d wr ∧ Kept (fun q => q = L.gT) w wr
theorem Marks.kept {L : Lists} {k : Nat} {d : Nat → Nat} {w w' : World} (h : Marks L k d w) (hk : Kept (fun q => q = L.gT) w w') : Marks L k d w' := fun i hi =>
  ⟨Nat.lt_of_lt_of_le (h i hi).1 hk.size, (h i hi).2.1, fun q hq => hk.cell ((h i hi).2.2 q hq) (h i hi).2.1⟩
theorem own_cells {w : World} {base n : Nat} {e : TypeId} {v : Value} {x : Value} (hn : 0 < n) (h : w.ownsRow base e 1 v n (List.replicate n x)) :
    ∃ g cap, v = .slice (some ⟨g, 0, none⟩) n cap ∧ base ≤ g ∧ g < w.heap.size ∧ ∀ j, j < n → w.cell? ⟨g, j, none⟩ = some x := by
  obtain ⟨h1, h2⟩ := h
  rcases h2 with ⟨_, h2⟩ | ⟨g, cap, cur, rfl, hg, hh, hc⟩
  · omega
  · refine ⟨g, cap, rfl, hg, lt_of_block hh, fun j hj => ?_⟩
    have := World.ownsRow.cellAt (base := base) (e := e) (size := 1) (cap := cap) (n := n) (xs := List.replicate n x) ⟨h1, .inr ⟨g, cap, cur, rfl, hg, hh, hc⟩⟩ j (by omega)
    rw [this, List.getElem?_replicate, if_pos hj]
theorem addr_ne {a b c d : Nat} (h : a ≠ c ∨ b ≠ d) : (⟨a, b, none⟩ : Addr) ≠ ⟨c, d, none⟩ := by
  intro e
  simp only [Addr.mk.injEq, and_true] at e
  rcases h with h | h
  · exact h e.1
  · exact h e.2
/-- One list more has its longer copy. -/
theorem grow_next {L : Lists} {w wr wq : World} {k gg cap : Nat} {d cp : Nat → Nat} (hlt : k < L.N) (hI : (L.grown k d cp).In wr) (hM : Marks L k d wr) (hK : Kept (fun q => q = L.gT) w wr)
    (hq : ∀ q, q < wr.heap.size → wq.heap[q]? = wr.heap[q]?) (hs : wr.heap.size ≤ wq.heap.size) (h1 : wq.os = wr.os) (h2 : wq.tape = wr.tape) (h3 : wq.output = wr.output) (hbT : L.b ≠ L.gT)
    (hgg : gg < wq.heap.size) (hgT : wr.heap.size ≤ gg) (hc : ∀ j, j < L.n k + 40 → wq.cell? ⟨gg, j, none⟩ = some (.string (wordS (L.id k)))) :
    GrowR L w (k + 1) (wq.setCell ⟨L.gT, k * 3 + 1, none⟩ (.slice (some ⟨gg, 0, none⟩) (L.n k + 40) cap)) := by
  have hT : L.gT < wr.heap.size := hI.lT
  have hkp : Kept (fun q => q = L.gT) wr wq := ⟨h1, h2, h3, hs, fun q hq' _ => hq q hq'⟩
  have hkp0 : Kept (fun _ => False) wr wq := ⟨h1, h2, h3, hs, fun q hq' _ => hq q hq'⟩
  have hcell : ∀ (o : Nat) (v : Value), o ≠ k * 3 + 1 → wr.cell? ⟨L.gT, o, none⟩ = some v → (wq.setCell ⟨L.gT, k * 3 + 1, none⟩ (.slice (some ⟨gg, 0, none⟩) (L.n k + 40) cap)).cell? ⟨L.gT, o, none⟩ = some v := fun o v ho hv => by
    rw [World.cell?_setCell_other _ _ _ _ (addr_ne (.inr (Ne.symm ho)))]; exact hkp0.cell hv (fun h => h)
  refine ⟨fun i => if i = k then gg else d i, fun i => if i = k then cap else cp i, ⟨?_, ?_, ?_, ?_, ?_, ?_⟩, ?_, ?_⟩
  · have := hkp0.cell hI.h3 (fun h => h)
    show (wq.setCell _ _).cell? ⟨L.b, 3, none⟩ = _
    rw [World.cell?_setCell_other _ _ _ _ (addr_ne (.inl (Ne.symm hbT)))]; exact this
  · intro i hi
    exact hcell _ _ (by omega) (hI.e0 i hi)
  · intro i hi
    by_cases e : i = k
    · subst e
      have h0 : wq.cell? ⟨L.gT, i * 3 + 1, none⟩ = some _ := hkp0.cell (hI.e1 i hi) (fun h => h)
      show (wq.setCell _ _).cell? ⟨L.gT, i * 3 + 1, none⟩ = _
      rw [World.cell?_setCell_same _ _ _ h0]
      simp [Lists.grown]
    · have h0 := hI.e1 i hi
      have := hcell _ _ (by omega) h0
      show (wq.setCell _ _).cell? ⟨L.gT, i * 3 + 1, none⟩ = _
      rw [this]
      simp only [Lists.grown, if_neg e]
      by_cases h : i < k
      · rw [if_pos h, if_pos h, if_pos h, if_pos (by omega), if_pos (by omega), if_pos (by omega)]
      · rw [if_neg h, if_neg h, if_neg h, if_neg (by omega), if_neg (by omega), if_neg (by omega)]
  · intro i hi
    exact hcell _ _ (by omega) (hI.e2 i hi)
  · intro o
    show (wq.setCell _ _).frozen? ⟨L.gT, o, none⟩ = false
    have := hI.fT o
    rw [World.frozen?_setCell]
    exact (World.frozen?_of_block (w := wr) (hq L.gT hT)).trans this
  · show L.gT < (wq.setCell _ _).heap.size
    simp [World.setCell]; omega
  · intro i hi
    have hne : ∀ x : Nat, x ≠ L.gT → ∀ q v, wq.cell? ⟨x, q, none⟩ = some v → (wq.setCell ⟨L.gT, k * 3 + 1, none⟩ (.slice (some ⟨gg, 0, none⟩) (L.n k + 40) cap)).cell? ⟨x, q, none⟩ = some v := fun x hx q v hv => by
      rw [World.cell?_setCell_other _ _ _ _ (addr_ne (.inl (Ne.symm hx)))]; exact hv
    by_cases e : i = k
    · subst e
      simp only [if_pos]
      exact ⟨by simp [World.setCell]; exact hgg, by omega, fun q hq' => hne gg (by omega) q _ (hc q hq')⟩
    · simp only [if_neg e]
      have hm := (hM.kept hkp) i (by omega)
      exact ⟨by simp [World.setCell]; exact hm.1, hm.2.1, fun q hq' => hne _ hm.2.1 q _ (hm.2.2 q hq')⟩
  · exact (hK.trans hkp).setCell rfl _

set_option maxHeartbeats 1000000 in
set_option maxRecDepth 100000 in
theorem growText_any (L : Lists) (F : L.Fit) (hbT : L.b ≠ L.gT) (w : World) (hI : L.In w) (hM : ∀ i, i < L.N → w.heap[L.g i]? = some (.cells (Array.replicate (L.n i) (.string (wordS (L.id i)))) 9 (0, 0))) :
    Calls Tryd.prog 38 #[.pointer (some ⟨L.b, 0, none⟩)] w (Grows L w) := by
  have HI := Lib.hid hI; clear hI
  have HM := Lib.hid hM; clear hM
  have hN := F.hN
  go_enter Tryd.func38, Tryd.ntmps38
  go_wp2
  go_loopw [2, 3, 4, 5] (fun i _ _ _ wr => ∃ k : Nat, k ≤ L.N ∧ i = .int .i64 k ∧ GrowR L w k wr) (fun i _ _ _ _ => L.N - (intOf i).toNat)
  case atStart => exact ⟨0, Nat.zero_le _, rfl, fun _ => 0, fun _ => 0, by rw [Lists.grown_zero]; exact HI.out, fun i hi => absurd hi (by omega), Kept.refl _ _⟩
  case round =>
    obtain ⟨k, hk, rfl, d, cp, hIr, hMr, hKr⟩ := hrel
    have h3 := hIr.h3
    have HIr := Lib.hid hIr; clear hIr
    have HMr := Lib.hid hMr; clear hMr
    have HKr := Lib.hid hKr; clear hKr
    simp only [Lists.grown] at h3
    by_cases hlt : k < L.N
    · have c1 := HIr.out.e0 k hlt
      have c2 := HIr.out.e1 k hlt
      have c3 := HIr.out.e2 k hlt
      simp only [Lists.grown, Nat.lt_irrefl, if_false] at c1 c2 c3
      have hlt' : (k : Int) < (L.N : Int) := by omega
      have hid := F.hid k hlt
      have hnk := F.hn k hlt
      obtain ⟨wo, rfl⟩ : ∃ wo : World, wo = wr := ⟨_, rfl⟩
      have HRow : Hid (wo.heap[L.g k]? = some (.cells (Array.replicate (L.n k) (.string (wordS (L.id k)))) 9 (0, 0))) := Lib.hid ((HKr.out.block (L.g k) (lt_of_block (HM.out k hlt)) (F.hT k hlt)).trans (HM.out k hlt))
      have hgl : L.g k < wo.heap.size := lt_of_block HRow.out
      go_wp2
      go_loopw [4, 5] (fun v i wq => ∃ j : Nat, j ≤ 40 ∧ i = .int .i64 j ∧ wq.cell? ⟨wo.heap.size, 2, none⟩ = some (.int .i64 (L.id k)) ∧ Long (wo.heap.size + 1) (L.g k) (L.n k) (L.id k) j v wq ∧ (∀ q, q < wo.heap.size → wq.heap[q]? = wo.heap[q]?) ∧ wo.heap.size + 1 ≤ wq.heap.size ∧ wq.os = wo.os ∧ wq.tape = wo.tape ∧ wq.output = wo.output) (fun _ i _ => 40 - (intOf i).toNat)
      case atStart => exact ⟨0, Nat.zero_le _, rfl, by rw [World.cell?_alloc_at _ _ _ _ rfl]; rfl, .inl ⟨rfl, rfl⟩, fun q hq => Below.heap_alloc _ _ _ hq, by simp, rfl, rfl, rfl⟩
      case round =>
        obtain ⟨j, hj, rfl, d2, hL, hq, hs, ho1, ho2, ho3⟩ := hrel
        have HL := Lib.hid hL; clear hL
        have HQ := Lib.hid hq; clear hq
        have HO := Lib.hid (And.intro ho1 (And.intro ho2 ho3)); clear ho1 ho2 ho3
        by_cases hjl : j < 40
        · obtain ⟨v', w1, hrun, hL', hq', hs', hos⟩ := long_step (wo.heap.size + 1) (L.g k) (L.n k) (L.id k) j _ wr hnk hjl hs ((HQ.out _ hgl).trans HRow.out) HL.out
          have HRun := Lib.hid hrun
          have HL' := Lib.hid hL'
          have HQ' := Lib.hid hq'
          have HOs := Lib.hid hos
          have d2' : w1.cell? ⟨wo.heap.size, 2, none⟩ = some (.int .i64 (L.id k)) := (World.cell?_of_block (w := wr) (hq' wo.heap.size (by omega))).trans d2
          clear hrun hL' hq' hos
          go_wp2_with (first | (go_at_call 68; refine (markText_any (L.id k) hid _).mono ?_; rintro e w' ⟨rfl, rfl⟩) | (at_builtin; refine append_ran (by rfl) _ _ 25 rfl _ _ _ _ rfl rfl HRun.out ?_))
          refine ⟨⟨j + 1, by omega, by go_num, d2', HL'.out, fun q hq => (HQ'.out q (by omega)).trans (HQ.out q hq), by omega, HOs.out.1.trans HO.out.1, HOs.out.2.1.trans HO.out.2.1, HOs.out.2.2.trans HO.out.2.2⟩, by simp [intOf]; omega⟩
        · obtain rfl : j = 40 := by omega
          rcases HL.out with ⟨h0, _⟩ | ⟨_, hown⟩
          · omega
          · obtain ⟨gg, cap, rfl, hgb, hgl', hcs⟩ := own_cells (by omega) hown
            have HCs := Lib.hid hcs; clear hcs hown
            have h3' : wr.cell? ⟨L.b, 3, none⟩ = some (.slice (some ⟨L.gT, 0, none⟩) L.N L.cT) := by
              rw [World.cell?_of_block (w := wo) (a := ⟨L.b, 3, none⟩) (HQ.out L.b (block_lt_of_cell h3))]; exact h3
            have c2' : wr.cell? ⟨L.gT, k * 3 + 1, none⟩ = some (.slice (L.la k) (L.ln k) (L.lc k)) := by
              rw [World.cell?_of_block (w := wo) (a := ⟨L.gT, k * 3 + 1, none⟩) (HQ.out L.gT HIr.out.lT)]; exact c2
            have f2' : wr.frozen? ⟨L.gT, k * 3 + 1, none⟩ = false := by
              rw [World.frozen?_of_block (w := wo) (a := ⟨L.gT, k * 3 + 1, none⟩) (HQ.out L.gT HIr.out.lT)]; exact HIr.out.fT _
            have HNext : Hid (GrowR L w (k + 1) (wr.setCell ⟨L.gT, k * 3 + 1, none⟩ (.slice (some ⟨gg, 0, none⟩) (L.n k + 40) cap))) := Lib.hid (grow_next hlt HIr.out HMr.out HKr.out HQ.out (by omega) HO.out.1 HO.out.2.1 HO.out.2.2 hbT hgl' (by omega) HCs.out)
            clear HCs HQ HO HL
            go_wp2
            exact ⟨⟨k + 1, by omega, by go_num, HNext.out⟩, by simp [intOf]; omega⟩
    · obtain rfl : k = L.N := by omega
      go_wp2
      go_end0
      exact ⟨rfl, d, cp, HIr.out, HMr.out, HKr.out⟩

end Go.Proofs.YtjeejpgkhjblnaaDoor
