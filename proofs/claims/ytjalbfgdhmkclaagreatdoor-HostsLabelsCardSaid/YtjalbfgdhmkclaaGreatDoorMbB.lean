/-
  Contracts: growText.
  Contracts: lookText.
  Contracts: Apart, at lists of texts alone.
-/
import Derived.Test.YtjalbfgdhmkclaaGreatDoorMbA
namespace Go.Proofs.YtjalbfgdhmkclaaGreatDoor
open Go.RowKit

/-- What growText leaves. -/
def Grows (L : Lists) (w : World) (e : Ending) (w' : World) : Prop :=
  e = .returned (.tuple #[]) ∧ ∃ d cp, (L.grown L.N d cp).In w' ∧ Marks L L.N d w' ∧ Kept (fun q => q = L.gT) w w'
/-- The relation of its outer loop. -/
def GrowR (L : Lists) (w : World) (k : Nat) (wr : World) : Prop := ∃ d cp, (L.grown k d cp).In wr ∧ Marks L k d wr ∧ Kept (fun q => q = L.gT) w wr
theorem Marks.kept {L : Lists} {k : Nat} {d : Nat → Nat} {w w' : World} (h : Marks L k d w) (hk : Kept (fun q => q = L.gT) w w') : Marks L k d w' := fun i hi =>
  ⟨Nat.lt_of_lt_of_le (h i hi).1 hk.size, (h i hi).2.1, fun q hq => hk.cell ((h i hi).2.2 q hq) (h i hi).2.1⟩
theorem bk_own_cells {w : World} {base n : Nat} {e : TypeId} {v : Value} {x : Value} (hn : 0 < n) (h : w.ownsRow base e 1 v n (List.replicate n x)) :
    ∃ g cap, v = .slice (some ⟨g, 0, none⟩) n cap ∧ base ≤ g ∧ g < w.heap.size ∧ ∀ j, j < n → w.cell? ⟨g, j, none⟩ = some x := by
  obtain ⟨h1, h2⟩ := h
  rcases h2 with ⟨_, h2⟩ | ⟨g, cap, cur, rfl, hg, hh, hc⟩
  · omega
  · refine ⟨g, cap, rfl, hg, lt_of_block hh, fun j hj => ?_⟩
    have := World.ownsRow.cellAt (base := base) (e := e) (size := 1) (cap := cap) (n := n) (xs := List.replicate n x) ⟨h1, .inr ⟨g, cap, cur, rfl, hg, hh, hc⟩⟩ j (by omega)
    rw [this, List.getElem?_replicate, if_pos hj]
theorem addr_ne {a b c d : Nat} (h : a ≠ c ∨ b ≠ d) : (⟨a, b, none⟩ : Addr) ≠ ⟨c, d, none⟩ := by
  intro e
  simp only [Addr.mk.injEq, and_true] at e
  rcases h with h | h
  · exact h e.1
  · exact h e.2
/-- One list more has its longer copy. -/
theorem grow_next {L : Lists} {w wr wq : World} {k gg cap : Nat} {d cp : Nat → Nat} (hlt : k < L.N) (hI : (L.grown k d cp).In wr) (hM : Marks L k d wr) (hK : Kept (fun q => q = L.gT) w wr)
    (hq : ∀ q, q < wr.heap.size → wq.heap[q]? = wr.heap[q]?) (hs : wr.heap.size ≤ wq.heap.size) (h1 : wq.os = wr.os) (h2 : wq.tape = wr.tape) (h3 : wq.output = wr.output) (hbT : L.b ≠ L.gT)
    (hgg : gg < wq.heap.size) (hgT : wr.heap.size ≤ gg) (hc : ∀ j, j < L.n k + 40 → wq.cell? ⟨gg, j, none⟩ = some (.string (wordS (L.id k)))) :
    GrowR L w (k + 1) (wq.setCell ⟨L.gT, k * 3 + 1, none⟩ (.slice (some ⟨gg, 0, none⟩) (L.n k + 40) cap)) := by
  have hT : L.gT < wr.heap.size := hI.lT
  have hkp : Kept (fun q => q = L.gT) wr wq := ⟨h1, h2, h3, hs, fun q hq' _ => hq q hq'⟩
  have hkp0 : Kept (fun _ => False) wr wq := ⟨h1, h2, h3, hs, fun q hq' _ => hq q hq'⟩
  have hcell : ∀ (o : Nat) (v : Value), o ≠ k * 3 + 1 → wr.cell? ⟨L.gT, o, none⟩ = some v → (wq.setCell ⟨L.gT, k * 3 + 1, none⟩ (.slice (some ⟨gg, 0, none⟩) (L.n k + 40) cap)).cell? ⟨L.gT, o, none⟩ = some v := fun o v ho hv => by
    rw [World.cell?_setCell_other _ _ _ _ (addr_ne (.inr (Ne.symm ho)))]; exact hkp0.cell hv (fun h => h)
  refine ⟨fun i => if i = k then gg else d i, fun i => if i = k then cap else cp i, ⟨?_, ?_, ?_, ?_, ?_, ?_⟩, ?_, ?_⟩
  · have := hkp0.cell hI.h3 (fun h => h)
    show (wq.setCell _ _).cell? ⟨L.b, 3, none⟩ = _
    rw [World.cell?_setCell_other _ _ _ _ (addr_ne (.inl (Ne.symm hbT)))]; exact this
  · intro i hi
    exact hcell _ _ (by omega) (hI.e0 i hi)
  · intro i hi
    by_cases e : i = k
    · subst e
      have h0 : wq.cell? ⟨L.gT, i * 3 + 1, none⟩ = some _ := hkp0.cell (hI.e1 i hi) (fun h => h)
      show (wq.setCell _ _).cell? ⟨L.gT, i * 3 + 1, none⟩ = _
      rw [World.cell?_setCell_same _ _ _ h0]
      simp [Lists.grown]
    · have h0 := hI.e1 i hi
      have := hcell _ _ (by omega) h0
      show (wq.setCell _ _).cell? ⟨L.gT, i * 3 + 1, none⟩ = _
      rw [this]
      simp only [Lists.grown, if_neg e]
      by_cases h : i < k
      · rw [if_pos h, if_pos h, if_pos h, if_pos (by omega), if_pos (by omega), if_pos (by omega)]
      · rw [if_neg h, if_neg h, if_neg h, if_neg (by omega), if_neg (by omega), if_neg (by omega)]
  · intro i hi
    exact hcell _ _ (by omega) (hI.e2 i hi)
  · intro o
    show (wq.setCell _ _).frozen? ⟨L.gT, o, none⟩ = false
    have := hI.fT o
    rw [World.frozen?_setCell]
    exact (World.frozen?_of_block (w := wr) (hq L.gT hT)).trans this
  · show L.gT < (wq.setCell _ _).heap.size
    simp [World.setCell]; omega
  · intro i hi
    have hne : ∀ x : Nat, x ≠ L.gT → ∀ q v, wq.cell? ⟨x, q, none⟩ = some v → (wq.setCell ⟨L.gT, k * 3 + 1, none⟩ (.slice (some ⟨gg, 0, none⟩) (L.n k + 40) cap)).cell? ⟨x, q, none⟩ = some v := fun x hx q v hv => by
      rw [World.cell?_setCell_other _ _ _ _ (addr_ne (.inl (Ne.symm hx)))]; exact hv
    by_cases e : i = k
    · subst e
      simp only [if_pos]
      exact ⟨by simp [World.setCell]; exact hgg, by omega, fun q hq' => hne gg (by omega) q _ (hc q hq')⟩
    · simp only [if_neg e]
      have hm := (hM.kept hkp) i (by omega)
      exact ⟨by simp [World.setCell]; exact hm.1, hm.2.1, fun q hq' => hne _ hm.2.1 q _ (hm.2.2 q hq')⟩
  · exact (hK.trans hkp).setCell rfl _

set_option maxHeartbeats 1000000 in
set_option maxRecDepth 100000 in
theorem growText_any (L : Lists) (F : L.Fit) (hbT : L.b ≠ L.gT) (w : World) (hI : L.In w) (hM : ∀ i, i < L.N → L.z i = false → w.heap[L.g i]? = some (.cells (Array.replicate (L.n i) (.string (wordS (L.id i)))) 9 (0, 0))) :
    Calls Tryz.prog 51 #[.pointer (some ⟨L.b, 0, none⟩)] w (Grows L w) := by
  have HI := Lib.hid hI; clear hI
  have HM := Lib.hid hM; clear hM
  have hN := F.hN
  go_enter Tryz.func51, Tryz.ntmps51
  go_wp2
  go_loopw [2, 3, 4, 5] (fun i _ _ _ wr => ∃ k : Nat, k ≤ L.N ∧ i = .int .i64 k ∧ GrowR L w k wr) (fun i _ _ _ _ => L.N - (intOf i).toNat)
  case atStart => exact ⟨0, Nat.zero_le _, rfl, fun _ => 0, fun _ => 0, by rw [Lists.grown_zero]; exact HI.out, fun i hi => absurd hi (by omega), Kept.refl _ _⟩
  case round =>
    obtain ⟨k, hk, rfl, d, cp, hIr, hMr, hKr⟩ := hrel
    have h3 := hIr.h3
    have HIr := Lib.hid hIr; clear hIr
    have HMr := Lib.hid hMr; clear hMr
    have HKr := Lib.hid hKr; clear hKr
    simp only [Lists.grown] at h3
    by_cases hlt : k < L.N
    · have c1 : wr.cell? ⟨L.gT, k * 3, none⟩ = some (.slice (L.ad k) (L.n k) (L.n k)) := HIr.out.e0 k hlt
      have c2 := HIr.out.e1 k hlt
      have c3 := HIr.out.e2 k hlt
      simp only [Lists.grown, Nat.lt_irrefl, if_false] at c2 c3
      have hlt' : (k : Int) < (L.N : Int) := by omega
      have hid := F.hid k hlt
      have hnk := F.hn k hlt
      obtain ⟨wo, rfl⟩ : ∃ wo : World, wo = wr := ⟨_, rfl⟩
      cases hz : L.z k
      · rw [L.ad_no hz] at c1
        have HRow : Hid (wo.heap[L.g k]? = some (.cells (Array.replicate (L.n k) (.string (wordS (L.id k)))) 9 (0, 0))) := Lib.hid ((HKr.out.block (L.g k) (lt_of_block (HM.out k hlt hz)) (F.hT k hlt)).trans (HM.out k hlt hz))
        have hgl : L.g k < wo.heap.size := lt_of_block HRow.out
        go_wp2
        go_loopw [4, 5] (fun v i wq => ∃ j : Nat, j ≤ 40 ∧ i = .int .i64 j ∧ wq.cell? ⟨wo.heap.size, 2, none⟩ = some (.int .i64 (L.id k)) ∧ Long (wo.heap.size + 1) (L.g k) (L.n k) (L.id k) j v wq ∧ (∀ q, q < wo.heap.size → wq.heap[q]? = wo.heap[q]?) ∧ wo.heap.size + 1 ≤ wq.heap.size ∧ wq.os = wo.os ∧ wq.tape = wo.tape ∧ wq.output = wo.output) (fun _ i _ => 40 - (intOf i).toNat)
        case atStart => exact ⟨0, Nat.zero_le _, rfl, by rw [World.cell?_alloc_at _ _ _ _ rfl]; rfl, .inl ⟨rfl, rfl⟩, fun q hq => Below.heap_alloc _ _ _ hq, by simp, rfl, rfl, rfl⟩
        case round =>
          obtain ⟨j, hj, rfl, d2, hL, hq, hs, ho1, ho2, ho3⟩ := hrel
          have HL := Lib.hid hL; clear hL
          have HQ := Lib.hid hq; clear hq
          have HO := Lib.hid (And.intro ho1 (And.intro ho2 ho3)); clear ho1 ho2 ho3
          by_cases hjl : j < 40
          · obtain ⟨v', w1, hrun, hL', hq', hs', hos⟩ := long_step (wo.heap.size + 1) (L.g k) (L.n k) (L.id k) j _ wr hnk hjl hs ((HQ.out _ hgl).trans HRow.out) HL.out
            have HRun := Lib.hid hrun
            have HL' := Lib.hid hL'
            have HQ' := Lib.hid hq'
            have HOs := Lib.hid hos
            have d2' : w1.cell? ⟨wo.heap.size, 2, none⟩ = some (.int .i64 (L.id k)) := (World.cell?_of_block (w := wr) (hq' wo.heap.size (by omega))).trans d2
            clear hrun hL' hq' hos
            go_wp2_with (first | (go_at_call 102; refine (markText_any (L.id k) hid _).mono ?_; rintro e w' ⟨rfl, rfl⟩) | (at_builtin; refine append_ran (by rfl) _ _ 27 rfl _ _ _ _ rfl rfl HRun.out ?_))
            refine ⟨⟨j + 1, by omega, by go_num, d2', HL'.out, fun q hq => (HQ'.out q (by omega)).trans (HQ.out q hq), by omega, HOs.out.1.trans HO.out.1, HOs.out.2.1.trans HO.out.2.1, HOs.out.2.2.trans HO.out.2.2⟩, by simp [intOf]; omega⟩
          · obtain rfl : j = 40 := by omega
            rcases HL.out with ⟨h0, _⟩ | ⟨_, hown⟩
            · omega
            · obtain ⟨gg, cap, rfl, hgb, hgl', hcs⟩ := bk_own_cells (by omega) hown
              have HCs := Lib.hid hcs; clear hcs hown
              have h3' : wr.cell? ⟨L.b, 3, none⟩ = some (.slice (some ⟨L.gT, 0, none⟩) L.N L.cT) := by
                rw [World.cell?_of_block (w := wo) (a := ⟨L.b, 3, none⟩) (HQ.out L.b (block_lt_of_cell h3))]; exact h3
              have c2' : wr.cell? ⟨L.gT, k * 3 + 1, none⟩ = some (.slice (L.la k) (L.ln k) (L.lc k)) := by
                rw [World.cell?_of_block (w := wo) (a := ⟨L.gT, k * 3 + 1, none⟩) (HQ.out L.gT HIr.out.lT)]; exact c2
              have f2' : wr.frozen? ⟨L.gT, k * 3 + 1, none⟩ = false := by
                rw [World.frozen?_of_block (w := wo) (a := ⟨L.gT, k * 3 + 1, none⟩) (HQ.out L.gT HIr.out.lT)]; exact HIr.out.fT _
              have HNext : Hid (GrowR L w (k + 1) (wr.setCell ⟨L.gT, k * 3 + 1, none⟩ (.slice (some ⟨gg, 0, none⟩) (L.n k + 40) cap))) := Lib.hid (grow_next hlt HIr.out HMr.out HKr.out HQ.out (by omega) HO.out.1 HO.out.2.1 HO.out.2.2 hbT hgl' (by omega) HCs.out)
              clear HCs HQ HO HL
              go_wp2
              exact ⟨⟨k + 1, by omega, by go_num, HNext.out⟩, by simp [intOf]; omega⟩
      · rw [L.ad_yes hz, F.hz k hlt hz] at c1
        have HZk := Lib.hid hz
        clear hz
        go_wp2
        go_loopw [4, 5] (fun v i wq => ∃ j : Nat, j ≤ 40 ∧ i = .int .i64 j ∧ wq.cell? ⟨wo.heap.size, 2, none⟩ = some (.int .i64 (L.id k)) ∧ Hid (wq.ownsRow (wo.heap.size + 1) 9 1 v j (List.replicate j (.string (wordS (L.id k))))) ∧ (∀ q, q < wo.heap.size → wq.heap[q]? = wo.heap[q]?) ∧ wo.heap.size + 1 ≤ wq.heap.size ∧ wq.os = wo.os ∧ wq.tape = wo.tape ∧ wq.output = wo.output) (fun _ i _ => 40 - (intOf i).toNat)
        case atStart => exact ⟨0, Nat.zero_le _, rfl, by rw [World.cell?_alloc_at _ _ _ _ rfl]; rfl, Lib.hid (World.ownsRow_nil _ _ _ _), fun q hq => Below.heap_alloc _ _ _ hq, by simp, rfl, rfl, rfl⟩
        case round =>
          obtain ⟨j, hj, rfl, d2, HL, hq, hs, ho1, ho2, ho3⟩ := hrel
          have HQ := Lib.hid hq; clear hq
          have HO := Lib.hid (And.intro ho1 (And.intro ho2 ho3)); clear ho1 ho2 ho3
          by_cases hjl : j < 40
          · obtain ⟨v', w1, hrun, hL', hq', hs', hos⟩ := long0_step (wo.heap.size + 1) (L.id k) j _ wr hjl hs HL.out
            have HRun := Lib.hid hrun
            have HL' := Lib.hid hL'
            have HQ' := Lib.hid hq'
            have HOs := Lib.hid hos
            have d2' : w1.cell? ⟨wo.heap.size, 2, none⟩ = some (.int .i64 (L.id k)) := (World.cell?_of_block (w := wr) (hq' wo.heap.size (by omega))).trans d2
            clear hrun hL' hq' hos
            go_wp2_with (first | (go_at_call 102; refine (markText_any (L.id k) hid _).mono ?_; rintro e w' ⟨rfl, rfl⟩) | (at_builtin; refine append_ran (by rfl) _ _ 27 rfl _ _ _ _ rfl rfl HRun.out ?_))
            refine ⟨⟨j + 1, by omega, by go_num, d2', HL', fun q hq => (HQ'.out q (by omega)).trans (HQ.out q hq), by omega, HOs.out.1.trans HO.out.1, HOs.out.2.1.trans HO.out.2.1, HOs.out.2.2.trans HO.out.2.2⟩, by simp [intOf]; omega⟩
          · obtain rfl : j = 40 := by omega
            obtain ⟨gg, cap, rfl, hgb, hgl', hcs⟩ := bk_own_cells (by omega) HL.out
            have HCs := Lib.hid hcs; clear hcs
            have h3' : wr.cell? ⟨L.b, 3, none⟩ = some (.slice (some ⟨L.gT, 0, none⟩) L.N L.cT) := by
              rw [World.cell?_of_block (w := wo) (a := ⟨L.b, 3, none⟩) (HQ.out L.b (block_lt_of_cell h3))]; exact h3
            have c2' : wr.cell? ⟨L.gT, k * 3 + 1, none⟩ = some (.slice (L.la k) (L.ln k) (L.lc k)) := by
              rw [World.cell?_of_block (w := wo) (a := ⟨L.gT, k * 3 + 1, none⟩) (HQ.out L.gT HIr.out.lT)]; exact c2
            have f2' : wr.frozen? ⟨L.gT, k * 3 + 1, none⟩ = false := by
              rw [World.frozen?_of_block (w := wo) (a := ⟨L.gT, k * 3 + 1, none⟩) (HQ.out L.gT HIr.out.lT)]; exact HIr.out.fT _
            have HNext : Hid (GrowR L w (k + 1) (wr.setCell ⟨L.gT, k * 3 + 1, none⟩ (.slice (some ⟨gg, 0, none⟩) 40 cap))) := Lib.hid (by
              have hn0 := F.hz k hlt HZk.out
              have := grow_next (cap := cap) hlt HIr.out HMr.out HKr.out HQ.out (by omega) HO.out.1 HO.out.2.1 HO.out.2.2 hbT hgl' (by omega) (by rw [hn0]; exact HCs.out)
              rwa [hn0] at this)
            clear HCs HQ HO HL
            go_wp2
            exact ⟨⟨k + 1, by omega, by go_num, HNext.out⟩, by simp [intOf]; omega⟩
    · obtain rfl : k = L.N := by omega
      go_wp2
      go_end0
      exact ⟨rfl, d, cp, HIr.out, HMr.out, HKr.out⟩

end Go.Proofs.YtjalbfgdhmkclaaGreatDoor
namespace Go.Proofs.YtjalbfgdhmkclaaGreatDoor
open Go.RowKit

theorem isText_back (i : Nat) (hi : i < 100) (w : World) :
    Calls Tryz.prog 110 #[.string (wordS i), .int .i64 i] w fun e w' => e = .returned (.bool true) ∧ w' = w :=
  (isText_yes i hi w).mono fun _ _ ⟨he, hw⟩ => ⟨he, hw.symm⟩

set_option maxHeartbeats 1000000 in
set_option maxRecDepth 100000 in
theorem lookText_any (L : Lists) (F : L.Fit) (d : Nat → Nat) (w : World) (hI : L.In w) (hla : ∀ i, i < L.N → L.la i = some ⟨d i, 0, none⟩ ∧ L.ln i = L.n i + 40)
    (hm : ∀ i, i < L.N → ∀ q, q < L.n i + 40 → w.cell? ⟨d i, q, none⟩ = some (.string (wordS (L.id i)))) (hl : ∀ i, i < L.N → ∀ q, q < L.n i → w.cell? ⟨L.g i, q, none⟩ = some (.string (wordS (L.id i)))) :
    Calls Tryz.prog 59 #[.pointer (some ⟨L.b, 0, none⟩)] w fun e w' => e = .returned (.bool true) ∧ Below w.heap.size w w' := by
  have HI := Lib.hid hI; clear hI
  have HLa := Lib.hid hla; clear hla
  have HMk := Lib.hid hm; clear hm
  have HLk := Lib.hid hl; clear hl
  have hN := F.hN
  go_enter Tryz.func59, Tryz.ntmps59
  go_wp2
  go_loopw [3, 4, 5] (fun i _ _ wr => ∃ k : Nat, k ≤ L.N ∧ i = .int .i64 k ∧ Below w.heap.size w wr) (fun i _ _ _ => L.N - (intOf i).toNat)
  case atStart => exact ⟨0, Nat.zero_le _, rfl, Below.refl _ _⟩
  case round =>
    obtain ⟨k, hk, rfl, hB⟩ := hrel
    have h3 := (hB.cell (block_lt_of_cell HI.out.h3)).trans HI.out.h3
    have HB := Lib.hid hB; clear hB
    by_cases hlt : k < L.N
    · obtain ⟨wo, rfl⟩ : ∃ wo : World, wo = wr := ⟨_, rfl⟩
      have c1 := (HB.out.cell (block_lt_of_cell (HI.out.e0 k hlt))).trans (HI.out.e0 k hlt)
      have c2 := (HB.out.cell (block_lt_of_cell (HI.out.e1 k hlt))).trans (HI.out.e1 k hlt)
      have c3 := (HB.out.cell (block_lt_of_cell (HI.out.e2 k hlt))).trans (HI.out.e2 k hlt)
      rw [(HLa.out k hlt).1, (HLa.out k hlt).2] at c2
      have hlt' : (k : Int) < (L.N : Int) := by omega
      have hid := F.hid k hlt
      have hnk := F.hn k hlt
      cases hz : L.z k
      · rw [L.ad_no hz] at c1
        go_wp2
        go_loopw [5] (fun i wq => ∃ j : Nat, j ≤ L.n k + 40 ∧ i = .int .i64 j ∧ ∃ n, wq = (wo.alloc (.cells #[.slice (some ⟨L.g k, 0, none⟩) (L.n k) (L.n k), .slice (some ⟨d k, 0, none⟩) (L.n k + 40) (L.lc k), .int .i64 (L.id k)] 94)).drewN n) (fun i _ => L.n k + 40 - (intOf i).toNat)
        case atStart => exact ⟨0, Nat.zero_le _, rfl, 0, rfl⟩
        case round =>
          obtain ⟨j, hj, rfl, m, hX⟩ := hrel
          have d0 : wr.cell? ⟨wo.heap.size, 0, none⟩ = some (.slice (some ⟨L.g k, 0, none⟩) (L.n k) (L.n k)) := by rw [hX, World.cell?_drewN, World.cell?_alloc_at _ _ _ _ rfl]; rfl
          have d1 : wr.cell? ⟨wo.heap.size, 1, none⟩ = some (.slice (some ⟨d k, 0, none⟩) (L.n k + 40) (L.lc k)) := by rw [hX, World.cell?_drewN, World.cell?_alloc_at _ _ _ _ rfl]; rfl
          have d2 : wr.cell? ⟨wo.heap.size, 2, none⟩ = some (.int .i64 (L.id k)) := by rw [hX, World.cell?_drewN, World.cell?_alloc_at _ _ _ _ rfl]; rfl
          have hold : ∀ (p : Addr) (v : Value), wo.cell? p = some v → wr.cell? p = some v := fun p v hv => by rw [hX, World.cell?_drewN]; exact cell_old _ hv
          have HOld := Lib.hid hold; clear hold
          have HX := Lib.hid hX; clear hX
          by_cases hjl : j < L.n k + 40
          · have hjl' : (j : Int) < (L.n k : Int) + 40 := by omega
            have hjl2 : (j : Int) < ((L.n k + 40 : Nat) : Int) := by omega
            have m1 : wr.cell? ⟨d k, j, none⟩ = some (.string (wordS (L.id k))) :=
              HOld.out _ _ ((HB.out.cell (block_lt_of_cell (HMk.out k hlt j hjl))).trans (HMk.out k hlt j hjl))
            by_cases hjn : j < L.n k
            · have hjn' : (j : Int) < (L.n k : Int) := by omega
              have m0 : wr.cell? ⟨L.g k, j, none⟩ = some (.string (wordS (L.id k))) :=
                HOld.out _ _ ((HB.out.cell (block_lt_of_cell (HLk.out k hlt j hjn))).trans (HLk.out k hlt j hjn))
              go_wp2
              go_quiet ((go_at_call 110; exact Calls.quiet_of_same (isText_back (L.id k) hid _)))
              go_wp2
              exact ⟨⟨j + 1, by omega, by go_num, m + nq, by rw [HX.out, World.drewN_drewN]⟩, by simp [intOf]; omega⟩
            · have hjn' : (L.n k : Int) ≤ (j : Int) := by omega
              have hdec : decide ((j : Int) < (L.n k : Int)) = false := by simp; omega
              have hdec' : decide (j < L.n k) = false := by simp; omega
              go_wp2
              go_quiet ((go_at_call 110; exact Calls.quiet_of_same (isText_back (L.id k) hid _)))
              go_wp2
              exact ⟨⟨j + 1, by omega, by go_num, m + nq, by rw [HX.out, World.drewN_drewN]⟩, by simp [intOf]; omega⟩
          · obtain rfl : j = L.n k + 40 := by omega
            have HBn : Hid (Below w.heap.size w wr) := Lib.hid (by
              rw [HX.out]
              have h := HB.out.alloc HB.out.size (.cells #[.slice (some ⟨L.g k, 0, none⟩) (L.n k) (L.n k), .slice (some ⟨d k, 0, none⟩) (L.n k + 40) (L.lc k), .int .i64 (L.id k)] 94)
              exact ⟨h.os, h.tape, h.output, h.size, h.block⟩)
            go_wp2
            exact ⟨⟨k + 1, by omega, by go_num, HBn.out⟩, by simp [intOf]; omega⟩
      · rw [L.ad_yes hz, F.hz k hlt hz] at c1
        rw [F.hz k hlt hz] at c2
        clear hz
        go_wp2
        go_loopw [5] (fun i wq => ∃ j : Nat, j ≤ 40 ∧ i = .int .i64 j ∧ ∃ n, wq = (wo.alloc (.cells #[.slice none 0 0, .slice (some ⟨d k, 0, none⟩) (40) (L.lc k), .int .i64 (L.id k)] 94)).drewN n) (fun i _ => 40 - (intOf i).toNat)
        case atStart => exact ⟨0, Nat.zero_le _, rfl, 0, rfl⟩
        case round =>
          obtain ⟨j, hj, rfl, m, hX⟩ := hrel
          have d0 : wr.cell? ⟨wo.heap.size, 0, none⟩ = some (.slice none 0 0) := by rw [hX, World.cell?_drewN, World.cell?_alloc_at _ _ _ _ rfl]; rfl
          have d1 : wr.cell? ⟨wo.heap.size, 1, none⟩ = some (.slice (some ⟨d k, 0, none⟩) (40) (L.lc k)) := by rw [hX, World.cell?_drewN, World.cell?_alloc_at _ _ _ _ rfl]; rfl
          have d2 : wr.cell? ⟨wo.heap.size, 2, none⟩ = some (.int .i64 (L.id k)) := by rw [hX, World.cell?_drewN, World.cell?_alloc_at _ _ _ _ rfl]; rfl
          have hold : ∀ (p : Addr) (v : Value), wo.cell? p = some v → wr.cell? p = some v := fun p v hv => by rw [hX, World.cell?_drewN]; exact cell_old _ hv
          have HOld := Lib.hid hold; clear hold
          have HX := Lib.hid hX; clear hX
          by_cases hjl : j < 40
          · have hjl' : (j : Int) < 40 := by omega
            have m1 : wr.cell? ⟨d k, j, none⟩ = some (.string (wordS (L.id k))) :=
              HOld.out _ _ ((HB.out.cell (block_lt_of_cell (HMk.out k hlt j (by omega)))).trans (HMk.out k hlt j (by omega)))
            have hdec : decide ((j : Int) < 0) = false := by simp
            have hj0 : (0 : Int) ≤ (j : Int) := by omega
            go_wp2
            go_quiet ((go_at_call 110; exact Calls.quiet_of_same (isText_back (L.id k) hid _)))
            go_wp2
            exact ⟨⟨j + 1, by omega, by go_num, m + nq, by rw [HX.out, World.drewN_drewN]⟩, by simp [intOf]; omega⟩
          · obtain rfl : j = 40 := by omega
            have HBn : Hid (Below w.heap.size w wr) := Lib.hid (by
              rw [HX.out]
              have h := HB.out.alloc HB.out.size (.cells #[.slice none 0 0, .slice (some ⟨d k, 0, none⟩) (40) (L.lc k), .int .i64 (L.id k)] 94)
              exact ⟨h.os, h.tape, h.output, h.size, h.block⟩)
            go_wp2
            exact ⟨⟨k + 1, by omega, by go_num, HBn.out⟩, by simp [intOf]; omega⟩
    · obtain rfl : k = L.N := by omega
      go_wp2
      go_ret
      exact ⟨rfl, HB.out⟩

end Go.Proofs.YtjalbfgdhmkclaaGreatDoor
namespace Go.Proofs.YtjalbfgdhmkclaaGreatDoor
open Go.RowKit

/-- Of no other kind a list was kept. -/
def NoOther (b : Nat) (w : World) : Prop := ∀ f, f = 1 ∨ f = 2 ∨ f = 4 ∨ f = 5 ∨ f = 6 ∨ f = 7 ∨ f = 8 → w.cell? ⟨b, f, none⟩ = some (.slice none 0 0)
theorem NoOther.kept {b : Nat} {X : Nat → Prop} {w w' : World} (h : NoOther b w) (k : Kept X w w') (hb : ¬ X b) : NoOther b w' := fun f hf => k.cell (h f hf) hb

set_option maxHeartbeats 2000000 in
set_option maxRecDepth 100000 in
theorem Apart_any (L : Lists) (F : L.Fit) (hbT : L.b ≠ L.gT) (C : Nat → Array Value) (w : World) (hI : L.In w) (hC : ∀ i, i < L.N → L.z i = false → w.heap[L.g i]? = some (.cells (C i) 9 (0, 0)) ∧ (C i).size = L.n i) (hO : NoOther L.b w) :
    Calls Tryz.prog 19 #[.pointer (some ⟨L.b, 0, none⟩)] w fun e w' => e = .returned (.bool true) ∧ Kept (fun q => L.X q ∨ q = L.gT) w w' := by
  have hbX : ¬ L.X L.b := fun ⟨i, hi, e⟩ => F.hb i hi e.symm
  have HI := Lib.hid hI; clear hI
  have HC := Lib.hid hC; clear hC
  have HO := Lib.hid hO; clear hO
  have HbX := Lib.hid hbX; clear hbX
  go_enter Tryz.func19, Tryz.ntmps19
  go_wp2_with fail
  refine (fillByte_none L.b _ (HO.out 1 (by omega))).mono ?_
  rintro e w' ⟨rfl, rfl⟩
  go_wp2_with fail
  refine (fillInt_none L.b _ (HO.out 2 (by omega))).mono ?_
  rintro e w' ⟨rfl, rfl⟩
  go_wp2_with fail
  refine (fillText_any L F C _ HI.out HC.out).mono ?_
  rintro e w1 ⟨rfl, hk1, hm1⟩
  have HO1 := Lib.hid (HO.out.kept hk1 HbX.out)
  have HI1 := Lib.hid (HI.out.kept F hk1)
  have HK1 := Lib.hid hk1
  have HM1 := Lib.hid hm1
  clear hk1 hm1
  go_wp2_with fail
  refine (fillField_none L.b _ (HO1.out 4 (by omega))).mono ?_
  rintro e w' ⟨rfl, rfl⟩
  go_wp2_with fail
  refine (fillCookie_none L.b _ (HO1.out 5 (by omega))).mono ?_
  rintro e w' ⟨rfl, rfl⟩
  go_wp2_with fail
  refine (fillSealed_none L.b _ (HO1.out 6 (by omega))).mono ?_
  rintro e w' ⟨rfl, rfl⟩
  go_wp2_with fail
  refine (fillChange_none L.b _ (HO1.out 7 (by omega))).mono ?_
  rintro e w' ⟨rfl, rfl⟩
  go_wp2_with fail
  refine (fillMessage_none L.b _ (HO1.out 8 (by omega))).mono ?_
  rintro e w' ⟨rfl, rfl⟩
  go_wp2_with fail
  refine (growByte_none L.b _ (HO1.out 1 (by omega))).mono ?_
  rintro e w' ⟨rfl, rfl⟩
  go_wp2_with fail
  refine (growInt_none L.b _ (HO1.out 2 (by omega))).mono ?_
  rintro e w' ⟨rfl, rfl⟩
  go_wp2_with fail
  refine (growText_any L F hbT _ HI1.out HM1.out).mono ?_
  rintro e w2 ⟨rfl, d, cp, hI2, hM2, hk2⟩
  have HO2 := Lib.hid (HO1.out.kept hk2 hbT)
  have HI2 := Lib.hid hI2
  have HK2 := Lib.hid hk2
  have HM2 := Lib.hid hM2
  have HLk : Hid (∀ i, i < L.N → ∀ q, q < L.n i → w2.cell? ⟨L.g i, q, none⟩ = some (.string (wordS (L.id i)))) := Lib.hid (fun i hi q hq => by
    refine hk2.cell ?_ (F.hT i hi)
    have hz : L.z i = false := by
      cases e : L.z i
      · rfl
      · have := F.hz i hi e; omega
    rw [cell_of_row _ _ _ _ _ _ (HM1.out i hi hz), Array.getElem?_replicate, if_pos hq])
  clear hI2 hk2 hM2
  go_wp2_with fail
  refine (growField_none L.b _ (HO2.out 4 (by omega))).mono ?_
  rintro e w' ⟨rfl, rfl⟩
  go_wp2_with fail
  refine (growCookie_none L.b _ (HO2.out 5 (by omega))).mono ?_
  rintro e w' ⟨rfl, rfl⟩
  go_wp2_with fail
  refine (growSealed_none L.b _ (HO2.out 6 (by omega))).mono ?_
  rintro e w' ⟨rfl, rfl⟩
  go_wp2_with fail
  refine (growChange_none L.b _ (HO2.out 7 (by omega))).mono ?_
  rintro e w' ⟨rfl, rfl⟩
  go_wp2_with fail
  refine (growMessage_none L.b _ (HO2.out 8 (by omega))).mono ?_
  rintro e w' ⟨rfl, rfl⟩
  go_wp2_with fail
  refine (lookByte_none L.b _ (HO2.out 1 (by omega))).mono ?_
  rintro e w' ⟨rfl, rfl⟩
  go_wp2_with fail
  refine (lookInt_none L.b _ (HO2.out 2 (by omega))).mono ?_
  rintro e w' ⟨rfl, rfl⟩
  go_wp2_with fail
  refine (lookText_any (L.grown L.N d cp) ⟨F.hN, F.hn, F.hid, F.hb, F.hT, F.hg, F.hz⟩ d _ HI2.out (fun i hi => ⟨if_pos (c := i < L.N) hi, if_pos (c := i < L.N) hi⟩) (fun i hi => (HM2.out i hi).2.2) HLk.out).mono ?_
  rintro e w3 ⟨rfl, b3⟩
  have HO3 := Lib.hid (HO2.out.kept (Kept.of_below (X := fun _ => False) b3) (fun h => h))
  have HB3 := Lib.hid b3
  clear b3
  go_wp2_with fail
  refine (lookField_none L.b _ (HO3.out 4 (by omega))).mono ?_
  rintro e w' ⟨rfl, rfl⟩
  go_wp2_with fail
  refine (lookCookie_none L.b _ (HO3.out 5 (by omega))).mono ?_
  rintro e w' ⟨rfl, rfl⟩
  go_wp2_with fail
  refine (lookSealed_none L.b _ (HO3.out 6 (by omega))).mono ?_
  rintro e w' ⟨rfl, rfl⟩
  go_wp2_with fail
  refine (lookChange_none L.b _ (HO3.out 7 (by omega))).mono ?_
  rintro e w' ⟨rfl, rfl⟩
  go_wp2_with fail
  refine (lookMessage_none L.b _ (HO3.out 8 (by omega))).mono ?_
  rintro e w' ⟨rfl, rfl⟩
  go_wp2
  go_ret
  exact ⟨rfl, ((HK1.out.mono fun _ h => .inl h).trans (HK2.out.mono fun _ h => .inr h)).trans (Kept.of_below HB3.out)⟩

end Go.Proofs.YtjalbfgdhmkclaaGreatDoor
