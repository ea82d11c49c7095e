/-
  Contracts: lookText.
-/
import Derived.Test.YtjeejpgkhjblnaaDoorBookH
namespace Go.Proofs.YtjeejpgkhjblnaaDoor
open Go.RowKit

theorem isText_back (i : Nat) (hi : i < 100) (w : World) :
    Calls Tryd.prog 76 #[.string (wordS i), .int .i64 i] w fun e w' => e = .returned (.bool true) ∧ w' = w :=
  (isText_yes i hi w).mono fun _ _ ⟨he, hw⟩ => ⟨he, hw.symm⟩

set_option maxHeartbeats 1000000 in
set_option maxRecDepth 100000 in
theorem lookText_any (L : Lists) (F : L.Fit) (d : Nat → Nat) (w : World) (hI : L.In w) (hla : ∀ i, i < L.N → L.la i = some ⟨d i, 0, none⟩ ∧ L.ln i = L.n i + 40)
    (hm : ∀ i, i < L.N → ∀ q, q < L.n i + 40 → w.cell? ⟨d i, q, none⟩ = some (.string (wordS (L.id i)))) (hl : ∀ i, i < L.N → ∀ q, q < L.n i → w.cell? ⟨L.g i, q, none⟩ = some (.string (wordS (L.id i)))) :
    Calls Tryd.prog 46 #[.pointer (some ⟨L.b, 0, none⟩)] w fun e w' => e = .returned (.bool true) ∧ Below w.heap.size w w' := by
  have HI := Lib.hid hI; clear hI
  have HLa := Lib.hid hla; clear hla
  have HMk := Lib.hid hm; clear hm
  have HLk := Lib.hid hl; clear hl
  have hN := F.hN
  go_enter Tryd.func46, Tryd.ntmps46
  go_wp2
  go_loopw [3, 4, 5] (fun i _ _ wr => ∃ k : Nat, k ≤ L.N ∧ i = .int .i64 k ∧ Below w.heap.size w wr) (fun i _ _ _ => L.N - (intOf i).toNat)
  case atStart => exact ⟨0, Nat.zero_le _, rfl, Below.refl _ _⟩
  case round =>
    obtain ⟨k, hk, rfl, hB⟩ := hrel
    have h3 := (hB.cell (block_lt_of_cell HI.out.h3)).trans HI.out.h3
    have HB := Lib.hid hB; clear hB
    by_cases hlt : k < L.N
    · obtain ⟨wo, rfl⟩ : ∃ wo : World, wo = wr := ⟨_, rfl⟩
      have c1 := (HB.out.cell (block_lt_of_cell (HI.out.e0 k hlt))).trans (HI.out.e0 k hlt)
      have c2 := (HB.out.cell (block_lt_of_cell (HI.out.e1 k hlt))).trans (HI.out.e1 k hlt)
      have c3 := (HB.out.cell (block_lt_of_cell (HI.out.e2 k hlt))).trans (HI.out.e2 k hlt)
      rw [(HLa.out k hlt).1, (HLa.out k hlt).2] at c2
      have hlt' : (k : Int) < (L.N : Int) := by omega
      have hid := F.hid k hlt
      have hnk := F.hn k hlt
      go_wp2
      go_loopw [5] (fun i wq => ∃ j : Nat, j ≤ L.n k + 40 ∧ i = .int .i64 j ∧ ∃ n, wq = (wo.alloc (.cells #[.slice (some ⟨L.g k, 0, none⟩) (L.n k) (L.n k), .slice (some ⟨d k, 0, none⟩) (L.n k + 40) (L.lc k), .int .i64 (L.id k)] 70)).drewN n) (fun i _ => L.n k + 40 - (intOf i).toNat)
      case atStart => exact ⟨0, Nat.zero_le _, rfl, 0, rfl⟩
      case round =>
        obtain ⟨j, hj, rfl, m, hX⟩ := hrel
        have d0 : wr.cell? ⟨wo.heap.size, 0, none⟩ = some (.slice (some ⟨L.g k, 0, none⟩) (L.n k) (L.n k)) := by rw [hX, World.cell?_drewN, World.cell?_alloc_at _ _ _ _ rfl]; rfl
        have d1 : wr.cell? ⟨wo.heap.size, 1, none⟩ = some (.slice (some ⟨d k, 0, none⟩) (L.n k + 40) (L.lc k)) := by rw [hX, World.cell?_drewN, World.cell?_alloc_at _ _ _ _ rfl]; rfl
        have d2 : wr.cell? ⟨wo.heap.size, 2, none⟩ = some (.int .i64 (L.id k)) := by rw [hX, World.cell?_drewN, World.cell?_alloc_at _ _ _ _ rfl]; rfl
        have hold : ∀ (p : Addr) (v : Value), wo.cell? p = some v → wr.cell? p = some v := fun p v hv => by rw [hX, World.cell?_drewN]; exact cell_old _ hv
        have HOld := Lib.hid hold; clear hold
        have HX := Lib.hid hX; clear hX
        by_cases hjl : j < L.n k + 40
        · have hjl' : (j : Int) < (L.n k : Int) + 40 := by omega
          have hjl2 : (j : Int) < ((L.n k + 40 : Nat) : Int) := by omega
          have m1 : wr.cell? ⟨d k, j, none⟩ = some (.string (wordS (L.id k))) :=
            HOld.out _ _ ((HB.out.cell (block_lt_of_cell (HMk.out k hlt j hjl))).trans (HMk.out k hlt j hjl))
          by_cases hjn : j < L.n k
          · have hjn' : (j : Int) < (L.n k : Int) := by omega
            have m0 : wr.cell? ⟨L.g k, j, none⟩ = some (.string (wordS (L.id k))) :=
              HOld.out _ _ ((HB.out.cell (block_lt_of_cell (HLk.out k hlt j hjn))).trans (HLk.out k hlt j hjn))
            go_wp2
            go_quiet ((go_at_call 76; exact Calls.quiet_of_same (isText_back (L.id k) hid _)))
            go_wp2
            exact ⟨⟨j + 1, by omega, by go_num, m + nq, by rw [HX.out, World.drewN_drewN]⟩, by simp [intOf]; omega⟩
          · have hjn' : (L.n k : Int) ≤ (j : Int) := by omega
            have hdec : decide ((j : Int) < (L.n k : Int)) = false := by simp; omega
            have hdec' : decide (j < L.n k) = false := by simp; omega
            go_wp2
            go_quiet ((go_at_call 76; exact Calls.quiet_of_same (isText_back (L.id k) hid _)))
            go_wp2
            exact ⟨⟨j + 1, by omega, by go_num, m + nq, by rw [HX.out, World.drewN_drewN]⟩, by simp [intOf]; omega⟩
        · obtain rfl : j = L.n k + 40 := by omega
          have HBn : Hid (Below w.heap.size w wr) := Lib.hid (by
            rw [HX.out]
            have h := HB.out.alloc HB.out.size (.cells #[.slice (some ⟨L.g k, 0, none⟩) (L.n k) (L.n k), .slice (some ⟨d k, 0, none⟩) (L.n k + 40) (L.lc k), .int .i64 (L.id k)] 70)
            exact ⟨h.os, h.tape, h.output, h.size, h.block⟩)
          go_wp2
          exact ⟨⟨k + 1, by omega, by go_num, HBn.out⟩, by simp [intOf]; omega⟩
    · obtain rfl : k = L.N := by omega
      go_wp2
      go_ret
      exact ⟨rfl, HB.out⟩

end Go.Proofs.YtjeejpgkhjblnaaDoor
