/-
  Contract: Text of sixteen bytes. NOT CLEAN YET: the last region (NOTES.md).
-/
import Derived.Test.YtgmjfnddeogfdabDoorTxE
import Derived.Deep.RegionHeld3
namespace Go.Proofs.YtgmjfnddeogfdabDoor
open Go.RowKit

theorem pcs_len (l : List Nat) : (pcs l).length = 8 := by simp [pcs]
theorem pcs_at (l : List Nat) (j : Nat) (h : j < (pcs l).length) : (pcs l)[j] = by2 l 16 j := by simp [pcs]
theorem by2_lt {l : List Nat} (hb : ∀ x ∈ l, x < 256) (k j : Nat) : by2 l k j < 65536 := by
  have hg : ∀ i, l.getD i 0 < 256 := fun i => by
    rw [List.getD_eq_getElem?_getD]
    cases h : l[i]? with
    | none => decide
    | some x => exact hb x (List.mem_of_getElem? h)
  have h1 := hg (2 * j)
  have h2 := hg (2 * j + 1)
  unfold by2
  split
  · omega
  · split <;> omega
theorem asB_cat (a b : List UInt8) : asB a ++ asB b = asB (a ++ b) := by
  apply ByteArray.ext; simp [asB]

theorem cat_str (a b c : ByteArray) (ha : a.size ≤ 100) (hb : b.size ≤ 100) (h : a ++ b = c) (w : World) : (binOp .add 9 (.string a) (.string b)).run Tryd.prog w = .ok (.string c) w := by
  subst h
  go_simp
  omega
theorem keepB {w w' w'' : World} (h : Below w.heap.size w w') (k : Below w'.heap.size w' w'') : Below w.heap.size w w'' := h.trans (k.mono h.size)

set_option maxRecDepth 100000 in
set_option maxHeartbeats 1000000 in
theorem Text6_any (l : List Nat) (w : World) (hl : l.length = 16) (hb : ∀ x ∈ l, x < 256) (hF : Fmt 16 65536 w) :
    Calls Tryd.prog 9 #[.agg (cellsA true l)] w fun e w' => e = .returned (.string (asB (sixT l))) ∧ Below w.heap.size w w' := by
  obtain ⟨C, HC⟩ : ∃ C, Hid (cellsA true l = C) := ⟨_, Lib.hid rfl⟩
  rw [HC.out]
  have hC0 : C[0]? = some (.bool true) := by rw [← HC.out]; rfl
  have hW0 : (w.alloc (.cells C 24)).cell? ⟨w.heap.size, 0, none⟩ = some (.bool true) := (cell_of_row _ _ _ C _ _ (heap_alloc_new w _)).trans hC0
  have HB0 : Hid (Below w.heap.size w (w.alloc (.cells C 24))) := Lib.hid ((Below.refl _ _).alloc (Nat.le_refl _) _)
  have HNum := Lib.hid (numbers16 w.heap.size 16 l (w.alloc (.cells C 24)) hl hb (fun j hj => by
    rw [cell_of_row _ _ _ C _ _ (heap_alloc_new w _), ← HC.out, Nat.add_comm 1 j, cellsA_at]
    rw [List.getElem?_eq_getElem hj]; rfl))
  have HPb : Hid (∀ x ∈ pcs l, x < 65536) := Lib.hid (fun x hx => by
    obtain ⟨j, hj, rfl⟩ := List.mem_iff_getElem.1 hx
    rw [pcs_at]; exact by2_lt hb 16 j)
  have HF := Lib.hid hF
  obtain ⟨P, HP⟩ : ∃ P, Hid (pcs l = P) := ⟨_, Lib.hid rfl⟩
  have hP8 : P.length = 8 := by rw [← HP.out, pcs_len]
  rw [HP.out] at HPb
  obtain ⟨b0, F, T, hlr⟩ : ∃ b F T, lrS P 8 = (b, F, T) := ⟨_, _, _, rfl⟩
  have hok := lrS_ok P 8
  rw [hlr] at hok
  obtain ⟨_, hFT, hT8⟩ := hok
  simp only at hFT hT8
  have HLr := Lib.hid hlr
  obtain ⟨R, HR⟩ : ∃ R, Hid (sixT l = R) := ⟨_, Lib.hid rfl⟩
  have HRe : Hid (R = if T - F < 2 then Lib.join (P.map (numF 16 4)) [58] else Lib.join ((P.take F).map (numF 16 4)) [58] ++ [58, 58] ++ Lib.join ((P.drop T).map (numF 16 4)) [58]) := Lib.hid (by
    rw [← HR.out, sixT, HP.out, hlr])
  rw [HR.out]
  clear hF hlr
  go_enter Tryd.func9, Tryd.ntmps9
  go_wp2_with fail
  refine HNum.out.mono ?_
  rintro e w2 ⟨rfl, c2, b2⟩
  have HB2 : Hid (Below w.heap.size w w2) := Lib.hid (HB0.out.trans (b2.mono (by simp)))
  have HC2 : Hid (∀ j, (hj : j < P.length) → w2.cell? ⟨w.heap.size + 1, j, none⟩ = some (.int .i64 (P[j] : Int))) := Lib.hid (fun j hj => by
    have := c2 j (by omega)
    rw [World.size_alloc] at this
    rw [this]
    have e : (pcs l)[j]? = P[j]? := by rw [HP.out]
    rw [List.getElem?_eq_getElem hj, List.getElem?_eq_getElem (by rw [pcs_len]; omega)] at e
    rw [← Option.some.inj e, pcs_at]; rfl)
  have HLong := Lib.hid (longest_any (w.heap.size + 1) 8 P w2 hP8 HC2.out)
  rw [HLr.out] at HLong
  clear b2 c2
  simp only [World.size_alloc]
  go_wp2_with fail
  refine HLong.out.mono ?_
  rintro e w3 ⟨rfl, rfl⟩
  by_cases h2 : T - F < 2
  · have h2I : (T : Int) - (F : Int) < 2 := by omega
    have HJ : Hid (Calls Tryd.prog 17 #[.slice (some ⟨w.heap.size + 1, 0, none⟩) 8 8, .string ⟨#[58]⟩, .int .i64 16] w2 fun e w' => e = .returned (.string (asB R)) ∧ Below w2.heap.size w2 w') := Lib.hid (by
      have h := joined_any 16 65536 (w.heap.size + 1) 0 8 P ⟨#[58]⟩ w2 (HF.out.later HB2.out) HPb.out (by omega) (by decide) (fun j hj => by rw [Nat.zero_add]; exact HC2.out j hj)
      rw [hP8] at h
      rw [HRe.out, if_pos h2]
      exact h)
    clear h2
    go_wp2_with fail
    refine HJ.out.mono ?_
    rintro e w3 ⟨rfl, b3⟩
    have HB3 := Lib.hid (HB2.out.trans (b3.mono HB2.out.size))
    clear b3
    go_wp2
    go_ret
    exact ⟨rfl, HB3.out⟩
  · have h2I : ¬ (T : Int) - (F : Int) < 2 := by omega
    obtain ⟨S1, HS1⟩ : ∃ S, Hid (asB (Lib.join ((P.take F).map (numF 16 4)) [58]) = S) := ⟨_, Lib.hid rfl⟩
    obtain ⟨S2, HS2⟩ : ∃ S, Hid (asB (Lib.join ((P.drop T).map (numF 16 4)) [58]) = S) := ⟨_, Lib.hid rfl⟩
    have HRs : Hid (asB R = S1 ++ ⟨#[58, 58]⟩ ++ S2) := Lib.hid (by
      rw [HRe.out, if_neg h2, ← HS1.out, ← HS2.out]
      show _ = asB _ ++ asB [58, 58] ++ asB _
      rw [asB_cat, asB_cat])
    have hF8 : F ≤ 8 := by omega
    have HJ1 : Hid (∀ w', Below w2.heap.size w2 w' → Calls Tryd.prog 17 #[.slice (some ⟨w.heap.size + 1, 0, none⟩) F 8, .string ⟨#[58]⟩, .int .i64 16] w' fun e w'' => e = .returned (.string S1) ∧ Below w'.heap.size w' w'') := Lib.hid (fun w' hb' => by
      have hlF : (P.take F).length = F := by rw [List.length_take]; omega
      have h := joined_any 16 65536 (w.heap.size + 1) 0 8 (P.take F) ⟨#[58]⟩ w' ((HF.out.later HB2.out).later hb') (fun x hx => HPb.out x (List.mem_of_mem_take hx)) (by omega) (by decide) (fun j hj => by
        have h3 := HC2.out j (by omega)
        rw [Nat.zero_add, hb'.cell (p := ⟨w.heap.size + 1, j, none⟩) (block_lt_of_cell h3), h3, List.getElem_take])
      rw [hlF] at h
      rw [← HS1.out]; exact h)
    have HJ2 : Hid (∀ w', Below w2.heap.size w2 w' → ∀ cap o, (T < 8 → o = T) → Calls Tryd.prog 17 #[.slice (some ⟨w.heap.size + 1, o, none⟩) (8 - T) cap, .string ⟨#[58]⟩, .int .i64 16] w' fun e w'' => e = .returned (.string S2) ∧ Below w'.heap.size w' w'') := Lib.hid (fun w' hb' cap o ho => by
      have hlT : (P.drop T).length = 8 - T := by rw [List.length_drop]; omega
      have h := joined_any 16 65536 (w.heap.size + 1) o cap (P.drop T) ⟨#[58]⟩ w' ((HF.out.later HB2.out).later hb') (fun x hx => HPb.out x (List.mem_of_mem_drop hx)) (by omega) (by decide) (fun j hj => by
        have h3 := HC2.out (T + j) (by omega)
        rw [ho (by omega), hb'.cell (p := ⟨w.heap.size + 1, T + j, none⟩) (block_lt_of_cell h3), h3, List.getElem_drop])
      rw [hlT] at h
      rw [← HS2.out]; exact h)
    clear h2
    have h4 : ∀ Q : List Nat, ∀ x ∈ Q.map (numF 16 4), x.length ≤ 4 := fun Q x hx => by
      obtain ⟨n, _, rfl⟩ := List.mem_map.1 hx
      exact numF_len 16 4 n
    have hS1 : S1.size ≤ 40 := by
      rw [← HS1.out, asB_size]
      have := join_le _ [58] (h4 (P.take F)) (by decide)
      rw [List.length_map, List.length_take] at this; omega
    have hS2 : S2.size ≤ 40 := by
      rw [← HS2.out, asB_size]
      have := join_le _ [58] (h4 (P.drop T)) (by decide)
      rw [List.length_map, List.length_drop] at this; omega
    have hF0I : (0 : Int) ≤ (F : Int) := by omega
    have hF8I : (F : Int) ≤ 8 := by omega
    have hT0I : (0 : Int) ≤ (T : Int) := by omega
    have hT8I : (T : Int) ≤ 8 := by omega
    clear h4
    have hz1 : ¬ 9223372036854775807 < S1.size + 2 := by omega
    have hz2 : ¬ 9223372036854775807 < S1.size + 2 + S2.size := by omega
    clear hS1 hS2
    have hbb : Below w2.heap.size w2 w2.drew := (Below.refl w2.heap.size w2).drew
    by_cases hT : T < 8
    · have hne : ¬ (8 = T) := by omega
      go_wp2_with fail
      go_region_held3 (fun w' => Below w2.heap.size w2 w') (first | assumption | exact keepB (by assumption) (by assumption) | go_keep)
        (first | (go_at_call 17; (with_reducible refine (HJ1.out _ ?_).mono ?_); (first | assumption | fail); rintro e w' ⟨rfl, bT⟩) | (go_at_call 17; (with_reducible refine (HJ2.out _ ?_ _ _ ?_).mono ?_); assumption; (exact fun _ => rfl); rintro e w' ⟨rfl, bT⟩))
      all_goals
        go_wp2
        go_ret
        refine ⟨congrArg (fun z => Ending.returned (Value.string z)) HRs.out.symm, HB2.out.trans (Below.mono (by assumption) HB2.out.size)⟩
    · obtain rfl : T = 8 := by omega
      rw [show 8 - 8 = 0 from rfl] at HJ2
      clear hT hT0I hT8I
      go_wp2_with fail
      go_region_held3 (fun w' => Below w2.heap.size w2 w') (first | assumption | exact keepB (by assumption) (by assumption) | go_keep)
        (first | (go_at_call 17; (with_reducible refine (HJ1.out _ ?_).mono ?_); (first | assumption | fail); rintro e w' ⟨rfl, bT⟩) | (go_at_call 17; (with_reducible refine (HJ2.out _ ?_ _ _ ?_).mono ?_); assumption; (exact fun h => absurd h (by omega)); rintro e w' ⟨rfl, bT⟩))
      all_goals
        go_wp2
        go_ret
        refine ⟨congrArg (fun z => Ending.returned (Value.string z)) HRs.out.symm, HB2.out.trans (Below.mono (by assumption) HB2.out.size)⟩

end Go.Proofs.YtgmjfnddeogfdabDoor
