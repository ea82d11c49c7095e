/-
  The walk of UrlsSlashes.
-/
import Derived.Test.YtndacnpcocahhaaGreatDoorMuB
namespace Go.Proofs.YtndacnpcocahhaaGreatDoor
open Go.RowKit

def flT (l : List UInt8) (k : Nat) : List UInt8 := (l.take k).map flB ++ l.drop k
theorem flT_len (l : List UInt8) (k : Nat) : (flT l k).length = l.length := by
  simp [flT]; omega
theorem flT_at (l : List UInt8) (k : Nat) (h : k < l.length) (h' : k < (flT l k).length) : (flT l k)[k] = l[k] := by
  have e : (flT l k)[k]? = some l[k] := by
    unfold flT
    rw [List.getElem?_append_right (by simp; omega), List.getElem?_drop, ← List.getElem?_eq_getElem h]
    congr 1
    simp; omega
  rw [List.getElem?_eq_getElem h'] at e
  exact Option.some.inj e
theorem flT_next (l : List UInt8) (k : Nat) (h : k < l.length) : flT l (k + 1) = (flT l k).set k (flB l[k]) := by
  apply List.ext_getElem?
  intro j
  rw [List.getElem?_set]
  unfold flT
  by_cases e : k = j
  · subst e
    rw [if_pos rfl, if_pos (by simp; omega), List.getElem?_append_left (by simp; omega), List.getElem?_map, List.getElem?_take_of_lt (by omega), List.getElem?_eq_getElem h]; rfl
  · rw [if_neg e]
    by_cases hj : j < k
    · rw [List.getElem?_append_left (by simp; omega), List.getElem?_append_left (by simp; omega), List.getElem?_map, List.getElem?_map, List.getElem?_take_of_lt (by omega), List.getElem?_take_of_lt hj]
    · rw [List.getElem?_append_right (by simp; omega), List.getElem?_append_right (by simp; omega), List.getElem?_drop, List.getElem?_drop]
      congr 1
      simp; omega
theorem fl_same (l : List UInt8) (k : Nat) (h : k < l.length) (e : l[k] ≠ 47) : flT l (k + 1) = flT l k := by
  rw [flT_next l k h]
  have h2 : k < (flT l k).length := by rw [flT_len]; exact h
  have h3 : flB l[k] = (flT l k)[k] := by rw [flT_at l k h h2]; unfold flB; rw [if_neg e]
  rw [h3, List.set_getElem_self]
theorem fl_get (L : List UInt8) (k cap : Nat) (h : k < L.length) : (bytesRow (asB L) cap)[k]? = some (.int .u8 (L[k].toNat : Int)) := bytesRow_at (asB L) cap k (by simpa [asB] using h)
theorem fl_row (L : List UInt8) (cap : Nat) (h : L.length ≤ cap) : (bytesRow (asB L) cap).size = cap := by
  unfold bytesRow
  rw [Array.size_append, Array.size_map, Array.size_replicate]
  show L.toArray.size + (cap - L.toArray.size) = cap
  rw [List.size_toArray]; omega
theorem fl_put (L : List UInt8) (k cap : Nat) (v : UInt8) (h : k < L.length) (hc : L.length ≤ cap) : (bytesRow (asB L) cap).setIfInBounds k (.int .u8 (v.toNat : Int)) = bytesRow (asB (L.set k v)) cap := by
  apply Array.ext_getElem?
  intro j
  have hz := fl_row L cap hc
  rw [Array.getElem?_setIfInBounds]
  by_cases e : k = j
  · subst e
    rw [if_pos rfl, if_pos (by omega), fl_get (L.set k v) k cap (by simpa using h)]
    simp
  · rw [if_neg e]
    by_cases hj : j < L.length
    · rw [fl_get L j cap hj, fl_get (L.set k v) j cap (by simpa using hj)]
      simp [e]
    · unfold bytesRow
      have e1 : (asB L).data.size = L.length := by simp [asB]
      have e2 : (asB (L.set k v)).data.size = L.length := by simp [asB]
      rw [Array.getElem?_append_right (by simp [e1]; omega), Array.getElem?_append_right (by simp [e2]; omega), Array.size_map, Array.size_map, e1, e2]
      rw [show (asB L).size = (asB (L.set k v)).size from e1.trans e2.symm]
theorem flip_step (l : List UInt8) (k : Nat) (h : k < l.length) (h1 : l[k] ≠ 63) (h2 : l[k] ≠ 35) (hi : flipL l = (l.take k).map flB ++ flipL (l.drop k)) : flipL l = (l.take (k + 1)).map flB ++ flipL (l.drop (k + 1)) := by
  rw [hi, List.drop_eq_getElem_cons h, flipL, if_neg (by rintro (e | e) <;> contradiction), List.take_succ_eq_append_getElem h, List.map_append]
  simp
theorem flip_stop (l : List UInt8) (k : Nat) (h : k < l.length) (h1 : l[k] = 63 ∨ l[k] = 35) (hi : flipL l = (l.take k).map flB ++ flipL (l.drop k)) : flT l k = flipL l := by
  rw [hi, List.drop_eq_getElem_cons h, flipL, if_pos h1, flT, List.drop_eq_getElem_cons h]
theorem flip_all (l : List UInt8) (k : Nat) (h : l.length ≤ k) (hi : flipL l = (l.take k).map flB ++ flipL (l.drop k)) : flT l k = flipL l := by
  rw [hi, flT, List.drop_of_length_le h]; rfl
theorem paT_flip (s : ByteArray) : paT (flipS s) = paT s := by
  unfold paT
  rw [flipS_size, aloneT_flip]

set_option maxRecDepth 100000 in
set_option maxHeartbeats 4000000 in
theorem uslashes_small (l : List UInt8) (V : Array Value) (c : Int) (w : World) (hs : l.length ≤ 1000) (hI : (Tryz.prog.info? 24).map (·.size) = some V.size) (hO : V.all (·.oneCell') = true) (hZ : u0.cells.toArray.size = V.size)
    (heq : ∀ w, (binOp .eql 24 (.agg V) (.agg V)).run Tryz.prog w = .ok (.bool true) w)
    (hA : Calls Tryz.prog 27 #[] w fun e w' => e = .returned (.bool true) ∧ Below w.heap.size w w')
    (h1 : ∀ w', Below w.heap.size w w' → Calls Tryz.prog 13 #[.string (asB l), .agg u0.cells.toArray, .bool false] w' fun e w'' => e = .returned (.tuple #[.agg V, .int .i64 c]) ∧ Below w'.heap.size w' w'')
    (h2 : ∀ w', Below w.heap.size w w' → Calls Tryz.prog 13 #[.string (asB (flipL l)), .agg u0.cells.toArray, .bool false] w' fun e w'' => e = .returned (.tuple #[.agg V, .int .i64 c]) ∧ Below w'.heap.size w' w'') :
    Calls Tryz.prog 8 #[.string (asB l)] w fun e w' => e = .returned (.bool true) ∧ Below w.heap.size w w' := by
  have HA := Lib.hid hA
  have H1 := Lib.hid h1
  have H2 := Lib.hid h2
  have HI := Lib.hid hI
  have HO := Lib.hid hO
  have HZ := Lib.hid hZ
  have hsz : (asB l).size = l.length := asB_size l
  have hsI : ¬ ((1000 : Int) < ((asB l).size : Int)) := by rw [hsz]; omega
  have hcv := fun (w : World) => run_bytes_of_string (P := Tryz.prog) w 9 42 5 (asB l) Tryz.underlying9 Tryz.underlying42 Tryz.underlying5
  clear hA h1 h2 hI hO hZ
  go_enter Tryz.func8, Tryz.ntmps8
  go_wp2_with fail
  refine HA.out.mono ?_
  rintro e w1 ⟨rfl, b1⟩
  have B1 := Lib.hid b1; clear b1
  have hge := grownCap_ge w1 l.length 0 5
  have HM : Hid ((bytesRow (asB l) (grownCap w1 l.length 0 5)).size = grownCap w1 l.length 0 5) := Lib.hid (fl_row l _ hge)
  go_wp2
  clear hcv
  rw [HM.out]
  clear HM
  generalize grownCap w1 l.length 0 5 = cap at *
  go_loopw [4] (fun i wr => ∃ k : Nat, k ≤ l.length ∧ i = .int .i64 k ∧ wr = (w1.alloc (.cells (bytesRow (asB (flT l k)) cap) 5 (cap, cap + 1))).drew ∧ Hid (flipL l = (l.take k).map flB ++ flipL (l.drop k))) (fun i _ => l.length - (intOf i).toNat)
  case atStart => exact ⟨0, Nat.zero_le _, rfl, rfl, Lib.hid rfl⟩
  case round =>
    obtain ⟨k, hk, rfl, rfl, HF⟩ := hrel
    obtain ⟨R, HR⟩ : ∃ R, Hid (R = bytesRow (asB (flT l k)) cap) := ⟨_, rfl⟩
    rw [← HR.out]
    by_cases hgo : k < l.length ∧ ∀ h : k < l.length, l[k] ≠ 63 ∧ l[k] ≠ 35
    · obtain ⟨hlt, hne⟩ := hgo
      obtain ⟨n1, n2⟩ := hne hlt
      have hlt2 : k < (flT l k).length := by rw [flT_len]; exact hlt
      have hc : (w1.alloc (.cells R 5 (cap, cap + 1))).cell? ⟨w1.heap.size, k, none⟩ = some (.int .u8 (l[k].toNat : Int)) := by rw [World.cell?_alloc_mark, HR.out, fl_get _ _ _ hlt2, flT_at l k hlt hlt2]
      have hf : (w1.alloc (.cells R 5 (cap, cap + 1))).frozen? ⟨w1.heap.size, k, none⟩ = false := frozen_alloc_mark _ _ _ _ _ (by omega)
      have HN := Lib.hid (flip_step l k hlt n1 n2 HF.out)
      have m1 : ¬ (l[k].toNat : Int) = 63 := fun e => n1 (UInt8.toNat_inj.1 (by have : (63 : UInt8).toNat = 63 := rfl; omega))
      have m2 : ¬ (l[k].toNat : Int) = 35 := fun e => n2 (UInt8.toNat_inj.1 (by have : (35 : UInt8).toNat = 35 := rfl; omega))
      have p1 : ((l[k].toNat : Int) == 63) = false := beq_eq_false_iff_ne.2 m1
      have p2 : ((l[k].toNat : Int) == 35) = false := beq_eq_false_iff_ne.2 m2
      have q1 : ((l[k].toNat : Int) != 63) = true := by rw [bne, p1]; rfl
      have q2 : ((l[k].toNat : Int) != 35) = true := by rw [bne, p2]; rfl
      have hki : (k : Int) < (l.length : Int) := by omega
      by_cases h47 : l[k] = 47
      · have HS : Hid (R.setIfInBounds k (.int .u8 92) = bytesRow (asB (flT l (k + 1))) cap) := Lib.hid (by
          rw [flT_next l k hlt, HR.out, ← fl_put _ k cap _ hlt2 (by rw [flT_len]; exact hge), h47]; rfl)
        have p3 : (l[k].toNat : Int) = 47 := by rw [h47]; rfl
        clear n1 n2 hne h47
        go_wp2
        refine ⟨⟨k + 1, by omega, by go_num, ?_, HN⟩, by simp [intOf]; omega⟩
        rw [setCell_alloc_mark, HS.out]
      · have HS : Hid (R = bytesRow (asB (flT l (k + 1))) cap) := Lib.hid (by rw [fl_same l k hlt h47]; exact HR.out)
        have m3 : ¬ (l[k].toNat : Int) = 47 := fun e => h47 (UInt8.toNat_inj.1 (by have : (47 : UInt8).toNat = 47 := rfl; omega))
        have p3 : ((l[k].toNat : Int) == 47) = false := beq_eq_false_iff_ne.2 m3
        clear n1 n2 hne h47
        go_wp2
        refine ⟨⟨k + 1, by omega, by go_num, ?_, HN⟩, by simp [intOf]; omega⟩
        rw [HS.out]
    · have HE : Hid (flT l k = flipL l) := by
        by_cases hlt : k < l.length
        · refine Lib.hid (flip_stop l k hlt ?_ HF.out)
          by_cases e : l[k] = 63
          · exact .inl e
          · by_cases e2 : l[k] = 35
            · exact .inr e2
            · exact absurd ⟨hlt, fun _ => ⟨e, e2⟩⟩ hgo
        · exact Lib.hid (flip_all l k (by omega) HF.out)
      have hend : (∃ h : k < l.length, l[k] = 63) ∨ (∃ h : k < l.length, l[k] = 35) ∨ ¬ k < l.length := by
        by_cases hlt : k < l.length
        · by_cases e : l[k] = 63
          · exact .inl ⟨hlt, e⟩
          · by_cases e2 : l[k] = 35
            · exact .inr (.inl ⟨hlt, e2⟩)
            · exact absurd ⟨hlt, fun _ => ⟨e, e2⟩⟩ hgo
        · exact .inr (.inr hlt)
      clear hgo HF
      have hcell : ∀ j, (h : j < (flipL l).length) → (w1.alloc (.cells R 5 (cap, cap + 1))).drew.cell? ⟨w1.heap.size, j, none⟩ = some (.int .u8 ((flipL l)[j].toNat : Int)) := fun j h => by
        rw [World.cell?_drew, World.cell?_alloc_mark, HR.out, HE.out, fl_get _ _ _ h]
      have HC := Lib.hid hcell
      have hlt2 : Hid (w1.heap.size < (w1.alloc (.cells R 5 (cap, cap + 1))).drew.heap.size) := Lib.hid (lt_of_block (heap_alloc_new w1 _))
      have B2 : Hid (Below w.heap.size w (w1.alloc (.cells R 5 (cap, cap + 1))).drew) := Lib.hid (B1.out.alloc B1.out.size _).drew
      clear hcell
      rcases hend with ⟨hlt, hv⟩ | ⟨hlt, hv⟩ | hlt
      · have hl2 : k < (flT l k).length := by rw [flT_len]; exact hlt
        have hc : (w1.alloc (.cells R 5 (cap, cap + 1))).cell? ⟨w1.heap.size, k, none⟩ = some (.int .u8 63) := by rw [World.cell?_alloc_mark, HR.out, fl_get _ _ _ hl2, flT_at l k hlt hl2, hv]; rfl
        have hki : (k : Int) < (l.length : Int) := by omega
        clear hl2 hv
        go_wp2_with fail
        refine (show Calls Tryz.prog 13 #[.string (asB l), .agg u0.cells.toArray, .bool false] _ _ from H1.out _ B2.out).mono ?_
        rintro e w3 ⟨rfl, b3⟩
        have B3 : Hid (Below w.heap.size w w3) := Lib.hid (us_keep B2.out b3)
        obtain ⟨W4, HW4⟩ : ∃ W, Hid (w3.alloc (.cells V 24) = W) := ⟨_, Lib.hid rfl⟩
        have B4 : Hid (Below w.heap.size w W4) := Lib.hid (by rw [← HW4.out]; exact B3.out.alloc B3.out.size _)
        have G4 : Hid (W4.heap[w3.heap.size]? = some (.cells V 24 (0, 0))) := Lib.hid (by rw [← HW4.out]; exact heap_alloc_new w3 _)
        have hb : (convert 42 9 (.slice (some ⟨w1.heap.size, 0, none⟩) l.length cap)).run Tryz.prog W4 = .ok (.string (asB (flipL l))) W4 := by
          have h := run_convert_bytes_back (P := Tryz.prog) W4 42 9 5 ⟨w1.heap.size, 0, none⟩ cap (flipL l) Tryz.underlying42 Tryz.underlying5 Tryz.underlying9 (fun j hj => by
            have e : (⟨w1.heap.size, 0, none⟩ : Addr).add j = ⟨w1.heap.size, j, none⟩ := by unfold Addr.add; split <;> simp_all
            rw [e, ← HW4.out, ((Below.refl w3.heap.size w3).alloc (Nat.le_refl _) _).cell (p := ⟨w1.heap.size, j, none⟩) (Nat.lt_of_lt_of_le hlt2.out b3.size)]
            exact (b3.cell (p := ⟨w1.heap.size, j, none⟩) hlt2.out).trans (HC.out j hj))
          rw [flip_len] at h
          exact h
        clear b3
        go_wp2_with (refine wpL_store_row rfl 24 _ _ rfl w3.heap.size V ?_ ?_ 24 u0.cells.toArray ?_ ?_ ?_ ?_ ?_; exact rfl; exact rfl; exact heap_alloc_new w3 _; exact HI.out; exact HZ.out; exact HO.out; rw [World.setRow_alloc_new, HW4.out])
        refine (show Calls Tryz.prog 13 #[.string (asB (flipL l)), .agg u0.cells.toArray, .bool false] W4 _ from H2.out W4 B4.out).mono ?_
        rintro e w5 ⟨rfl, b5⟩
        have B5 : Hid (Below w.heap.size w w5) := Lib.hid (us_keep B4.out b5)
        have G5 : Hid (w5.heap[w3.heap.size]? = some (.cells V 24 (0, 0))) := Lib.hid ((b5.block _ (lt_of_block G4.out)).trans G4.out)
        clear b5 hb
        obtain ⟨W6, HW6⟩ : ∃ W, Hid (w5.alloc (.cells V 24) = W) := ⟨_, Lib.hid rfl⟩
        have B6 : Hid (Below w.heap.size w W6) := Lib.hid (by rw [← HW6.out]; exact B5.out.alloc B5.out.size _)
        have G6 : Hid (W6.heap[w3.heap.size]? = some (.cells V 24 (0, 0))) := Lib.hid (by rw [← HW6.out]; exact ((Kp.refl (fun _ => False) _).alloc _).at G5.out id)
        have G7 : Hid (W6.heap[w5.heap.size]? = some (.cells V 24 (0, 0))) := Lib.hid (by rw [← HW6.out]; exact heap_alloc_new w5 _)
        go_wp2_with (first
          | (refine wpL_store_row rfl 24 _ _ rfl w5.heap.size V ?_ ?_ 24 u0.cells.toArray ?_ ?_ ?_ ?_ ?_; exact rfl; exact rfl; exact heap_alloc_new w5 _; exact HI.out; exact HZ.out; exact HO.out; rw [World.setRow_alloc_new, HW6.out])
          | (refine wpList_load_row rfl 24 _ rfl w3.heap.size ?_ 24 V (0, 0) _ ?_ Tryz.underlying24 rfl HI.out ?_; (exact rfl); (exact G6.out))
          | (refine wpList_load_row rfl 24 _ rfl w5.heap.size ?_ 24 V (0, 0) _ ?_ Tryz.underlying24 rfl HI.out ?_; (exact rfl); (exact G7.out)))
        go_ret
        exact ⟨rfl, B6.out⟩
      · have hl2 : k < (flT l k).length := by rw [flT_len]; exact hlt
        have hc : (w1.alloc (.cells R 5 (cap, cap + 1))).cell? ⟨w1.heap.size, k, none⟩ = some (.int .u8 35) := by rw [World.cell?_alloc_mark, HR.out, fl_get _ _ _ hl2, flT_at l k hlt hl2, hv]; rfl
        have hki : (k : Int) < (l.length : Int) := by omega
        clear hl2 hv
        go_wp2_with fail
        refine (show Calls Tryz.prog 13 #[.string (asB l), .agg u0.cells.toArray, .bool false] _ _ from H1.out _ B2.out).mono ?_
        rintro e w3 ⟨rfl, b3⟩
        have B3 : Hid (Below w.heap.size w w3) := Lib.hid (us_keep B2.out b3)
        obtain ⟨W4, HW4⟩ : ∃ W, Hid (w3.alloc (.cells V 24) = W) := ⟨_, Lib.hid rfl⟩
        have B4 : Hid (Below w.heap.size w W4) := Lib.hid (by rw [← HW4.out]; exact B3.out.alloc B3.out.size _)
        have G4 : Hid (W4.heap[w3.heap.size]? = some (.cells V 24 (0, 0))) := Lib.hid (by rw [← HW4.out]; exact heap_alloc_new w3 _)
        have hb : (convert 42 9 (.slice (some ⟨w1.heap.size, 0, none⟩) l.length cap)).run Tryz.prog W4 = .ok (.string (asB (flipL l))) W4 := by
          have h := run_convert_bytes_back (P := Tryz.prog) W4 42 9 5 ⟨w1.heap.size, 0, none⟩ cap (flipL l) Tryz.underlying42 Tryz.underlying5 Tryz.underlying9 (fun j hj => by
            have e : (⟨w1.heap.size, 0, none⟩ : Addr).add j = ⟨w1.heap.size, j, none⟩ := by unfold Addr.add; split <;> simp_all
            rw [e, ← HW4.out, ((Below.refl w3.heap.size w3).alloc (Nat.le_refl _) _).cell (p := ⟨w1.heap.size, j, none⟩) (Nat.lt_of_lt_of_le hlt2.out b3.size)]
            exact (b3.cell (p := ⟨w1.heap.size, j, none⟩) hlt2.out).trans (HC.out j hj))
          rw [flip_len] at h
          exact h
        clear b3
        go_wp2_with (refine wpL_store_row rfl 24 _ _ rfl w3.heap.size V ?_ ?_ 24 u0.cells.toArray ?_ ?_ ?_ ?_ ?_; exact rfl; exact rfl; exact heap_alloc_new w3 _; exact HI.out; exact HZ.out; exact HO.out; rw [World.setRow_alloc_new, HW4.out])
        refine (show Calls Tryz.prog 13 #[.string (asB (flipL l)), .agg u0.cells.toArray, .bool false] W4 _ from H2.out W4 B4.out).mono ?_
        rintro e w5 ⟨rfl, b5⟩
        have B5 : Hid (Below w.heap.size w w5) := Lib.hid (us_keep B4.out b5)
        have G5 : Hid (w5.heap[w3.heap.size]? = some (.cells V 24 (0, 0))) := Lib.hid ((b5.block _ (lt_of_block G4.out)).trans G4.out)
        clear b5 hb
        obtain ⟨W6, HW6⟩ : ∃ W, Hid (w5.alloc (.cells V 24) = W) := ⟨_, Lib.hid rfl⟩
        have B6 : Hid (Below w.heap.size w W6) := Lib.hid (by rw [← HW6.out]; exact B5.out.alloc B5.out.size _)
        have G6 : Hid (W6.heap[w3.heap.size]? = some (.cells V 24 (0, 0))) := Lib.hid (by rw [← HW6.out]; exact ((Kp.refl (fun _ => False) _).alloc _).at G5.out id)
        have G7 : Hid (W6.heap[w5.heap.size]? = some (.cells V 24 (0, 0))) := Lib.hid (by rw [← HW6.out]; exact heap_alloc_new w5 _)
        go_wp2_with (first
          | (refine wpL_store_row rfl 24 _ _ rfl w5.heap.size V ?_ ?_ 24 u0.cells.toArray ?_ ?_ ?_ ?_ ?_; exact rfl; exact rfl; exact heap_alloc_new w5 _; exact HI.out; exact HZ.out; exact HO.out; rw [World.setRow_alloc_new, HW6.out])
          | (refine wpList_load_row rfl 24 _ rfl w3.heap.size ?_ 24 V (0, 0) _ ?_ Tryz.underlying24 rfl HI.out ?_; (exact rfl); (exact G6.out))
          | (refine wpList_load_row rfl 24 _ rfl w5.heap.size ?_ 24 V (0, 0) _ ?_ Tryz.underlying24 rfl HI.out ?_; (exact rfl); (exact G7.out)))
        go_ret
        exact ⟨rfl, B6.out⟩
      · have hki : (l.length : Int) ≤ (k : Int) := by omega
        have hki2 : ¬ (k : Int) < (l.length : Int) := by omega
        go_wp2_with fail
        refine (show Calls Tryz.prog 13 #[.string (asB l), .agg u0.cells.toArray, .bool false] _ _ from H1.out _ B2.out).mono ?_
        rintro e w3 ⟨rfl, b3⟩
        have B3 : Hid (Below w.heap.size w w3) := Lib.hid (us_keep B2.out b3)
        obtain ⟨W4, HW4⟩ : ∃ W, Hid (w3.alloc (.cells V 24) = W) := ⟨_, Lib.hid rfl⟩
        have B4 : Hid (Below w.heap.size w W4) := Lib.hid (by rw [← HW4.out]; exact B3.out.alloc B3.out.size _)
        have G4 : Hid (W4.heap[w3.heap.size]? = some (.cells V 24 (0, 0))) := Lib.hid (by rw [← HW4.out]; exact heap_alloc_new w3 _)
        have hb : (convert 42 9 (.slice (some ⟨w1.heap.size, 0, none⟩) l.length cap)).run Tryz.prog W4 = .ok (.string (asB (flipL l))) W4 := by
          have h := run_convert_bytes_back (P := Tryz.prog) W4 42 9 5 ⟨w1.heap.size, 0, none⟩ cap (flipL l) Tryz.underlying42 Tryz.underlying5 Tryz.underlying9 (fun j hj => by
            have e : (⟨w1.heap.size, 0, none⟩ : Addr).add j = ⟨w1.heap.size, j, none⟩ := by unfold Addr.add; split <;> simp_all
            rw [e, ← HW4.out, ((Below.refl w3.heap.size w3).alloc (Nat.le_refl _) _).cell (p := ⟨w1.heap.size, j, none⟩) (Nat.lt_of_lt_of_le hlt2.out b3.size)]
            exact (b3.cell (p := ⟨w1.heap.size, j, none⟩) hlt2.out).trans (HC.out j hj))
          rw [flip_len] at h
          exact h
        clear b3
        go_wp2_with (refine wpL_store_row rfl 24 _ _ rfl w3.heap.size V ?_ ?_ 24 u0.cells.toArray ?_ ?_ ?_ ?_ ?_; exact rfl; exact rfl; exact heap_alloc_new w3 _; exact HI.out; exact HZ.out; exact HO.out; rw [World.setRow_alloc_new, HW4.out])
        refine (show Calls Tryz.prog 13 #[.string (asB (flipL l)), .agg u0.cells.toArray, .bool false] W4 _ from H2.out W4 B4.out).mono ?_
        rintro e w5 ⟨rfl, b5⟩
        have B5 : Hid (Below w.heap.size w w5) := Lib.hid (us_keep B4.out b5)
        have G5 : Hid (w5.heap[w3.heap.size]? = some (.cells V 24 (0, 0))) := Lib.hid ((b5.block _ (lt_of_block G4.out)).trans G4.out)
        clear b5 hb
        obtain ⟨W6, HW6⟩ : ∃ W, Hid (w5.alloc (.cells V 24) = W) := ⟨_, Lib.hid rfl⟩
        have B6 : Hid (Below w.heap.size w W6) := Lib.hid (by rw [← HW6.out]; exact B5.out.alloc B5.out.size _)
        have G6 : Hid (W6.heap[w3.heap.size]? = some (.cells V 24 (0, 0))) := Lib.hid (by rw [← HW6.out]; exact ((Kp.refl (fun _ => False) _).alloc _).at G5.out id)
        have G7 : Hid (W6.heap[w5.heap.size]? = some (.cells V 24 (0, 0))) := Lib.hid (by rw [← HW6.out]; exact heap_alloc_new w5 _)
        go_wp2_with (first
          | (refine wpL_store_row rfl 24 _ _ rfl w5.heap.size V ?_ ?_ 24 u0.cells.toArray ?_ ?_ ?_ ?_ ?_; exact rfl; exact rfl; exact heap_alloc_new w5 _; exact HI.out; exact HZ.out; exact HO.out; rw [World.setRow_alloc_new, HW6.out])
          | (refine wpList_load_row rfl 24 _ rfl w3.heap.size ?_ 24 V (0, 0) _ ?_ Tryz.underlying24 rfl HI.out ?_; (exact rfl); (exact G6.out))
          | (refine wpList_load_row rfl 24 _ rfl w5.heap.size ?_ 24 V (0, 0) _ ?_ Tryz.underlying24 rfl HI.out ?_; (exact rfl); (exact G7.out)))
        go_ret
        exact ⟨rfl, B6.out⟩

theorem uslashes_great (s : ByteArray) (w : World) (hs : 1000 < s.size) (hA : ∀ w', Below w.heap.size w w' → Calls Tryz.prog 27 #[] w' fun e w'' => e = .returned (.bool true) ∧ Below w'.heap.size w' w'') :
    Calls Tryz.prog 8 #[.string s] w fun e w' => e = .returned (.bool true) ∧ Below w.heap.size w w' := by
  have HA := Lib.hid hA
  have hsI : (1000 : Int) < (s.size : Int) := by omega
  clear hA hs
  go_enter Tryz.func8, Tryz.ntmps8
  go_wp2_with fail
  refine (HA.out w (Below.refl _ _)).mono ?_
  rintro e w1 ⟨rfl, b1⟩
  have B1 := Lib.hid b1; clear b1
  go_wp2_with fail
  refine (HA.out w1 B1.out).mono ?_
  rintro e w2 ⟨rfl, b2⟩
  have B2 : Hid (Below w.heap.size w w2) := Lib.hid (us_keep B1.out b2)
  clear b2
  go_wp2
  go_ret
  exact ⟨rfl, B2.out⟩
theorem uslashes_walk (s : ByteArray) (w : World) (_hs : s.size ≤ 140737488351232) (hW : Uw w) :
    Calls Tryz.prog 8 #[.string s] w fun e w' => e = .returned (.bool true) ∧ Below w.heap.size w w' := by
  by_cases h : s.size ≤ 1000
  · have hp := fun (w' : World) (hb : Below w.heap.size w w') => Parse0_any s u0 w' (paOk_small h) (hW.later hb)
    have hq := fun (w' : World) (hb : Below w.heap.size w w') => Parse0_any (flipS s) u0 w' (paOk_small (by rw [flipS_size]; exact h)) (hW.later hb)
    rw [paT_flip] at hq
    exact uslashes_small s.data.toList (paT s).1.cells.toArray (paT s).2 w (by rw [lenB]; exact h) infoU (cells_one _) rfl (fun w => by rw [eqU, eqC_self]) (alive6u_any w hW) hp hq
  · exact uslashes_great s w (by omega) (fun w' hb => alive6u_any w' (hW.later hb))

end Go.Proofs.YtndacnpcocahhaaGreatDoor
