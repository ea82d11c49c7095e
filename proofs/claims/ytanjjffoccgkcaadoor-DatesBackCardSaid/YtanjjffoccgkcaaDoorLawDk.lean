/-
  The walk of DatesBack.
-/
import Derived.Test.YtanjjffoccgkcaaDoorDtA
namespace Go.Proofs.YtanjjffoccgkcaaDoor
open Go.RowKit

/-- A byte as a great letter. -/
def upB (c : UInt8) : UInt8 := if 97 ≤ c.toNat ∧ c.toNat ≤ 122 then c - 32 else c
def mTo (f : UInt8 → UInt8) (l : List UInt8) (k : Nat) : List UInt8 := (l.take k).map f ++ l.drop k
theorem mTo_len (f : UInt8 → UInt8) (l : List UInt8) (k : Nat) : (mTo f l k).length = l.length := by
  simp [mTo]; omega
theorem mTo_at (f : UInt8 → UInt8) (l : List UInt8) (k : Nat) (h : k < l.length) (h' : k < (mTo f l k).length) : (mTo f l k)[k] = l[k] := by
  have e : (mTo f l k)[k]? = some l[k] := by
    unfold mTo
    rw [List.getElem?_append_right (by simp; omega), List.getElem?_drop, ← List.getElem?_eq_getElem h]
    congr 1
    simp; omega
  rw [List.getElem?_eq_getElem h'] at e
  exact Option.some.inj e
theorem mTo_next (f : UInt8 → UInt8) (l : List UInt8) (k : Nat) (h : k < l.length) : mTo f l (k + 1) = (mTo f l k).set k (f l[k]) := by
  apply List.ext_getElem?
  intro j
  rw [List.getElem?_set]
  unfold mTo
  by_cases e : k = j
  · subst e
    rw [if_pos rfl, if_pos (by simp; omega), List.getElem?_append_left (by simp; omega), List.getElem?_map, List.getElem?_take_of_lt (by omega), List.getElem?_eq_getElem h]; rfl
  · rw [if_neg e]
    by_cases hj : j < k
    · rw [List.getElem?_append_left (by simp; omega), List.getElem?_append_left (by simp; omega), List.getElem?_map, List.getElem?_map, List.getElem?_take_of_lt (by omega), List.getElem?_take_of_lt hj]
    · rw [List.getElem?_append_right (by simp; omega), List.getElem?_append_right (by simp; omega), List.getElem?_drop, List.getElem?_drop]
      congr 1
      simp; omega
theorem mTo_same (f : UInt8 → UInt8) (l : List UInt8) (k : Nat) (h : k < l.length) (e : f l[k] = l[k]) : mTo f l (k + 1) = mTo f l k := by
  rw [mTo_next f l k h]
  have h2 : k < (mTo f l k).length := by rw [mTo_len]; exact h
  have h3 : f l[k] = (mTo f l k)[k] := by rw [mTo_at f l k h h2, e]
  rw [h3, List.set_getElem_self]
theorem mTo_all (f : UInt8 → UInt8) (l : List UInt8) : mTo f l l.length = l.map f := by unfold mTo; simp
theorem br_get (L : List UInt8) (k cap : Nat) (h : k < L.length) : (bytesRow (asB L) cap)[k]? = some (.int .u8 (L[k].toNat : Int)) := bytesRow_at (asB L) cap k (by simpa [asB] using h)
theorem br_row (L : List UInt8) (cap : Nat) (h : L.length ≤ cap) : (bytesRow (asB L) cap).size = cap := by
  unfold bytesRow
  rw [Array.size_append, Array.size_map, Array.size_replicate]
  show L.toArray.size + (cap - L.toArray.size) = cap
  rw [List.size_toArray]; omega
theorem br_put (L : List UInt8) (k cap : Nat) (v : UInt8) (h : k < L.length) (hc : L.length ≤ cap) : (bytesRow (asB L) cap).setIfInBounds k (.int .u8 (v.toNat : Int)) = bytesRow (asB (L.set k v)) cap := by
  apply Array.ext_getElem?
  intro j
  have hz := br_row L cap hc
  rw [Array.getElem?_setIfInBounds]
  by_cases e : k = j
  · subst e
    rw [if_pos rfl, if_pos (by omega), br_get (L.set k v) k cap (by simpa using h)]
    simp
  · rw [if_neg e]
    by_cases hj : j < L.length
    · rw [br_get L j cap hj, br_get (L.set k v) j cap (by simpa using hj)]
      simp [e]
    · unfold bytesRow
      have e1 : (asB L).data.size = L.length := by simp [asB]
      have e2 : (asB (L.set k v)).data.size = L.length := by simp [asB]
      rw [Array.getElem?_append_right (by simp [e1]; omega), Array.getElem?_append_right (by simp [e2]; omega), Array.size_map, Array.size_map, e1, e2]
      rw [show (asB L).size = (asB (L.set k v)).size from e1.trans e2.symm]

theorem up_d2 (n : Nat) : (d2 n).map upB = d2 n := by
  have h : ∀ k : Fin 10, upB (UInt8.ofNat (48 + k.1)) = UInt8.ofNat (48 + k.1) := by decide
  have h2 : ∀ m, upB (UInt8.ofNat (48 + m % 10)) = UInt8.ofNat (48 + m % 10) := fun m => h ⟨m % 10, Nat.mod_lt _ (by omega)⟩
  unfold d2
  simp only [List.map_cons, List.map_nil, h2]
theorem up_text (Y M d k s : Nat) : (textL Y M d k s).map upB = textG ((wkL.getD k []).map upB) d ((monL.getD M []).map upB) Y s [71, 77, 84] := by
  have e44 : upB 44 = 44 := by decide
  have e32 : upB 32 = 32 := by decide
  have e58 : upB 58 = 58 := by decide
  have eg : ([71, 77, 84] : List UInt8).map upB = [71, 77, 84] := by decide
  unfold textL textG yearL clockL
  simp only [List.map_append, List.map_cons, up_d2, e44, e32, e58]
  rw [show ([] : List UInt8).map upB = [] from rfl] at *
  simp [show upB 71 = 71 by decide, show upB 77 = 77 by decide, show upB 84 = 84 by decide]
theorem up_wk (k : Nat) (hk : k < 7) : (∀ c ∈ (wkL.getD k []).map upB, btw c = false) ∧ clockP ((wkL.getD k []).map upB) = none ∧ toldN 1 2 ((wkL.getD k []).map upB) = none ∧ moP ((wkL.getD k []).map upB) = none ∧ toldN 2 4 ((wkL.getD k []).map upB) = none ∧ (wkL.getD k []).map upB ≠ wkL.getD k [] ∧ (wkL.getD k []).length = 3 := by
  have h1 : ∀ n : Fin 7, (∀ c ∈ (wkL.getD n.1 []).map upB, btw c = false) := by decide +kernel
  have h2 : ∀ n : Fin 7, clockP ((wkL.getD n.1 []).map upB) = none := by decide +kernel
  have h3 : ∀ n : Fin 7, toldN 1 2 ((wkL.getD n.1 []).map upB) = none := by decide +kernel
  have h4 : ∀ n : Fin 7, moP ((wkL.getD n.1 []).map upB) = none := by decide +kernel
  have h5 : ∀ n : Fin 7, toldN 2 4 ((wkL.getD n.1 []).map upB) = none := by decide +kernel
  have h6 : ∀ n : Fin 7, (wkL.getD n.1 []).map upB ≠ wkL.getD n.1 [] := by decide +kernel
  have h7 : ∀ n : Fin 7, (wkL.getD n.1 []).length = 3 := by decide +kernel
  exact ⟨h1 ⟨k, hk⟩, h2 ⟨k, hk⟩, h3 ⟨k, hk⟩, h4 ⟨k, hk⟩, h5 ⟨k, hk⟩, h6 ⟨k, hk⟩, h7 ⟨k, hk⟩⟩
theorem up_mn (k : Nat) (h1 : 1 ≤ k) (h2 : k ≤ 12) : (∀ c ∈ (monL.getD k []).map upB, btw c = false) ∧ clockP ((monL.getD k []).map upB) = none ∧ ((monL.getD k []).map upB).map low = (monL.getD k []).map low ∧ ((monL.getD k []).map upB).length = 3 := by
  have g1 : ∀ n : Fin 13, (∀ c ∈ (monL.getD n.1 []).map upB, btw c = false) := by decide +kernel
  have g2 : ∀ n : Fin 13, clockP ((monL.getD n.1 []).map upB) = none := by decide +kernel
  have g3 : ∀ n : Fin 13, ((monL.getD n.1 []).map upB).map low = (monL.getD n.1 []).map low := by decide +kernel
  exact ⟨g1 ⟨k, by omega⟩, g2 ⟨k, by omega⟩, g3 ⟨k, by omega⟩, by rw [List.length_map]; exact mon_len3 k h1 h2⟩
theorem cook_up {n : Int} {l : List UInt8} (h : IsTxt n l) : cookR (toldT (asB (l.map upB))) = n ∧ cookB (toldT (asB (l.map upB))) = true := by
  obtain ⟨k, D, Y, M, d, rfl, h2, hI, rfl⟩ := h
  obtain ⟨w1, w2, w3, w4, w5, _, _⟩ := up_wk ((D + 1) % 7) (by omega)
  obtain ⟨m1, m2, m3, m4⟩ := up_mn M hI.m1 hI.m2
  unfold toldT
  rw [asB_data, up_text]
  exact cook_gen h2 hI m4 m3 w1 w2 w3 w4 w5 m1 m2 gmt_btw
theorem up_not {n : Int} {l : List UInt8} (h : IsTxt n l) : ∀ n', ¬ IsTxt n' (asB (l.map upB)).data.toList := by
  intro n' h'
  rw [asB_data] at h'
  have e1 : n' = n := (cook_txt h').1.symm.trans (cook_up h).1
  subst e1
  have e2 := txt_same h' h
  obtain ⟨k, D, Y, M, d, rfl, h2, hI, rfl⟩ := h
  obtain ⟨_, _, _, _, _, w6, w7⟩ := up_wk ((D + 1) % 7) (by omega)
  apply w6
  have := congrArg (List.take 3) e2
  rw [← List.map_take] at this
  unfold textL at this
  rw [List.take_append_of_le_length (by omega), List.take_of_length_le (by omega)] at this
  exact this
theorem txt_len {n : Int} {l : List UInt8} (h : IsTxt n l) : l.length = 29 := by
  obtain ⟨k, D, Y, M, d, rfl, h2, hI, rfl⟩ := h
  have h1 : (wkL.getD ((D + 1) % 7) []).length = 3 := (up_wk ((D + 1) % 7) (by omega)).2.2.2.2.2.2
  have h3 : (monL.getD M []).length = 3 := mon_len3 M hI.m1 hI.m2
  unfold textL clockL yearL
  simp only [List.length_append, List.length_cons, List.length_nil, h1, h3, len_d2]

set_option maxRecDepth 100000 in
set_option maxHeartbeats 4000000 in
theorem back_walk (n : Nat) (hn : n < 18446744073709551616) (m : Int) (w : World) (hw : DtG m w) :
    Calls Tryd.prog 5 #[.int .u64 (n : Int)] w fun e w' => e = .returned (.bool true) ∧ Below w.heap.size w w' := by
  have HG := Lib.hid hw
  have HAl := Lib.hid (fun w hw => alive7_any m w hw)
  obtain ⟨k, hk⟩ : ∃ k, n % 253402300800 = k := ⟨_, rfl⟩
  have hkI : (n : Int) % 253402300800 = (k : Int) := by omega
  have hk9 : k < 253402300800 := by omega
  obtain ⟨l, hl⟩ := txt_some (k : Int) (by omega) (by omega)
  have hll := txt_len hl
  have hsz : (asB l).size = l.length := asB_size l
  have HT := Lib.hid (fun w hw => Text_yes hl m w hw)
  have HP := Lib.hid (fun w hw => Parse_yes (s := asB l) (by rw [asB_data]; exact hl) (by rw [asB_size]; omega) m w hw)
  have HC := Lib.hid (fun w hw => Cookie_any (asB l) (by rw [asB_size]; omega) m w hw)
  rw [(cook_txt hl).1, (cook_txt hl).2] at HC
  have HCu := Lib.hid (fun w hw => Cookie_any (asB (l.map upB)) (by rw [asB_size, List.length_map]; omega) m w hw)
  rw [(cook_up hl).1, (cook_up hl).2] at HCu
  have HPu := Lib.hid (fun w hw => Parse_none (s := asB (l.map upB)) (up_not hl) (by rw [asB_size, List.length_map]; omega) m w hw)
  have hcv := fun (w : World) => run_bytes_of_string (P := Tryd.prog) w 9 30 5 (asB l) Tryd.underlying9 Tryd.underlying30 Tryd.underlying5
  have E := beq_self_eq_true (k : Int)
  clear hl hw hk
  go_enter Tryd.func5, Tryd.ntmps5
  go_wp2_with fail
  refine (HT.out _ HG.out).mono ?_
  rintro e w1 ⟨rfl, b1⟩
  have B1 := Lib.hid b1; clear b1
  go_wp2_with fail
  refine (HP.out _ (HG.out.below B1.out)).mono ?_
  rintro e w2 ⟨rfl, b2⟩
  have B2 := Lib.hid (B1.out.trans (b2.mono B1.out.size)); clear b2
  go_wp2_with fail
  refine (HC.out _ (HG.out.below B2.out).c0).mono ?_
  rintro e w3 ⟨rfl, b3⟩
  have B3 := Lib.hid (B2.out.trans (b3.mono B2.out.size)); clear b3
  have hge := grownCap_ge w3 29 0 5
  have HM : Hid ((bytesRow (asB l) (grownCap w3 29 0 5)).size = grownCap w3 29 0 5) := Lib.hid (br_row l _ (by omega))
  go_wp2
  clear hcv
  rw [HM.out]
  clear HM
  generalize grownCap w3 29 0 5 = cap at *
  go_loopw [11] (fun i wr => ∃ k : Nat, k ≤ 29 ∧ i = .int .i64 (k : Int) ∧ wr = (w3.alloc (.cells (bytesRow (asB (mTo upB l k)) cap) 5 (cap, cap + 1))).drew) (fun i _ => 29 - (intOf i).toNat)
  case atStart => exact ⟨0, Nat.zero_le _, rfl, rfl⟩
  case round =>
    obtain ⟨j, hj, rfl, rfl⟩ := hrel
    obtain ⟨R, HR⟩ : ∃ R, Hid (R = bytesRow (asB (mTo upB l j)) cap) := ⟨_, rfl⟩
    rw [← HR.out]
    by_cases hlt : j < 29
    · have hltl : j < l.length := by omega
      have hlt2 : j < (mTo upB l j).length := by rw [mTo_len]; exact hltl
      obtain ⟨c, Hc⟩ : ∃ c : UInt8, l[j] = c := ⟨_, rfl⟩
      have hc : (w3.alloc (.cells R 5 (cap, cap + 1))).cell? ⟨w3.heap.size, j, none⟩ = some (.int .u8 (c.toNat : Int)) := by rw [World.cell?_alloc_mark, HR.out, br_get _ _ _ hlt2, mTo_at upB l j hltl hlt2, Hc]
      have hf : (w3.alloc (.cells R 5 (cap, cap + 1))).frozen? ⟨w3.heap.size, j, none⟩ = false := frozen_alloc_mark _ _ _ _ _ (by omega)
      have hji : (j : Int) < 29 := by omega
      by_cases hlo : 97 ≤ c.toNat ∧ c.toNat ≤ 122
      · have hv : ((c - 32).toNat : Int) = (c.toNat : Int) - 32 := by
          have : (c - 32).toNat = c.toNat - 32 := by
            have h32 : (32 : UInt8).toNat = 32 := rfl
            rw [UInt8.toNat_sub_of_le _ _ (by rw [UInt8.le_iff_toNat_le, h32]; omega), h32]
          omega
        have HS : Hid (R.setIfInBounds j (.int .u8 ((c.toNat : Int) - 32)) = bytesRow (asB (mTo upB l (j + 1))) cap) := Lib.hid (by
          rw [mTo_next upB l j hltl, HR.out, ← br_put _ j cap _ hlt2 (by rw [mTo_len]; omega), Hc, ← hv]
          unfold upB; rw [if_pos hlo])
        have p1 : (97 : Int) ≤ (c.toNat : Int) := by omega
        have p2 : (c.toNat : Int) ≤ 122 := by omega
        have hwr : IntKind.u8.wrap ((c.toNat : Int) - 32) = (c.toNat : Int) - 32 := IntWalk.u8_in _ (by omega)
        clear Hc hlo
        go_wp2
        refine ⟨⟨j + 1, by omega, by go_num, ?_⟩, by simp [intOf]; omega⟩
        rw [setCell_alloc_mark, HS.out]
      · have HS : Hid (R = bytesRow (asB (mTo upB l (j + 1))) cap) := Lib.hid (by
          rw [mTo_same upB l j hltl (by rw [Hc]; unfold upB; rw [if_neg hlo])]; exact HR.out)
        by_cases h97 : 97 ≤ c.toNat
        · have p1 : (97 : Int) ≤ (c.toNat : Int) := by omega
          have p2 : ¬ (c.toNat : Int) ≤ 122 := by omega
          clear Hc hlo
          go_wp2
          refine ⟨⟨j + 1, by omega, by go_num, ?_⟩, by simp [intOf]; omega⟩
          rw [HS.out]
        · have p1 : ¬ (97 : Int) ≤ (c.toNat : Int) := by omega
          clear Hc hlo
          go_wp2
          refine ⟨⟨j + 1, by omega, by go_num, ?_⟩, by simp [intOf]; omega⟩
          rw [HS.out]
    · have hj29 : j = 29 := by omega
      subst hj29
      have hRe : R = bytesRow (asB (l.map upB)) cap := by rw [HR.out, ← hll, mTo_all]
      have HRe := Lib.hid hRe
      clear HR hRe
      obtain ⟨W, HW⟩ : ∃ W, Hid ((w3.alloc (.cells R 5 (cap, cap + 1))).drew = W) := ⟨_, Lib.hid rfl⟩
      have HBW : Hid (Below w.heap.size w W) := Lib.hid (by rw [← HW.out]; exact (B3.out.alloc B3.out.size _).drew)
      have HCl : Hid (∀ j, (h : j < (l.map upB).length) → W.cell? ⟨w3.heap.size, j, none⟩ = some (.int .u8 ((l.map upB)[j].toNat : Int))) := Lib.hid (fun j h => by
        rw [← HW.out, World.cell?_drew, World.cell?_alloc_mark, HRe.out, br_get _ _ _ h])
      have Hltw : Hid (w3.heap.size < W.heap.size) := Lib.hid (by rw [← HW.out]; exact lt_of_block (heap_alloc_new w3 _))
      rw [HW.out]
      clear HW HRe
      have hadd : ∀ j, (⟨w3.heap.size, 0, none⟩ : Addr).add j = ⟨w3.heap.size, j, none⟩ := fun j => by unfold Addr.add; split <;> simp_all
      have HB : Hid (∀ W', Below W.heap.size W W' → (convert 30 9 (.slice (some ⟨w3.heap.size, 0, none⟩) 29 cap)).run Tryd.prog W' = .ok (.string (asB (l.map upB))) W') := Lib.hid (fun W' hb => by
        have h := run_convert_bytes_back (P := Tryd.prog) W' 30 9 5 ⟨w3.heap.size, 0, none⟩ cap (l.map upB) Tryd.underlying30 Tryd.underlying5 Tryd.underlying9 (fun j hj => by
          rw [hadd]
          exact (hb.cell (p := ⟨w3.heap.size, j, none⟩) Hltw.out).trans (HCl.out j hj))
        rw [List.length_map, hll] at h
        exact h)
      have hb1 := HB.out W (Below.refl _ _)
      clear hadd
      go_wp2_with fail
      refine (HCu.out _ (HG.out.below HBW.out).c0).mono ?_
      rintro e w4 ⟨rfl, b4⟩
      have B4 := Lib.hid (HBW.out.trans (b4.mono HBW.out.size))
      have hb2 := HB.out w4 b4
      clear b4 hb1
      go_wp2_with fail
      refine (HPu.out _ (HG.out.below B4.out)).mono ?_
      rintro e w5 ⟨rfl, b5⟩
      have B5 := Lib.hid (B4.out.trans (b5.mono B4.out.size))
      clear b5 hb2
      go_wp2_with fail
      refine (HAl.out _ (HG.out.below B5.out)).mono ?_
      rintro e w6 ⟨rfl, b6⟩
      go_wp2
      go_ret
      exact ⟨rfl, B5.out.trans (b6.mono B5.out.size)⟩

end Go.Proofs.YtanjjffoccgkcaaDoor
