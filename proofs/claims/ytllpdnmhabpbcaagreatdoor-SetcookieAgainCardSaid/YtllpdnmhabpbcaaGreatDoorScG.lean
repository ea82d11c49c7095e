/-
  Package setcookie: textOf.
-/
import Derived.Test.YtllpdnmhabpbcaaGreatDoorScF
namespace Go.Proofs.YtllpdnmhabpbcaaGreatDoor
open Go.RowKit

set_option maxHeartbeats 8000000 in
set_option maxRecDepth 100000 in
theorem textOf_any (t : Cki) (D : List UInt8) (hD : DateOf t.ex D) (hsz : t.nm.size + t.vl.size + t.dm.size + t.pa.size ≤ 2000000) (h0 : -9223372036854775808 ≤ t.ag) (h1 : t.ag ≤ 9223372036854775807) (m : Int) (w : World) (hw : DtG m w) :
    Calls Tryz.prog 14 #[.agg (ckR t)] w fun e w' => e = .returned (.string (txtC t D)) ∧ Below w.heap.size w w' := by
  obtain ⟨nm, vl, dm, pa, ex, hx, ag, ha, se, hi, si⟩ := t
  simp only at hD hsz h0 h1
  unfold ckR
  simp only
  obtain ⟨T, HT⟩ : ∃ T : Cki, Hid ((⟨nm, vl, dm, pa, ex, hx, ag, ha, se, hi, si⟩ : Cki) = T) := ⟨_, Lib.hid rfl⟩
  have HD := Lib.hid fun w hw => date_any hD m w hw
  have HI := Lib.hid fun w htab => Itoa_full ag h0 h1 w htab
  have HG := Lib.hid hw
  have hdl := date_len hD
  clear hw hD
  go_enter Tryz.func14, Tryz.ntmps14
  have hds : (asB D).size ≤ 29 := by rw [asB_size]; exact hdl
  obtain ⟨DB, HDB⟩ : ∃ DB, Hid (asB D = DB) := ⟨_, Lib.hid rfl⟩
  rw [HDB.out] at HD hds
  obtain ⟨F, HF⟩ : ∃ F, Hid (nm ++ ⟨#[61]⟩ ++ vl = F) := ⟨_, Lib.hid rfl⟩
  obtain ⟨W1, HW1⟩ : ∃ W, Hid (((w.alloc (.cells #[.string nm, .string vl, .string dm, .string pa, .int .i64 ex, .bool hx, .int .i64 ag, .bool ha, .bool se, .bool hi, .int .u8 si] 26)).alloc (.cells #[.string F] 9)).alloc (.cells #[.slice (some ⟨w.heap.size + 1, 0, none⟩) 1 1] 36) = W) := ⟨_, Lib.hid rfl⟩
  have HX1 : Hid (CkTx w T [F] W1) := Lib.hid (by
    rw [← HW1.out, ← HT.out]
    have k1 := (Below.refl w.heap.size w).alloc (Nat.le_refl _) (.cells #[.string nm, .string vl, .string dm, .string pa, .int .i64 ex, .bool hx, .int .i64 ag, .bool ha, .bool se, .bool hi, .int .u8 si] 26)
    have e0 := heap_alloc_new w (.cells #[.string nm, .string vl, .string dm, .string pa, .int .i64 ex, .bool hx, .int .i64 ag, .bool ha, .bool se, .bool hi, .int .u8 si] 26)
    generalize hA : w.alloc (.cells #[.string nm, .string vl, .string dm, .string pa, .int .i64 ex, .bool hx, .int .i64 ag, .bool ha, .bool se, .bool hi, .int .u8 si] 26) = A at *
    have sA : A.heap.size = w.heap.size + 1 := by rw [← hA]; simp
    have e1 := heap_alloc_new A (.cells #[.string F] 9)
    have e2 : (A.alloc (.cells #[.string F] 9)).heap[w.heap.size]? = _ := (Below.heap_alloc A _ _ (by omega)).trans e0
    have k2 := k1.alloc (by omega) (.cells #[.string F] 9)
    generalize hB : A.alloc (.cells #[.string F] 9) = B at *
    have sB : B.heap.size = w.heap.size + 1 + 1 := by rw [← hB]; simp [sA]
    rw [sA] at e1
    have e3 : (B.alloc (.cells #[.slice (some ⟨w.heap.size + 1, 0, none⟩) 1 1] 36)).heap[w.heap.size]? = _ := (Below.heap_alloc B _ _ (by omega)).trans e2
    have e4 : (B.alloc (.cells #[.slice (some ⟨w.heap.size + 1, 0, none⟩) 1 1] 36)).heap[w.heap.size + 1]? = _ := (Below.heap_alloc B _ _ (by omega)).trans e1
    have e5 := heap_alloc_new B (.cells #[.slice (some ⟨w.heap.size + 1, 0, none⟩) 1 1] 36)
    rw [sB] at e5
    refine ⟨⟨by omega, _, e5, ⟨rfl, .inr ⟨w.heap.size + 1, 1, _, rfl, Nat.le_refl _, e4, Nat.le_refl _, by decide, rfl, rfl⟩⟩, fun e => ?_⟩, e3, k2.alloc (by omega) _, by simp [sB], by simp⟩
    injection e with e
    have e' : w.heap.size + 1 = w.heap.size + 1 + 1 := e
    omega)
  have HG1 := Lib.hid (HG.out.below HX1.out.bel)
  go_wp2_with fail
  rw [HF.out, HW1.out]
  refine (HD.out _ HG1.out).mono ?_
  rintro e w3 ⟨⟨ok, rfl⟩, b3⟩
  have HX3 := Lib.hid (HX1.out.below b3)
  have c5 := HX3.out.cell 5 (v := .bool hx) (by rw [← HT.out]; rfl)
  clear b3
  go_wp2_with fail
  refine (HX3.out.tell (by simp) _ _).mono ?_
  rintro e w4 ⟨rfl, hX4⟩
  have HX4 := Lib.hid hX4
  have HG4 := Lib.hid (HG.out.below hX4.bel)
  clear hX4 c5
  have hl4 : ([F] ++ opt hx (({ data := #[69, 120, 112, 105, 114, 101, 115, 61] } : ByteArray) ++ DB)).length ≤ 2 := by unfold opt; split <;> simp
  obtain ⟨P4, HP4⟩ : ∃ P, Hid (([F] ++ opt hx (({ data := #[69, 120, 112, 105, 114, 101, 115, 61] } : ByteArray) ++ DB)) = P) := ⟨_, Lib.hid rfl⟩
  rw [HP4.out] at HX4 hl4
  have c7 := HX4.out.cell 7 (v := .bool ha) (by rw [← HT.out]; rfl)
  have c6 := HX4.out.cell 6 (v := .int .i64 ag) (by rw [← HT.out]; rfl)
  obtain ⟨NB, HNB⟩ : ∃ NB, Hid (asB (Lib.itoa ag) = NB) := ⟨_, Lib.hid rfl⟩
  have hns : NB.size ≤ 1000 := by rw [← HNB.out, asB_size]; exact itoa_len ag h0 h1
  rw [HNB.out] at HI
  clear h0 h1
  have HItoa : Hid (∀ W, CkTx w T P4 W → Calls Tryz.prog 22 #[.int .i64 ag] W fun e W' => e = .returned (.string NB) ∧ CkTx w T P4 W' ∧ W'.cell? ⟨w.heap.size, 7, none⟩ = some (.bool ha)) := Lib.hid fun W hX =>
    (HI.out W (HG.out.below hX.bel).tb).mono fun e W' ⟨he, hb⟩ => ⟨he, hX.below hb, (hX.below hb).cell 7 (v := .bool ha) (by rw [← HT.out]; rfl)⟩
  have HTl : Hid (∀ W b x, CkTx w T P4 W → Calls Tryz.prog 20 #[.bool b, .string x, .pointer (some ⟨w.heap.size + 1 + 1, 0, none⟩)] W fun e W' => e = .returned (.tuple #[]) ∧ CkTx w T (P4 ++ opt b x) W') := Lib.hid fun W b x hX => hX.tell (by omega) b x
  have HX4d := Lib.hid (HX4.out.below ((Below.refl _ _).drew))
  have hl5 : (P4 ++ opt ha (({ data := #[77, 97, 120, 45, 65, 103, 101, 61] } : ByteArray) ++ NB)).length ≤ 3 := by rw [List.length_append]; unfold opt; split <;> simp <;> omega
  obtain ⟨P5, HP5⟩ : ∃ P, Hid ((P4 ++ opt ha (({ data := #[77, 97, 120, 45, 65, 103, 101, 61] } : ByteArray) ++ NB)) = P) := ⟨_, Lib.hid rfl⟩
  rw [HP5.out] at hl5
  go_wp2_with fail
  go_cut [34] from 27 to 35 (fun s34 wx => s34 = .tuple #[] ∧ Hid (CkTx w T P5 wx))
  case first =>
    go_region_with (first
      | (go_at_call 22; (with_reducible refine (HItoa.out _ HX4d.out).mono ?_); rintro e w5 ⟨rfl, hX5, c7b⟩)
      | (go_at_call 20; (with_reducible refine (HTl.out _ _ _ hX5).mono ?_); rintro e w6 ⟨rfl, hX6⟩; rw [HP5.out] at hX6; have HX6 := Lib.hid hX6; clear hX6))
    all_goals (go_wp2_with fail; go_meet; exact ⟨rfl, HX6⟩)
  case rest =>
    obtain ⟨rfl, HX5⟩ := hcut
    clear HItoa HTl c7 c6 HX4d HX4 HX3 HX1
    have c2 := HX5.out.cell 2 (v := .string dm) (by rw [← HT.out]; rfl)
    have hl6 : (P5 ++ opt (!dm.toList.isEmpty) (({ data := #[68, 111, 109, 97, 105, 110, 61] } : ByteArray) ++ dm)).length ≤ 4 := by rw [List.length_append]; unfold opt; split <;> simp <;> omega
    obtain ⟨P6, HP6⟩ : ∃ P, Hid ((P5 ++ opt (!dm.toList.isEmpty) (({ data := #[68, 111, 109, 97, 105, 110, 61] } : ByteArray) ++ dm)) = P) := ⟨_, Lib.hid rfl⟩
    rw [HP6.out] at hl6
    go_wp2_with fail
    refine (HX5.out.tell (by omega) _ _).mono ?_
    rintro e w6 ⟨rfl, hX6⟩
    rw [HP6.out] at hX6
    have HX6 := Lib.hid hX6
    clear hX6 HX5 c2
    have c3 := HX6.out.cell 3 (v := .string pa) (by rw [← HT.out]; rfl)
    have hl7 : (P6 ++ opt (!pa.toList.isEmpty) (({ data := #[80, 97, 116, 104, 61] } : ByteArray) ++ pa)).length ≤ 5 := by rw [List.length_append]; unfold opt; split <;> simp <;> omega
    obtain ⟨P7, HP7⟩ : ∃ P, Hid ((P6 ++ opt (!pa.toList.isEmpty) (({ data := #[80, 97, 116, 104, 61] } : ByteArray) ++ pa)) = P) := ⟨_, Lib.hid rfl⟩
    rw [HP7.out] at hl7
    go_wp2_with fail
    refine (HX6.out.tell (by omega) _ _).mono ?_
    rintro e w7 ⟨rfl, hX7⟩
    rw [HP7.out] at hX7
    have HX7 := Lib.hid hX7
    clear hX7 HX6 c3
    have c8 := HX7.out.cell 8 (v := .bool se) (by rw [← HT.out]; rfl)
    have hl8 : (P7 ++ opt (se) (({ data := #[83, 101, 99, 117, 114, 101] } : ByteArray))).length ≤ 6 := by rw [List.length_append]; unfold opt; split <;> simp <;> omega
    obtain ⟨P8, HP8⟩ : ∃ P, Hid ((P7 ++ opt (se) (({ data := #[83, 101, 99, 117, 114, 101] } : ByteArray))) = P) := ⟨_, Lib.hid rfl⟩
    rw [HP8.out] at hl8
    go_wp2_with fail
    refine (HX7.out.tell (by omega) _ _).mono ?_
    rintro e w8 ⟨rfl, hX8⟩
    rw [HP8.out] at hX8
    have HX8 := Lib.hid hX8
    clear hX8 HX7 c8
    have c9 := HX8.out.cell 9 (v := .bool hi) (by rw [← HT.out]; rfl)
    have hl9 : (P8 ++ opt (hi) (({ data := #[72, 116, 116, 112, 79, 110, 108, 121] } : ByteArray))).length ≤ 7 := by rw [List.length_append]; unfold opt; split <;> simp <;> omega
    obtain ⟨P9, HP9⟩ : ∃ P, Hid ((P8 ++ opt (hi) (({ data := #[72, 116, 116, 112, 79, 110, 108, 121] } : ByteArray))) = P) := ⟨_, Lib.hid rfl⟩
    rw [HP9.out] at hl9
    go_wp2_with fail
    refine (HX8.out.tell (by omega) _ _).mono ?_
    rintro e w9 ⟨rfl, hX9⟩
    rw [HP9.out] at hX9
    have HX9 := Lib.hid hX9
    clear hX9 HX8 c9
    have c10 := HX9.out.cell 10 (v := .int .u8 si) (by rw [← HT.out]; rfl)
    obtain ⟨SB, HSB⟩ : ∃ SB, Hid (asB (siteL si) = SB) := ⟨_, Lib.hid rfl⟩
    have hss : SB.size ≤ 6 := by
      rw [← HSB.out, asB_size]
      unfold siteL
      split
      · exact Nat.le_refl _
      · split
        · decide
        · split <;> decide
    have HSt := Lib.hid fun w => siteText_any si w
    rw [HSB.out] at HSt
    go_wp2_with fail
    have hl10 : (P9 ++ opt (si != 0) (({ data := #[83, 97, 109, 101, 83, 105, 116, 101, 61] } : ByteArray) ++ SB)).length ≤ 8 := by rw [List.length_append]; unfold opt; split <;> simp <;> omega
    obtain ⟨P10, HP10⟩ : ∃ P, Hid ((P9 ++ opt (si != 0) (({ data := #[83, 97, 109, 101, 83, 105, 116, 101, 61] } : ByteArray) ++ SB)) = P) := ⟨_, Lib.hid rfl⟩
    rw [HP10.out] at hl10
    go_cut [67] from 59 to 68 (fun s67 wx => s67 = .tuple #[] ∧ Hid (CkTx w T P10 wx))
    case first =>
      have HX9d := Lib.hid (HX9.out.below ((Below.refl _ _).drew))
      go_region_with (first
        | (go_at_call 23; refine (HSt.out _).mono ?_; rintro e w10 ⟨rfl, rfl⟩)
        | (go_at_call 20; refine (HX9d.out.tell (by omega) _ _).mono ?_; rintro e w11 ⟨rfl, hX11⟩; rw [HP10.out] at hX11; have HX11 := Lib.hid hX11; clear hX11))
      all_goals (go_wp2_with fail; go_meet; exact ⟨rfl, HX11⟩)
    case rest =>
      obtain ⟨rfl, HX10⟩ := hcut
      have HPC : Hid (pcs T D = P10) := Lib.hid (by
        rw [← HP10.out, ← HP9.out, ← HP8.out, ← HP7.out, ← HP6.out, ← HP5.out, ← HP4.out, ← HF.out, ← HSB.out, ← HNB.out, ← HDB.out, ← HT.out]; rfl)
      have HTX : Hid (asB (Lib.join (P10.map (·.data.toList)) [59, 32]) = txtC T D) := Lib.hid (by rw [← HPC.out]; rfl)
      have hp1 : 1 ≤ P10.length := by
        rw [← HPC.out]; unfold pcs; simp only [List.length_append, List.length_cons, List.length_nil]; omega
      have hsum : (Lib.join (P10.map (·.data.toList)) [59, 32]).length ≤ 100000000 := by
        rw [← HPC.out]
        refine Nat.le_trans (join_bd 3000000 _ ?_) ?_
        · intro x hx
          obtain ⟨y, hy, rfl⟩ := List.mem_map.1 hx
          rw [lenB]
          refine pcs_bd T D (by rw [← HT.out]; exact hsz) hdl ?_ y hy
          rw [← HT.out, ← asB_size, HNB.out]; exact hns
        · rw [List.length_map, HPC.out]; omega
      obtain ⟨g, cap, hc, hJ⟩ := HX10.out.join hp1 hsum
      have HJ2 := Lib.hid hJ
      rw [HTX.out] at HJ2
      have HBl := Lib.hid HX10.out.bel
      clear hsum hJ
      have HTT : Hid ((⟨nm, vl, dm, pa, ex, hx, ag, ha, se, hi, si⟩ : Cki) = T) := HT
      go_wp2_with fail
      refine HJ2.out.mono ?_
      rintro e w12 ⟨rfl, b12⟩
      go_wp2
      go_ret
      exact ⟨by rw [HTT.out]; rfl, HBl.out.trans (b12.mono HBl.out.size)⟩

end Go.Proofs.YtllpdnmhabpbcaaGreatDoor
