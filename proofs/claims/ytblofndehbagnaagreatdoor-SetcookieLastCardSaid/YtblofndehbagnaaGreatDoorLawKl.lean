/-
  The walk of SetcookieLast.
-/
import Derived.Test.YtblofndehbagnaaGreatDoorScI
import Derived.Test.YtblofndehbagnaaGreatDoorScY
namespace Go.Proofs.YtblofndehbagnaaGreatDoor
open Go.RowKit

def DGl : ByteArray := ⟨#[48, 49, 50, 51, 52, 53, 54, 55, 56, 57]⟩
theorem dgl_at (k : Nat) (hk : k < 10) : DGl.extract k (k + 1) = asB [UInt8.ofNat (48 + k)] := by
  have : ∀ j : Fin 10, DGl.extract j.1 (j.1 + 1) = asB [UInt8.ofNat (48 + j.1)] := by decide +kernel
  exact this ⟨k, hk⟩
theorem slice_dgl (k : Nat) (hk : k < 10) (v u : Int) (hv : v = k) (hu : u = (k : Int) + 1) (w : World) : (Instr.slice 9 (.string ({ data := #[48, 49, 50, 51, 52, 53, 54, 55, 56, 57] } : ByteArray)) (some (.int .i64 v)) (some (.int .i64 u)) none).run Tryz.prog w = .ok (.string (asB [UInt8.ofNat (48 + k)])) w := by
  subst hv
  subst hu
  have h := run_slice_string_if (P := Tryz.prog) (w := w) 9 DGl .i64 .i64 (k : Int) ((k : Int) + 1) Tryz.underlying9
  have hs : DGl.size = 10 := rfl
  rw [hs, if_pos ⟨by omega, by omega⟩, if_pos ⟨by omega, by omega⟩, show ((k : Int)).toNat = k by omega, show ((k : Int) + 1).toNat = k + 1 by omega, dgl_at k hk] at h
  exact h
theorem last_okP {s : ByteArray} {t : Cki} (h : prsC s = (t, 0)) : okP s t = true := by
  unfold okP
  rw [h, (ckEq_iff _ _).2 rfl]; rfl
theorem last_idle {s : ByteArray} {t : Cki} (h : prsC s = (t, 0)) (hs : s.size ≤ 60000) : okP (s ++ ({ data := #[59, 32, 120, 59, 32, 121, 61, 122, 59, 59, 32, 61, 59, 32, 77, 97, 120, 45, 65, 103, 101, 61, 97, 59, 32, 69, 120, 112, 105, 114, 101, 115, 61, 98] } : ByteArray)) t = true := by
  refine last_okP ?_
  rw [prsC_eq] at h ⊢
  rw [ByteArray.data_append, Array.toList_append]
  have := last_app h (by rw [lenB]; exact hs) (X := [32, 120, 59, 32, 121, 61, 122, 59, 59, 32, 61, 59, 32, 77, 97, 120, 45, 65, 103, 101, 61, 97, 59, 32, 69, 120, 112, 105, 114, 101, 115, 61, 98]) (by decide) (by decide)
  rw [tailA_idle] at this
  exact this
theorem last_tells {s u : ByteArray} {t : Cki} {d : List UInt8} {n : Int} {k : Nat} (h : prsC s = (t, 0)) (hs : s.size ≤ 60000) (hu : u.data.toList = s.data.toList ++ 59 :: tlB d k) (hk : k < 4) (hd : allR 48 57 d = true) (h0 : d ≠ []) (hl : d.length ≤ 1024) (hn : num d = n) (hm : n ≤ 2147483647) : okP u (lastC t n k) = true := by
  refine last_okP ?_
  rw [prsC_eq] at h ⊢
  rw [hu]
  have hr : (tlR k).any ctlB = false ∧ (tlR k).length ≤ 200 := by
    rcases (show k = 0 ∨ k = 1 ∨ k = 2 ∨ k = 3 by omega) with rfl | rfl | rfl | rfl <;> decide
  have hdc : d.any ctlB = false := by
    rw [List.any_eq_false]
    intro c hc hb
    obtain ⟨h0, h1⟩ := inR_true.1 (List.all_eq_true.1 hd c hc)
    unfold ctlB at hb
    simp at hb
    omega
  rw [last_app h (by rw [lenB]; exact hs) (X := tlB d k) (by
    unfold tlB
    simp only [List.any_append, List.any_cons, List.any_nil, hdc, hr.1]; decide) (by
    unfold tlB
    simp only [List.length_append, List.length_cons, List.length_nil]
    have := hr.2
    omega), tailB_says t d n k hk hd h0 hl hn hm]

theorem ext_mid10 (t : ByteArray) (f k : Nat) (_hk : k ≤ t.size) : (t.extract f k).data.toList = (t.data.toList.drop f).take (k - f) := by
  rw [ByteArray.data_extract, Array.toList_extract, List.extract_eq_take_drop]
theorem sl1_to (s : ByteArray) (k : Nat) (hk : k ≤ s.size) (w : World) : (Instr.slice 9 (.string s) none (some (.int .i64 (k : Int))) none).run Tryz.prog w = .ok (.string (asB (s.data.toList.take k))) w := by
  have h := run_slice_string_to_if (P := Tryz.prog) (w := w) 9 s .i64 (k : Int) Tryz.underlying9
  rw [if_pos ⟨by omega, by omega⟩, Int.toNat_natCast] at h
  rw [h, show s.extract 0 k = asB (s.data.toList.take k) from ba_list (by rw [ext_mid10 s 0 k hk]; rfl)]
theorem sl1_from (s : ByteArray) (k : Nat) (hk : k ≤ s.size) (w : World) : (Instr.slice 9 (.string s) (some (.int .i64 (k : Int))) none none).run Tryz.prog w = .ok (.string (asB (s.data.toList.drop k))) w := by
  skip
  have h := run_slice_string_from_if (P := Tryz.prog) (w := w) 9 s .i64 (k : Int) Tryz.underlying9
  rw [if_pos ⟨by omega, by omega⟩, Int.toNat_natCast] at h
  rw [h, show s.extract k s.size = asB (s.data.toList.drop k) from ba_list (by rw [ext_mid10 s k s.size (Nat.le_refl _), List.take_of_length_le (by rw [List.length_drop, lenB]; exact Nat.le_refl _)]; rfl)]
def CkT (w : World) (b : Nat) (t : Cki) : Prop := w.heap[b]? = some (.cells (ckR t) 24 (0, 0))
theorem CkT.cell {w : World} {b : Nat} {t : Cki} (h : CkT w b t) (k : Nat) {v : Value} (hv : (ckR t)[k]? = some v) : w.cell? ⟨b, k, none⟩ = some v := by
  rw [cell_of_row w b k _ _ _ h]; exact hv
theorem CkT.free {w : World} {b : Nat} {t : Cki} (h : CkT w b t) (k : Nat) : w.frozen? ⟨b, k, none⟩ = false := frozen_of_row w b k _ _ h
theorem CkT.lt {w : World} {b : Nat} {t : Cki} (h : CkT w b t) : b < w.heap.size := lt_of_block h
theorem CkT.set {w : World} {b : Nat} {t t' : Cki} (h : CkT w b t) (k : Nat) (v : Value) (e : (ckR t).setIfInBounds k v = ckR t') : CkT (w.setCell ⟨b, k, none⟩ v) b t' := by
  unfold CkT at *
  rw [heap_setCell_same _ _ _ _ _ _ h, e]
theorem CkT.below {w w' : World} {b : Nat} {t : Cki} (h : CkT w b t) (hb : Below w.heap.size w w') : CkT w' b t := (hb.block b h.lt).trans h

set_option maxHeartbeats 4000000 in
set_option maxRecDepth 100000 in
theorem klast_walk (s : ByteArray) (n st : Nat) (hn : n < 65536) (hst : st < 256) (hs : s.size ≤ 140737488355328) (m : Int) (w : World) (hw : DtG m w) :
    Calls Tryz.prog 7 #[.string s, .int .u16 (n : Int), .int .u8 (st : Int)] w fun e w' => e = .returned (.bool true) ∧ Below w.heap.size w w' := by
  have HG := Lib.hid hw
  have HAl := Lib.hid fun w hw => alive10_any m w hw
  by_cases hbig : 60000 < s.size
  · have hI : (60000 : Int) < (s.size : Int) := by omega
    clear hw hbig
    go_enter Tryz.func7, Tryz.ntmps7
    go_wp2_with fail
    refine (HAl.out _ HG.out).mono ?_
    rintro e w1 ⟨rfl, b1⟩
    have HB1 := Lib.hid b1
    clear b1
    go_wp2_with fail
    refine (HAl.out _ (HG.out.below HB1.out)).mono ?_
    rintro e w2 ⟨rfl, b2⟩
    go_wp2
    go_ret
    exact ⟨rfl, HB1.out.trans (b2.mono HB1.out.size)⟩
  have hI : ¬ (60000 : Int) < (s.size : Int) := by omega
  obtain ⟨U, E, HU⟩ : ∃ U E, Hid (prsC s = (U, E)) := ⟨_, _, Lib.hid rfl⟩
  obtain ⟨C, HC, HCs, HC1⟩ : ∃ C, Hid (ckR U = C) ∧ Hid (C.size = 11) ∧ Hid (C.all (·.oneCell') = true) := ⟨_, Lib.hid rfl, Lib.hid rfl, Lib.hid (ckR_one _)⟩
  have HP1 : Hid (∀ w', DtC0 m w' → Calls Tryz.prog 11 #[.string s] w' fun e w'' => e = .returned (.tuple #[.agg C, .int .i64 E]) ∧ Below w'.heap.size w' w'') := Lib.hid fun w' h => by
    have := Parse_any s m w' h
    rw [HU.out] at this
    rw [← HC.out]; exact this
  have HTA : Hid (E = 0 → okP (s ++ ({ data := #[59, 32, 120, 59, 32, 121, 61, 122, 59, 59, 32, 61, 59, 32, 77, 97, 120, 45, 65, 103, 101, 61, 97, 59, 32, 69, 120, 112, 105, 114, 101, 115, 61, 98] } : ByteArray)) U = true) := Lib.hid fun hE => last_idle (by rw [HU.out, hE]) (by omega)
  have HTB : Hid (E = 0 → ∀ (u : ByteArray) (d : List UInt8) (k : Nat), u.data.toList = s.data.toList ++ 59 :: tlB d k → k < 4 → allR 48 57 d = true → d ≠ [] → d.length ≤ 1024 → num d = (n : Int) → okP u (lastC U n k) = true) := Lib.hid fun hE u d k hu hk hd h0 hl hn' => last_tells (by rw [HU.out, hE]) (by omega) hu hk hd h0 hl hn' (by omega)
  clear hw hbig
  go_enter Tryz.func7, Tryz.ntmps7
  go_wp2_with fail
  refine (HAl.out _ HG.out).mono ?_
  rintro e w1 ⟨rfl, b1⟩
  have HB1 := Lib.hid b1
  clear b1
  go_wp2_with fail
  refine (HP1.out _ (HG.out.below HB1.out).c0).mono ?_
  rintro e w6 ⟨rfl, b6⟩
  have HB6 := Lib.hid (HB1.out.trans (b6.mono HB1.out.size))
  clear b6
  have HA7 : Hid ((w6.alloc (.cells (ckR ck0) 24)).heap[w6.heap.size]? = some (.cells (ckR ck0) 24 (0, 0))) := Lib.hid (heap_alloc_new w6 _)
  obtain ⟨W7, HW7⟩ : ∃ W, Hid ((w6.alloc (.cells #[.string ⟨#[]⟩, .string ⟨#[]⟩, .string ⟨#[]⟩, .string ⟨#[]⟩, .int .i64 0, .bool false, .int .i64 0, .bool false, .bool false, .bool false, .int .u8 0] 24)).setRow w6.heap.size C = W) := ⟨_, Lib.hid rfl⟩
  have HD7 : Hid (W7.heap[w6.heap.size]? = some (.cells C 24 (0, 0))) := Lib.hid (by rw [← HW7.out]; exact setRow_heap _ _ _ _ _ _ HA7.out)
  have HB7 : Hid (Below w.heap.size w W7) := Lib.hid (by rw [← HW7.out]; exact sc_below (HB6.out.alloc HB6.out.size _) _ _ HB6.out.size)
  have hbw := HB6.out.size
  obtain ⟨b, Hb⟩ : ∃ b, Hid (w6.heap.size = b) := ⟨_, Lib.hid rfl⟩
  by_cases hE : E = 0
  · subst hE
    have HIs : Hid (∀ w', DtC0 m w' → Calls Tryz.prog 18 #[.string (s ++ ({ data := #[59, 32, 120, 59, 32, 121, 61, 122, 59, 59, 32, 61, 59, 32, 77, 97, 120, 45, 65, 103, 101, 61, 97, 59, 32, 69, 120, 112, 105, 114, 101, 115, 61, 98] } : ByteArray)), .agg C] w' fun e w'' => e = .returned (.bool true) ∧ Below w'.heap.size w' w'') := Lib.hid fun w' h => by
      have := is10_any (s ++ ({ data := #[59, 32, 120, 59, 32, 121, 61, 122, 59, 59, 32, 61, 59, 32, 77, 97, 120, 45, 65, 103, 101, 61, 97, 59, 32, 69, 120, 112, 105, 114, 101, 115, 61, 98] } : ByteArray)) U m w' h
      rw [HTA.out rfl, HC.out] at this
      exact this
    have z1 : ¬ 9223372036854775807 < s.size + 34 := by omega
    have HTB0 := Lib.hid (HTB.out rfl)
    clear HTA HTB
    go_wp2_with (first
      | (refine wpL_store_row rfl 24 _ _ rfl w6.heap.size C ?_ ?_ 24 (ckR ck0) ?_ ?_ ?_ ?_ ?_; exact rfl; exact rfl; (exact HA7.out); (rw [HCs.out]; exact infoTo); (rw [HCs.out]; rfl); exact HC1.out; rw [HW7.out])
      | (refine scW_load rfl 24 _ rfl w6.heap.size ?_ 24 C (0, 0) _ ?_ Tryz.underlying24 rfl ?_ ?_; (exact rfl); (exact HD7.out); (rw [HCs.out]; exact infoTo)))
    refine (HIs.out _ (HG.out.below HB7.out).c0).mono ?_
    rintro e w8 ⟨rfl, b8⟩
    have HB8 := Lib.hid (HB7.out.trans (b8.mono HB7.out.size))
    have HT8 : Hid (CkT w8 b U) := Lib.hid (by
      show w8.heap[b]? = _
      rw [← Hb.out, HC.out]; exact (b8.block _ (lt_of_block HD7.out)).trans HD7.out)
    clear b8 hI
    rw [Hb.out] at hbw
    have hwr : IntKind.i64.wrap (n : Int) = (n : Int) := by rw [IntKind.wrap_i64]; omega
    go_wp2
    rw [Hb.out]
    go_loopw [9, 10] (fun dg i wr => ∃ (k : Nat) (X : List UInt8), i = .int .i64 (k : Int) ∧ dg = .string (asB (48 :: X)) ∧ k ≤ n ∧ X.length ≤ 5 ∧ (0 < k → X.length ≤ 4) ∧ Hid (k * 10 ^ X.length ≤ n) ∧ Hid ((n : Int) = (k : Int) * 10 ^ X.length + num X) ∧ Hid (allR 48 57 X = true) ∧ Hid (Below w8.heap.size w8 wr)) (fun _ i _ => (intOf i).toNat)
    case atStart => exact ⟨n, [], rfl, rfl, Nat.le_refl _, by simp, by simp, Lib.hid (by simp), Lib.hid (by simp [num]), Lib.hid rfl, Lib.hid (Below.refl _ _)⟩
    case round =>
      obtain ⟨k, X, rfl, rfl, hkn, hX5, hX4, HL, HN, HA, HBr⟩ := hrel
      by_cases hk : 0 < k
      · have hkI : (0 : Int) < (k : Int) := by omega
        have hX := hX4 hk
        obtain ⟨d, Hd⟩ : ∃ d, Hid (k % 10 = d) := ⟨_, Lib.hid rfl⟩
        have hd : d < 10 := by rw [← Hd.out]; omega
        have HX1 : Hid (k / 10 * 10 ^ (UInt8.ofNat (48 + d) :: X).length ≤ n) := Lib.hid (by
          rw [List.length_cons, Nat.pow_succ, Nat.mul_comm (10 ^ X.length) 10, ← Nat.mul_assoc]
          exact Nat.le_trans (Nat.mul_le_mul_right _ (by omega)) HL.out)
        have HX2 : Hid ((n : Int) = ((k / 10 : Nat) : Int) * 10 ^ (UInt8.ofNat (48 + d) :: X).length + num (UInt8.ofNat (48 + d) :: X)) := Lib.hid (by
          have e : ((UInt8.ofNat (48 + d)).toNat : Int) - 48 = (d : Int) := by rw [UInt8.toNat_ofNat']; omega
          rw [num_cons, e, List.length_cons, Int.pow_succ, HN.out]
          have : (k : Int) = 10 * ((k / 10 : Nat) : Int) + (d : Int) := by rw [← Hd.out]; omega
          generalize ((k / 10 : Nat) : Int) = q at *
          generalize (10 : Int) ^ X.length = P
          rw [this, Int.add_mul, ← Int.add_assoc, Int.mul_comm P 10, ← Int.mul_assoc, Int.mul_comm q 10])
        have HX3 : Hid (allR 48 57 (UInt8.ofNat (48 + d) :: X) = true) := Lib.hid (by
          show ((inR 48 57 ((UInt8.ofNat (48 + d)).toNat : Int)) && allR 48 57 X) = true
          rw [HA.out, Bool.and_true]
          exact inR_true.2 (by rw [UInt8.toNat_ofNat']; omega))
        have HX4 : 0 < k / 10 → (UInt8.ofNat (48 + d) :: X).length ≤ 4 := fun h => by
          have h1 := HX1.out
          rcases Nat.lt_or_ge 4 (UInt8.ofNat (48 + d) :: X).length with h2 | h2
          · have h3 : 10 ^ 5 ≤ 10 ^ (UInt8.ofNat (48 + d) :: X).length := Nat.pow_le_pow_right (by omega) h2
            have h4 := Nat.le_trans (Nat.mul_le_mul h h3) h1
            omega
          · exact h2
        have HX4h := Lib.hid HX4
        have hDs : (asB (48 :: X)).size = X.length + 1 := by rw [asB_size]; rfl
        have s1 : ∀ w, (Instr.slice 9 (.string (asB (48 :: X))) none (some (.int .i64 1)) none).run Tryz.prog w = .ok (.string (asB [48])) w := fun w => sl1_to (asB (48 :: X)) 1 (by omega) w
        have s2 := fun w => slice_dgl d hd (d : Int) ((d : Int) + 1) rfl rfl w
        have s3 : ∀ w, (Instr.slice 9 (.string (asB (48 :: X))) (some (.int .i64 1)) none none).run Tryz.prog w = .ok (.string (asB X)) w := fun w => sl1_from (asB (48 :: X)) 1 (by omega) w
        have HR : Hid (asB [48] ++ asB [UInt8.ofNat (48 + d)] ++ asB X = asB (48 :: UInt8.ofNat (48 + d) :: X)) := Lib.hid (ba_list (by rw [ByteArray.data_append, Array.toList_append, ByteArray.data_append, Array.toList_append]; rfl))
        have hXs : (asB X).size ≤ 5 := by rw [asB_size]; omega
        have h48s : (asB [48]).size = 1 := rfl
        have hdds : (asB [UInt8.ofNat (48 + d)]).size = 1 := rfl
        obtain ⟨DS, HDS⟩ : ∃ D, Hid (asB (48 :: X) = D) := ⟨_, Lib.hid rfl⟩
        obtain ⟨A, HAA⟩ : ∃ A, Hid (asB [48] = A) := ⟨_, Lib.hid rfl⟩
        obtain ⟨Bb, HBb⟩ : ∃ B, Hid (asB [UInt8.ofNat (48 + d)] = B) := ⟨_, Lib.hid rfl⟩
        obtain ⟨Xx, HXx⟩ : ∃ B, Hid (asB X = B) := ⟨_, Lib.hid rfl⟩
        rw [HDS.out] at s1 s3 hDs ⊢
        rw [HAA.out] at s1 HR h48s
        rw [HBb.out] at s2 HR hdds
        rw [HXx.out] at s3 HR hXs
        have t3 : (k : Int).tmod 10 = (d : Int) := by rw [Int.tmod_eq_emod_of_nonneg (by omega), ← Hd.out]; omega
        have q4 : IntKind.i64.wrap (d : Int) = (d : Int) := by rw [IntKind.wrap_i64]; omega
        have q5 : IntKind.i64.wrap ((d : Int) + 1) = (d : Int) + 1 := by rw [IntKind.wrap_i64]; omega
        have t4 : (k : Int).tdiv 10 = ((k / 10 : Nat) : Int) := by rw [Int.tdiv_eq_ediv_of_nonneg (by omega)]; omega
        have q6 : IntKind.i64.wrap ((k / 10 : Nat) : Int) = ((k / 10 : Nat) : Int) := by rw [IntKind.wrap_i64]; omega
        have hk2 : k / 10 < k := by omega
        generalize k / 10 = k2 at *
        clear HX4 hX4 HDS
        go_wp2
        go_quiet (fail)
        go_wp2
        exact ⟨⟨k2, UInt8.ofNat (48 + d) :: X, rfl, by rw [HR.out], by omega, by rw [List.length_cons]; omega, HX4h.out, HX1, HX2, HX3, Lib.hid ⟨HBr.out.os, HBr.out.tape, HBr.out.output, HBr.out.size, HBr.out.block⟩⟩, by simp [intOf]; omega⟩
      · obtain rfl : k = 0 := by omega
        have hnum : num (48 :: X) = (n : Int) := by
          have h1 := HN.out
          rw [num_cons]
          have e : ((48 : UInt8).toNat : Int) - 48 = 0 := by decide
          rw [e]
          simp only [Int.zero_mul, Int.zero_add, Int.natCast_zero] at h1 ⊢
          omega
        have hall : allR 48 57 (48 :: X) = true := by
          show (inR 48 57 ((48 : UInt8).toNat : Int) && allR 48 57 X) = true
          rw [HA.out]; decide
        have HTB2 : Hid (∀ (u : ByteArray) (k : Nat), u.data.toList = s.data.toList ++ 59 :: tlB (48 :: X) k → k < 4 → okP u (lastC U n k) = true) := Lib.hid fun u k hu hk => HTB0.out u (48 :: X) k hu hk hall (by simp) (by rw [List.length_cons]; omega) hnum
        have hDs : (asB (48 :: X)).size ≤ 6 := by rw [asB_size, List.length_cons]; omega
        obtain ⟨DS, HDS⟩ : ∃ D, Hid (asB (48 :: X) = D) := ⟨_, Lib.hid rfl⟩
        have HDL : Hid (DS.data.toList = 48 :: X) := Lib.hid (by rw [← HDS.out]; rfl)
        rw [HDS.out] at hDs ⊢
        obtain ⟨kk, Hkk⟩ : ∃ kk, Hid (st % 4 = kk) := ⟨_, Lib.hid rfl⟩
        have hkk : kk < 4 := by rw [← Hkk.out]; omega
        have t5 : (st : Int).tmod 4 = (kk : Int) := by rw [Int.tmod_eq_emod_of_nonneg (by omega), ← Hkk.out]; omega
        have HBr2 : Hid (Below w.heap.size w wr) := Lib.hid (HB8.out.trans (HBr.out.mono HB8.out.size))
        have HTr : Hid (CkT wr b U) := Lib.hid (HT8.out.below HBr.out)
        clear hkn hX5 hX4 HL HN HA hnum hall hk HTB0
        have q7 : IntKind.u8.wrap (kk : Int) = (kk : Int) := by rw [IntKind.wrap_u8]; omega
        have q8 : IntKind.i64.wrap (kk : Int) = (kk : Int) := by rw [IntKind.wrap_i64]; omega
        obtain ⟨Vs0, HV0⟩ : ∃ W, Hid (wr.setCell ⟨b, 6, none⟩ (.int .i64 (n : Int)) = W) := ⟨_, Lib.hid rfl⟩
        have HTs0 : Hid (CkT Vs0 b { U with ag := n }) := Lib.hid (by rw [← HV0.out]; exact HTr.out.set 6 _ rfl)
        have HBs0 : Hid (Below w.heap.size w Vs0) := Lib.hid (by rw [← HV0.out]; exact HBr2.out.setCell (p := ⟨b, 6, none⟩) hbw _)
        have c0 : wr.cell? ⟨b, 6, none⟩ = some (.int .i64 U.ag) := HTr.out.cell 6 rfl
        have f0 := HTr.out.free 6
        go_upto_region 15 with (fail)
        rw [HV0.out]
        clear c0 f0
        obtain ⟨Vs1, HV1⟩ : ∃ W, Hid (Vs0.setCell ⟨b, 7, none⟩ (.bool true) = W) := ⟨_, Lib.hid rfl⟩
        have HTs1 : Hid (CkT Vs1 b { U with ag := n, ha := true }) := Lib.hid (by rw [← HV1.out]; exact HTs0.out.set 7 _ rfl)
        have HBs1 : Hid (Below w.heap.size w Vs1) := Lib.hid (by rw [← HV1.out]; exact HBs0.out.setCell (p := ⟨b, 7, none⟩) hbw _)
        have c1 : Vs0.cell? ⟨b, 7, none⟩ = some (.bool U.ha) := HTs0.out.cell 7 rfl
        have f1 := HTs0.out.free 7
        go_upto_region 16 with (fail)
        rw [HV1.out]
        clear c1 f1
        obtain ⟨Vs2, HV2⟩ : ∃ W, Hid (Vs1.setCell ⟨b, 3, none⟩ (.string ({ data := #[47, 112] } : ByteArray)) = W) := ⟨_, Lib.hid rfl⟩
        have HTs2 : Hid (CkT Vs2 b { U with ag := n, ha := true, pa := asB [47, 112] }) := Lib.hid (by rw [← HV2.out]; exact HTs1.out.set 3 _ rfl)
        have HBs2 : Hid (Below w.heap.size w Vs2) := Lib.hid (by rw [← HV2.out]; exact HBs1.out.setCell (p := ⟨b, 3, none⟩) hbw _)
        have c2 : Vs1.cell? ⟨b, 3, none⟩ = some (.string U.pa) := HTs1.out.cell 3 rfl
        have f2 := HTs1.out.free 3
        go_upto_region 17 with (fail)
        rw [HV2.out]
        clear c2 f2
        obtain ⟨Vs3, HV3⟩ : ∃ W, Hid (Vs2.setCell ⟨b, 2, none⟩ (.string ({ data := #[100] } : ByteArray)) = W) := ⟨_, Lib.hid rfl⟩
        have HTs3 : Hid (CkT Vs3 b { U with ag := n, ha := true, pa := asB [47, 112], dm := asB [100] }) := Lib.hid (by rw [← HV3.out]; exact HTs2.out.set 2 _ rfl)
        have HBs3 : Hid (Below w.heap.size w Vs3) := Lib.hid (by rw [← HV3.out]; exact HBs2.out.setCell (p := ⟨b, 2, none⟩) hbw _)
        have c3 : Vs2.cell? ⟨b, 2, none⟩ = some (.string U.dm) := HTs2.out.cell 2 rfl
        have f3 := HTs2.out.free 2
        go_upto_region 18 with (fail)
        rw [HV3.out]
        clear c3 f3
        obtain ⟨Vs4, HV4⟩ : ∃ W, Hid (Vs3.setCell ⟨b, 8, none⟩ (.bool true) = W) := ⟨_, Lib.hid rfl⟩
        have HTs4 : Hid (CkT Vs4 b { U with ag := n, ha := true, pa := asB [47, 112], dm := asB [100], se := true }) := Lib.hid (by rw [← HV4.out]; exact HTs3.out.set 8 _ rfl)
        have HBs4 : Hid (Below w.heap.size w Vs4) := Lib.hid (by rw [← HV4.out]; exact HBs3.out.setCell (p := ⟨b, 8, none⟩) hbw _)
        have c4 : Vs3.cell? ⟨b, 8, none⟩ = some (.bool U.se) := HTs3.out.cell 8 rfl
        have f4 := HTs3.out.free 8
        go_upto_region 19 with (fail)
        rw [HV4.out]
        clear c4 f4
        obtain ⟨W9, HV5⟩ : ∃ W, Hid (Vs4.setCell ⟨b, 9, none⟩ (.bool true) = W) := ⟨_, Lib.hid rfl⟩
        have HT9 : Hid (CkT W9 b { U with ag := n, ha := true, pa := asB [47, 112], dm := asB [100], se := true, hi := true }) := Lib.hid (by rw [← HV5.out]; exact HTs4.out.set 9 _ rfl)
        have HB9 : Hid (Below w.heap.size w W9) := Lib.hid (by rw [← HV5.out]; exact HBs4.out.setCell (p := ⟨b, 9, none⟩) hbw _)
        have c5 : Vs4.cell? ⟨b, 9, none⟩ = some (.bool U.hi) := HTs4.out.cell 9 rfl
        have f5 := HTs4.out.free 9
        go_upto_region 20 with (fail)
        rw [HV5.out]
        clear c5 f5
        have hb9 : b < W9.heap.size := HT9.out.lt
        obtain ⟨V9, HV9⟩ : ∃ W, Hid (W9.alloc (.cells #[.int .u8 0, .int .u8 1, .int .u8 2, .int .u8 3] 22) = W) := ⟨_, Lib.hid rfl⟩
        have HTv : Hid (CkT V9 b { U with ag := n, ha := true, pa := asB [47, 112], dm := asB [100], se := true, hi := true }) := Lib.hid (by rw [← HV9.out]; exact (Below.heap_alloc _ _ _ hb9).trans HT9.out)
        have cv : (W9.alloc (.cells #[.int .u8 0, .int .u8 1, .int .u8 2, .int .u8 3] 22)).cell? ⟨b, 10, none⟩ = some (.int .u8 U.si) := by rw [HV9.out]; exact HTv.out.cell 10 rfl
        have fv : (W9.alloc (.cells #[.int .u8 0, .int .u8 1, .int .u8 2, .int .u8 3] 22)).frozen? ⟨b, 10, none⟩ = false := by rw [HV9.out]; exact HTv.out.free 10
        obtain ⟨WX, HWX⟩ : ∃ W, Hid ((W9.setCell ⟨b, 10, none⟩ (.int .u8 (kk : Int))).alloc (.cells #[.int .u8 0, .int .u8 1, .int .u8 2, .int .u8 3] 22) = W) := ⟨_, Lib.hid rfl⟩
        have HT9s : Hid (CkT (W9.setCell ⟨b, 10, none⟩ (.int .u8 (kk : Int))) b (lastC U n kk)) := Lib.hid (HT9.out.set 10 _ rfl)
        have HB9s : Hid (Below w.heap.size w (W9.setCell ⟨b, 10, none⟩ (.int .u8 (kk : Int)))) := Lib.hid (HB9.out.setCell (p := ⟨b, 10, none⟩) hbw _)
        have HTx : Hid (CkT WX b (lastC U n kk)) := Lib.hid (by rw [← HWX.out]; exact (Below.heap_alloc _ _ _ HT9s.out.lt).trans HT9s.out)
        have HBx : Hid (Below w.heap.size w WX) := Lib.hid (by rw [← HWX.out]; exact HB9s.out.alloc HB9s.out.size _)
        rcases (show kk = 0 ∨ kk = 1 ∨ kk = 2 ∨ kk = 3 by omega) with rfl | rfl | rfl | rfl
        · obtain ⟨Z, HZ⟩ : ∃ Z, Hid (s ++ ({ data := #[59, 32, 77, 65, 88, 45, 97, 103, 101, 32, 61, 32] } : ByteArray) ++ DS ++ ({ data := #[32, 59, 32, 112, 65, 84, 72, 61, 47, 112, 59, 32, 68, 111, 109, 97, 105, 110, 61, 46, 68, 59, 32, 115, 101, 99, 117, 114, 101, 61, 120, 59, 32, 72, 84, 84, 80, 111, 110, 108, 121, 59, 32, 83, 97, 109, 101, 83, 105, 116, 101, 61] } : ByteArray) ++ ({ data := #[63] } : ByteArray) = Z) := ⟨_, Lib.hid rfl⟩
          have hZ : Z.data.toList = s.data.toList ++ 59 :: tlB (48 :: X) 0 := by
            rw [← HZ.out]
            simp only [ByteArray.data_append, Array.toList_append, HDL.out]
            unfold tlB tlR
            simp
          have HIs2 : Hid (∀ w', DtC0 m w' → Calls Tryz.prog 18 #[.string Z, .agg #[.string U.nm, .string U.vl, .string ({ data := #[100] } : ByteArray), .string ({ data := #[47, 112] } : ByteArray), .int .i64 U.ex, .bool U.hx, .int .i64 (n : Int), .bool true, .bool true, .bool true, .int .u8 0]] w' fun e w'' => e = .returned (.bool true) ∧ Below w'.heap.size w' w'') := Lib.hid fun w' h => by
            have := is10_any Z (lastC U n 0) m w' h
            rw [HTB2.out Z 0 hZ (by decide)] at this
            exact this
          have hbx : b < WX.heap.size := HTx.out.lt
          have gc0 : WX.cell? ⟨b, 0, none⟩ = some (.string U.nm) := HTx.out.cell 0 rfl
          have gc1 : WX.cell? ⟨b, 1, none⟩ = some (.string U.vl) := HTx.out.cell 1 rfl
          have gc2 : WX.cell? ⟨b, 2, none⟩ = some (.string ({ data := #[100] } : ByteArray)) := HTx.out.cell 2 rfl
          have gc3 : WX.cell? ⟨b, 3, none⟩ = some (.string ({ data := #[47, 112] } : ByteArray)) := HTx.out.cell 3 rfl
          have gc4 : WX.cell? ⟨b, 4, none⟩ = some (.int .i64 U.ex) := HTx.out.cell 4 rfl
          have gc5 : WX.cell? ⟨b, 5, none⟩ = some (.bool U.hx) := HTx.out.cell 5 rfl
          have gc6 : WX.cell? ⟨b, 6, none⟩ = some (.int .i64 (n : Int)) := HTx.out.cell 6 rfl
          have gc7 : WX.cell? ⟨b, 7, none⟩ = some (.bool true) := HTx.out.cell 7 rfl
          have gc8 : WX.cell? ⟨b, 8, none⟩ = some (.bool true) := HTx.out.cell 8 rfl
          have gc9 : WX.cell? ⟨b, 9, none⟩ = some (.bool true) := HTx.out.cell 9 rfl
          have gc10 : WX.cell? ⟨b, 10, none⟩ = some (.int .u8 0) := HTx.out.cell 10 rfl
          have HBy : Hid (Below w.heap.size w (WX.alloc (.cells #[.string ({ data := #[63] } : ByteArray), .string ({ data := #[83, 84, 82, 73, 67, 84] } : ByteArray), .string ({ data := #[108, 97, 120] } : ByteArray), .string ({ data := #[78, 111, 110, 101] } : ByteArray)] 9))) := Lib.hid (HBx.out.alloc HBx.out.size _)
          have y1 : ¬ 9223372036854775807 < s.size + 12 := by omega
          have y2 : ¬ 9223372036854775807 < s.size + 12 + DS.size := by omega
          have y3 : ¬ 9223372036854775807 < s.size + 12 + DS.size + 52 := by omega
          have y4 : ¬ 9223372036854775807 < s.size + 12 + DS.size + 52 + 1 := by omega
          clear hZ HTB2
          go_upto_region 21 with (fail)
          rw [show (W9.setCell ⟨b, 10, none⟩ (.int .u8 0)).alloc (.cells #[.int .u8 0, .int .u8 1, .int .u8 2, .int .u8 3] 22) = WX from HWX.out]
          go_region_with (go_at_call 18; rw [HZ.out]; ((with_reducible refine (HIs2.out _ ?_).mono ?_); (first | exact (HG.out.below HBy.out.drew).c0 | exact (HG.out.below HBy.out).c0); rintro e w5 ⟨rfl, b5⟩; have HF : Hid (Below w.heap.size w w5) := Lib.hid (by first | exact HBy.out.drew.trans (b5.mono HBy.out.drew.size) | exact HBy.out.trans (b5.mono HBy.out.size)); clear b5))
          all_goals (go_wp2; go_ret; exact ⟨rfl, HF.out⟩)
        · obtain ⟨Z, HZ⟩ : ∃ Z, Hid (s ++ ({ data := #[59, 32, 77, 65, 88, 45, 97, 103, 101, 32, 61, 32] } : ByteArray) ++ DS ++ ({ data := #[32, 59, 32, 112, 65, 84, 72, 61, 47, 112, 59, 32, 68, 111, 109, 97, 105, 110, 61, 46, 68, 59, 32, 115, 101, 99, 117, 114, 101, 61, 120, 59, 32, 72, 84, 84, 80, 111, 110, 108, 121, 59, 32, 83, 97, 109, 101, 83, 105, 116, 101, 61] } : ByteArray) ++ ({ data := #[83, 84, 82, 73, 67, 84] } : ByteArray) = Z) := ⟨_, Lib.hid rfl⟩
          have hZ : Z.data.toList = s.data.toList ++ 59 :: tlB (48 :: X) 1 := by
            rw [← HZ.out]
            simp only [ByteArray.data_append, Array.toList_append, HDL.out]
            unfold tlB tlR
            simp
          have HIs2 : Hid (∀ w', DtC0 m w' → Calls Tryz.prog 18 #[.string Z, .agg #[.string U.nm, .string U.vl, .string ({ data := #[100] } : ByteArray), .string ({ data := #[47, 112] } : ByteArray), .int .i64 U.ex, .bool U.hx, .int .i64 (n : Int), .bool true, .bool true, .bool true, .int .u8 1]] w' fun e w'' => e = .returned (.bool true) ∧ Below w'.heap.size w' w'') := Lib.hid fun w' h => by
            have := is10_any Z (lastC U n 1) m w' h
            rw [HTB2.out Z 1 hZ (by decide)] at this
            exact this
          have hbx : b < WX.heap.size := HTx.out.lt
          have gc0 : WX.cell? ⟨b, 0, none⟩ = some (.string U.nm) := HTx.out.cell 0 rfl
          have gc1 : WX.cell? ⟨b, 1, none⟩ = some (.string U.vl) := HTx.out.cell 1 rfl
          have gc2 : WX.cell? ⟨b, 2, none⟩ = some (.string ({ data := #[100] } : ByteArray)) := HTx.out.cell 2 rfl
          have gc3 : WX.cell? ⟨b, 3, none⟩ = some (.string ({ data := #[47, 112] } : ByteArray)) := HTx.out.cell 3 rfl
          have gc4 : WX.cell? ⟨b, 4, none⟩ = some (.int .i64 U.ex) := HTx.out.cell 4 rfl
          have gc5 : WX.cell? ⟨b, 5, none⟩ = some (.bool U.hx) := HTx.out.cell 5 rfl
          have gc6 : WX.cell? ⟨b, 6, none⟩ = some (.int .i64 (n : Int)) := HTx.out.cell 6 rfl
          have gc7 : WX.cell? ⟨b, 7, none⟩ = some (.bool true) := HTx.out.cell 7 rfl
          have gc8 : WX.cell? ⟨b, 8, none⟩ = some (.bool true) := HTx.out.cell 8 rfl
          have gc9 : WX.cell? ⟨b, 9, none⟩ = some (.bool true) := HTx.out.cell 9 rfl
          have gc10 : WX.cell? ⟨b, 10, none⟩ = some (.int .u8 1) := HTx.out.cell 10 rfl
          have HBy : Hid (Below w.heap.size w (WX.alloc (.cells #[.string ({ data := #[63] } : ByteArray), .string ({ data := #[83, 84, 82, 73, 67, 84] } : ByteArray), .string ({ data := #[108, 97, 120] } : ByteArray), .string ({ data := #[78, 111, 110, 101] } : ByteArray)] 9))) := Lib.hid (HBx.out.alloc HBx.out.size _)
          have y1 : ¬ 9223372036854775807 < s.size + 12 := by omega
          have y2 : ¬ 9223372036854775807 < s.size + 12 + DS.size := by omega
          have y3 : ¬ 9223372036854775807 < s.size + 12 + DS.size + 52 := by omega
          have y4 : ¬ 9223372036854775807 < s.size + 12 + DS.size + 52 + 6 := by omega
          clear hZ HTB2
          go_upto_region 21 with (fail)
          rw [show (W9.setCell ⟨b, 10, none⟩ (.int .u8 1)).alloc (.cells #[.int .u8 0, .int .u8 1, .int .u8 2, .int .u8 3] 22) = WX from HWX.out]
          go_region_with (go_at_call 18; rw [HZ.out]; ((with_reducible refine (HIs2.out _ ?_).mono ?_); (first | exact (HG.out.below HBy.out.drew).c0 | exact (HG.out.below HBy.out).c0); rintro e w5 ⟨rfl, b5⟩; have HF : Hid (Below w.heap.size w w5) := Lib.hid (by first | exact HBy.out.drew.trans (b5.mono HBy.out.drew.size) | exact HBy.out.trans (b5.mono HBy.out.size)); clear b5))
          all_goals (go_wp2; go_ret; exact ⟨rfl, HF.out⟩)
        · obtain ⟨Z, HZ⟩ : ∃ Z, Hid (s ++ ({ data := #[59, 32, 77, 65, 88, 45, 97, 103, 101, 32, 61, 32] } : ByteArray) ++ DS ++ ({ data := #[32, 59, 32, 112, 65, 84, 72, 61, 47, 112, 59, 32, 68, 111, 109, 97, 105, 110, 61, 46, 68, 59, 32, 115, 101, 99, 117, 114, 101, 61, 120, 59, 32, 72, 84, 84, 80, 111, 110, 108, 121, 59, 32, 83, 97, 109, 101, 83, 105, 116, 101, 61] } : ByteArray) ++ ({ data := #[108, 97, 120] } : ByteArray) = Z) := ⟨_, Lib.hid rfl⟩
          have hZ : Z.data.toList = s.data.toList ++ 59 :: tlB (48 :: X) 2 := by
            rw [← HZ.out]
            simp only [ByteArray.data_append, Array.toList_append, HDL.out]
            unfold tlB tlR
            simp
          have HIs2 : Hid (∀ w', DtC0 m w' → Calls Tryz.prog 18 #[.string Z, .agg #[.string U.nm, .string U.vl, .string ({ data := #[100] } : ByteArray), .string ({ data := #[47, 112] } : ByteArray), .int .i64 U.ex, .bool U.hx, .int .i64 (n : Int), .bool true, .bool true, .bool true, .int .u8 2]] w' fun e w'' => e = .returned (.bool true) ∧ Below w'.heap.size w' w'') := Lib.hid fun w' h => by
            have := is10_any Z (lastC U n 2) m w' h
            rw [HTB2.out Z 2 hZ (by decide)] at this
            exact this
          have hbx : b < WX.heap.size := HTx.out.lt
          have gc0 : WX.cell? ⟨b, 0, none⟩ = some (.string U.nm) := HTx.out.cell 0 rfl
          have gc1 : WX.cell? ⟨b, 1, none⟩ = some (.string U.vl) := HTx.out.cell 1 rfl
          have gc2 : WX.cell? ⟨b, 2, none⟩ = some (.string ({ data := #[100] } : ByteArray)) := HTx.out.cell 2 rfl
          have gc3 : WX.cell? ⟨b, 3, none⟩ = some (.string ({ data := #[47, 112] } : ByteArray)) := HTx.out.cell 3 rfl
          have gc4 : WX.cell? ⟨b, 4, none⟩ = some (.int .i64 U.ex) := HTx.out.cell 4 rfl
          have gc5 : WX.cell? ⟨b, 5, none⟩ = some (.bool U.hx) := HTx.out.cell 5 rfl
          have gc6 : WX.cell? ⟨b, 6, none⟩ = some (.int .i64 (n : Int)) := HTx.out.cell 6 rfl
          have gc7 : WX.cell? ⟨b, 7, none⟩ = some (.bool true) := HTx.out.cell 7 rfl
          have gc8 : WX.cell? ⟨b, 8, none⟩ = some (.bool true) := HTx.out.cell 8 rfl
          have gc9 : WX.cell? ⟨b, 9, none⟩ = some (.bool true) := HTx.out.cell 9 rfl
          have gc10 : WX.cell? ⟨b, 10, none⟩ = some (.int .u8 2) := HTx.out.cell 10 rfl
          have HBy : Hid (Below w.heap.size w (WX.alloc (.cells #[.string ({ data := #[63] } : ByteArray), .string ({ data := #[83, 84, 82, 73, 67, 84] } : ByteArray), .string ({ data := #[108, 97, 120] } : ByteArray), .string ({ data := #[78, 111, 110, 101] } : ByteArray)] 9))) := Lib.hid (HBx.out.alloc HBx.out.size _)
          have y1 : ¬ 9223372036854775807 < s.size + 12 := by omega
          have y2 : ¬ 9223372036854775807 < s.size + 12 + DS.size := by omega
          have y3 : ¬ 9223372036854775807 < s.size + 12 + DS.size + 52 := by omega
          have y4 : ¬ 9223372036854775807 < s.size + 12 + DS.size + 52 + 3 := by omega
          clear hZ HTB2
          go_upto_region 21 with (fail)
          rw [show (W9.setCell ⟨b, 10, none⟩ (.int .u8 2)).alloc (.cells #[.int .u8 0, .int .u8 1, .int .u8 2, .int .u8 3] 22) = WX from HWX.out]
          go_region_with (go_at_call 18; rw [HZ.out]; ((with_reducible refine (HIs2.out _ ?_).mono ?_); (first | exact (HG.out.below HBy.out.drew).c0 | exact (HG.out.below HBy.out).c0); rintro e w5 ⟨rfl, b5⟩; have HF : Hid (Below w.heap.size w w5) := Lib.hid (by first | exact HBy.out.drew.trans (b5.mono HBy.out.drew.size) | exact HBy.out.trans (b5.mono HBy.out.size)); clear b5))
          all_goals (go_wp2; go_ret; exact ⟨rfl, HF.out⟩)
        · obtain ⟨Z, HZ⟩ : ∃ Z, Hid (s ++ ({ data := #[59, 32, 77, 65, 88, 45, 97, 103, 101, 32, 61, 32] } : ByteArray) ++ DS ++ ({ data := #[32, 59, 32, 112, 65, 84, 72, 61, 47, 112, 59, 32, 68, 111, 109, 97, 105, 110, 61, 46, 68, 59, 32, 115, 101, 99, 117, 114, 101, 61, 120, 59, 32, 72, 84, 84, 80, 111, 110, 108, 121, 59, 32, 83, 97, 109, 101, 83, 105, 116, 101, 61] } : ByteArray) ++ ({ data := #[78, 111, 110, 101] } : ByteArray) = Z) := ⟨_, Lib.hid rfl⟩
          have hZ : Z.data.toList = s.data.toList ++ 59 :: tlB (48 :: X) 3 := by
            rw [← HZ.out]
            simp only [ByteArray.data_append, Array.toList_append, HDL.out]
            unfold tlB tlR
            simp
          have HIs2 : Hid (∀ w', DtC0 m w' → Calls Tryz.prog 18 #[.string Z, .agg #[.string U.nm, .string U.vl, .string ({ data := #[100] } : ByteArray), .string ({ data := #[47, 112] } : ByteArray), .int .i64 U.ex, .bool U.hx, .int .i64 (n : Int), .bool true, .bool true, .bool true, .int .u8 3]] w' fun e w'' => e = .returned (.bool true) ∧ Below w'.heap.size w' w'') := Lib.hid fun w' h => by
            have := is10_any Z (lastC U n 3) m w' h
            rw [HTB2.out Z 3 hZ (by decide)] at this
            exact this
          have hbx : b < WX.heap.size := HTx.out.lt
          have gc0 : WX.cell? ⟨b, 0, none⟩ = some (.string U.nm) := HTx.out.cell 0 rfl
          have gc1 : WX.cell? ⟨b, 1, none⟩ = some (.string U.vl) := HTx.out.cell 1 rfl
          have gc2 : WX.cell? ⟨b, 2, none⟩ = some (.string ({ data := #[100] } : ByteArray)) := HTx.out.cell 2 rfl
          have gc3 : WX.cell? ⟨b, 3, none⟩ = some (.string ({ data := #[47, 112] } : ByteArray)) := HTx.out.cell 3 rfl
          have gc4 : WX.cell? ⟨b, 4, none⟩ = some (.int .i64 U.ex) := HTx.out.cell 4 rfl
          have gc5 : WX.cell? ⟨b, 5, none⟩ = some (.bool U.hx) := HTx.out.cell 5 rfl
          have gc6 : WX.cell? ⟨b, 6, none⟩ = some (.int .i64 (n : Int)) := HTx.out.cell 6 rfl
          have gc7 : WX.cell? ⟨b, 7, none⟩ = some (.bool true) := HTx.out.cell 7 rfl
          have gc8 : WX.cell? ⟨b, 8, none⟩ = some (.bool true) := HTx.out.cell 8 rfl
          have gc9 : WX.cell? ⟨b, 9, none⟩ = some (.bool true) := HTx.out.cell 9 rfl
          have gc10 : WX.cell? ⟨b, 10, none⟩ = some (.int .u8 3) := HTx.out.cell 10 rfl
          have HBy : Hid (Below w.heap.size w (WX.alloc (.cells #[.string ({ data := #[63] } : ByteArray), .string ({ data := #[83, 84, 82, 73, 67, 84] } : ByteArray), .string ({ data := #[108, 97, 120] } : ByteArray), .string ({ data := #[78, 111, 110, 101] } : ByteArray)] 9))) := Lib.hid (HBx.out.alloc HBx.out.size _)
          have y1 : ¬ 9223372036854775807 < s.size + 12 := by omega
          have y2 : ¬ 9223372036854775807 < s.size + 12 + DS.size := by omega
          have y3 : ¬ 9223372036854775807 < s.size + 12 + DS.size + 52 := by omega
          have y4 : ¬ 9223372036854775807 < s.size + 12 + DS.size + 52 + 4 := by omega
          clear hZ HTB2
          go_upto_region 21 with (fail)
          rw [show (W9.setCell ⟨b, 10, none⟩ (.int .u8 3)).alloc (.cells #[.int .u8 0, .int .u8 1, .int .u8 2, .int .u8 3] 22) = WX from HWX.out]
          go_region_with (go_at_call 18; rw [HZ.out]; ((with_reducible refine (HIs2.out _ ?_).mono ?_); (first | exact (HG.out.below HBy.out.drew).c0 | exact (HG.out.below HBy.out).c0); rintro e w5 ⟨rfl, b5⟩; have HF : Hid (Below w.heap.size w w5) := Lib.hid (by first | exact HBy.out.drew.trans (b5.mono HBy.out.drew.size) | exact HBy.out.trans (b5.mono HBy.out.size)); clear b5))
          all_goals (go_wp2; go_ret; exact ⟨rfl, HF.out⟩)
  · have hEb : (E != 0) = true := bne_iff_ne.2 hE
    clear HTA HTB hE
    go_wp2_with (refine wpL_store_row rfl 24 _ _ rfl w6.heap.size C ?_ ?_ 24 (ckR ck0) ?_ ?_ ?_ ?_ ?_; exact rfl; exact rfl; (exact HA7.out); (rw [HCs.out]; exact infoTo); (rw [HCs.out]; rfl); exact HC1.out; rw [HW7.out])
    go_ret
    exact ⟨rfl, HB7.out⟩

end Go.Proofs.YtblofndehbagnaaGreatDoor
