/-
  setcookie's law: does a text tell that; some answers that the document fixes.
-/
import Derived.Test.YtllpdnmhabpbcaaGreatDoorScH
import Derived.Test.YtllpdnmhabpbcaaGreatDoorScU
namespace Go.Proofs.YtllpdnmhabpbcaaGreatDoor
open Go.RowKit

def okP (s : ByteArray) (t : Cki) : Bool := (prsC s).2 == 0 && ckEq (prsC s).1 t

set_option maxHeartbeats 4000000 in
set_option maxRecDepth 100000 in
theorem is10_any (s : ByteArray) (t : Cki) (m : Int) (w : World) (hw : DtC0 m w) :
    Calls Tryz.prog 8 #[.string s, .agg (ckR t)] w fun e w' => e = .returned (.bool (okP s t)) ∧ Below w.heap.size w w' := by
  have HNe := Lib.hid fun w => eqT (prsC s).1 t w
  have HR : Hid (okP s t = ((prsC s).2 == 0 && ckEq (prsC s).1 t)) := Lib.hid rfl
  obtain ⟨R, HRR⟩ : ∃ R, Hid (okP s t = R) := ⟨_, Lib.hid rfl⟩
  rw [HRR.out] at HR ⊢
  have HB0 : Hid (∀ C : Array Value, Below w.heap.size w (w.alloc (.cells C 26))) := Lib.hid fun C => (Below.refl _ _).alloc (Nat.le_refl _) _
  have HPa := Lib.hid fun C => Parse_any s m (w.alloc (.cells C 26)) (hw.below (HB0.out C))
  obtain ⟨U, c, HU⟩ : ∃ U c, Hid (prsC s = (U, c)) := ⟨_, _, Lib.hid rfl⟩
  rw [HU.out] at HPa HNe HR
  dsimp only at HPa HNe HR
  obtain ⟨C, HC, HCs, HC1⟩ : ∃ C, Hid (ckR t = C) ∧ Hid (C.size = 11) ∧ Hid (C.all (·.oneCell') = true) := ⟨_, Lib.hid rfl, Lib.hid rfl, Lib.hid (ckR_one _)⟩
  obtain ⟨V, HV, HVs, HV1⟩ : ∃ V, Hid (ckR U = V) ∧ Hid (V.size = 11) ∧ Hid (V.all (·.oneCell') = true) := ⟨_, Lib.hid rfl, Lib.hid rfl, Lib.hid (ckR_one _)⟩
  rw [HC.out] at HNe ⊢
  rw [HV.out] at HPa HNe
  obtain ⟨B, HB⟩ : ∃ B, Hid (ckEq U t = B) := ⟨_, Lib.hid rfl⟩
  rw [HB.out] at HNe HR
  clear hw
  have HA0 : Hid ((w.alloc (.cells C 26)).heap[w.heap.size]? = some (.cells C 26 (0, 0))) := Lib.hid (heap_alloc_new w _)
  go_enter Tryz.func8, Tryz.ntmps8
  go_wp2_with fail
  refine (HPa.out C).mono ?_
  rintro e w2 ⟨rfl, b2⟩
  have HB2 := Lib.hid ((HB0.out C).trans (b2.mono (HB0.out C).size))
  have HA2 : Hid (w2.heap[w.heap.size]? = some (.cells C 26 (0, 0))) := Lib.hid ((b2.block _ (lt_of_block HA0.out)).trans HA0.out)
  clear b2
  have HA3 : Hid ((w2.alloc (.cells (ckR ck0) 26)).heap[w2.heap.size]? = some (.cells (ckR ck0) 26 (0, 0))) := Lib.hid (heap_alloc_new w2 _)
  have hlt : w.heap.size < w2.heap.size := lt_of_block HA2.out
  obtain ⟨W4, HW4⟩ : ∃ W, Hid ((w2.alloc (.cells #[.string ⟨#[]⟩, .string ⟨#[]⟩, .string ⟨#[]⟩, .string ⟨#[]⟩, .int .i64 0, .bool false, .int .i64 0, .bool false, .bool false, .bool false, .int .u8 0] 26)).setRow w2.heap.size V = W) := ⟨_, Lib.hid rfl⟩
  have HA4 : Hid (W4.heap[w2.heap.size]? = some (.cells V 26 (0, 0))) := Lib.hid (by rw [← HW4.out]; exact setRow_heap _ _ _ _ _ _ HA3.out)
  have HC4 : Hid (W4.heap[w.heap.size]? = some (.cells C 26 (0, 0))) := Lib.hid (by rw [← HW4.out, setRow_other _ _ _ _ (by omega)]; exact (Below.heap_alloc _ _ _ hlt).trans HA2.out)
  have HB4 : Hid (Below w.heap.size w W4) := Lib.hid (by rw [← HW4.out]; exact sc_below (HB2.out.alloc HB2.out.size _) _ _ (by omega))
  have HNe4 := Lib.hid (HNe.out W4)
  clear hlt
  by_cases hc : c = 0
  · subst hc
    have HR0 : Hid (R = B) := Lib.hid (by rw [HR.out]; rfl)
    go_upto_region 2 with (refine wpL_store_row rfl 26 _ _ rfl w2.heap.size V ?_ ?_ 26 (ckR ck0) ?_ ?_ ?_ ?_ ?_; exact rfl; exact rfl; (exact HA3.out); (rw [HVs.out]; exact infoTo); (rw [HVs.out]; rfl); exact HV1.out; rw [HW4.out])
    go_wp2_with (first
      | (refine scW_load rfl 26 _ rfl w2.heap.size ?_ 26 V (0, 0) _ ?_ Tryz.underlying26 rfl ?_ ?_; (exact rfl); (exact HA4.out); (rw [HVs.out]; exact infoTo))
      | (refine scW_load rfl 26 _ rfl w.heap.size ?_ 26 C (0, 0) _ ?_ Tryz.underlying26 rfl ?_ ?_; (exact rfl); (exact HC4.out); (rw [HCs.out]; exact infoTo); refine scW_bin rfl .eql 26 26 (.tmp 15) (.tmp 16) rfl _ (gd_T .eql (.tmp 15) (.tmp 16) V C _) HNe4.out ?_))
    go_ret
    exact ⟨by rw [HR0.out]; rfl, HB4.out⟩
  · have hce : (c == 0) = false := beq_eq_false_iff_ne.2 hc
    have HR0 : Hid (R = false) := Lib.hid (by rw [HR.out, hce]; rfl)
    clear hc
    go_wp2_with (refine wpL_store_row rfl 26 _ _ rfl w2.heap.size V ?_ ?_ 26 (ckR ck0) ?_ ?_ ?_ ?_ ?_; exact rfl; exact rfl; (exact HA3.out); (rw [HVs.out]; exact infoTo); (rw [HVs.out]; rfl); exact HV1.out; rw [HW4.out])
    go_ret
    exact ⟨by rw [HR0.out]; rfl, HB4.out⟩

def bs (l : List UInt8) : ByteArray := ⟨l.toArray⟩
def sidT : Cki := ⟨bs [83, 73, 68], bs [51, 49, 100, 52], noB, bs [47], 0, false, 0, false, true, true, 0⟩
def sidS : ByteArray := ⟨#[83, 73, 68, 61, 51, 49, 100, 52, 59, 32, 80, 97, 116, 104, 61, 47, 59, 32, 83, 101, 99, 117, 114, 101, 59, 32, 72, 116, 116, 112, 79, 110, 108, 121]⟩
theorem sid_txt (D : List UInt8) : txtC sidT D = sidS := by
  unfold txtC pcs sidT
  simp only [ByteArray.toList_eq]
  rfl
def aT : Cki := { ck0 with nm := bs [97, 59] }
theorem a_txt (D : List UInt8) : txtC aT D = bs [97, 59, 61] := by
  unfold txtC pcs aT
  simp only [ByteArray.toList_eq]
  rfl
theorem sid_ok : okP sidS sidT = true := by decide +kernel
theorem a_ok : okP (bs [97, 59, 61]) aT = false := by decide +kernel
theorem prs_of {s : ByteArray} {t : Cki} {c : Int} (h1 : ckEq (prsC s).1 t = true) (h2 : ((prsC s).2 == c) = true) : prsC s = (t, c) :=
  Prod.ext ((ckEq_iff _ _).1 h1) (beq_iff_eq.1 h2)
theorem semi_p : prsC (bs [59]) = (ck0, 4) := prs_of (by decide +kernel) (by decide +kernel)
theorem sid_r (D : List UInt8) : txtR sidT D = .tuple #[.string sidS, .int .i64 0] := by
  have h : okT sidT D = okP sidS sidT := by unfold okT okP; rw [sid_txt]
  unfold txtR
  rw [h, sid_ok, if_pos rfl, sid_txt]
theorem a_r (D : List UInt8) : txtR aT D = .tuple #[.string noB, .int .i64 1] := by
  have h : okT aT D = okP (bs [97, 59, 61]) aT := by unfold okT okP; rw [a_txt]
  unfold txtR
  rw [h, a_ok, if_neg (by decide)]
def vT : Cki := { ck0 with vl := bs [97] }
def dT : Cki := { ck0 with nm := bs [97], vl := bs [98, 61, 99], dm := bs [101, 120, 97, 109, 112, 108, 101, 46, 99, 111, 109] }
def gT : Cki := { ck0 with nm := bs [97], vl := bs [98], ag := -5, ha := true }
def lT : Cki := { ck0 with nm := bs [97], vl := bs [98], si := 2 }
def dS : ByteArray := bs [97, 61, 98, 61, 99, 59, 32, 120, 59, 32, 112, 97, 116, 104, 61, 121, 59, 32, 100, 111, 109, 97, 105, 110, 61, 46, 69, 88, 65, 77, 80, 76, 69, 46, 99, 111, 109]
def gS : ByteArray := bs [97, 61, 98, 59, 32, 77, 97, 120, 45, 65, 103, 101, 61, 49, 48, 59, 32, 109, 97, 120, 45, 97, 103, 101, 61, 120, 59, 32, 77, 65, 88, 45, 65, 71, 69, 61, 45, 53]
def lS : ByteArray := bs [97, 61, 98, 59, 32, 83, 97, 109, 101, 83, 105, 116, 101, 61, 108, 65, 120]
theorem v_ok : okP (bs [97]) vT = true := by decide +kernel
theorem d_ok : okP dS dT = true := by decide +kernel
theorem g_ok : okP gS gT = true := by decide +kernel
theorem l_ok : okP lS lT = true := by decide +kernel

set_option maxHeartbeats 4000000 in
set_option maxRecDepth 100000 in
theorem alive10_any (m : Int) (w : World) (hw : DtG m w) :
    Calls Tryz.prog 4 #[] w fun e w' => e = .returned (.bool true) ∧ Below w.heap.size w w' := by
  obtain ⟨D, hD⟩ := date_some 0
  have HG := Lib.hid hw
  have HT1 : Hid (∀ w', DtG m w' → Calls Tryz.prog 7 #[.agg (ckR sidT)] w' fun e w'' => e = .returned (.tuple #[.string ⟨#[83, 73, 68, 61, 51, 49, 100, 52, 59, 32, 80, 97, 116, 104, 61, 47, 59, 32, 83, 101, 99, 117, 114, 101, 59, 32, 72, 116, 116, 112, 79, 110, 108, 121]⟩, .int .i64 0]) ∧ Below w'.heap.size w' w'') := Lib.hid fun w' h => by
    have := CkText_any sidT D hD (by decide) (by decide) (by decide) m w' h
    rw [sid_r] at this
    exact this
  have HT2 : Hid (∀ w', DtG m w' → Calls Tryz.prog 7 #[.agg (ckR aT)] w' fun e w'' => e = .returned (.tuple #[.string noB, .int .i64 1]) ∧ Below w'.heap.size w' w'') := Lib.hid fun w' h => by
    have := CkText_any aT D hD (by decide) (by decide) (by decide) m w' h
    rwa [a_r] at this
  have HP : Hid (∀ w', DtG m w' → Calls Tryz.prog 6 #[.string (bs [59])] w' fun e w'' => e = .returned (.tuple #[.agg #[.string ⟨#[]⟩, .string ⟨#[]⟩, .string ⟨#[]⟩, .string ⟨#[]⟩, .int .i64 0, .bool false, .int .i64 0, .bool false, .bool false, .bool false, .int .u8 0], .int .i64 4]) ∧ Below w'.heap.size w' w'') := Lib.hid fun w' h => by
    have := Parse_any (bs [59]) m w' h.c0
    rw [semi_p] at this
    exact this
  have HI : Hid (∀ s t w', okP s t = true → DtG m w' → Calls Tryz.prog 8 #[.string s, .agg (ckR t)] w' fun e w'' => e = .returned (.bool true) ∧ Below w'.heap.size w' w'') := Lib.hid fun s t w' h1 h2 => by
    have := is10_any s t m w' h2.c0
    rwa [h1] at this
  have HU1 : Hid (∀ w', Calls Tryz.prog 9 #[.agg (ckR { ck0 with ag := 10, ha := true }), .int .i64 100] w' fun e w'' => e = .returned (.int .i64 110) ∧ Below w'.heap.size w' w'') := Lib.hid fun w' => Until_any noB noB noB noB 0 10 0 false true false false 100 w'
  have HU2 : Hid (∀ w', Calls Tryz.prog 9 #[.agg (ckR ck0), .int .i64 5] w' fun e w'' => e = .returned (.int .i64 (-1)) ∧ Below w'.heap.size w' w'') := Lib.hid fun w' => Until_any noB noB noB noB 0 0 0 false false false false 5 w'
  clear hw hD
  go_enter Tryz.func4, Tryz.ntmps4
  go_wp2_with fail
  have HB0 := Lib.hid ((Below.refl w.heap.size w).alloc (Nat.le_refl _) (.cells (ckR sidT) 26))
  have HA0 : Hid ((w.alloc (.cells (ckR sidT) 26)).heap[w.heap.size]? = some (.cells (ckR sidT) 26 (0, 0))) := Lib.hid (heap_alloc_new w _)
  have HG0 := Lib.hid (HG.out.below HB0.out)
  refine (HT1.out _ HG0.out).mono ?_
  rintro e w1 ⟨rfl, b1⟩
  have HB1 := Lib.hid (HB0.out.trans (b1.mono HB0.out.size))
  have HG1 := Lib.hid (HG.out.below HB1.out)
  have HA1 : Hid (w1.heap[w.heap.size]? = some (.cells (ckR sidT) 26 (0, 0))) := Lib.hid ((b1.block _ (lt_of_block HA0.out)).trans HA0.out)
  clear b1
  go_wp2_with fail
  refine (HP.out _ HG1.out).mono ?_
  rintro e w2 ⟨rfl, b2⟩
  have HB2 := Lib.hid (HB1.out.trans (b2.mono HB1.out.size))
  have HA2 : Hid (w2.heap[w.heap.size]? = some (.cells (ckR sidT) 26 (0, 0))) := Lib.hid ((b2.block _ (lt_of_block HA1.out)).trans HA1.out)
  clear b2
  obtain ⟨W3, HW3⟩ : ∃ W, Hid (w2.alloc (.cells #[.string ⟨#[]⟩, .string ⟨#[]⟩, .string ⟨#[]⟩, .string ⟨#[]⟩, .int .i64 0, .bool false, .int .i64 0, .bool false, .bool false, .bool false, .int .u8 0] 26) = W) := ⟨_, Lib.hid rfl⟩
  have HB3 : Hid (Below w.heap.size w W3) := Lib.hid (by rw [← HW3.out]; exact HB2.out.alloc HB2.out.size _)
  have HG3 := Lib.hid (HG.out.below HB3.out)
  have HA3 : Hid (W3.heap[w.heap.size]? = some (.cells (ckR sidT) 26 (0, 0))) := Lib.hid (by rw [← HW3.out]; exact (Below.heap_alloc _ _ _ (lt_of_block HA2.out)).trans HA2.out)
  go_wp2_with fail
  rw [HW3.out]
  refine (HT2.out _ HG3.out).mono ?_
  rintro e w4 ⟨rfl, b4⟩
  have HB4 := Lib.hid (HB3.out.trans (b4.mono HB3.out.size))
  have HG4 := Lib.hid (HG.out.below HB4.out)
  have HA4 : Hid (w4.heap[w.heap.size]? = some (.cells (ckR sidT) 26 (0, 0))) := Lib.hid ((b4.block _ (lt_of_block HA3.out)).trans HA3.out)
  clear b4
  go_wp2_with (first
    | (refine scW_load rfl 26 _ rfl w.heap.size ?_ 26 (ckR sidT) (0, 0) _ ?_ Tryz.underlying26 rfl ?_ ?_; (exact rfl); (exact HA4.out); (exact infoTo)))
  refine (HI.out sidS sidT _ sid_ok HG4.out).mono ?_
  rintro e w5 ⟨rfl, b5⟩
  have HB5 := Lib.hid (HB4.out.trans (b5.mono HB4.out.size))
  have HG5 := Lib.hid (HG.out.below HB5.out)
  clear b5
  go_wp2_with fail
  refine (HI.out _ vT _ v_ok HG5.out).mono ?_
  rintro e w6 ⟨rfl, b6⟩
  have HB6 := Lib.hid (HB5.out.trans (b6.mono HB5.out.size))
  have HG6 := Lib.hid (HG.out.below HB6.out)
  clear b6
  go_wp2_with fail
  refine (HI.out dS dT _ d_ok HG6.out).mono ?_
  rintro e w7 ⟨rfl, b7⟩
  have HB7 := Lib.hid (HB6.out.trans (b7.mono HB6.out.size))
  have HG7 := Lib.hid (HG.out.below HB7.out)
  clear b7
  go_wp2_with fail
  refine (HI.out gS gT _ g_ok HG7.out).mono ?_
  rintro e w8 ⟨rfl, b8⟩
  have HB8 := Lib.hid (HB7.out.trans (b8.mono HB7.out.size))
  have HG8 := Lib.hid (HG.out.below HB8.out)
  clear b8
  go_wp2_with fail
  refine (HI.out lS lT _ l_ok HG8.out).mono ?_
  rintro e w9 ⟨rfl, b9⟩
  have HB9 := Lib.hid (HB8.out.trans (b9.mono HB8.out.size))
  have HG9 := Lib.hid (HG.out.below HB9.out)
  clear b9
  go_wp2_with fail
  refine (HU1.out _).mono ?_
  rintro e w10 ⟨rfl, b10⟩
  have HB10 := Lib.hid (HB9.out.trans (b10.mono HB9.out.size))
  have HG10 := Lib.hid (HG.out.below HB10.out)
  clear b10
  go_wp2_with fail
  refine (HU2.out _).mono ?_
  rintro e w11 ⟨rfl, b11⟩
  have HB11 := Lib.hid (HB10.out.trans (b11.mono HB10.out.size))
  have HG11 := Lib.hid (HG.out.below HB11.out)
  clear b11
  go_wp2
  go_ret
  exact ⟨rfl, HB11.out⟩

end Go.Proofs.YtllpdnmhabpbcaaGreatDoor
