/-
  Package dates: a cookie's date; two digits, the hour, a date as a header has it.
-/
import Derived.Test.YtllpdnmhabpbcaaGreatDoorDtZ
import Derived.Test.YtllpdnmhabpbcaaGreatDoorDtY
import Derived.Test.YtllpdnmhabpbcaaGreatDoorBw
import Derived.Test.YtllpdnmhabpbcaaGreatDoorShelfE
namespace Go.Proofs.YtllpdnmhabpbcaaGreatDoor
open Go.RowKit Go.Sort

/-- What package dates must have of the world. -/
structure DtG (m : Int) (w : World) : Prop where
  mx : w.cell? ⟨2, 0, none⟩ = some (.int .i64 m)
  mn : MnW w
  wk : ∃ t fr, w.heap[1]? = some (.cells #[.string (asB [83, 117, 110]), .string (asB [77, 111, 110]), .string (asB [84, 117, 101]), .string (asB [87, 101, 100]), .string (asB [84, 104, 117]), .string (asB [70, 114, 105]), .string (asB [83, 97, 116])] t fr)
  tb : Lib.TabIs Tryz.prog w "internal/strconv.uint64pow10" .u64 Lib.pow10Tab
theorem tab_below {w w' : World} (h : Lib.TabIs Tryz.prog w "internal/strconv.uint64pow10" .u64 Lib.pow10Tab) (k : Below w.heap.size w w') : Lib.TabIs Tryz.prog w' "internal/strconv.uint64pow10" .u64 Lib.pow10Tab := by
  have hg : Tryz.prog.globalNamed "internal/strconv.uint64pow10" = some 3 := by kernel_rfl
  unfold Lib.TabIs World.var? at *
  rw [hg] at h ⊢
  simp only [Option.bind_some] at h ⊢
  have hlt : 3 < w.heap.size := by
    cases hh : w.heap[3]? with
    | none => rw [hh] at h; cases h
    | some o => exact lt_of_block hh
  rw [k.block _ hlt]; exact h
/-- What a cookie's date must have of the world. -/
structure DtC0 (m : Int) (w : World) : Prop where
  mx : w.cell? ⟨2, 0, none⟩ = some (.int .i64 m)
  mn : MnW w
theorem DtG.c0 {m : Int} {w : World} (h : DtG m w) : DtC0 m w := ⟨h.mx, h.mn⟩
theorem DtC0.below {m : Int} {w w' : World} (h : DtC0 m w) (k : Below w.heap.size w w') : DtC0 m w' := by
  obtain ⟨t, fr, hg⟩ := h.mn
  exact ⟨MaxOf h.mx k, ⟨t, fr, (k.block _ (lt_of_block hg)).trans hg⟩⟩
theorem DtG.below {m : Int} {w w' : World} (h : DtG m w) (k : Below w.heap.size w w') : DtG m w' := by
  obtain ⟨t, fr, hg⟩ := h.mn
  obtain ⟨t2, fr2, hg2⟩ := h.wk
  exact ⟨MaxOf h.mx k, ⟨t, fr, (k.block _ (lt_of_block hg)).trans hg⟩, ⟨t2, fr2, (k.block _ (lt_of_block hg2)).trans hg2⟩, tab_below h.tb k⟩

set_option maxHeartbeats 1000000 in
set_option maxRecDepth 100000 in
theorem Cookie_any (s : ByteArray) (hs : s.size ≤ 1048600) (m : Int) (w : World) (hw : DtC0 m w) :
    Calls Tryz.prog 55 #[.string s] w fun e w' => e = .returned (.tuple #[.int .i64 (cookR (toldT s)), .bool (cookB (toldT s))]) ∧ Below w.heap.size w w' := by
  have hr : Calls Tryz.prog 76 #[.string s] w fun e w' => e = .returned (.pointer (some ⟨w.heap.size, 0, none⟩)) ∧ w' = w.alloc (.cells (encS s noneT).cells 124) := by
    go_enter Tryz.func76, Tryz.ntmps76
    go_wp2
    go_ret
    exact ⟨rfl, rfl⟩
  have hm := hw.mn
  have HD : Hid (DrAt (w.alloc (.cells (encS s noneT).cells 124)) w.heap.size (encS s noneT)) := Lib.hid (heap_alloc_new w _)
  have HB : Hid (Below w.heap.size w (w.alloc (.cells (encS s noneT).cells 124))) := Lib.hid ((Below.refl _ _).alloc (Nat.le_refl _) _)
  have HW : Hid (DtW m w.heap.size (w.alloc (.cells (encS s noneT).cells 124))) := Lib.hid (by
    have h2 := hw.below HB.out
    obtain ⟨t, fr, hg⟩ := hm
    refine ⟨h2.mx, h2.mn, ?_, ?_⟩
    · have := block_lt_of_cell hw.mx
      show w.heap.size ≠ _
      exact fun e => by
        have h3 : 2 < w.heap.size := this
        omega
    · have := lt_of_block hg
      omega)
  have HSec := Lib.hid (seconds_any w.heap.size s hs m _ HD.out HW.out)
  have HHr := Lib.hid hr
  clear hr hm hw
  obtain ⟨R, HR⟩ : ∃ R, Hid (cookR (toldT s) = R) := ⟨_, Lib.hid rfl⟩
  obtain ⟨B, HBb⟩ : ∃ B, Hid (cookB (toldT s) = B) := ⟨_, Lib.hid rfl⟩
  rw [HR.out, HBb.out] at HSec ⊢
  go_enter Tryz.func55, Tryz.ntmps55
  go_wp2_with fail
  refine HHr.out.mono ?_
  rintro e w1 ⟨rfl, rfl⟩
  go_wp2_with fail
  refine HSec.out.mono ?_
  rintro e w2 ⟨rfl, kp⟩
  go_wp2
  go_ret2
  refine ⟨rfl, HB.out.trans (kp.below (by simp) (fun k hk => by rw [show k = w.heap.size from hk]; exact Nat.le_refl _))⟩

theorem itoa_dig (n : Nat) (h : n < 10) : Lib.itoa (n : Int) = [UInt8.ofNat (48 + n)] := by
  have : ∀ k : Fin 10, Lib.itoa (k.1 : Int) = [UInt8.ofNat (48 + k.1)] := by decide +kernel
  exact this ⟨n, h⟩
theorem itoa_year (n : Nat) (h0 : 1000 ≤ n) (h : n < 10000) : Lib.itoa (n : Int) = yearL n := by
  have : ∀ k : Fin 90, ∀ j : Fin 100, Lib.itoa (((k.1 + 10) * 100 + j.1 : Nat) : Int) = yearL ((k.1 + 10) * 100 + j.1) := by decide +kernel
  have h2 := this ⟨n / 100 - 10, by omega⟩ ⟨n % 100, by omega⟩
  simp only at h2
  rwa [show (n / 100 - 10 + 10) * 100 + n % 100 = n by omega] at h2
theorem asB_app (a b : List UInt8) : asB a ++ asB b = asB (a ++ b) := ba_eq (by rw [ByteArray.data_append, Array.toList_append]; rfl)
theorem Itoa_any (n : Nat) (hn : n < 10000) (w : World) (htab : Lib.TabIs Tryz.prog w "internal/strconv.uint64pow10" .u64 Lib.pow10Tab) :
    Calls Tryz.prog 22 #[.int .i64 (n : Int)] w fun e w' => e = .returned (.string (asB (Lib.itoa (n : Int)))) ∧ Below w.heap.size w w' :=
  (Tryz.strconv_Itoa (n : Int) (by omega) (by omega) w htab).mono fun e w' ⟨h1, k, os, h2⟩ => ⟨h1, by rw [h2]; exact below_grown_sl _ w k os (Nat.le_refl _)⟩

set_option maxHeartbeats 1000000 in
set_option maxRecDepth 100000 in
theorem twoDigits_any (n : Nat) (hn : n < 100) (w : World) (htab : Lib.TabIs Tryz.prog w "internal/strconv.uint64pow10" .u64 Lib.pow10Tab) :
    Calls Tryz.prog 38 #[.int .i64 (n : Int)] w fun e w' => e = .returned (.string (asB (d2 n))) ∧ Below w.heap.size w w' := by
  obtain ⟨A, HA⟩ : ∃ A, Hid (asB [UInt8.ofNat (48 + n / 10)] = A) := ⟨_, Lib.hid rfl⟩
  obtain ⟨B, HB⟩ : ∃ B, Hid (asB [UInt8.ofNat (48 + n % 10)] = B) := ⟨_, Lib.hid rfl⟩
  have ha : A.size = 1 := by rw [← HA.out]; rfl
  have hb : B.size = 1 := by rw [← HB.out]; rfl
  have h1 := Itoa_any (n / 10) (by omega) w htab
  rw [itoa_dig _ (by omega), HA.out] at h1
  have HT := Lib.hid htab
  have H2 : Hid (∀ w', Below w.heap.size w w' → Calls Tryz.prog 22 #[.int .i64 ((n : Int) % 10)] w' fun e w'' => e = .returned (.string B) ∧ Below w'.heap.size w' w'') := Lib.hid (fun w' hb => by
    have := Itoa_any (n % 10) (by omega) w' (tab_below HT.out hb)
    rw [itoa_dig _ (by omega), HB.out] at this
    rwa [show ((n % 10 : Nat) : Int) = (n : Int) % 10 by omega] at this)
  rw [show ((n / 10 : Nat) : Int) = (n : Int) / 10 by omega] at h1
  have H1 := Lib.hid h1
  clear h1 htab
  have hR : asB (d2 n) = A ++ B := by
    rw [← HA.out, ← HB.out, asB_app]
    unfold d2
    rw [show n / 10 % 10 = n / 10 by omega]; rfl
  rw [hR]
  go_enter Tryz.func38, Tryz.ntmps38
  go_wp2_with fail
  refine H1.out.mono ?_
  rintro e w1 ⟨rfl, bel1⟩
  have HB1 := Lib.hid bel1
  clear bel1
  go_wp2_with fail
  refine (H2.out _ HB1.out).mono ?_
  rintro e w2 ⟨rfl, bel2⟩
  go_wp2
  go_ret
  exact ⟨rfl, HB1.out.trans (bel2.mono HB1.out.size)⟩

set_option maxHeartbeats 1000000 in
set_option maxRecDepth 100000 in
theorem clockText_any (n : Nat) (hn : n < 86400) (w : World) (htab : Lib.TabIs Tryz.prog w "internal/strconv.uint64pow10" .u64 Lib.pow10Tab) :
    Calls Tryz.prog 39 #[.int .i64 (n : Int)] w fun e w' => e = .returned (.string (asB (clockL n))) ∧ Below w.heap.size w w' := by
  have HT := Lib.hid htab
  obtain ⟨A, HA⟩ : ∃ A, Hid (asB (d2 (n / 3600)) = A) := ⟨_, Lib.hid rfl⟩
  obtain ⟨B, HB⟩ : ∃ B, Hid (asB (d2 (n / 60 % 60)) = B) := ⟨_, Lib.hid rfl⟩
  obtain ⟨C, HC⟩ : ∃ C, Hid (asB (d2 (n % 60)) = C) := ⟨_, Lib.hid rfl⟩
  have ha : A.size = 2 := by rw [← HA.out]; rfl
  have hb : B.size = 2 := by rw [← HB.out]; rfl
  have hc : C.size = 2 := by rw [← HC.out]; rfl
  have H1 : Hid (∀ w', Below w.heap.size w w' → Calls Tryz.prog 38 #[.int .i64 ((n : Int) / 3600)] w' fun e w'' => e = .returned (.string A) ∧ Below w'.heap.size w' w'') := Lib.hid (fun w' hb => by
    have := twoDigits_any (n / 3600) (by omega) w' (tab_below HT.out hb)
    rw [HA.out] at this
    rwa [show ((n / 3600 : Nat) : Int) = (n : Int) / 3600 by omega] at this)
  have H2 : Hid (∀ w', Below w.heap.size w w' → Calls Tryz.prog 38 #[.int .i64 ((n : Int) % 3600 / 60)] w' fun e w'' => e = .returned (.string B) ∧ Below w'.heap.size w' w'') := Lib.hid (fun w' hb => by
    have := twoDigits_any (n / 60 % 60) (by omega) w' (tab_below HT.out hb)
    rw [HB.out] at this
    rwa [show ((n / 60 % 60 : Nat) : Int) = (n : Int) % 3600 / 60 by omega] at this)
  have H3 : Hid (∀ w', Below w.heap.size w w' → Calls Tryz.prog 38 #[.int .i64 ((n : Int) % 60)] w' fun e w'' => e = .returned (.string C) ∧ Below w'.heap.size w' w'') := Lib.hid (fun w' hb => by
    have := twoDigits_any (n % 60) (by omega) w' (tab_below HT.out hb)
    rw [HC.out] at this
    rwa [show ((n % 60 : Nat) : Int) = (n : Int) % 60 by omega] at this)
  have hR : asB (clockL n) = A ++ ⟨#[58]⟩ ++ B ++ ⟨#[58]⟩ ++ C := by
    rw [← HA.out, ← HB.out, ← HC.out]
    show _ = asB _ ++ asB [58] ++ asB _ ++ asB [58] ++ asB _
    rw [asB_app, asB_app, asB_app, asB_app]
    unfold clockL
    simp
  rw [hR]
  clear htab hR
  go_enter Tryz.func39, Tryz.ntmps39
  go_wp2_with fail
  refine (H1.out _ (Below.refl _ _)).mono ?_
  rintro e w1 ⟨rfl, bel1⟩
  have HB1 := Lib.hid bel1
  clear bel1
  go_wp2_with fail
  refine (H2.out _ HB1.out).mono ?_
  rintro e w2 ⟨rfl, bel2⟩
  have HB2 := Lib.hid (HB1.out.trans (bel2.mono HB1.out.size))
  clear bel2
  go_wp2_with fail
  refine (H3.out _ HB2.out).mono ?_
  rintro e w3 ⟨rfl, bel3⟩
  go_wp2
  go_ret
  exact ⟨rfl, HB2.out.trans (bel3.mono HB2.out.size)⟩

end Go.Proofs.YtllpdnmhabpbcaaGreatDoor
