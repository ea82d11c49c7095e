/-
  Package dates: a date as a header has it.
  Package dates: which texts are dates of headers; Text.
  Package setcookie: the text of what is told.
  Package setcookie: textOf.
  Package setcookie: Text; what is told compared.
  Contract: the document's day of seconds.
  The document's date as a header has it.
  The document's Text at seconds that none tells.
  Contract: the document's digits, and what its Text says.
-/
import Derived.Test.YtblofndehbagnaaGreatDoorDtU
import Derived.Test.YtblofndehbagnaaGreatDoorScE
import Derived.Maps.AppendAt
import Derived.RegionTactic
import Derived.Laws.StructEq
import Derived.Test.YtblofndehbagnaaGreatDoorDtR
import Derived.Test.YtblofndehbagnaaGreatDoorDtY
import Derived.Test.YtblofndehbagnaaGreatDoorDrC
import Derived.BigQuiet
import Derived.Test.YtblofndehbagnaaGreatDoorBw
import Derived.Test.YtblofndehbagnaaGreatDoorScV
import Derived.Lib.ItoaMem
import Derived.Lib.ItoaLen
import Derived.Deep.DeepCutAuto
namespace Go.Proofs.YtblofndehbagnaaGreatDoor
open Go.RowKit

theorem year_1970 {n D Y M d : Nat} (hI : IsDay D Y M d) (h2 : (n + 62135596800) / 86400 = D) : 1970 ≤ Y := by
  rcases Nat.lt_or_ge Y 1970 with h | h
  · have a1 := bef_mono (Y + 1) 1970 (by omega) (by omega)
    have a2 : bef 1970 = 719162 := by decide
    have a3 := hI.hi
    omega
  · exact h
theorem wk_at (k : Nat) (hk : k < 7) : (#[.string (asB [83, 117, 110]), .string (asB [77, 111, 110]), .string (asB [84, 117, 101]), .string (asB [87, 101, 100]), .string (asB [84, 104, 117]), .string (asB [70, 114, 105]), .string (asB [83, 97, 116])] : Array Value)[k]? = some (.string (asB (wkL.getD k []))) := by
  have : ∀ n : Fin 7, (#[.string (asB [83, 117, 110]), .string (asB [77, 111, 110]), .string (asB [84, 117, 101]), .string (asB [87, 101, 100]), .string (asB [84, 104, 117]), .string (asB [70, 114, 105]), .string (asB [83, 97, 116])] : Array Value)[n.1]? = some (.string (asB (wkL.getD n.1 []))) := by
    intro n
    match n with
    | ⟨0, _⟩ | ⟨1, _⟩ | ⟨2, _⟩ | ⟨3, _⟩ | ⟨4, _⟩ | ⟨5, _⟩ | ⟨6, _⟩ => rfl
  exact this ⟨k, hk⟩
theorem wk_len (k : Nat) (hk : k < 7) : (asB (wkL.getD k [])).size = 3 := by
  have : ∀ n : Fin 7, (wkL.getD n.1 []).length = 3 := by decide
  exact this ⟨k, hk⟩
theorem mon_len3 (k : Nat) (h1 : 1 ≤ k) (h2 : k ≤ 12) : (asB (monL.getD k [])).size = 3 := by
  have : ∀ n : Fin 12, (monL.getD (n.1 + 1) []).length = 3 := by decide
  have h := this ⟨k - 1, by omega⟩
  simp only at h
  rwa [show k - 1 + 1 = k by omega] at h
theorem row_cell {w : World} {g : Nat} {C : Array Value} {t : TypeId} {fr : Nat × Nat} (h : w.heap[g]? = some (.cells C t fr)) (k : Nat) : w.cell? ⟨g, k, none⟩ = C[k]? := by
  simp [World.cell?, h]

set_option maxHeartbeats 2000000 in
set_option maxRecDepth 100000 in
theorem Text_any (n D Y M d : Nat) (hI : IsDay D Y M d) (h2 : (n + 62135596800) / 86400 = D) (m : Int) (w : World) (hw : DtG m w) :
    Calls Tryz.prog 21 #[.int .i64 (n : Int)] w fun e w' => e = .returned (.tuple #[.string (asB (textL Y M d ((D + 1) % 7) (n % 86400))), .bool true]) ∧ Below w.heap.size w w' := by
  have hY0 := year_1970 hI h2
  have hY9 := hI.y2
  have hM1 := hI.m1
  have hM2 := hI.m2
  have hd := hI.d1
  have hd31 := (days_pos Y M).2
  have HDay := Lib.hid (Day_any (n : Int) D Y M d hI (by omega) (by omega) w)
  unfold dayV at HDay
  obtain ⟨k, Hk⟩ : ∃ k, Hid ((D + 1) % 7 = k) := ⟨_, Lib.hid rfl⟩
  have hk7 : k < 7 := by rw [← Hk.out]; omega
  rw [Hk.out] at HDay
  have HG := Lib.hid hw
  clear hI hw
  have hn0 : ¬ (n : Int) < 0 := by omega
  have hYz : ((Y : Int) == 0) = false := beq_eq_false_iff_ne.2 (by omega)
  obtain ⟨A, HA⟩ : ∃ A, Hid (asB (d2 d) = A) := ⟨_, Lib.hid rfl⟩
  obtain ⟨B, HB⟩ : ∃ B, Hid (asB (monL.getD M []) = B) := ⟨_, Lib.hid rfl⟩
  obtain ⟨C, HC⟩ : ∃ C, Hid (asB (yearL Y) = C) := ⟨_, Lib.hid rfl⟩
  obtain ⟨E, HE⟩ : ∃ E, Hid (asB (wkL.getD k []) = E) := ⟨_, Lib.hid rfl⟩
  obtain ⟨F, HF⟩ : ∃ F, Hid (asB (clockL (n % 86400)) = F) := ⟨_, Lib.hid rfl⟩
  have za : A.size = 2 := by rw [← HA.out]; rfl
  have zb : B.size = 3 := by rw [← HB.out]; exact mon_len3 M hM1 hM2
  have zc : C.size = 4 := by rw [← HC.out]; rfl
  have ze : E.size = 3 := by rw [← HE.out]; exact wk_len k hk7
  have zf : F.size = 8 := by rw [← HF.out]; rfl
  have hR : asB (textL Y M d k (n % 86400)) = E ++ ⟨#[44, 32]⟩ ++ (A ++ ⟨#[32]⟩ ++ B ++ ⟨#[32]⟩ ++ C) ++ ⟨#[32]⟩ ++ F ++ ⟨#[32, 71, 77, 84]⟩ := by
    rw [← HA.out, ← HB.out, ← HC.out, ← HE.out, ← HF.out]
    show _ = asB _ ++ asB [44, 32] ++ (asB _ ++ asB [32] ++ asB _ ++ asB [32] ++ asB _) ++ asB [32] ++ asB _ ++ asB [32, 71, 77, 84]
    simp only [asB_app]
    unfold textL
    simp
  rw [Hk.out, hR]
  clear hR
  have hM13 : (M : Int) < 13 := by omega
  have hM0 : (0 : Int) ≤ (M : Int) := by omega
  have hk7' : (k : Int) < 7 := by omega
  have hk0 : (0 : Int) ≤ (k : Int) := by omega
  go_enter Tryz.func21, Tryz.ntmps21
  go_wp2_with fail
  refine HDay.out.mono ?_
  rintro e w1 ⟨rfl, bel⟩
  have HB1 := Lib.hid bel
  clear bel
  have HG1 := Lib.hid (HG.out.below HB1.out)
  have HT1 : Hid (∀ p : BW w1, Calls Tryz.prog 34 #[.int .i64 (d : Int)] p.w fun e w' => e = .returned (.string A) ∧ Below p.w.heap.size p.w w') := Lib.hid (fun p => by
    have := twoDigits_any d (by omega) p.w (HG1.out.below p.h).tb
    rwa [HA.out] at this)
  have HT2 : Hid (∀ p : BW w1, Calls Tryz.prog 35 #[.int .i64 (Y : Int)] p.w fun e w' => e = .returned (.string C) ∧ Below p.w.heap.size p.w w') := Lib.hid (fun p => by
    have := Itoa_any Y (by omega) p.w (HG1.out.below p.h).tb
    rwa [itoa_year Y (by omega) (by omega), HC.out] at this)
  have hcm : ∀ p : BW w1, p.w.cell? ⟨0, M, none⟩ = some (.string B) := fun p => by
    obtain ⟨t, fr, hg⟩ := (HG1.out.below p.h).mn
    rw [row_cell hg, mn_at M (by omega), HB.out]
  go_wp2
  refine bw_region (by kernel_rfl) (by kernel_rfl) ?_
  repeat (first
    | (quiet_step ((go_at_call 34; exact Calls.bw_of (HT1.out _))))
    | (quiet_step ((go_at_call 35; exact Calls.bw_of (HT2.out _)))))
  refine wpQuiet_nil ?_
  intro w2 hw'
  have HB2 : Hid (Below w1.heap.size w1 w2) := Lib.hid (by
    obtain ⟨p, hp⟩ := hw'
    rw [hp]; exact p.h)
  clear hw' hcm
  have HG2 := Lib.hid (HG1.out.below HB2.out)
  have HBw2 : Hid (Below w.heap.size w w2) := Lib.hid (HB1.out.trans (HB2.out.mono HB1.out.size))
  have HT3 : Hid (∀ p : BW w2, Calls Tryz.prog 36 #[.int .i64 ((n : Int) % 86400)] p.w fun e w' => e = .returned (.string F) ∧ Below p.w.heap.size p.w w') := Lib.hid (fun p => by
    have := clockText_any (n % 86400) (by omega) p.w (HG2.out.below p.h).tb
    rw [HF.out] at this
    rwa [show ((n % 86400 : Nat) : Int) = (n : Int) % 86400 by omega] at this)
  have hck : ∀ p : BW w2, p.w.cell? ⟨1, k, none⟩ = some (.string E) := fun p => by
    obtain ⟨t, fr, hg⟩ := (HG2.out.below p.h).wk
    rw [row_cell hg, wk_at k hk7, HE.out]
  have hmod : (n : Int).tmod 86400 = (n : Int) % 86400 := Int.tmod_eq_emod_of_nonneg (by omega)
  go_wp2
  refine bw_region (by kernel_rfl) (by kernel_rfl) ?_
  repeat (first
    | (quiet_step ((go_at_call 36; exact Calls.bw_of (HT3.out _)))))
  refine wpQuiet_nil ?_
  intro w3 hw'
  have HB3 : Hid (Below w2.heap.size w2 w3) := Lib.hid (by
    obtain ⟨p, hp⟩ := hw'
    rw [hp]; exact p.h)
  clear hw' hck
  go_wp2
  go_ret2
  exact ⟨rfl, HBw2.out.trans (HB3.out.mono HBw2.out.size)⟩

end Go.Proofs.YtblofndehbagnaaGreatDoor
namespace Go.Proofs.YtblofndehbagnaaGreatDoor
open Go.RowKit

/-- A text is that of seconds. -/
def IsTxt (n : Int) (l : List UInt8) : Prop := ∃ k D Y M d : Nat, n = (k : Int) ∧ (k + 62135596800) / 86400 = D ∧ IsDay D Y M d ∧ l = textL Y M d ((D + 1) % 7) (k % 86400)
theorem txt_some (n : Int) (h0 : 0 ≤ n) (h1 : n ≤ 253402300799) : ∃ l, IsTxt n l := by
  obtain ⟨k, rfl⟩ : ∃ k : Nat, n = k := ⟨n.toNat, by omega⟩
  obtain ⟨Y, M, d, hI⟩ := isDay_some ((k + 62135596800) / 86400) (by omega)
  exact ⟨_, k, _, Y, M, d, rfl, rfl, hI, rfl⟩
theorem IsTxt.lo {n : Int} {l : List UInt8} (h : IsTxt n l) : 0 ≤ n ∧ n ≤ 253402300799 := by
  obtain ⟨k, D, Y, M, d, rfl, h2, hI, _⟩ := h
  have := hI.lt
  omega
theorem wk_facts (k : Nat) (hk : k < 7) : (∀ c ∈ wkL.getD k [], btw c = false) ∧ clockP (wkL.getD k []) = none ∧ toldN 1 2 (wkL.getD k []) = none ∧ moP (wkL.getD k []) = none ∧ toldN 2 4 (wkL.getD k []) = none := by
  have h1 : ∀ n : Fin 7, (∀ c ∈ wkL.getD n.1 [], btw c = false) := by decide +kernel
  have h2 : ∀ n : Fin 7, clockP (wkL.getD n.1 []) = none := by decide +kernel
  have h3 : ∀ n : Fin 7, toldN 1 2 (wkL.getD n.1 []) = none := by decide +kernel
  have h4 : ∀ n : Fin 7, moP (wkL.getD n.1 []) = none := by decide +kernel
  have h5 : ∀ n : Fin 7, toldN 2 4 (wkL.getD n.1 []) = none := by decide +kernel
  exact ⟨h1 ⟨k, hk⟩, h2 ⟨k, hk⟩, h3 ⟨k, hk⟩, h4 ⟨k, hk⟩, h5 ⟨k, hk⟩⟩
theorem mn_facts (k : Nat) (hk : k < 13) : (∀ c ∈ monL.getD k [], btw c = false) ∧ clockP (monL.getD k []) = none := by
  have h1 : ∀ n : Fin 13, (∀ c ∈ monL.getD n.1 [], btw c = false) := by decide +kernel
  have h2 : ∀ n : Fin 13, clockP (monL.getD n.1 []) = none := by decide +kernel
  exact ⟨h1 ⟨k, hk⟩, h2 ⟨k, hk⟩⟩
/-- What the words tell are the seconds. -/
theorem cook_secs {k D Y M d : Nat} (h2 : (k + 62135596800) / 86400 = D) (hI : IsDay D Y M d) (hY : 1970 ≤ Y) (y : Int) (hy : whole y = (Y : Int)) :
    cookR ⟨some (((k % 86400 / 3600 : Nat) : Int), ((k % 86400 / 60 % 60 : Nat) : Int), ((k % 86400 % 60 : Nat) : Int)), some (d : Int), some M, some y⟩ = (k : Int) ∧ cookB ⟨some (((k % 86400 / 3600 : Nat) : Int), ((k % 86400 / 60 % 60 : Nat) : Int), ((k % 86400 % 60 : Nat) : Int)), some (d : Int), some M, some y⟩ = true := by
  have y2 := hI.y2
  have m1 := hI.m1
  have m2 := hI.m2
  have hd := hI.d1
  have hb := hI.back
  have hB : secB (Y : Int) (M : Int) (d : Int) ((k % 86400 / 3600 : Nat) : Int) ((k % 86400 / 60 % 60 : Nat) : Int) ((k % 86400 % 60 : Nat) : Int) = true := by
    refine secB_iff.2 ⟨dayB_iff.2 ⟨by omega, by omega, by rw [Int.toNat_natCast, Int.toNat_natCast]; omega⟩, by omega, by omega, by omega⟩
  unfold cookR cookB
  simp only [hy]
  rw [if_neg (by omega), if_neg (by omega)]
  refine ⟨?_, hB⟩
  rw [secR, if_pos hB, secV, Int.toNat_natCast, Int.toNat_natCast]
  omega
theorem whole_ge (Y : Nat) (h : 1970 ≤ Y) : whole (Y : Int) = (Y : Int) := by
  unfold whole
  rw [if_neg (by omega), if_neg (by omega)]
theorem cook_gen {k D Y M d : Nat} {wk mn g : List UInt8} (h2 : (k + 62135596800) / 86400 = D) (hI : IsDay D Y M d) (hl : mn.length = 3) (hm : mn.map low = (monL.getD M []).map low)
    (wb : ∀ c ∈ wk, btw c = false) (wc : clockP wk = none) (wt : toldN 1 2 wk = none) (wm : moP wk = none) (wy : toldN 2 4 wk = none)
    (mb : ∀ c ∈ mn, btw c = false) (mc : clockP mn = none) (gb : ∀ c ∈ g, btw c = false) :
    cookR (scanF noneT [] (textG wk d mn Y (k % 86400) g)) = (k : Int) ∧ cookB (scanF noneT [] (textG wk d mn Y (k % 86400) g)) = true := by
  have hY := year_1970 hI h2
  have y2 := hI.y2
  have hd := hI.d1
  have hd31 := (days_pos Y M).2
  rw [scan_text (by omega) (by omega) (Nat.mod_lt _ (by omega)) hI.m1 hI.m2 hl hm wb wc wt wm wy mb mc gb]
  exact cook_secs h2 hI hY _ (whole_ge Y hY)
theorem gmt_btw : ∀ c ∈ ([71, 77, 84] : List UInt8), btw c = false := by decide
theorem cook_txt {n : Int} {l : List UInt8} (h : IsTxt n l) : cookR (toldT (asB l)) = n ∧ cookB (toldT (asB l)) = true := by
  obtain ⟨k, D, Y, M, d, rfl, h2, hI, rfl⟩ := h
  obtain ⟨w1, w2, w3, w4, w5⟩ := wk_facts ((D + 1) % 7) (by omega)
  obtain ⟨m1, m2⟩ := mn_facts M (by have := hI.m2; omega)
  exact cook_gen h2 hI (mon_len3 M hI.m1 hI.m2) rfl w1 w2 w3 w4 w5 m1 m2 gmt_btw
theorem txt_one {n n' : Int} {l : List UInt8} (h : IsTxt n l) (h' : IsTxt n' l) : n = n' := (cook_txt h).1.symm.trans (cook_txt h').1
theorem txt_same {n : Int} {l l' : List UInt8} (h : IsTxt n l) (h' : IsTxt n l') : l = l' := by
  obtain ⟨k, D, Y, M, d, rfl, h2, hI, rfl⟩ := h
  obtain ⟨k', D', Y', M', d', e, h2', hI', rfl⟩ := h'
  obtain rfl : k = k' := by omega
  subst h2
  subst h2'
  obtain ⟨rfl, rfl, rfl⟩ := hI.one hI'
  rfl

theorem Text_yes {n : Int} {l : List UInt8} (h : IsTxt n l) (m : Int) (w : World) (hw : DtG m w) :
    Calls Tryz.prog 21 #[.int .i64 n] w fun e w' => e = .returned (.tuple #[.string (asB l), .bool true]) ∧ Below w.heap.size w w' := by
  obtain ⟨k, D, Y, M, d, rfl, h2, hI, rfl⟩ := h
  exact Text_any k D Y M d hI h2 m w hw

set_option maxHeartbeats 1000000 in
set_option maxRecDepth 100000 in
theorem Text_no (n : Int) (h : n < 0 ∨ 253402300799 < n) (w : World) :
    Calls Tryz.prog 21 #[.int .i64 n] w fun e w' => e = .returned (.tuple #[.string ⟨#[]⟩, .bool false]) ∧ Below w.heap.size w w' := by
  obtain ⟨Y, M, d, k, hP, hz⟩ : ∃ Y M d k : Nat, (∀ w, Calls Tryz.prog 33 #[.int .i64 n] w fun e w' => e = .returned (dayV Y M d k) ∧ Below w.heap.size w w') ∧ (n < 0 ∨ Y = 0) := by
    cases hn : inR (-62135596800) 253402300799 n with
    | false => exact ⟨0, 0, 0, 0, fun w => Day_no n hn w, .inr rfl⟩
    | true =>
      obtain ⟨h1, h2⟩ := inR_true.1 hn
      obtain ⟨D, hD⟩ : ∃ D : Nat, (n + 62135596800) / 86400 = (D : Int) := ⟨((n + 62135596800) / 86400).toNat, by omega⟩
      obtain ⟨Y, M, d, hI⟩ := isDay_some D (by omega)
      exact ⟨Y, M, d, _, fun w => Day_any n D Y M d hI h1 hD w, .inl (by omega)⟩
  have HP := Lib.hid hP
  unfold dayV at HP
  clear hP
  by_cases hn : n < 0
  · clear h hz
    go_enter Tryz.func21, Tryz.ntmps21
    go_wp2_with fail
    refine (HP.out _).mono ?_
    rintro e w1 ⟨rfl, bel⟩
    go_wp2
    go_ret2
    exact ⟨rfl, bel⟩
  · have hY : Y = 0 := by rcases hz with hz | hz; exact absurd hz hn; exact hz
    subst hY
    clear h hz
    go_enter Tryz.func21, Tryz.ntmps21
    go_wp2_with fail
    refine (HP.out _).mono ?_
    rintro e w1 ⟨rfl, bel⟩
    go_wp2
    go_ret2
    exact ⟨rfl, bel⟩

theorem bytes_beq {a b : ByteArray} (h : a = b) : (a.toList == b.toList) = true := by rw [h]; exact beq_self_eq_true _
theorem bytes_bne {a b : ByteArray} (h : a ≠ b) : (a.toList == b.toList) = false := by
  rw [beq_eq_false_iff_ne, ByteArray.toList_eq, ByteArray.toList_eq]
  exact fun e => h (ba_eq e)

end Go.Proofs.YtblofndehbagnaaGreatDoor
namespace Go.Proofs.YtblofndehbagnaaGreatDoor
open Go.RowKit

theorem sc_infoS : (Tryz.prog.info? 9).map (fun i => (i.zero, i.size, i.bytes)) = some (some (.string ⟨#[]⟩), 1, 16) := by kernel_rfl
/-- The closure's own variable: the pieces so far. -/
def TellAt (base tb : Nat) (D : List ByteArray) (w : World) : Prop :=
  base ≤ tb ∧ ∃ v, Holds1 w tb 38 v ∧ w.ownsRow base 9 1 v D.length (D.map Value.string) ∧ v.ownBlock ≠ some tb
theorem TellAt.below {base tb : Nat} {D : List ByteArray} {w w' : World} (h : TellAt base tb D w) (hb : Below w.heap.size w w') : TellAt base tb D w' := by
  obtain ⟨h0, v, h1, h2, h3⟩ := h
  exact ⟨h0, v, (hb.block tb h1.lt).trans h1, own_kept (X := fun _ => False) h2 (Kp.of_below hb) (fun _ _ h => h), h3⟩
theorem sc_appS (base : Nat) (v : Value) (D : List Value) (x : Value) (w : World) (hown : w.ownsRow base 9 1 v D.length D) (hx : x.oneCell' = true) (hD : D.length ≤ 10000000) (hb : base ≤ w.heap.size) :
    ∃ v' w1, (Builtin.append_ #[38, 38] 38 #[v, .slice (some ⟨w.heap.size, 0, none⟩) 1 1]).run Tryz.prog (w.alloc (.cells #[x] 9)) = .ok v' w1 ∧ w1.ownsRow base 9 1 v' (D ++ [x]).length (D ++ [x]) ∧ (w.alloc (.cells #[x] 9)).grownBy w1 v.ownBlock ∧ (v'.ownBlock = v.ownBlock ∨ v'.ownBlock = some (w.heap.size + 1)) ∧ Below base w w1 := by
  obtain ⟨i0, hi, hz0, hz1, hz2⟩ := info_parts sc_infoS
  have hnews : ∀ j u, [x][j]? = some u → (w.alloc (.cells #[x] 9)).cell? ((⟨w.heap.size, 0, none⟩ : Addr).add j) = some u :=
    World.news_of_block (cs := #[x]) (t := 9) (fr := (0, 0)) (heap_alloc_new w _)
  obtain ⟨v', w1, hrun, hown', hgrow, _, hlie⟩ := run_append_own_at (P := Tryz.prog) (w.alloc (.cells #[x] 9)) base 38 38 9 i0 (.string ⟨#[]⟩) 1 16 Tryz.underlying38 hi hz0 hz1 hz2 rfl (by decide)
    v D.length D (hown.alloc _) ⟨w.heap.size, 0, none⟩ 1 1 [x] rfl hnews (by simpa using hx) (by unfold maxLen; omega) (by omega) (by simp; omega)
  refine ⟨v', w1, hrun, by rw [List.length_append]; exact hown', hgrow, by rw [World.size_alloc] at hlie; exact hlie, ((Below.refl _ _).alloc hb _).grown hgrow (by simp; omega) (fun q hq => (hown.lt q hq).1)⟩
theorem sc_ownSet {w : World} {base : Nat} {e : TypeId} {size : Nat} {v : Value} {n : Nat} {xs : List Value} (h : w.ownsRow base e size v n xs) {p : Addr} (hp : v.ownBlock ≠ some p.block) (u : Value) : (w.setCell p u).ownsRow base e size v n xs := by
  obtain ⟨h1, h2⟩ := h
  refine ⟨h1, ?_⟩
  rcases h2 with h2 | ⟨g, cap, cur, rfl, hg, hh, r⟩
  · exact .inl h2
  · exact .inr ⟨g, cap, cur, rfl, hg, by rw [Below.heap_setCell _ _ _ _ (fun e => hp (by rw [← e]; rfl))]; exact hh, r⟩
def TellPost (base tb : Nat) (D : List ByteArray) (w : World) (e : Ending) (w' : World) : Prop := e = .returned (.tuple #[]) ∧ TellAt base tb D w' ∧ Below base w w'

set_option maxHeartbeats 1000000 in
set_option maxRecDepth 100000 in
theorem tell_any (base tb : Nat) (D : List ByteArray) (has : Bool) (x : ByteArray) (w : World) (h : TellAt base tb D w) (hD : D.length ≤ 1000) (hb : base ≤ w.heap.size) :
    Calls Tryz.prog 45 #[.bool has, .string x, .pointer (some ⟨tb, 0, none⟩)] w (TellPost base tb (D ++ if has then [x] else []) w) := by
  obtain ⟨D', HD'⟩ : ∃ D', Hid ((D ++ if has then [x] else []) = D') := ⟨_, Lib.hid rfl⟩
  rw [HD'.out]
  cases has with
  | false =>
    have HP : Hid (TellPost base tb D' w (.returned (.tuple #[])) w) := Lib.hid ⟨rfl, by rw [← HD'.out, if_neg (by decide), List.append_nil]; exact h, Below.refl _ _⟩
    clear h
    go_enter Tryz.func45, Tryz.ntmps45
    go_wp2
    refine bodyPost_ret (results_none rfl _ _ _) rfl ?_
    exact HP.out
  | true =>
    obtain ⟨h0, v, h1, h2, h3⟩ := h
    obtain ⟨v', w1, hrun, hown, hgrow, hlie, hbel⟩ := sc_appS base v (D.map Value.string) (.string x) w (by rw [List.length_map]; exact h2) rfl (by rw [List.length_map]; omega) hb
    obtain ⟨g, cap, rfl, _, _⟩ := hown.form (by simp)
    generalize hV : Value.slice (some ⟨g, 0, none⟩) (D.map Value.string ++ [Value.string x]).length cap = v' at *
    have hV1 : v' = .slice (some ⟨g, 0, none⟩) (D.length + 1) cap := by rw [← hV]; simp
    have hc := h1.cell
    have h1a : Holds1 (w.alloc (.cells #[.string x] 9)) tb 38 v := h1.alloc _
    have h1b : Holds1 w1 tb 38 v := h1a.grown hgrow h3
    have hc1 := h1b.cell
    have hf1 := h1b.free
    have hlt := h1.lt
    have HP : Hid (TellPost base tb D' w (.returned (.tuple #[])) (w1.setCell ⟨tb, 0, none⟩ v')) := Lib.hid ⟨rfl, ⟨h0, v', h1b.set v', by
      rw [← HD'.out, if_pos rfl]
      have e1 : (D ++ [x]).map Value.string = D.map Value.string ++ [Value.string x] := by simp
      have e2 : (D ++ [x]).length = (D.map Value.string ++ [Value.string x]).length := by simp
      rw [e1, e2]
      refine sc_ownSet hown (p := ⟨tb, 0, none⟩) (fun e => ?_) v'
      rcases hlie with hl | hl
      · exact h3 (hl ▸ e)
      · rw [hl] at e; injection e with e; have e' : w.heap.size + 1 = tb := e; omega, by
      rcases hlie with hl | hl
      · rw [hl]; exact h3
      · rw [hl]; intro e; injection e with e; omega⟩, hbel.setCell (p := ⟨tb, 0, none⟩) h0 _⟩
    have HRun := Lib.hid hrun
    subst hV1
    clear hV
    clear h0 h1 h2 h3 hrun hown hgrow hlie hbel h1a h1b hlt
    go_enter Tryz.func45, Tryz.ntmps45
    go_wp2_with (at_builtin; refine Lib.wpList_append_run _ rfl _ _ _ _ rfl _ _ rfl rfl _ _ HRun.out ?_)
    refine bodyPost_ret (results_none rfl _ _ _) rfl ?_
    exact HP.out

/-- The date's part of a text. -/
def DateOf (n : Int) (D : List UInt8) : Prop := IsTxt n D ∨ ((n < 0 ∨ 253402300799 < n) ∧ D = [])
theorem date_some (n : Int) : ∃ D, DateOf n D := by
  by_cases h : 0 ≤ n ∧ n ≤ 253402300799
  · obtain ⟨D, hD⟩ := txt_some n h.1 h.2
    exact ⟨D, .inl hD⟩
  · exact ⟨[], .inr ⟨by omega, rfl⟩⟩
theorem date_len {n : Int} {D : List UInt8} (h : DateOf n D) : D.length ≤ 29 := by
  rcases h with ⟨k, d, Y, M, dd, _, _, hI, rfl⟩ | ⟨_, rfl⟩
  · have h1 := wk_len ((d + 1) % 7) (by omega)
    have h2 := mon_len3 M hI.m1 hI.m2
    rw [asB_size] at h1 h2
    have e1 : (d2 dd).length = 2 := rfl
    have e2 : (yearL Y).length = 4 := rfl
    have e3 : (clockL (k % 86400)).length = 8 := rfl
    unfold textL
    simp only [List.length_append, List.length_cons, h1, h2, e1, e2, e3, List.length_nil]
    omega
  · simp
theorem date_any {n : Int} {D : List UInt8} (h : DateOf n D) (m : Int) (w : World) (hw : DtG m w) :
    Calls Tryz.prog 21 #[.int .i64 n] w fun e w' => (∃ ok, e = .returned (.tuple #[.string (asB D), .bool ok])) ∧ Below w.heap.size w w' := by
  rcases h with h | ⟨h, rfl⟩
  · exact (Text_yes h m w hw).mono fun e w' ⟨h1, h2⟩ => ⟨⟨_, h1⟩, h2⟩
  · exact (Text_no n h w).mono fun e w' ⟨h1, h2⟩ => ⟨⟨_, h1⟩, h2⟩
def cEx : ByteArray := ⟨#[69, 120, 112, 105, 114, 101, 115, 61]⟩
def cAg : ByteArray := ⟨#[77, 97, 120, 45, 65, 103, 101, 61]⟩
def cDm : ByteArray := ⟨#[68, 111, 109, 97, 105, 110, 61]⟩
def cPa : ByteArray := ⟨#[80, 97, 116, 104, 61]⟩
def cSe : ByteArray := ⟨#[83, 101, 99, 117, 114, 101]⟩
def cHi : ByteArray := ⟨#[72, 116, 116, 112, 79, 110, 108, 121]⟩
def cSi : ByteArray := ⟨#[83, 97, 109, 101, 83, 105, 116, 101, 61]⟩
def opt (b : Bool) (x : ByteArray) : List ByteArray := if b then [x] else []
/-- The pieces of a cookie's text. -/
def pcs (t : Cki) (D : List UInt8) : List ByteArray :=
  (((((([t.nm ++ ⟨#[61]⟩ ++ t.vl] ++ opt t.hx (cEx ++ asB D)) ++ opt t.ha (cAg ++ asB (Lib.itoa t.ag))) ++ opt (!t.dm.toList.isEmpty) (cDm ++ t.dm)) ++ opt (!t.pa.toList.isEmpty) (cPa ++ t.pa)) ++ opt t.se cSe) ++ opt t.hi cHi) ++ opt (t.si != 0) (cSi ++ asB (siteL t.si))
def txtC (t : Cki) (D : List UInt8) : ByteArray := asB (Lib.join ((pcs t D).map (·.data.toList)) [59, 32])
theorem dec_len (u k : Nat) (h : u < 10 ^ k) (hk : 1 ≤ k) : (Lib.decDigits u).length ≤ k := by
  induction k generalizing u with
  | zero => omega
  | succ k ih =>
    rw [Lib.decDigits]
    split
    · simp
    · rw [List.length_append]
      have hp : u / 10 < 10 ^ k := by rw [Nat.pow_succ] at h; omega
      cases k with
      | zero => simp at hp; omega
      | succ k => have := ih (u / 10) hp (by omega); simp; omega
theorem itoa_len (n : Int) (h0 : -9223372036854775808 ≤ n) (h1 : n ≤ 9223372036854775807) : (Lib.itoa n).length ≤ 1000 := by
  unfold Lib.itoa
  split
  · have := dec_len n.natAbs 20 (by omega) (by decide)
    rw [List.length_cons]; omega
  · have := dec_len n.toNat 20 (by omega) (by decide)
    omega
theorem Itoa_full (n : Int) (h0 : -9223372036854775808 ≤ n) (h1 : n ≤ 9223372036854775807) (w : World) (htab : Lib.TabIs Tryz.prog w "internal/strconv.uint64pow10" .u64 Lib.pow10Tab) :
    Calls Tryz.prog 35 #[.int .i64 n] w fun e w' => e = .returned (.string (asB (Lib.itoa n))) ∧ Below w.heap.size w w' :=
  (Tryz.strconv_Itoa n h0 h1 w htab).mono fun e w' ⟨he, k, os, hw⟩ => ⟨he, by
    rw [hw]; exact below_grown_sl _ w k os (Nat.le_refl _)⟩
theorem tail_bd (k : Nat) : ∀ xs : List (List UInt8), (∀ x ∈ xs, x.length ≤ k) → (Lib.joinTail [59, 32] xs).length ≤ xs.length * (k + 2)
  | [], _ => Nat.zero_le _
  | x :: xs, h => by
    have ih := tail_bd k xs fun y hy => h y (List.mem_cons_of_mem _ hy)
    have hx := h x (List.mem_cons_self ..)
    unfold Lib.joinTail at ih ⊢
    rw [List.map_cons, List.flatten_cons, List.length_append, List.length_append, show (x :: xs).length = xs.length + 1 from rfl, Nat.add_mul, Nat.one_mul]
    simp only [List.length_cons, List.length_nil]
    omega
theorem join_bd (k : Nat) (xs : List (List UInt8)) (h : ∀ x ∈ xs, x.length ≤ k) : (Lib.join xs [59, 32]).length ≤ xs.length * (k + 2) := by
  cases xs with
  | nil => exact Nat.zero_le _
  | cons x xs =>
    have h1 := tail_bd k xs fun y hy => h y (List.mem_cons_of_mem _ hy)
    have h2 := h x (List.mem_cons_self ..)
    rw [Lib.join_cons, List.length_append, List.length_cons, Nat.add_mul, Nat.one_mul]
    omega
theorem opt_bd {b : Bool} {x y : ByteArray} {k : Nat} (hx : x.size ≤ k) (h : y ∈ opt b x) : y.size ≤ k := by
  unfold opt at h
  split at h
  · rw [List.mem_singleton.1 h]; exact hx
  · cases h
theorem pcs_bd (t : Cki) (D : List UInt8) (hsz : t.nm.size + t.vl.size + t.dm.size + t.pa.size ≤ 2000000) (hd : D.length ≤ 29) (hi : (Lib.itoa t.ag).length ≤ 1000) : ∀ x ∈ pcs t D, x.size ≤ 3000000 := by
  intro x hx
  unfold pcs at hx
  simp only [List.mem_append, List.mem_singleton] at hx
  have hsi : (asB (siteL t.si)).size ≤ 6 := by
    rw [asB_size]; unfold siteL
    split
    · exact Nat.le_refl _
    · split
      · decide
      · split <;> decide
  rcases hx with ((((((rfl | h) | h) | h) | h) | h) | h) | h
  · rw [ByteArray.size_append, ByteArray.size_append, show ({ data := #[61] } : ByteArray).size = 1 from rfl]; omega
  · exact opt_bd (by rw [ByteArray.size_append, asB_size, show cEx.size = 8 from rfl]; omega) h
  · exact opt_bd (by rw [ByteArray.size_append, asB_size, show cAg.size = 8 from rfl]; omega) h
  · exact opt_bd (by rw [ByteArray.size_append, show cDm.size = 7 from rfl]; omega) h
  · exact opt_bd (by rw [ByteArray.size_append, show cPa.size = 5 from rfl]; omega) h
  · exact opt_bd (by rw [show cSe.size = 6 from rfl]; omega) h
  · exact opt_bd (by rw [show cHi.size = 8 from rfl]; omega) h
  · exact opt_bd (by rw [ByteArray.size_append, show cSi.size = 9 from rfl]; omega) h

/-- How far the closure is. -/
structure CkTx (w0 : World) (t : Cki) (D : List ByteArray) (W : World) : Prop where
  tl : TellAt (w0.heap.size + 1) (w0.heap.size + 1 + 1) D W
  bx : W.heap[w0.heap.size]? = some (.cells (ckR t) 24 (0, 0))
  bel : Below w0.heap.size w0 W
  sz : w0.heap.size + 3 ≤ W.heap.size
  ln : D.length ≤ 8
theorem CkTx.cell {w0 : World} {t : Cki} {D : List ByteArray} {W : World} (h : CkTx w0 t D W) (k : Nat) {v : Value} (hv : (ckR t)[k]? = some v) : W.cell? ⟨w0.heap.size, k, none⟩ = some v := by
  rw [cell_of_row W _ k _ _ _ h.bx]; exact hv
theorem CkTx.below {w0 : World} {t : Cki} {D : List ByteArray} {W W' : World} (h : CkTx w0 t D W) (hb : Below W.heap.size W W') : CkTx w0 t D W' :=
  ⟨h.tl.below hb, (hb.block _ (lt_of_block h.bx)).trans h.bx, h.bel.trans (hb.mono h.bel.size), Nat.le_trans h.sz hb.size, h.ln⟩
theorem CkTx.tell {w0 : World} {t : Cki} {D : List ByteArray} {W : World} (h : CkTx w0 t D W) (hl : D.length ≤ 7) (has : Bool) (x : ByteArray) :
    Calls Tryz.prog 45 #[.bool has, .string x, .pointer (some ⟨w0.heap.size + 1 + 1, 0, none⟩)] W fun e W' => e = .returned (.tuple #[]) ∧ CkTx w0 t (D ++ opt has x) W' :=
  (tell_any _ _ D has x W h.tl (by omega) (by have := h.sz; omega)).mono fun e W' ⟨h1, h2, h3⟩ => ⟨h1, h2, (h3.block _ (by omega)).trans h.bx, h.bel.trans (h3.mono (by omega)), Nat.le_trans h.sz h3.size, by
    rw [List.length_append]; unfold opt; split <;> simp <;> omega⟩

theorem CkTx.join {w0 : World} {t : Cki} {D : List ByteArray} {W : World} (h : CkTx w0 t D W) (h1 : 1 ≤ D.length) (hs : (Lib.join (D.map (·.data.toList)) [59, 32]).length ≤ 100000000) :
    ∃ g cap, W.cell? ⟨w0.heap.size + 1 + 1, 0, none⟩ = some (.slice (some ⟨g, 0, none⟩) D.length cap) ∧ Calls Tryz.prog 47 #[.slice (some ⟨g, 0, none⟩) D.length cap, .string ⟨#[59, 32]⟩] W fun e w' => e = .returned (.string (asB (Lib.join (D.map (·.data.toList)) [59, 32]))) ∧ Below W.heap.size W w' := by
  obtain ⟨⟨hbt, v, hh1, hown, _⟩, _, hbel, _, hln⟩ := h
  obtain ⟨g, cap, rfl, hgb, hgl⟩ := hown.form h1
  have hcells : ∀ (j : Nat) x, D[j]? = some x → W.cell? ⟨g, 0 + j, none⟩ = some (.string x) := fun j x hx => by
    have hj : j < D.length := by
      rcases Nat.lt_or_ge j D.length with h' | h'
      · exact h'
      · rw [List.getElem?_eq_none h'] at hx; cases hx
    rw [Nat.zero_add, hown.cellAt j (by omega), List.getElem?_map, hx]; rfl
  have hcap : D.length ≤ cap := by
    rcases hown.2 with ⟨h1, _⟩ | ⟨g2, cap2, cur, h1, _, _, h2, _⟩
    · cases h1
    · injection h1 with _ _ h3; rw [h3]; exact h2
  exact ⟨g, cap, hh1.cell, Tryz.strings_Join g 0 cap D ⟨#[59, 32]⟩ W hcells hgl (by omega) hcap (Nat.le_trans hs (by decide))⟩

end Go.Proofs.YtblofndehbagnaaGreatDoor
namespace Go.Proofs.YtblofndehbagnaaGreatDoor
open Go.RowKit

set_option maxHeartbeats 8000000 in
set_option maxRecDepth 100000 in
theorem textOf_any (t : Cki) (D : List UInt8) (hD : DateOf t.ex D) (hsz : t.nm.size + t.vl.size + t.dm.size + t.pa.size ≤ 2000000) (h0 : -9223372036854775808 ≤ t.ag) (h1 : t.ag ≤ 9223372036854775807) (m : Int) (w : World) (hw : DtG m w) :
    Calls Tryz.prog 29 #[.agg (ckR t)] w fun e w' => e = .returned (.string (txtC t D)) ∧ Below w.heap.size w w' := by
  obtain ⟨nm, vl, dm, pa, ex, hx, ag, ha, se, hi, si⟩ := t
  simp only at hD hsz h0 h1
  unfold ckR
  simp only
  obtain ⟨T, HT⟩ : ∃ T : Cki, Hid ((⟨nm, vl, dm, pa, ex, hx, ag, ha, se, hi, si⟩ : Cki) = T) := ⟨_, Lib.hid rfl⟩
  have HD := Lib.hid fun w hw => date_any hD m w hw
  have HI := Lib.hid fun w htab => Itoa_full ag h0 h1 w htab
  have HG := Lib.hid hw
  have hdl := date_len hD
  clear hw hD
  go_enter Tryz.func29, Tryz.ntmps29
  have hds : (asB D).size ≤ 29 := by rw [asB_size]; exact hdl
  obtain ⟨DB, HDB⟩ : ∃ DB, Hid (asB D = DB) := ⟨_, Lib.hid rfl⟩
  rw [HDB.out] at HD hds
  obtain ⟨F, HF⟩ : ∃ F, Hid (nm ++ ⟨#[61]⟩ ++ vl = F) := ⟨_, Lib.hid rfl⟩
  obtain ⟨W1, HW1⟩ : ∃ W, Hid (((w.alloc (.cells #[.string nm, .string vl, .string dm, .string pa, .int .i64 ex, .bool hx, .int .i64 ag, .bool ha, .bool se, .bool hi, .int .u8 si] 24)).alloc (.cells #[.string F] 9)).alloc (.cells #[.slice (some ⟨w.heap.size + 1, 0, none⟩) 1 1] 38) = W) := ⟨_, Lib.hid rfl⟩
  have HX1 : Hid (CkTx w T [F] W1) := Lib.hid (by
    rw [← HW1.out, ← HT.out]
    have k1 := (Below.refl w.heap.size w).alloc (Nat.le_refl _) (.cells #[.string nm, .string vl, .string dm, .string pa, .int .i64 ex, .bool hx, .int .i64 ag, .bool ha, .bool se, .bool hi, .int .u8 si] 24)
    have e0 := heap_alloc_new w (.cells #[.string nm, .string vl, .string dm, .string pa, .int .i64 ex, .bool hx, .int .i64 ag, .bool ha, .bool se, .bool hi, .int .u8 si] 24)
    generalize hA : w.alloc (.cells #[.string nm, .string vl, .string dm, .string pa, .int .i64 ex, .bool hx, .int .i64 ag, .bool ha, .bool se, .bool hi, .int .u8 si] 24) = A at *
    have sA : A.heap.size = w.heap.size + 1 := by rw [← hA]; simp
    have e1 := heap_alloc_new A (.cells #[.string F] 9)
    have e2 : (A.alloc (.cells #[.string F] 9)).heap[w.heap.size]? = _ := (Below.heap_alloc A _ _ (by omega)).trans e0
    have k2 := k1.alloc (by omega) (.cells #[.string F] 9)
    generalize hB : A.alloc (.cells #[.string F] 9) = B at *
    have sB : B.heap.size = w.heap.size + 1 + 1 := by rw [← hB]; simp [sA]
    rw [sA] at e1
    have e3 : (B.alloc (.cells #[.slice (some ⟨w.heap.size + 1, 0, none⟩) 1 1] 38)).heap[w.heap.size]? = _ := (Below.heap_alloc B _ _ (by omega)).trans e2
    have e4 : (B.alloc (.cells #[.slice (some ⟨w.heap.size + 1, 0, none⟩) 1 1] 38)).heap[w.heap.size + 1]? = _ := (Below.heap_alloc B _ _ (by omega)).trans e1
    have e5 := heap_alloc_new B (.cells #[.slice (some ⟨w.heap.size + 1, 0, none⟩) 1 1] 38)
    rw [sB] at e5
    refine ⟨⟨by omega, _, e5, ⟨rfl, .inr ⟨w.heap.size + 1, 1, _, rfl, Nat.le_refl _, e4, Nat.le_refl _, by decide, rfl, rfl⟩⟩, fun e => ?_⟩, e3, k2.alloc (by omega) _, by simp [sB], by simp⟩
    injection e with e
    have e' : w.heap.size + 1 = w.heap.size + 1 + 1 := e
    omega)
  have HG1 := Lib.hid (HG.out.below HX1.out.bel)
  go_wp2_with fail
  rw [HF.out, HW1.out]
  refine (HD.out _ HG1.out).mono ?_
  rintro e w3 ⟨⟨ok, rfl⟩, b3⟩
  have HX3 := Lib.hid (HX1.out.below b3)
  have c5 := HX3.out.cell 5 (v := .bool hx) (by rw [← HT.out]; rfl)
  clear b3
  go_wp2_with fail
  refine (HX3.out.tell (by simp) _ _).mono ?_
  rintro e w4 ⟨rfl, hX4⟩
  have HX4 := Lib.hid hX4
  have HG4 := Lib.hid (HG.out.below hX4.bel)
  clear hX4 c5
  have hl4 : ([F] ++ opt hx (({ data := #[69, 120, 112, 105, 114, 101, 115, 61] } : ByteArray) ++ DB)).length ≤ 2 := by unfold opt; split <;> simp
  obtain ⟨P4, HP4⟩ : ∃ P, Hid (([F] ++ opt hx (({ data := #[69, 120, 112, 105, 114, 101, 115, 61] } : ByteArray) ++ DB)) = P) := ⟨_, Lib.hid rfl⟩
  rw [HP4.out] at HX4 hl4
  have c7 := HX4.out.cell 7 (v := .bool ha) (by rw [← HT.out]; rfl)
  have c6 := HX4.out.cell 6 (v := .int .i64 ag) (by rw [← HT.out]; rfl)
  obtain ⟨NB, HNB⟩ : ∃ NB, Hid (asB (Lib.itoa ag) = NB) := ⟨_, Lib.hid rfl⟩
  have hns : NB.size ≤ 1000 := by rw [← HNB.out, asB_size]; exact itoa_len ag h0 h1
  rw [HNB.out] at HI
  clear h0 h1
  have HItoa : Hid (∀ W, CkTx w T P4 W → Calls Tryz.prog 35 #[.int .i64 ag] W fun e W' => e = .returned (.string NB) ∧ CkTx w T P4 W' ∧ W'.cell? ⟨w.heap.size, 7, none⟩ = some (.bool ha)) := Lib.hid fun W hX =>
    (HI.out W (HG.out.below hX.bel).tb).mono fun e W' ⟨he, hb⟩ => ⟨he, hX.below hb, (hX.below hb).cell 7 (v := .bool ha) (by rw [← HT.out]; rfl)⟩
  have HTl : Hid (∀ W b x, CkTx w T P4 W → Calls Tryz.prog 45 #[.bool b, .string x, .pointer (some ⟨w.heap.size + 1 + 1, 0, none⟩)] W fun e W' => e = .returned (.tuple #[]) ∧ CkTx w T (P4 ++ opt b x) W') := Lib.hid fun W b x hX => hX.tell (by omega) b x
  have HX4d := Lib.hid (HX4.out.below ((Below.refl _ _).drew))
  have hl5 : (P4 ++ opt ha (({ data := #[77, 97, 120, 45, 65, 103, 101, 61] } : ByteArray) ++ NB)).length ≤ 3 := by rw [List.length_append]; unfold opt; split <;> simp <;> omega
  obtain ⟨P5, HP5⟩ : ∃ P, Hid ((P4 ++ opt ha (({ data := #[77, 97, 120, 45, 65, 103, 101, 61] } : ByteArray) ++ NB)) = P) := ⟨_, Lib.hid rfl⟩
  rw [HP5.out] at hl5
  go_wp2_with fail
  go_cut [34] from 27 to 35 (fun s34 wx => s34 = .tuple #[] ∧ Hid (CkTx w T P5 wx))
  case first =>
    go_region_with (first
      | (go_at_call 35; (with_reducible refine (HItoa.out _ HX4d.out).mono ?_); rintro e w5 ⟨rfl, hX5, c7b⟩)
      | (go_at_call 45; (with_reducible refine (HTl.out _ _ _ hX5).mono ?_); rintro e w6 ⟨rfl, hX6⟩; rw [HP5.out] at hX6; have HX6 := Lib.hid hX6; clear hX6))
    all_goals (go_wp2_with fail; go_meet; exact ⟨rfl, HX6⟩)
  case rest =>
    obtain ⟨rfl, HX5⟩ := hcut
    clear HItoa HTl c7 c6 HX4d HX4 HX3 HX1
    have c2 := HX5.out.cell 2 (v := .string dm) (by rw [← HT.out]; rfl)
    have hl6 : (P5 ++ opt (!dm.toList.isEmpty) (({ data := #[68, 111, 109, 97, 105, 110, 61] } : ByteArray) ++ dm)).length ≤ 4 := by rw [List.length_append]; unfold opt; split <;> simp <;> omega
    obtain ⟨P6, HP6⟩ : ∃ P, Hid ((P5 ++ opt (!dm.toList.isEmpty) (({ data := #[68, 111, 109, 97, 105, 110, 61] } : ByteArray) ++ dm)) = P) := ⟨_, Lib.hid rfl⟩
    rw [HP6.out] at hl6
    go_wp2_with fail
    refine (HX5.out.tell (by omega) _ _).mono ?_
    rintro e w6 ⟨rfl, hX6⟩
    rw [HP6.out] at hX6
    have HX6 := Lib.hid hX6
    clear hX6 HX5 c2
    have c3 := HX6.out.cell 3 (v := .string pa) (by rw [← HT.out]; rfl)
    have hl7 : (P6 ++ opt (!pa.toList.isEmpty) (({ data := #[80, 97, 116, 104, 61] } : ByteArray) ++ pa)).length ≤ 5 := by rw [List.length_append]; unfold opt; split <;> simp <;> omega
    obtain ⟨P7, HP7⟩ : ∃ P, Hid ((P6 ++ opt (!pa.toList.isEmpty) (({ data := #[80, 97, 116, 104, 61] } : ByteArray) ++ pa)) = P) := ⟨_, Lib.hid rfl⟩
    rw [HP7.out] at hl7
    go_wp2_with fail
    refine (HX6.out.tell (by omega) _ _).mono ?_
    rintro e w7 ⟨rfl, hX7⟩
    rw [HP7.out] at hX7
    have HX7 := Lib.hid hX7
    clear hX7 HX6 c3
    have c8 := HX7.out.cell 8 (v := .bool se) (by rw [← HT.out]; rfl)
    have hl8 : (P7 ++ opt (se) (({ data := #[83, 101, 99, 117, 114, 101] } : ByteArray))).length ≤ 6 := by rw [List.length_append]; unfold opt; split <;> simp <;> omega
    obtain ⟨P8, HP8⟩ : ∃ P, Hid ((P7 ++ opt (se) (({ data := #[83, 101, 99, 117, 114, 101] } : ByteArray))) = P) := ⟨_, Lib.hid rfl⟩
    rw [HP8.out] at hl8
    go_wp2_with fail
    refine (HX7.out.tell (by omega) _ _).mono ?_
    rintro e w8 ⟨rfl, hX8⟩
    rw [HP8.out] at hX8
    have HX8 := Lib.hid hX8
    clear hX8 HX7 c8
    have c9 := HX8.out.cell 9 (v := .bool hi) (by rw [← HT.out]; rfl)
    have hl9 : (P8 ++ opt (hi) (({ data := #[72, 116, 116, 112, 79, 110, 108, 121] } : ByteArray))).length ≤ 7 := by rw [List.length_append]; unfold opt; split <;> simp <;> omega
    obtain ⟨P9, HP9⟩ : ∃ P, Hid ((P8 ++ opt (hi) (({ data := #[72, 116, 116, 112, 79, 110, 108, 121] } : ByteArray))) = P) := ⟨_, Lib.hid rfl⟩
    rw [HP9.out] at hl9
    go_wp2_with fail
    refine (HX8.out.tell (by omega) _ _).mono ?_
    rintro e w9 ⟨rfl, hX9⟩
    rw [HP9.out] at hX9
    have HX9 := Lib.hid hX9
    clear hX9 HX8 c9
    have c10 := HX9.out.cell 10 (v := .int .u8 si) (by rw [← HT.out]; rfl)
    obtain ⟨SB, HSB⟩ : ∃ SB, Hid (asB (siteL si) = SB) := ⟨_, Lib.hid rfl⟩
    have hss : SB.size ≤ 6 := by
      rw [← HSB.out, asB_size]
      unfold siteL
      split
      · exact Nat.le_refl _
      · split
        · decide
        · split <;> decide
    have HSt := Lib.hid fun w => siteText_any si w
    rw [HSB.out] at HSt
    go_wp2_with fail
    have hl10 : (P9 ++ opt (si != 0) (({ data := #[83, 97, 109, 101, 83, 105, 116, 101, 61] } : ByteArray) ++ SB)).length ≤ 8 := by rw [List.length_append]; unfold opt; split <;> simp <;> omega
    obtain ⟨P10, HP10⟩ : ∃ P, Hid ((P9 ++ opt (si != 0) (({ data := #[83, 97, 109, 101, 83, 105, 116, 101, 61] } : ByteArray) ++ SB)) = P) := ⟨_, Lib.hid rfl⟩
    rw [HP10.out] at hl10
    go_cut [67] from 59 to 68 (fun s67 wx => s67 = .tuple #[] ∧ Hid (CkTx w T P10 wx))
    case first =>
      have HX9d := Lib.hid (HX9.out.below ((Below.refl _ _).drew))
      go_region_with (first
        | (go_at_call 46; refine (HSt.out _).mono ?_; rintro e w10 ⟨rfl, rfl⟩)
        | (go_at_call 45; refine (HX9d.out.tell (by omega) _ _).mono ?_; rintro e w11 ⟨rfl, hX11⟩; rw [HP10.out] at hX11; have HX11 := Lib.hid hX11; clear hX11))
      all_goals (go_wp2_with fail; go_meet; exact ⟨rfl, HX11⟩)
    case rest =>
      obtain ⟨rfl, HX10⟩ := hcut
      have HPC : Hid (pcs T D = P10) := Lib.hid (by
        rw [← HP10.out, ← HP9.out, ← HP8.out, ← HP7.out, ← HP6.out, ← HP5.out, ← HP4.out, ← HF.out, ← HSB.out, ← HNB.out, ← HDB.out, ← HT.out]; rfl)
      have HTX : Hid (asB (Lib.join (P10.map (·.data.toList)) [59, 32]) = txtC T D) := Lib.hid (by rw [← HPC.out]; rfl)
      have hp1 : 1 ≤ P10.length := by
        rw [← HPC.out]; unfold pcs; simp only [List.length_append, List.length_cons, List.length_nil]; omega
      have hsum : (Lib.join (P10.map (·.data.toList)) [59, 32]).length ≤ 100000000 := by
        rw [← HPC.out]
        refine Nat.le_trans (join_bd 3000000 _ ?_) ?_
        · intro x hx
          obtain ⟨y, hy, rfl⟩ := List.mem_map.1 hx
          rw [lenB]
          refine pcs_bd T D (by rw [← HT.out]; exact hsz) hdl ?_ y hy
          rw [← HT.out, ← asB_size, HNB.out]; exact hns
        · rw [List.length_map, HPC.out]; omega
      obtain ⟨g, cap, hc, hJ⟩ := HX10.out.join hp1 hsum
      have HJ2 := Lib.hid hJ
      rw [HTX.out] at HJ2
      have HBl := Lib.hid HX10.out.bel
      clear hsum hJ
      have HTT : Hid ((⟨nm, vl, dm, pa, ex, hx, ag, ha, se, hi, si⟩ : Cki) = T) := HT
      go_wp2_with fail
      refine HJ2.out.mono ?_
      rintro e w12 ⟨rfl, b12⟩
      go_wp2
      go_ret
      exact ⟨by rw [HTT.out]; rfl, HBl.out.trans (b12.mono HBl.out.size)⟩

end Go.Proofs.YtblofndehbagnaaGreatDoor
namespace Go.Proofs.YtblofndehbagnaaGreatDoor
open Go.RowKit

theorem sc_part {t : TypeId} {xs : Array Value} {i : Nat} {v : Value} (w : World) (ha : (isAgg t).run Tryz.prog w = .ok false w) (hv : xs[i]? = some v) : (part t xs i).run Tryz.prog w = .ok v w := by
  simp [part, Sem.run_bind, ha, Result.andThen, hv]
theorem fieldsT : (Tryz.prog.fieldsOf 24).toList.map (fun f => (f.name == "_", f.type, f.offset)) = [(false, 9, 0), (false, 9, 1), (false, 9, 2), (false, 9, 3), (false, 3, 4), (false, 4, 5), (false, 3, 6), (false, 4, 7), (false, 4, 8), (false, 4, 9), (false, 22, 10)] := by kernel_rfl
theorem sc_eqcons (d : Nat) (xs ys : Array Value) (w : World) (f : Field) (fs : List Field) (hn : (f.name == "_") = false) (ha : (isAgg f.type).run Tryz.prog w = .ok false w) (x y : Value) (hx : xs[f.offset]? = some x) (hy : ys[f.offset]? = some y) (b : Bool) (he : (Op.equalIn d f.type x y).run Tryz.prog w = .ok b w) :
    (Op.eqFields d xs ys (f :: fs)).run Tryz.prog w = if b then (Op.eqFields d xs ys fs).run Tryz.prog w else .ok false w := by
  have h1 := sc_part w ha hx
  have h2 := sc_part w ha hy
  have hn' : f.name ≠ "_" := by simpa using hn
  cases b <;> simp [Op.eqFields, hn', Sem.run_bind, h1, h2, he, Result.andThen]
theorem sc_eqlist (d : Nat) (xs ys : Array Value) (w : World) (e : Nat → Bool) : ∀ (S : List (TypeId × Nat)) (fs : List Field), fs.map (fun f => (f.name == "_", f.type, f.offset)) = S.map (fun p => (false, p.1, p.2)) →
    (∀ q ∈ S, (isAgg q.1).run Tryz.prog w = .ok false w ∧ ∃ x y, xs[q.2]? = some x ∧ ys[q.2]? = some y ∧ (Op.equalIn d q.1 x y).run Tryz.prog w = .ok (e q.2) w) →
    (Op.eqFields d xs ys fs).run Tryz.prog w = .ok (S.all fun p => e p.2) w
  | [], fs, h, _ => by
    obtain rfl : fs = [] := by simpa using h
    simp [Op.eqFields]
  | q :: S, [], h, _ => by cases h
  | q :: S, f :: fs, h, hq => by
    simp only [List.map_cons, List.cons.injEq, Prod.mk.injEq] at h
    obtain ⟨⟨h1, h2, h3⟩, h4⟩ := h
    obtain ⟨ha, x, y, hx, hy, he⟩ := hq q List.mem_cons_self
    rw [sc_eqcons d xs ys w f fs h1 (by rw [h2]; exact ha) x y (by rw [h3]; exact hx) (by rw [h3]; exact hy) (e q.2) (by rw [h2]; exact he), sc_eqlist d xs ys w e S fs h4 (fun p hp => hq p (List.mem_cons_of_mem _ hp))]
    rw [List.all_cons]
    cases e q.2 <;> rfl
theorem scW_step {P : Program} {ops : Array Oper} {Q : Exit → Act → World → Prop} {a : Act} {w : World} {rest : List Oper} {o : Oper} (hw : Region.wanted o (yielded ops a.tmps) = true)
    (h : ∀ K : Act → World → Prop, (∀ a w, wpList P ops Q rest a w → K a w) → o.wp P a w K Q) : wpList P ops Q (o :: rest) a w :=
  wpList_step fun K hK => by rw [if_pos hw]; exact h K hK
/-- A row is read, guarded or not. -/
theorem scW_load {P : Program} {ops : Array Oper} {rest : List Oper} {o : Oper} {a : Act} {w : World} {Q : Exit → Act → World → Prop} (hw : Region.wanted o (yielded ops a.tmps) = true) (ty : TypeId) (x : Operand) (ho : o.op = .load ty x)
    (g : Nat) (hx : a.eval x = .pointer (some ⟨g, 0, none⟩)) (t : TypeId) (cs : Array Value) (fr : Nat × Nat) (d : TypeDesc) (hg : w.heap[g]? = some (.cells cs t fr))
    (hu : P.underlying ty = some d) (hd : (match d with | .struct _ | .array _ _ => true | _ => false) = true) (hi : (P.info? ty).map (·.size) = some cs.size)
    (h : wpList P ops Q rest (a.put o.dst (.agg cs)) w) : wpList P ops Q (o :: rest) a w :=
  scW_step hw fun _ hK => wp_load_row ty x ho g hx t cs fr d hg hu hd hi (hK _ _ h)
/-- An operation on two values, guarded or not. -/
theorem scW_bin {P : Program} {ops : Array Oper} {rest : List Oper} {o : Oper} {a : Act} {w : World} {Q : Exit → Act → World → Prop} (hw : Region.wanted o (yielded ops a.tmps) = true) (b : BinOp) (t t2 : TypeId) (x y : Operand) (ho : o.op = .binOp b t x y t2) (v : Value)
    (hg : (eqGuard b t x y (a.eval x) (a.eval y)).run P w = .ok () w) (hr : (binOp b t (a.eval x) (a.eval y)).run P w = .ok v w) (h : wpList P ops Q rest (a.put o.dst v) w) : wpList P ops Q (o :: rest) a w :=
  scW_step hw fun _ hK => by
    unfold Oper.wp
    have e : (execOp a.eval o).run P w = .ok (.value v) w := by
      simp [execOp, ho, hg, hr, Result.andThen]
    rw [e, Oper.upon_value]
    exact hK _ _ h
def ckN (u v : Cki) (n : Nat) : Bool := match n with
  | 0 => u.nm.toList == v.nm.toList
  | 1 => u.vl.toList == v.vl.toList
  | 2 => u.dm.toList == v.dm.toList
  | 3 => u.pa.toList == v.pa.toList
  | 4 => u.ex == v.ex
  | 5 => u.hx == v.hx
  | 6 => u.ag == v.ag
  | 7 => u.ha == v.ha
  | 8 => u.se == v.se
  | 9 => u.hi == v.hi
  | _ => u.si == v.si
def ckEq (u v : Cki) : Bool := ckN u v 0 && (ckN u v 1 && (ckN u v 2 && (ckN u v 3 && (ckN u v 4 && (ckN u v 5 && (ckN u v 6 && (ckN u v 7 && (ckN u v 8 && (ckN u v 9 && ckN u v 10)))))))))
theorem sc_list {a b : ByteArray} (h : a.toList = b.toList) : a = b := by
  rw [ByteArray.toList_eq, ByteArray.toList_eq] at h; exact ba_list h
theorem ckEq_iff (u v : Cki) : ckEq u v = true ↔ u = v := by
  constructor
  · intro h
    unfold ckEq ckN at h
    simp only [Bool.and_eq_true, beq_iff_eq] at h
    obtain ⟨h0, h1, h2, h3, h4, h5, h6, h7, h8, h9, h10⟩ := h
    obtain ⟨nm, vl, dm, pa, ex, hx, ag, ha, se, hi, si⟩ := u
    obtain ⟨nm', vl', dm', pa', ex', hx', ag', ha', se', hi', si'⟩ := v
    simp only at h0 h1 h2 h3 h4 h5 h6 h7 h8 h9 h10
    rw [sc_list h0, sc_list h1, sc_list h2, sc_list h3, h4, h5, h6, h7, h8, h9, h10]
  · rintro rfl
    simp [ckEq, ckN]
theorem gd_T (op : BinOp) (x y : Operand) (xs ys : Array Value) (w : World) : (eqGuard op 24 x y (.agg xs) (.agg ys)).run Tryz.prog w = .ok () w := run_eqGuard_agg _ _ _ _ _ _ _ (by kernel_rfl)
theorem eqInT (u v : Cki) (w : World) : (Op.equalIn 10000 24 (.agg (ckR u)) (.agg (ckR v))).run Tryz.prog w = .ok (ckEq u v) w := by
  have hS : Tryz.prog.underlying 24 = some (.struct (Tryz.prog.fieldsOf 24)) := by kernel_rfl
  have hp : Tryz.prog.stoodInHeld 24 = false := by kernel_rfl
  have hs : (isAgg 9).run Tryz.prog w = .ok false w := by go_simp
  have hi : (isAgg 3).run Tryz.prog w = .ok false w := by go_simp
  have hb : (isAgg 4).run Tryz.prog w = .ok false w := by go_simp
  have hu : (isAgg 22).run Tryz.prog w = .ok false w := by go_simp
  rw [show (10000 : Nat) = 9998 + 1 + 1 from rfl, run_equalIn_struct w (9998 + 1) 24 _ _ hS hp]
  rw [sc_eqlist (9998 + 1) (ckR u) (ckR v) w (ckN u v) [(9, 0), (9, 1), (9, 2), (9, 3), (3, 4), (4, 5), (3, 6), (4, 7), (4, 8), (4, 9), (22, 10)] _ fieldsT (fun q hq => by
    simp only [List.mem_cons, List.not_mem_nil, or_false] at hq
    rcases hq with rfl | rfl | rfl | rfl | rfl | rfl | rfl | rfl | rfl | rfl | rfl
    · exact ⟨hs, _, _, rfl, rfl, run_equalIn_string w 9998 9 _ _ Tryz.underlying9⟩
    · exact ⟨hs, _, _, rfl, rfl, run_equalIn_string w 9998 9 _ _ Tryz.underlying9⟩
    · exact ⟨hs, _, _, rfl, rfl, run_equalIn_string w 9998 9 _ _ Tryz.underlying9⟩
    · exact ⟨hs, _, _, rfl, rfl, run_equalIn_string w 9998 9 _ _ Tryz.underlying9⟩
    · exact ⟨hi, _, _, rfl, rfl, run_equalIn_int w 9998 3 .i64 .i64 _ _ Tryz.underlying3⟩
    · exact ⟨hb, _, _, rfl, rfl, run_equalIn_bool w 9998 4 _ _ Tryz.underlying4⟩
    · exact ⟨hi, _, _, rfl, rfl, run_equalIn_int w 9998 3 .i64 .i64 _ _ Tryz.underlying3⟩
    · exact ⟨hb, _, _, rfl, rfl, run_equalIn_bool w 9998 4 _ _ Tryz.underlying4⟩
    · exact ⟨hb, _, _, rfl, rfl, run_equalIn_bool w 9998 4 _ _ Tryz.underlying4⟩
    · exact ⟨hb, _, _, rfl, rfl, run_equalIn_bool w 9998 4 _ _ Tryz.underlying4⟩
    · exact ⟨hu, _, _, rfl, rfl, run_equalIn_int w 9998 22 .u8 .u8 _ _ Tryz.underlying22⟩)]
  simp only [List.all_cons, List.all_nil, Bool.and_true, ckEq]
theorem eqT (u v : Cki) (w : World) : (binOp .eql 24 (.agg (ckR u)) (.agg (ckR v))).run Tryz.prog w = .ok (.bool (ckEq u v)) w := by
  rw [run_eql_struct, eqInT]; rfl
theorem neT (u v : Cki) (w : World) : (binOp .neq 24 (.agg (ckR u)) (.agg (ckR v))).run Tryz.prog w = .ok (.bool (!ckEq u v)) w := by
  rw [run_neq_struct, eqInT]; rfl
/-- What Text answers. -/
def okT (t : Cki) (D : List UInt8) : Bool := (prsC (txtC t D)).2 == 0 && ckEq (prsC (txtC t D)).1 t
def txtR (t : Cki) (D : List UInt8) : Value := if okT t D then .tuple #[.string (txtC t D), .int .i64 0] else .tuple #[.string noB, .int .i64 1]


set_option maxHeartbeats 4000000 in
set_option maxRecDepth 100000 in
theorem CkText_any (t : Cki) (D : List UInt8) (hD : DateOf t.ex D) (hsz : t.nm.size + t.vl.size + t.dm.size + t.pa.size ≤ 2000000) (h0 : -9223372036854775808 ≤ t.ag) (h1 : t.ag ≤ 9223372036854775807) (m : Int) (w : World) (hw : DtG m w) :
    Calls Tryz.prog 15 #[.agg (ckR t)] w fun e w' => e = .returned (txtR t D) ∧ Below w.heap.size w w' := by
  have HTo := Lib.hid fun w hw => textOf_any t D hD hsz h0 h1 m w hw
  have HPa := Lib.hid fun w hw => Parse_any (txtC t D) m w hw
  have HNe := Lib.hid fun w => neT (prsC (txtC t D)).1 t w
  have HG := Lib.hid hw
  obtain ⟨R, HR⟩ : ∃ R, Hid (txtR t D = R) := ⟨_, Lib.hid rfl⟩
  have HR2 : Hid (R = if ((prsC (txtC t D)).2 == 0 && ckEq (prsC (txtC t D)).1 t) = true then .tuple #[.string (txtC t D), .int .i64 0] else .tuple #[.string noB, .int .i64 1]) := Lib.hid (by rw [← HR.out]; rfl)
  rw [HR.out]
  obtain ⟨X, HX⟩ : ∃ X, Hid (txtC t D = X) := ⟨_, Lib.hid rfl⟩
  rw [HX.out] at HTo HPa HNe HR2
  obtain ⟨U, c, HU⟩ : ∃ U c, Hid (prsC X = (U, c)) := ⟨_, _, Lib.hid rfl⟩
  rw [HU.out] at HPa HNe HR2
  dsimp only at HPa HNe HR2
  obtain ⟨C, HC, HCs, HC1⟩ : ∃ C, Hid (ckR t = C) ∧ Hid (C.size = 11) ∧ Hid (C.all (·.oneCell') = true) := ⟨_, Lib.hid rfl, Lib.hid rfl, Lib.hid (ckR_one _)⟩
  obtain ⟨V, HV, HVs, HV1⟩ : ∃ V, Hid (ckR U = V) ∧ Hid (V.size = 11) ∧ Hid (V.all (·.oneCell') = true) := ⟨_, Lib.hid rfl, Lib.hid rfl, Lib.hid (ckR_one _)⟩
  rw [HC.out] at HTo HNe ⊢
  rw [HV.out] at HPa HNe
  obtain ⟨B, HB⟩ : ∃ B, Hid (ckEq U t = B) := ⟨_, Lib.hid rfl⟩
  rw [HB.out] at HNe HR2
  clear hw hD hsz h0 h1
  have HA0 : Hid ((w.alloc (.cells C 24)).heap[w.heap.size]? = some (.cells C 24 (0, 0))) := Lib.hid (heap_alloc_new w _)
  have HB0 : Hid (Below w.heap.size w (w.alloc (.cells C 24))) := Lib.hid ((Below.refl _ _).alloc (Nat.le_refl _) _)
  go_enter Tryz.func15, Tryz.ntmps15
  go_wp2_with (first
    | (refine scW_load rfl 24 _ rfl w.heap.size ?_ 24 C (0, 0) _ ?_ Tryz.underlying24 rfl ?_ ?_; (exact rfl); (exact HA0.out); (rw [HCs.out]; exact infoTo)))
  refine (HTo.out _ (HG.out.below HB0.out)).mono ?_
  rintro e w1 ⟨rfl, b1⟩
  have HB1 := Lib.hid (HB0.out.trans (b1.mono HB0.out.size))
  have HA1 : Hid (w1.heap[w.heap.size]? = some (.cells C 24 (0, 0))) := Lib.hid ((b1.block _ (lt_of_block HA0.out)).trans HA0.out)
  clear b1
  go_wp2_with fail
  refine (HPa.out _ (HG.out.below HB1.out).c0).mono ?_
  rintro e w2 ⟨rfl, b2⟩
  have HB2 := Lib.hid (HB1.out.trans (b2.mono HB1.out.size))
  have HA2 : Hid (w2.heap[w.heap.size]? = some (.cells C 24 (0, 0))) := Lib.hid ((b2.block _ (lt_of_block HA1.out)).trans HA1.out)
  clear b2
  obtain ⟨W3, HW3⟩ : ∃ W, W = w2.alloc (.cells (ckR ck0) 24) := ⟨_, rfl⟩
  have HB3 : Hid (Below w.heap.size w W3) := Lib.hid (by rw [HW3]; exact HB2.out.alloc HB2.out.size _)
  have HA3 : Hid ((w2.alloc (.cells (ckR ck0) 24)).heap[w2.heap.size]? = some (.cells (ckR ck0) 24 (0, 0))) := Lib.hid (heap_alloc_new w2 _)
  have hlt : w.heap.size < w2.heap.size := lt_of_block HA2.out
  obtain ⟨W4, HW4⟩ : ∃ W, Hid ((w2.alloc (.cells #[.string ⟨#[]⟩, .string ⟨#[]⟩, .string ⟨#[]⟩, .string ⟨#[]⟩, .int .i64 0, .bool false, .int .i64 0, .bool false, .bool false, .bool false, .int .u8 0] 24)).setRow w2.heap.size V = W) := ⟨_, Lib.hid rfl⟩
  have HA4 : Hid (W4.heap[w2.heap.size]? = some (.cells V 24 (0, 0))) := Lib.hid (by rw [← HW4.out]; exact setRow_heap _ _ _ _ _ _ (HA3.out))
  have HC4 : Hid (W4.heap[w.heap.size]? = some (.cells C 24 (0, 0))) := Lib.hid (by rw [← HW4.out, setRow_other _ _ _ _ (by omega)]; exact (Below.heap_alloc _ _ _ hlt).trans HA2.out)
  have HB4 : Hid (Below w.heap.size w W4) := Lib.hid (by rw [← HW4.out]; exact sc_below (HB2.out.alloc HB2.out.size _) _ _ (by omega))
  have HNe4 := Lib.hid (HNe.out W4)
  clear HB3 hlt HW3
  by_cases hc : c = 0
  · subst hc
    cases B with
    | true =>
      have HRR : Hid (R = .tuple #[.string X, .int .i64 0]) := HR2
      go_upto_region 3 with (refine wpL_store_row rfl 24 _ _ rfl w2.heap.size V ?_ ?_ 24 (ckR ck0) ?_ ?_ ?_ ?_ ?_; exact rfl; exact rfl; (exact HA3.out); (rw [HVs.out]; exact infoTo); (rw [HVs.out]; rfl); exact HV1.out; rw [HW4.out])
      go_wp2_with (first
        | (refine scW_load rfl 24 _ rfl w2.heap.size ?_ 24 V (0, 0) _ ?_ Tryz.underlying24 rfl ?_ ?_; (exact rfl); (exact HA4.out); (rw [HVs.out]; exact infoTo))
        | (refine scW_load rfl 24 _ rfl w.heap.size ?_ 24 C (0, 0) _ ?_ Tryz.underlying24 rfl ?_ ?_; (exact rfl); (exact HC4.out); (rw [HCs.out]; exact infoTo); refine scW_bin rfl .neq 24 24 (.tmp 17) (.tmp 18) rfl _ (gd_T .neq (.tmp 17) (.tmp 18) V C _) HNe4.out ?_))
      go_ret2
      exact ⟨by rw [HRR.out]; rfl, HB4.out⟩
    | false =>
      have HRR : Hid (R = .tuple #[.string noB, .int .i64 1]) := HR2
      go_upto_region 3 with (refine wpL_store_row rfl 24 _ _ rfl w2.heap.size V ?_ ?_ 24 (ckR ck0) ?_ ?_ ?_ ?_ ?_; exact rfl; exact rfl; (exact HA3.out); (rw [HVs.out]; exact infoTo); (rw [HVs.out]; rfl); exact HV1.out; rw [HW4.out])
      go_wp2_with (first
        | (refine scW_load rfl 24 _ rfl w2.heap.size ?_ 24 V (0, 0) _ ?_ Tryz.underlying24 rfl ?_ ?_; (exact rfl); (exact HA4.out); (rw [HVs.out]; exact infoTo))
        | (refine scW_load rfl 24 _ rfl w.heap.size ?_ 24 C (0, 0) _ ?_ Tryz.underlying24 rfl ?_ ?_; (exact rfl); (exact HC4.out); (rw [HCs.out]; exact infoTo); refine scW_bin rfl .neq 24 24 (.tmp 17) (.tmp 18) rfl _ (gd_T .neq (.tmp 17) (.tmp 18) V C _) HNe4.out ?_))
      go_ret2
      exact ⟨by rw [HRR.out]; rfl, HB4.out⟩
  · have hcb : (c != 0) = true := bne_iff_ne.2 hc
    have hce : (c == 0) = false := beq_eq_false_iff_ne.2 hc
    have HRR : Hid (R = .tuple #[.string noB, .int .i64 1]) := Lib.hid (by rw [HR2.out, hce]; rfl)
    clear hc hce
    go_wp2_with (refine wpL_store_row rfl 24 _ _ rfl w2.heap.size V ?_ ?_ 24 (ckR ck0) ?_ ?_ ?_ ?_ ?_; exact rfl; exact rfl; (exact HA3.out); (rw [HVs.out]; exact infoTo); (rw [HVs.out]; rfl); exact HV1.out; rw [HW4.out])
    go_ret2
    exact ⟨by rw [HRR.out]; rfl, HB4.out⟩

end Go.Proofs.YtblofndehbagnaaGreatDoor
namespace Go.Proofs.YtblofndehbagnaaGreatDoor
open Go.RowKit

set_option maxHeartbeats 1000000 in
set_option maxRecDepth 100000 in
theorem RefDay_no (n : Int) (hn : inR (-62135596800) 253402300799 n = false) (w : World) :
    Calls Tryz.prog 48 #[.int .i64 n] w fun e w' => e = .returned (dayV 0 0 0 0) ∧ w = w' := by
  by_cases h : n < -62135596800
  · go_enter Tryz.func48, Tryz.ntmps48
    go_wp2
    refine bodyPost_ret (results_tmp4 rfl _ _ _) rfl ?_
    exact ⟨rfl, rfl⟩
  · have h2 : 253402300799 < n := by rcases inR_false.1 hn with h3 | h3 <;> omega
    clear hn
    go_enter Tryz.func48, Tryz.ntmps48
    go_wp2
    refine bodyPost_ret (results_tmp4 rfl _ _ _) rfl ?_
    exact ⟨rfl, rfl⟩

set_option maxHeartbeats 2000000 in
set_option maxRecDepth 100000 in
theorem RefDay_any (n : Int) (D Y M d : Nat) (hI : IsDay D Y M d) (h1 : -62135596800 ≤ n) (h2 : (n + 62135596800) / 86400 = (D : Int)) (w : World) :
    Calls Tryz.prog 48 #[.int .i64 n] w fun e w' => e = .returned (dayV Y M d ((D + 1) % 7)) ∧ w = w' := by
  have hD := hI.lt
  have hn2 : n ≤ 253402300799 := by omega
  have hn1 : ¬ n < -62135596800 := by omega
  have hn3 : ¬ 253402300799 < n := by omega
  have y1 := hI.y1
  have y2 := hI.y2
  have m1 := hI.m1
  have m2 := hI.m2
  have hlo := hI.lo
  have hhi := hI.hi
  have hst : D / 366 + 1 ≤ Y := by
    rcases Nat.lt_or_ge Y (D / 366 + 1) with h | h
    · have a1 := bef_mono (Y + 1) (D / 366 + 1) (by omega) (by omega)
      have a2 := bef_up (D / 366)
      omega
    · exact h
  obtain ⟨B, HB⟩ : ∃ B, Hid (bef Y = B) := ⟨_, Lib.hid rfl⟩
  have hDA := fun w => RefBefore_any Y y1 (by omega) w
  rw [HB.out] at hDA hlo
  have HI := Lib.hid hI
  clear hI
  go_enter Tryz.func48, Tryz.ntmps48
  go_wp2
  go_loop [7] (fun v => ∃ y : Nat, 1 ≤ y ∧ y ≤ Y ∧ v = .int .i64 (y : Int)) (fun v => 10000 - (intOf v).toNat)
  case atStart => exact ⟨D / 366 + 1, by omega, hst, by go_num⟩
  case round =>
    obtain ⟨y, hy1, hyY, rfl⟩ := hrel
    have hdb := fun w => RefBefore_any (y + 1) (by omega) (by omega) w
    obtain ⟨q, HQ⟩ : ∃ q, Hid (bef (y + 1) = q) := ⟨_, Lib.hid rfl⟩
    rw [HQ.out] at hdb
    have hdb' : ∀ w, Calls Tryz.prog 81 #[.int .i64 ((y : Int) + 1)] w fun e w' => e = .returned (.int .i64 (q : Int)) ∧ w = w' := fun w => by
      have := hdb w
      rwa [show (((y + 1 : Nat) : Nat) : Int) = (y : Int) + 1 by omega] at this
    clear hdb
    by_cases hlt : y < Y
    · have hqD : q ≤ D := by
        have := bef_mono (y + 1) Y (by omega) hlt
        rw [HQ.out, HB.out] at this
        omega
      go_wp2_with fail
      refine (hdb' _).mono ?_
      rintro e w' ⟨rfl, rfl⟩
      go_wp2
      go_round
      case rel => exact ⟨y + 1, by omega, by omega, by go_num⟩
      case measure => simp [intOf]; omega
    · have hyy : y = Y := by omega
      subst hyy
      have hqD : ¬ q ≤ D := by rw [← HQ.out]; omega
      clear hhi hst
      go_wp2_with fail
      refine (hdb' _).mono ?_
      rintro e w' ⟨rfl, rfl⟩
      go_wp2_with fail
      refine (hDA _).mono ?_
      rintro e w' ⟨rfl, rfl⟩
      clear hDA hdb'
      go_wp2
      go_loop [8, 9] (fun v k => ∃ (m z : Nat), 1 ≤ m ∧ m ≤ M ∧ k = .int .i64 (m : Int) ∧ v = .int .i64 (z : Int) ∧ z ≤ 3660000 ∧ Hid (z + B + cumN y m = D)) (fun _ k => 12 - (intOf k).toNat)
      case atStart => exact ⟨1, D - B, Nat.le_refl _, m1, rfl, by go_num, by omega, Lib.hid (by rw [cum_one]; omega)⟩
      case round =>
        obtain ⟨m, z, hm1, hmM, rfl, rfl, hz, HZ⟩ := hrel
        have hdn := fun w => RefDays_any y m (by omega) hm1 (by omega) w
        obtain ⟨q, HQ⟩ : ∃ q, Hid (daysN y m = q) := ⟨_, Lib.hid rfl⟩
        rw [HQ.out] at hdn
        have hq : q ≤ 31 := by rw [← HQ.out]; exact (days_pos y m).2
        by_cases hlt : m < M
        · have hzq : q ≤ z := by
            have a1 := cum_mono y (m + 1) M (by omega) hlt
            rw [cum_succ y m hm1, HQ.out] at a1
            have a2 := HI.out.mlo
            have a3 := HZ.out
            rw [HB.out] at a2
            omega
          go_wp2_with fail
          refine (hdn _).mono ?_
          rintro e w' ⟨rfl, rfl⟩
          go_wp2_with fail
          refine (hdn _).mono ?_
          rintro e w' ⟨rfl, rfl⟩
          go_wp2
          go_round
          case rel => exact ⟨m + 1, z - q, by omega, by omega, by go_num, by go_num, by omega, Lib.hid (by rw [cum_succ y m hm1, HQ.out]; have := HZ.out; omega)⟩
          case measure => simp [intOf]; omega
        · have hmm : m = M := by omega
          subst hmm
          have hzq : ¬ q ≤ z := by
            have a2 := HI.out.mhi
            have a3 := HZ.out
            rw [HB.out, HQ.out] at a2
            omega
          go_wp2_with fail
          refine (hdn _).mono ?_
          rintro e w' ⟨rfl, rfl⟩
          go_wp2
          refine bodyPost_ret (results_tmp4 rfl _ _ _) rfl ?_
          refine ⟨?_, rfl⟩
          have a1 := HI.out.dd
          have a3 := HZ.out
          rw [HB.out] at a1
          have e1 : d = z + 1 := by omega
          rw [e1]
          rfl

/-- Of seconds a day is answered, all four noughts where they are of no year. -/
theorem day_some (n : Int) : ∃ Y M d k : Nat, (∀ w, Calls Tryz.prog 33 #[.int .i64 n] w fun e w' => e = .returned (dayV Y M d k) ∧ Below w.heap.size w w') ∧ (∀ w, Calls Tryz.prog 48 #[.int .i64 n] w fun e w' => e = .returned (dayV Y M d k) ∧ w = w') := by
  cases hn : inR (-62135596800) 253402300799 n with
  | false => exact ⟨0, 0, 0, 0, fun w => Day_no n hn w, fun w => RefDay_no n hn w⟩
  | true =>
    obtain ⟨h1, h2⟩ := inR_true.1 hn
    obtain ⟨D, hD⟩ : ∃ D : Nat, (n + 62135596800) / 86400 = (D : Int) := ⟨((n + 62135596800) / 86400).toNat, by omega⟩
    obtain ⟨Y, M, d, hI⟩ := isDay_some D (by omega)
    exact ⟨Y, M, d, _, fun w => Day_any n D Y M d hI h1 hD w, fun w => RefDay_any n D Y M d hI h1 hD w⟩

end Go.Proofs.YtblofndehbagnaaGreatDoor
namespace Go.Proofs.YtblofndehbagnaaGreatDoor
open Go.RowKit

def DG10 : ByteArray := ⟨#[48, 49, 50, 51, 52, 53, 54, 55, 56, 57]⟩
theorem dg_at (k : Nat) (hk : k < 10) : DG10.extract k (k + 1) = asB [UInt8.ofNat (48 + k)] := by
  have : ∀ j : Fin 10, DG10.extract j.1 (j.1 + 1) = asB [UInt8.ofNat (48 + j.1)] := by decide +kernel
  exact this ⟨k, hk⟩
theorem slice_dg (k : Nat) (hk : k < 10) (v u : Int) (hv : v = k) (hu : u = (k : Int) + 1) (w : World) : (Instr.slice 9 (.string ({ data := #[48, 49, 50, 51, 52, 53, 54, 55, 56, 57] } : ByteArray)) (some (.int .i64 v)) (some (.int .i64 u)) none).run Tryz.prog w = .ok (.string (asB [UInt8.ofNat (48 + k)])) w := by
  subst hv
  subst hu
  have h := run_slice_string_if (P := Tryz.prog) (w := w) 9 DG10 .i64 .i64 (k : Int) ((k : Int) + 1) Tryz.underlying9
  have hs : DG10.size = 10 := rfl
  rw [hs, if_pos ⟨by omega, by omega⟩, if_pos ⟨by omega, by omega⟩, show ((k : Int)).toNat = k by omega, show ((k : Int) + 1).toNat = k + 1 by omega, dg_at k hk] at h
  exact h
def WKS : ByteArray := ⟨#[83, 117, 110, 77, 111, 110, 84, 117, 101, 87, 101, 100, 84, 104, 117, 70, 114, 105, 83, 97, 116]⟩
theorem wks_at (k : Nat) (hk : k < 7) : WKS.extract (3 * k) (3 * k + 3) = asB (wkL.getD k []) := by
  have : ∀ j : Fin 7, WKS.extract (3 * j.1) (3 * j.1 + 3) = asB (wkL.getD j.1 []) := by decide +kernel
  exact this ⟨k, hk⟩
theorem slice_wk (k : Nat) (hk : k < 7) (w : World) : (Instr.slice 9 (.string ({ data := #[83, 117, 110, 77, 111, 110, 84, 117, 101, 87, 101, 100, 84, 104, 117, 70, 114, 105, 83, 97, 116] } : ByteArray)) (some (.int .i64 (3 * (k : Int)))) (some (.int .i64 (3 * (k : Int) + 3))) none).run Tryz.prog w = .ok (.string (asB (wkL.getD k []))) w := by
  have h := run_slice_string_if (P := Tryz.prog) (w := w) 9 WKS .i64 .i64 (3 * (k : Int)) (3 * (k : Int) + 3) Tryz.underlying9
  have hs : WKS.size = 21 := rfl
  rw [hs, if_pos ⟨by omega, by omega⟩, if_pos ⟨by omega, by omega⟩, show (3 * (k : Int)).toNat = 3 * k by omega, show (3 * (k : Int) + 3).toNat = 3 * k + 3 by omega, wks_at k hk] at h
  exact h

set_option maxHeartbeats 1000000 in
set_option maxRecDepth 100000 in
theorem Digits_any (n : Nat) (hn : n < 1000000) (w : World) :
    Calls Tryz.prog 49 #[.int .i64 (n : Int)] w fun e w' => e = .returned (.string (asB (d2 n))) ∧ Below w.heap.size w w' := by
  obtain ⟨A, HA⟩ : ∃ A, Hid (asB [UInt8.ofNat (48 + n / 10 % 10)] = A) := ⟨_, Lib.hid rfl⟩
  obtain ⟨B, HB⟩ : ∃ B, Hid (asB [UInt8.ofNat (48 + n % 10)] = B) := ⟨_, Lib.hid rfl⟩
  have ha : A.size = 1 := by rw [← HA.out]; rfl
  have hb : B.size = 1 := by rw [← HB.out]; rfl
  have hR : asB (d2 n) = A ++ B := by rw [← HA.out, ← HB.out, asB_app]; rfl
  have s1 := fun w => slice_dg (n / 10 % 10) (by omega) ((n : Int) / 10 % 10) ((n : Int) / 10 % 10 + 1) (by omega) (by omega) w
  have s2 := fun w => slice_dg (n % 10) (by omega) ((n : Int) % 10) ((n : Int) % 10 + 1) (by omega) (by omega) w
  rw [HA.out] at s1
  rw [HB.out] at s2
  rw [hR]
  have t1 : (n : Int).tdiv 10 = (n : Int) / 10 := Int.tdiv_eq_ediv_of_nonneg (by omega)
  have t2 : ((n : Int) / 10).tmod 10 = (n : Int) / 10 % 10 := Int.tmod_eq_emod_of_nonneg (by omega)
  have t3 : (n : Int).tmod 10 = (n : Int) % 10 := Int.tmod_eq_emod_of_nonneg (by omega)
  have q1 : IntKind.i64.wrap ((n : Int) / 10) = (n : Int) / 10 := by rw [IntKind.wrap_i64]; omega
  have q2 : IntKind.i64.wrap ((n : Int) / 10 % 10) = (n : Int) / 10 % 10 := by rw [IntKind.wrap_i64]; omega
  have q3 : IntKind.i64.wrap ((n : Int) / 10 % 10 + 1) = (n : Int) / 10 % 10 + 1 := by rw [IntKind.wrap_i64]; omega
  have q4 : IntKind.i64.wrap ((n : Int) % 10) = (n : Int) % 10 := by rw [IntKind.wrap_i64]; omega
  have q5 : IntKind.i64.wrap ((n : Int) % 10 + 1) = (n : Int) % 10 + 1 := by rw [IntKind.wrap_i64]; omega
  clear hR
  go_enter Tryz.func49, Tryz.ntmps49
  go_wp2
  go_quiet (fail)
  go_wp2
  go_ret
  exact ⟨rfl, { os := rfl, tape := rfl, output := rfl, size := Nat.le_refl _, block := fun _ _ => rfl }⟩

set_option maxHeartbeats 4000000 in
set_option maxRecDepth 100000 in
theorem RefText_any (n D Y M d : Nat) (hI : IsDay D Y M d) (h2 : (n + 62135596800) / 86400 = D) (w : World) :
    Calls Tryz.prog 30 #[.int .i64 (n : Int)] w fun e w' => e = .returned (.tuple #[.string (asB (textL Y M d ((D + 1) % 7) (n % 86400))), .bool true]) ∧ Below w.heap.size w w' := by
  have hY9 := hI.y2
  have hM1 := hI.m1
  have hM2 := hI.m2
  have hd := hI.d1
  have hd31 := (days_pos Y M).2
  have hDlt := hI.lt
  have HDay := Lib.hid (RefDay_any (n : Int) D Y M d hI (by omega) (by omega) w)
  unfold dayV at HDay
  obtain ⟨k, Hk⟩ : ∃ k, Hid ((D + 1) % 7 = k) := ⟨_, Lib.hid rfl⟩
  have hk7 : k < 7 := by rw [← Hk.out]; omega
  rw [Hk.out] at HDay
  have hn9 : (n : Int) ≤ 253402300799 := by omega
  have hn0 : ¬ (n : Int) < 0 := by omega
  obtain ⟨s, hs⟩ : ∃ s, n % 86400 = s := ⟨_, rfl⟩
  have hs9 : s < 86400 := by omega
  have hmod : (n : Int) % 86400 = (s : Int) := by omega
  rw [hs]
  obtain ⟨A, HA⟩ : ∃ A, Hid (asB (d2 d) = A) := ⟨_, Lib.hid rfl⟩
  obtain ⟨B, HB⟩ : ∃ B, Hid (asB (monL.getD M []) = B) := ⟨_, Lib.hid rfl⟩
  obtain ⟨C1, HC1⟩ : ∃ C, Hid (asB (d2 (Y / 100)) = C) := ⟨_, Lib.hid rfl⟩
  obtain ⟨C2, HC2⟩ : ∃ C, Hid (asB (d2 (Y % 100)) = C) := ⟨_, Lib.hid rfl⟩
  obtain ⟨E, HE⟩ : ∃ E, Hid (asB (wkL.getD k []) = E) := ⟨_, Lib.hid rfl⟩
  obtain ⟨F1, HF1⟩ : ∃ F, Hid (asB (d2 (s / 3600)) = F) := ⟨_, Lib.hid rfl⟩
  obtain ⟨F2, HF2⟩ : ∃ F, Hid (asB (d2 (s / 60 % 60)) = F) := ⟨_, Lib.hid rfl⟩
  obtain ⟨F3, HF3⟩ : ∃ F, Hid (asB (d2 (s % 60)) = F) := ⟨_, Lib.hid rfl⟩
  have za : A.size = 2 := by rw [← HA.out]; rfl
  have zb : B.size = 3 := by rw [← HB.out]; exact mon_len3 M hM1 hM2
  have zc1 : C1.size = 2 := by rw [← HC1.out]; rfl
  have zc2 : C2.size = 2 := by rw [← HC2.out]; rfl
  have ze : E.size = 3 := by rw [← HE.out]; exact wk_len k hk7
  have zf1 : F1.size = 2 := by rw [← HF1.out]; rfl
  have zf2 : F2.size = 2 := by rw [← HF2.out]; rfl
  have zf3 : F3.size = 2 := by rw [← HF3.out]; rfl
  have hR : asB (textL Y M d k s) = E ++ ⟨#[44, 32]⟩ ++ A ++ ⟨#[32]⟩ ++ B ++ ⟨#[32]⟩ ++ C1 ++ C2 ++ ⟨#[32]⟩ ++ F1 ++ ⟨#[58]⟩ ++ F2 ++ ⟨#[58]⟩ ++ F3 ++ ⟨#[32, 71, 77, 84]⟩ := by
    rw [← HA.out, ← HB.out, ← HC1.out, ← HC2.out, ← HE.out, ← HF1.out, ← HF2.out, ← HF3.out]
    show _ = asB _ ++ asB [44, 32] ++ asB _ ++ asB [32] ++ asB _ ++ asB [32] ++ asB _ ++ asB _ ++ asB [32] ++ asB _ ++ asB [58] ++ asB _ ++ asB [58] ++ asB _ ++ asB [32, 71, 77, 84]
    simp only [asB_app]
    unfold textL yearL clockL
    simp
  rw [Hk.out, hR]
  clear hR
  have DgOf : ∀ (x : Nat) (v : Int) (b : ByteArray), v = (x : Int) → x < 1000000 → asB (d2 x) = b → ∀ w, Calls Tryz.prog 49 #[.int .i64 v] w fun e w' => e = .returned (.string b) ∧ Below w.heap.size w w' := fun x v b h1 h2 h3 w => by
    rw [h1, ← h3]; exact Digits_any x h2 w
  have G1 := Lib.hid (DgOf d (d : Int) A rfl (by omega) HA.out)
  have G2 := Lib.hid (DgOf (Y / 100) ((Y : Int) / 100) C1 (by omega) (by omega) HC1.out)
  have G3 := Lib.hid (DgOf (Y % 100) ((Y : Int) % 100) C2 (by omega) (by omega) HC2.out)
  have G4 := Lib.hid (DgOf (s / 3600) ((s : Int) / 3600) F1 (by omega) (by omega) HF1.out)
  have G5 := Lib.hid (DgOf (s / 60 % 60) ((s : Int) / 60 % 60) F2 (by omega) (by omega) HF2.out)
  have G6 := Lib.hid (DgOf (s % 60) ((s : Int) % 60) F3 (by omega) (by omega) HF3.out)
  have l1 := fun w => slice_wk k hk7 w
  rw [HE.out] at l1
  have l2 := fun w => slice_ms M hM1 hM2 w
  rw [HB.out] at l2
  have t1 : (Y : Int).tdiv 100 = (Y : Int) / 100 := Int.tdiv_eq_ediv_of_nonneg (by omega)
  have t2 : (Y : Int).tmod 100 = (Y : Int) % 100 := Int.tmod_eq_emod_of_nonneg (by omega)
  have t3 : (s : Int).tdiv 3600 = (s : Int) / 3600 := Int.tdiv_eq_ediv_of_nonneg (by omega)
  have t4 : (s : Int).tdiv 60 = (s : Int) / 60 := Int.tdiv_eq_ediv_of_nonneg (by omega)
  have t5 : ((s : Int) / 60).tmod 60 = (s : Int) / 60 % 60 := Int.tmod_eq_emod_of_nonneg (by omega)
  have t6 : (s : Int).tmod 60 = (s : Int) % 60 := Int.tmod_eq_emod_of_nonneg (by omega)
  have q1 : IntKind.i64.wrap (3 * (k : Int)) = 3 * (k : Int) := by rw [IntKind.wrap_i64]; omega
  have q2 : IntKind.i64.wrap (3 * (k : Int) + 3) = 3 * (k : Int) + 3 := by rw [IntKind.wrap_i64]; omega
  have q3 : IntKind.i64.wrap (3 * (M : Int)) = 3 * (M : Int) := by rw [IntKind.wrap_i64]; omega
  have q4 : IntKind.i64.wrap (3 * (M : Int) - 3) = 3 * (M : Int) - 3 := by rw [IntKind.wrap_i64]; omega
  have q5 : IntKind.i64.wrap ((Y : Int) / 100) = (Y : Int) / 100 := by rw [IntKind.wrap_i64]; omega
  have q6 : IntKind.i64.wrap ((Y : Int) % 100) = (Y : Int) % 100 := by rw [IntKind.wrap_i64]; omega
  have q7 : IntKind.i64.wrap ((s : Int) / 3600) = (s : Int) / 3600 := by rw [IntKind.wrap_i64]; omega
  have q8 : IntKind.i64.wrap ((s : Int) / 60) = (s : Int) / 60 := by rw [IntKind.wrap_i64]; omega
  have q9 : IntKind.i64.wrap ((s : Int) / 60 % 60) = (s : Int) / 60 % 60 := by rw [IntKind.wrap_i64]; omega
  have q0 : IntKind.i64.wrap ((s : Int) % 60) = (s : Int) % 60 := by rw [IntKind.wrap_i64]; omega
  clear hI h2 hs DgOf hDlt hd hd31
  go_enter Tryz.func30, Tryz.ntmps30
  go_wp2_with fail
  refine HDay.out.mono ?_
  rintro e w1 ⟨rfl, rfl⟩
  go_wp2
  refine bw_region (by kernel_rfl) (by kernel_rfl) ?_
  repeat (first
    | (quiet_step ((go_at_call 49; first | (with_reducible exact Calls.bw_of (G1.out _)) | (with_reducible exact Calls.bw_of (G2.out _)) | (with_reducible exact Calls.bw_of (G3.out _)) | (with_reducible exact Calls.bw_of (G4.out _)) | (with_reducible exact Calls.bw_of (G5.out _)) | (with_reducible exact Calls.bw_of (G6.out _))))))
  refine wpQuiet_nil ?_
  intro w3 hw'
  have HB3 : Hid (Below w.heap.size w w3) := Lib.hid (by
    obtain ⟨p, hp⟩ := hw'
    rw [hp]; exact p.h)
  clear hw'
  go_wp2
  go_ret2
  exact ⟨rfl, HB3.out⟩

end Go.Proofs.YtblofndehbagnaaGreatDoor
namespace Go.Proofs.YtblofndehbagnaaGreatDoor
open Go.RowKit

set_option maxHeartbeats 1000000 in
theorem RefText_no (n : Int) (h : n < 0 ∨ 253402300799 < n) (w : World) :
    Calls Tryz.prog 30 #[.int .i64 n] w fun e w' => e = .returned (.tuple #[.string ⟨#[]⟩, .bool false]) ∧ w = w' := by
  by_cases hn : n < 0
  · clear h
    go_enter Tryz.func30, Tryz.ntmps30
    go_wp2
    go_ret2
    exact ⟨rfl, rfl⟩
  · have h2 : 253402300799 < n := by omega
    clear h
    go_enter Tryz.func30, Tryz.ntmps30
    go_wp2
    go_ret2
    exact ⟨rfl, rfl⟩

end Go.Proofs.YtblofndehbagnaaGreatDoor
namespace Go.Proofs.YtblofndehbagnaaGreatDoor
open Go.RowKit

abbrev DG10b : ByteArray := ⟨#[48, 49, 50, 51, 52, 53, 54, 55, 56, 57]⟩
theorem dig_ext10 : ∀ d, d < 10 → DG10b.extract d (d + 1) = asB [UInt8.ofNat (48 + d)] := by decide
theorem rt_str {a b : ByteArray} (h : a = b) : Ending.returned (.string a) = .returned (.string b) := by rw [h]
theorem dds {n : Nat} (h : n < 10) : Lib.decDigits n = [UInt8.ofNat (48 + n)] := by
  rw [Lib.decDigits, dif_pos h]
theorem ddg {n : Nat} (h : ¬ n < 10) : Lib.decDigits n = Lib.decDigits (n / 10) ++ [UInt8.ofNat (48 + n % 10)] := by
  conv => lhs; rw [Lib.decDigits, dif_neg h]
set_option maxRecDepth 100000 in
set_option maxHeartbeats 400000 in
theorem digits10_any : ∀ (f n : Nat), n ≤ f → n ≤ 9223372036854775807 → ∀ w : World,
    Calls Tryz.prog 31 #[.int .i64 (n : Int)] w fun e w' => e = .returned (.string (asB (Lib.decDigits n))) ∧ Below w.heap.size w w' := by
  intro f
  induction f with
  | zero =>
    intro n hn _ w
    obtain rfl : n = 0 := by omega
    go_enter Tryz.func31, Tryz.ntmps31
    go_wp2
    go_ret
    exact ⟨rt_str (by rw [dds (by omega)]; exact dig_ext10 0 (by omega)), Below.refl _ _⟩
  | succ f ih =>
    intro n hn hm w
    have hn0 : ¬ (n : Int) < 0 := by omega
    by_cases h10 : n < 10
    · have HD : Hid (DG10b.extract n (n + 1) = asB (Lib.decDigits n)) := Lib.hid (by rw [dds h10, dig_ext10 n h10])
      obtain ⟨X, HX⟩ : ∃ X, Hid (asB (Lib.decDigits n) = X) := ⟨_, Lib.hid rfl⟩
      rw [HX.out] at HD ⊢
      have h10I : (n : Int) < 10 := by omega
      clear ih hn
      go_enter Tryz.func31, Tryz.ntmps31
      go_wp2
      go_ret
      exact ⟨rt_str HD.out, Below.refl _ _⟩
    · have h10I : ¬ (n : Int) < 10 := by omega
      obtain ⟨m, Hm⟩ : ∃ m, Hid (n / 10 = m) := ⟨_, Lib.hid rfl⟩
      obtain ⟨d, Hd⟩ : ∃ d, Hid (n % 10 = d) := ⟨_, Lib.hid rfl⟩
      have hmf : m ≤ f := by rw [← Hm.out]; omega
      have hm2 : m ≤ 9223372036854775807 := by rw [← Hm.out]; omega
      have hd9 : d < 10 := by rw [← Hd.out]; omega
      have HI : Hid (∀ p : BW w, Calls Tryz.prog 31 #[.int .i64 (m : Int)] p.w fun e w' => e = .returned (.string (asB (Lib.decDigits m))) ∧ Below p.w.heap.size p.w w') := Lib.hid (fun p => ih m hmf hm2 p.w)
      have HE : Hid (asB (Lib.decDigits m) ++ DG10b.extract d (d + 1) = asB (Lib.decDigits n)) := Lib.hid (by
        rw [ddg h10, Hm.out, Hd.out, dig_ext10 d hd9]
        exact ba_list (by rw [ByteArray.data_append, Array.toList_append]; rfl))
      obtain ⟨X, HX⟩ : ∃ X, Hid (asB (Lib.decDigits n) = X) := ⟨_, Lib.hid rfl⟩
      obtain ⟨Y, HY⟩ : ∃ X, Hid (asB (Lib.decDigits m) = X) := ⟨_, Lib.hid rfl⟩
      have hYs : Y.size ≤ 21 := by
        have := Lib.itoa_length_le (m : Int) (by omega) (by omega)
        rw [Lib.itoa_nonneg] at this
        rw [← HY.out, asB_size]; exact this
      rw [HX.out, HY.out] at HE
      rw [HY.out] at HI
      rw [HX.out]
      have q1 : (n : Int).tdiv 10 = (m : Int) := by rw [← Hm.out, Int.tdiv_eq_ediv_of_nonneg (by omega)]; omega
      have q2 : (n : Int).tmod 10 = (d : Int) := by rw [← Hd.out, Int.tmod_eq_emod_of_nonneg (by omega)]; omega
      have q3 : IntKind.i64.wrap ((d : Int) + 1) = (d : Int) + 1 := IntWalk.i64_in _ (by omega)
      have q6 : IntKind.i64.wrap (m : Int) = (m : Int) := IntWalk.i64_in _ (by omega)
      have q7 : IntKind.i64.wrap (d : Int) = (d : Int) := IntWalk.i64_in _ (by omega)
      have q8 : (0 : Int) ≤ (d : Int) + 1 := by omega
      have q9 : (0 : Int) ≤ (d : Int) := by omega
      have q10 : (d : Int) ≤ (d : Int) + 1 := by omega
      have q11 : d + 1 ≤ 10 := by omega
      have q4 : ((d : Int) + 1).toNat = d + 1 := by omega
      have q5 : (d : Int) + 1 ≤ 10 := by omega
      have z1 : ¬ 9223372036854775807 < Y.size + 1 := by omega
      clear ih hn hm h10 Hm Hd hmf hm2
      go_enter Tryz.func31, Tryz.ntmps31
      go_wp2
      refine bw_region (by kernel_rfl) (by kernel_rfl) ?_
      repeat (quiet_step ((go_at_call 31; exact Calls.bw_of (HI.out _))))
      refine wpQuiet_nil ?_
      intro w1 hw'
      have HB : Hid (Below w.heap.size w w1) := Lib.hid (by
        obtain ⟨p, hp⟩ := hw'
        rw [hp]; exact p.h)
      go_wp2
      go_ret
      exact ⟨rt_str HE.out, HB.out⟩


set_option maxHeartbeats 4000000 in
set_option maxRecDepth 100000 in
theorem RDig_any (n : Int) (h0 : -2147483647 ≤ n) (h1 : n ≤ 2147483647) (w : World) :
    Calls Tryz.prog 31 #[.int .i64 n] w fun e w' => e = .returned (.string (asB (Lib.itoa n))) ∧ Below w.heap.size w w' := by
  by_cases hn : n < 0
  · obtain ⟨m, rfl⟩ : ∃ m : Nat, n = -(m : Int) := ⟨n.natAbs, by omega⟩
    have HD := Lib.hid fun w => digits10_any m m (Nat.le_refl _) (by omega) w
    have HE : Hid (({ data := #[45] } : ByteArray) ++ asB (Lib.decDigits m) = asB (Lib.itoa (-(m : Int)))) := Lib.hid (by
      unfold Lib.itoa
      rw [if_pos hn, show (-(m : Int)).natAbs = m by omega]
      exact ba_list (by rw [ByteArray.data_append, Array.toList_append]; rfl))
    obtain ⟨X, HX⟩ : ∃ X, Hid (asB (Lib.itoa (-(m : Int))) = X) := ⟨_, Lib.hid rfl⟩
    have hYl : (asB (Lib.decDigits m)).size ≤ 1000 := by
      have := itoa_len (m : Int) (by omega) (by omega)
      unfold Lib.itoa at this
      rw [if_neg (by omega), show ((m : Int)).toNat = m by omega] at this
      rw [asB_size]; exact this
    obtain ⟨Y, HY⟩ : ∃ Y, Hid (asB (Lib.decDigits m) = Y) := ⟨_, Lib.hid rfl⟩
    rw [HX.out] at HE ⊢
    rw [HY.out] at HE HD hYl
    have q1 : IntKind.i64.wrap (m : Int) = (m : Int) := IntWalk.i64_in _ (by omega)
    have hm0 : 0 < (m : Int) := by omega
    have z1 : ¬ 9223372036854775807 < 1 + Y.size := by omega
    clear h0 h1 hn
    go_enter Tryz.func31, Tryz.ntmps31
    go_wp2_with fail
    refine (HD.out _).mono ?_
    rintro e w1 ⟨rfl, b1⟩
    go_wp2
    go_ret
    exact ⟨rt_str HE.out, b1⟩
  · obtain ⟨m, rfl⟩ : ∃ m : Nat, n = (m : Int) := ⟨n.toNat, by omega⟩
    have := digits10_any m m (Nat.le_refl _) (by omega) w
    unfold Lib.itoa
    rw [if_neg hn, show ((m : Int)).toNat = m by omega]
    exact this

theorem jt_app (sep : List UInt8) (a b : List (List UInt8)) : Lib.joinTail sep (a ++ b) = Lib.joinTail sep a ++ Lib.joinTail sep b := by
  unfold Lib.joinTail
  simp
/-- The pieces so far, as one text. -/
def Jn (P : List ByteArray) : ByteArray := asB (Lib.join (P.map (·.data.toList)) [59, 32])
theorem jn_opt (P : List ByteArray) (hP : P ≠ []) (b : Bool) (x : ByteArray) : Jn (P ++ opt b x) = if b then Jn P ++ (⟨#[59, 32]⟩ ++ x) else Jn P := by
  cases b with
  | false => simp [opt]
  | true =>
    cases P with
    | nil => exact absurd rfl hP
    | cons p r =>
      rw [if_pos rfl]
      apply ba_list
      show Lib.join ((p :: r ++ [x]).map (·.data.toList)) [59, 32] = ((Jn (p :: r)) ++ (⟨#[59, 32]⟩ ++ x)).data.toList
      rw [ByteArray.data_append, Array.toList_append, ByteArray.data_append, Array.toList_append]
      show _ = Lib.join ((p :: r).map (·.data.toList)) [59, 32] ++ ([59, 32] ++ x.data.toList)
      rw [List.map_append, List.map_cons, List.cons_append, Lib.join_cons, Lib.join_cons, jt_app]
      simp [Lib.joinTail]
theorem jn_t (P : List ByteArray) (hP : P ≠ []) {b : Bool} (hb : b = true) (L c x : ByteArray) (hL : L = ⟨#[59, 32]⟩ ++ c) : (Jn P ++ L) ++ x = Jn (P ++ opt b (c ++ x)) := by
  rw [jn_opt P hP, hb, if_pos rfl, hL]
  simp only [ByteArray.append_assoc]
theorem jn_u (P : List ByteArray) (hP : P ≠ []) {b : Bool} (hb : b = true) (L c : ByteArray) (hL : L = ⟨#[59, 32]⟩ ++ c) : Jn P ++ L = Jn (P ++ opt b c) := by
  rw [jn_opt P hP, hb, if_pos rfl, hL]
theorem jn_f (P : List ByteArray) (hP : P ≠ []) {b : Bool} (hb : b = false) (x : ByteArray) : Jn P = Jn (P ++ opt b x) := by
  rw [jn_opt P hP, hb, if_neg (by decide)]
/-- What a text can tell. -/
def BdC (u : Cki) : Prop := (-2147483647 ≤ u.ag ∧ u.ag ≤ 2147483647) ∧ 0 ≤ u.si ∧ u.si ≤ 3
theorem siteV_bd (l : List UInt8) : 0 ≤ siteV l ∧ siteV l ≤ 3 := by
  unfold siteV
  repeat' split
  all_goals omega
theorem say_bd (u : Cki) (h : BdC u) (k : List UInt8) (v : ByteArray) : BdC (say u k v) := by
  unfold say
  repeat' split
  all_goals first
    | exact h
    | (unfold sayEx; split <;> exact h)
    | (unfold sayAg; split
       · rename_i hb; exact ⟨ageV_bd hb, h.2⟩
       · exact h)
    | (unfold sayPa; split <;> exact h)
    | exact ⟨h.1, siteV_bd _⟩
theorem heard_bd (u : Cki) (h : BdC u) (p : ByteArray) : BdC (heard u p) := by
  unfold heard
  split
  · exact say_bd u h _ _
  · exact h
theorem fold_bd : ∀ (r : List ByteArray) (u : Cki), BdC u → BdC (r.foldl heard u)
  | [], _, h => h
  | p :: r, u, h => fold_bd r _ (heard_bd u h p)
theorem prs_bd (s : ByteArray) : BdC (prsC s).1 := by
  have h0 : BdC ck0 := by unfold BdC ck0; decide
  unfold prsC
  split
  · exact h0
  · split
    · exact h0
    · unfold prsF
      repeat' split
      all_goals first | exact h0 | exact fold_bd _ _ h0
/-- The contract's text: no site that has no name. -/
theorem txt_refused {t : Cki} {D : List UInt8} (h : ¬ BdC t) : txtR t D = .tuple #[.string noB, .int .i64 1] := by
  unfold txtR okT
  rw [if_neg]
  intro hh
  rw [Bool.and_eq_true] at hh
  have := (ckEq_iff _ _).1 hh.2
  exact h (this ▸ prs_bd _)
theorem rdate_any {n : Int} {D : List UInt8} (h : DateOf n D) (w : World) :
    Calls Tryz.prog 30 #[.int .i64 n] w fun e w' => (∃ ok, e = .returned (.tuple #[.string (asB D), .bool ok])) ∧ Below w.heap.size w w' := by
  rcases h with ⟨k, D', Y, M, d, rfl, h2, h3, rfl⟩ | ⟨h, rfl⟩
  · exact (RefText_any k D' Y M d h3 h2 w).mono fun e w' ⟨h1, h2⟩ => ⟨⟨_, h1⟩, h2⟩
  · exact (RefText_no n h w).mono fun e w' ⟨h1, h2⟩ => ⟨⟨_, h1⟩, by subst h2; exact Below.refl _ _⟩
def CtB (w : World) (t : Cki) (wx : World) : Prop := CtAt wx w.heap.size t ∧ Below w.heap.size w wx
theorem CtB.below {w wx wy : World} {t : Cki} (h : CtB w t wx) (k : Below wx.heap.size wx wy) : CtB w t wy := ⟨h.1.below k, h.2.trans (k.mono h.2.size)⟩

set_option maxHeartbeats 4000000 in
set_option maxRecDepth 100000 in
theorem RText_any (t : Cki) (D : List UInt8) (hD : DateOf t.ex D) (hsz : t.nm.size + t.vl.size + t.dm.size + t.pa.size ≤ 2000000) (hs0 : 0 ≤ t.si) (hs1 : t.si ≤ 255) (w : World) :
    Calls Tryz.prog 16 #[.agg (ckR t)] w fun e w' => e = .returned (txtR t D) ∧ Below w.heap.size w w' := by
  obtain ⟨nm, vl, dm, pa, ex, hx, ag, ha, se, hi, si⟩ := t
  simp only at hD hsz hs0 hs1
  unfold ckR
  simp only
  obtain ⟨T, HT⟩ : ∃ T : Cki, Hid ((⟨nm, vl, dm, pa, ex, hx, ag, ha, se, hi, si⟩ : Cki) = T) := ⟨_, Lib.hid rfl⟩
  rw [HT.out]
  obtain ⟨R, HR⟩ : ∃ R, Hid (txtR T D = R) := ⟨_, Lib.hid rfl⟩
  rw [HR.out]
  have HTag : Hid (T.ag = ag) := Lib.hid (by rw [← HT.out])
  have HTsi : Hid (T.si = si) := Lib.hid (by rw [← HT.out])
  have HBw : Hid (Below w.heap.size w (w.alloc (.cells #[.string nm, .string vl, .string dm, .string pa, .int .i64 ex, .bool hx, .int .i64 ag, .bool ha, .bool se, .bool hi, .int .u8 si] 24))) := Lib.hid ((Below.refl _ _).alloc (Nat.le_refl _) _)
  by_cases hag1 : ag < -2147483647
  · have HRR := Lib.hid (HR.out.symm.trans (txt_refused (t := T) (D := D) fun h => by have := h.1.1; rw [HTag.out] at this; omega))
    clear hD hsz hs0 hs1
    go_enter Tryz.func16, Tryz.ntmps16
    go_wp2
    go_ret2
    exact ⟨by rw [HRR.out]; rfl, HBw.out⟩
  by_cases hag2 : 2147483647 < ag
  · have HRR := Lib.hid (HR.out.symm.trans (txt_refused (t := T) (D := D) fun h => by have := h.1.2; rw [HTag.out] at this; omega))
    have hag1d : decide (ag < -2147483647) = false := decide_eq_false hag1
    clear hD hsz hs0 hs1
    go_enter Tryz.func16, Tryz.ntmps16
    go_wp2
    go_ret2
    exact ⟨by rw [HRR.out]; rfl, HBw.out⟩
  have hag1d : decide (ag < -2147483647) = false := decide_eq_false hag1
  have hag2d : decide (2147483647 < ag) = false := decide_eq_false hag2
  have HDt := Lib.hid fun w => rdate_any hD w
  have HDg := Lib.hid fun w => RDig_any ag (by omega) (by omega) w
  have hds : (asB D).size ≤ 29 := by rw [asB_size]; exact date_len hD
  have hns : (asB (Lib.itoa ag)).size ≤ 1000 := by rw [asB_size]; exact itoa_len ag (by omega) (by omega)
  clear hD
  obtain ⟨DB, HDB⟩ : ∃ DB, Hid (asB D = DB) := ⟨_, Lib.hid rfl⟩
  obtain ⟨NB, HNB⟩ : ∃ NB, Hid (asB (Lib.itoa ag) = NB) := ⟨_, Lib.hid rfl⟩
  rw [HDB.out] at HDt hds
  rw [HNB.out] at HDg hns
  obtain ⟨S0, HS0⟩ : ∃ S, Hid (nm ++ ⟨#[61]⟩ ++ vl = S) := ⟨_, Lib.hid rfl⟩
  have hS0 : S0.size ≤ 2000001 := by rw [← HS0.out, ByteArray.size_append, ByteArray.size_append]; show nm.size + 1 + vl.size ≤ _; omega
  have z0 : ¬ 9223372036854775807 < nm.size + 1 := by omega
  have z0b : ¬ 9223372036854775807 < nm.size + 1 + vl.size := by omega
  have hdmz : dm.size ≤ 2000000 := by omega
  have hpaz : pa.size ≤ 2000000 := by omega
  have HJ0 : Hid (S0 = Jn [S0]) := Lib.hid (by unfold Jn; rw [List.map_cons, List.map_nil, Lib.join_one]; rfl)
  obtain ⟨P0, HP0⟩ : ∃ P, Hid ([S0] = P) ∧ P ≠ [] := ⟨_, Lib.hid rfl, by simp⟩
  obtain ⟨HP0, hn0⟩ := HP0
  rw [HP0.out] at HJ0
  obtain ⟨W1, HW1⟩ : ∃ W, Hid (w.alloc (.cells #[.string nm, .string vl, .string dm, .string pa, .int .i64 ex, .bool hx, .int .i64 ag, .bool ha, .bool se, .bool hi, .int .u8 si] 24) = W) := ⟨_, Lib.hid rfl⟩
  have HC0 : Hid (CtB w T W1) := Lib.hid (by rw [← HW1.out, ← HT.out]; exact ⟨heap_alloc_new w _, HBw.out⟩)
  clear HBw hsz hag1 hag2
  go_enter Tryz.func16, Tryz.ntmps16
  have g0 : W1.cell? ⟨w.heap.size, 5, none⟩ = some (.bool hx) := HC0.out.1.cell 5 (by rw [← HT.out]; rfl)
  have g0x : W1.cell? ⟨w.heap.size, 4, none⟩ = some (.int .i64 ex) := HC0.out.1.cell 4 (by rw [← HT.out]; rfl)
  obtain ⟨P1, HP1, hn1⟩ : ∃ P, Hid (P0 ++ opt hx (cEx ++ DB) = P) ∧ P ≠ [] := ⟨_, Lib.hid rfl, by simp [hn0]⟩
  obtain ⟨S1, HJ1⟩ : ∃ S, Hid (S = Jn P1) := ⟨_, Lib.hid rfl⟩
  have HY1 : Hid (hx = true → (S0 ++ ({ data := #[59, 32, 69, 120, 112, 105, 114, 101, 115, 61] } : ByteArray)) ++ DB = S1) := Lib.hid fun hb => by rw [HJ0.out, HJ1.out, ← HP1.out]; exact jn_t P0 hn0 hb _ _ _ rfl
  have HN1 : Hid (hx = false → S0 = S1) := Lib.hid fun hb => by rw [HJ0.out, HJ1.out, ← HP1.out]; exact jn_f P0 hn0 hb _
  have hS1 : S1.size ≤ 4000101 := by
    cases hb : hx with
    | true => rw [← HY1.out hb]; simp only [ByteArray.size_append]; have : ({ data := #[59, 32, 69, 120, 112, 105, 114, 101, 115, 61] } : ByteArray).size = 10 := rfl; omega
    | false => rw [← HN1.out hb]; omega
  have z1 : ¬ 9223372036854775807 < S0.size + 10 := by omega
  have z1b : ¬ 9223372036854775807 < S0.size + 10 + DB.size := by omega
  go_upto_region 4 with (fail)
  rw [HW1.out, HS0.out]
  go_upto_if 24 with (fail)
  go_cut [4] (fun s4 wx => s4 = .string S1 ∧ Hid (CtB w T wx))
  case first =>
    cases hx with
    | true =>
      have HE := Lib.hid (HY1.out rfl)
      clear HY1 HN1
      go_wp2_with fail
      refine (HDt.out _).mono ?_
      rintro e w3 ⟨⟨ok, rfl⟩, b3⟩
      have HC3 := Lib.hid (HC0.out.below b3)
      clear b3
      go_wp2
      go_meet
      exact ⟨by rw [HE.out], HC3⟩
    | false =>
      have HE := Lib.hid (HN1.out rfl)
      clear HY1 HN1
      go_wp2
      go_meet
      exact ⟨by rw [HE.out], HC0⟩
  case rest =>
    obtain ⟨rfl, HC1⟩ := hcut
    clear g0 g0x
    have g1 : wc.cell? ⟨w.heap.size, 7, none⟩ = some (.bool ha) := HC1.out.1.cell 7 (by rw [← HT.out]; rfl)
    have g1x : wc.cell? ⟨w.heap.size, 6, none⟩ = some (.int .i64 ag) := HC1.out.1.cell 6 (by rw [← HT.out]; rfl)
    obtain ⟨P2, HP2, hn2⟩ : ∃ P, Hid (P1 ++ opt ha (cAg ++ NB) = P) ∧ P ≠ [] := ⟨_, Lib.hid rfl, by simp [hn1]⟩
    obtain ⟨S2, HJ2⟩ : ∃ S, Hid (S = Jn P2) := ⟨_, Lib.hid rfl⟩
    have HY2 : Hid (ha = true → (S1 ++ ({ data := #[59, 32, 77, 97, 120, 45, 65, 103, 101, 61] } : ByteArray)) ++ NB = S2) := Lib.hid fun hb => by rw [HJ1.out, HJ2.out, ← HP2.out]; exact jn_t P1 hn1 hb _ _ _ rfl
    have HN2 : Hid (ha = false → S1 = S2) := Lib.hid fun hb => by rw [HJ1.out, HJ2.out, ← HP2.out]; exact jn_f P1 hn1 hb _
    have hS2 : S2.size ≤ 6000201 := by
      cases hb : ha with
      | true => rw [← HY2.out hb]; simp only [ByteArray.size_append]; have : ({ data := #[59, 32, 77, 97, 120, 45, 65, 103, 101, 61] } : ByteArray).size = 10 := rfl; omega
      | false => rw [← HN2.out hb]; omega
    have z2 : ¬ 9223372036854775807 < S1.size + 10 := by omega
    have z2b : ¬ 9223372036854775807 < S1.size + 10 + NB.size := by omega
    go_upto_if 36 with (fail)
    go_cut [4] (fun s4 wx => s4 = .string S2 ∧ Hid (CtB w T wx))
    case first =>
      cases ha with
      | true =>
        have HE := Lib.hid (HY2.out rfl)
        clear HY2 HN2
        go_wp2_with fail
        refine (HDg.out _).mono ?_
        rintro e w3 ⟨rfl, b3⟩
        have HC3 := Lib.hid (HC1.out.below b3)
        clear b3
        go_wp2
        go_meet
        exact ⟨by rw [HE.out], HC3⟩
      | false =>
        have HE := Lib.hid (HN2.out rfl)
        clear HY2 HN2
        go_wp2
        go_meet
        exact ⟨by rw [HE.out], HC1⟩
    case rest =>
      obtain ⟨rfl, HC2⟩ := hcut
      clear g1 g1x
      have g2 : wc.cell? ⟨w.heap.size, 2, none⟩ = some (.string dm) := HC2.out.1.cell 2 (by rw [← HT.out]; rfl)
      obtain ⟨bdm, Hbdm⟩ : ∃ b, Hid ((!dm.toList.isEmpty) = b) := ⟨_, Lib.hid rfl⟩
      obtain ⟨P3, HP3, hn3⟩ : ∃ P, Hid (P2 ++ opt bdm (cDm ++ dm) = P) ∧ P ≠ [] := ⟨_, Lib.hid rfl, by simp [hn2]⟩
      obtain ⟨S3, HJ3⟩ : ∃ S, Hid (S = Jn P3) := ⟨_, Lib.hid rfl⟩
      have HY3 : Hid (bdm = true → (S2 ++ ({ data := #[59, 32, 68, 111, 109, 97, 105, 110, 61] } : ByteArray)) ++ dm = S3) := Lib.hid fun hb => by rw [HJ2.out, HJ3.out, ← HP3.out]; exact jn_t P2 hn2 hb _ _ _ rfl
      have HN3 : Hid (bdm = false → S2 = S3) := Lib.hid fun hb => by rw [HJ2.out, HJ3.out, ← HP3.out]; exact jn_f P2 hn2 hb _
      have hS3 : S3.size ≤ 8000301 := by
        cases hb : bdm with
        | true => rw [← HY3.out hb]; simp only [ByteArray.size_append]; have : ({ data := #[59, 32, 68, 111, 109, 97, 105, 110, 61] } : ByteArray).size = 9 := rfl; omega
        | false => rw [← HN3.out hb]; omega
      have z3 : ¬ 9223372036854775807 < S2.size + 9 := by omega
      have z3b : ¬ 9223372036854775807 < S2.size + 9 + dm.size := by omega
      go_upto_if 45 with (fail)
      rw [Hbdm.out]
      go_cut [4] (fun s4 wx => s4 = .string S3 ∧ Hid (CtB w T wx))
      case first =>
        cases bdm with
        | true =>
          have HE := Lib.hid (HY3.out rfl)
          clear HY3 HN3
          go_wp2
          go_meet
          exact ⟨by rw [HE.out], HC2⟩
        | false =>
          have HE := Lib.hid (HN3.out rfl)
          clear HY3 HN3
          go_wp2
          go_meet
          exact ⟨by rw [HE.out], HC2⟩
      case rest =>
        obtain ⟨rfl, HC3⟩ := hcut
        clear g2
        have g3 : wc.cell? ⟨w.heap.size, 3, none⟩ = some (.string pa) := HC3.out.1.cell 3 (by rw [← HT.out]; rfl)
        obtain ⟨bpa, Hbpa⟩ : ∃ b, Hid ((!pa.toList.isEmpty) = b) := ⟨_, Lib.hid rfl⟩
        obtain ⟨P4, HP4, hn4⟩ : ∃ P, Hid (P3 ++ opt bpa (cPa ++ pa) = P) ∧ P ≠ [] := ⟨_, Lib.hid rfl, by simp [hn3]⟩
        obtain ⟨S4, HJ4⟩ : ∃ S, Hid (S = Jn P4) := ⟨_, Lib.hid rfl⟩
        have HY4 : Hid (bpa = true → (S3 ++ ({ data := #[59, 32, 80, 97, 116, 104, 61] } : ByteArray)) ++ pa = S4) := Lib.hid fun hb => by rw [HJ3.out, HJ4.out, ← HP4.out]; exact jn_t P3 hn3 hb _ _ _ rfl
        have HN4 : Hid (bpa = false → S3 = S4) := Lib.hid fun hb => by rw [HJ3.out, HJ4.out, ← HP4.out]; exact jn_f P3 hn3 hb _
        have hS4 : S4.size ≤ 10000401 := by
          cases hb : bpa with
          | true => rw [← HY4.out hb]; simp only [ByteArray.size_append]; have : ({ data := #[59, 32, 80, 97, 116, 104, 61] } : ByteArray).size = 7 := rfl; omega
          | false => rw [← HN4.out hb]; omega
        have z4 : ¬ 9223372036854775807 < S3.size + 7 := by omega
        have z4b : ¬ 9223372036854775807 < S3.size + 7 + pa.size := by omega
        go_upto_if 53 with (fail)
        rw [Hbpa.out]
        go_cut [4] (fun s4 wx => s4 = .string S4 ∧ Hid (CtB w T wx))
        case first =>
          cases bpa with
          | true =>
            have HE := Lib.hid (HY4.out rfl)
            clear HY4 HN4
            go_wp2
            go_meet
            exact ⟨by rw [HE.out], HC3⟩
          | false =>
            have HE := Lib.hid (HN4.out rfl)
            clear HY4 HN4
            go_wp2
            go_meet
            exact ⟨by rw [HE.out], HC3⟩
        case rest =>
          obtain ⟨rfl, HC4⟩ := hcut
          clear g3
          have g4 : wc.cell? ⟨w.heap.size, 8, none⟩ = some (.bool se) := HC4.out.1.cell 8 (by rw [← HT.out]; rfl)
          obtain ⟨P5, HP5, hn5⟩ : ∃ P, Hid (P4 ++ opt se (cSe) = P) ∧ P ≠ [] := ⟨_, Lib.hid rfl, by simp [hn4]⟩
          obtain ⟨S5, HJ5⟩ : ∃ S, Hid (S = Jn P5) := ⟨_, Lib.hid rfl⟩
          have HY5 : Hid (se = true → S4 ++ ({ data := #[59, 32, 83, 101, 99, 117, 114, 101] } : ByteArray) = S5) := Lib.hid fun hb => by rw [HJ4.out, HJ5.out, ← HP5.out]; exact jn_u P4 hn4 hb _ _ rfl
          have HN5 : Hid (se = false → S4 = S5) := Lib.hid fun hb => by rw [HJ4.out, HJ5.out, ← HP5.out]; exact jn_f P4 hn4 hb _
          have hS5 : S5.size ≤ 12000501 := by
            cases hb : se with
            | true => rw [← HY5.out hb]; simp only [ByteArray.size_append]; have : ({ data := #[59, 32, 83, 101, 99, 117, 114, 101] } : ByteArray).size = 8 := rfl; omega
            | false => rw [← HN5.out hb]; omega
          have z5 : ¬ 9223372036854775807 < S4.size + 8 := by omega
          go_upto_if 60 with (fail)
          go_cut [4] (fun s4 wx => s4 = .string S5 ∧ Hid (CtB w T wx))
          case first =>
            cases se with
            | true =>
              have HE := Lib.hid (HY5.out rfl)
              clear HY5 HN5
              go_wp2
              go_meet
              exact ⟨by rw [HE.out], HC4⟩
            | false =>
              have HE := Lib.hid (HN5.out rfl)
              clear HY5 HN5
              go_wp2
              go_meet
              exact ⟨by rw [HE.out], HC4⟩
          case rest =>
            obtain ⟨rfl, HC5⟩ := hcut
            clear g4
            have g5 : wc.cell? ⟨w.heap.size, 9, none⟩ = some (.bool hi) := HC5.out.1.cell 9 (by rw [← HT.out]; rfl)
            obtain ⟨P6, HP6, hn6⟩ : ∃ P, Hid (P5 ++ opt hi (cHi) = P) ∧ P ≠ [] := ⟨_, Lib.hid rfl, by simp [hn5]⟩
            obtain ⟨S6, HJ6⟩ : ∃ S, Hid (S = Jn P6) := ⟨_, Lib.hid rfl⟩
            have HY6 : Hid (hi = true → S5 ++ ({ data := #[59, 32, 72, 116, 116, 112, 79, 110, 108, 121] } : ByteArray) = S6) := Lib.hid fun hb => by rw [HJ5.out, HJ6.out, ← HP6.out]; exact jn_u P5 hn5 hb _ _ rfl
            have HN6 : Hid (hi = false → S5 = S6) := Lib.hid fun hb => by rw [HJ5.out, HJ6.out, ← HP6.out]; exact jn_f P5 hn5 hb _
            have hS6 : S6.size ≤ 14000601 := by
              cases hb : hi with
              | true => rw [← HY6.out hb]; simp only [ByteArray.size_append]; have : ({ data := #[59, 32, 72, 116, 116, 112, 79, 110, 108, 121] } : ByteArray).size = 10 := rfl; omega
              | false => rw [← HN6.out hb]; omega
            have z6 : ¬ 9223372036854775807 < S5.size + 10 := by omega
            go_upto_if 64 with (fail)
            go_cut [4] (fun s4 wx => s4 = .string S6 ∧ Hid (CtB w T wx))
            case first =>
              cases hi with
              | true =>
                have HE := Lib.hid (HY6.out rfl)
                clear HY6 HN6
                go_wp2
                go_meet
                exact ⟨by rw [HE.out], HC5⟩
              | false =>
                have HE := Lib.hid (HN6.out rfl)
                clear HY6 HN6
                go_wp2
                go_meet
                exact ⟨by rw [HE.out], HC5⟩
            case rest =>
              obtain ⟨rfl, HC6⟩ := hcut
              clear g5
              have g6 : wc.cell? ⟨w.heap.size, 10, none⟩ = some (.int .u8 si) := HC6.out.1.cell 10 (by rw [← HT.out]; rfl)
              have HPC : Hid (pcs T D = P6 ++ opt (si != 0) (cSi ++ asB (siteL si))) := Lib.hid (by
                rw [← HP6.out, ← HP5.out, ← HP4.out, ← HP3.out, ← HP2.out, ← HP1.out, ← HP0.out, ← HT.out, ← HS0.out, ← HDB.out, ← HNB.out, ← Hbdm.out, ← Hbpa.out]
                rfl)
              have HXT : Hid (txtC T D = Jn (pcs T D)) := Lib.hid rfl
              have HTR : Hid (∀ Z, Z = txtC T D → txtR T D = if ((prsC Z).2 == 0 && ckEq (prsC Z).1 T) = true then .tuple #[.string Z, .int .i64 0] else .tuple #[.string noB, .int .i64 1]) := Lib.hid fun Z h => by subst h; rfl
              clear HDt HDg HY1 HN1 HY2 HN2 HY3 HN3 HY4 HN4 HY5 HN5 HY6 HN6 HS0 HJ0 HJ1 HJ2 HJ3 HJ4 HJ5
              by_cases hk1 : si = 1
              · subst hk1
                have hz : ¬ 9223372036854775807 < S6.size + 17 := by omega
                obtain ⟨Z, HZ⟩ : ∃ Z, Hid (S6 ++ ({ data := #[59, 32, 83, 97, 109, 101, 83, 105, 116, 101, 61, 83, 116, 114, 105, 99, 116] } : ByteArray) = Z) := ⟨_, Lib.hid rfl⟩
                have HR2 : Hid (txtR T D = if ((prsC Z).2 == 0 && ckEq (prsC Z).1 T) = true then .tuple #[.string Z, .int .i64 0] else .tuple #[.string noB, .int .i64 1]) := Lib.hid (HTR.out Z (by
                  rw [← HZ.out, HXT.out, HPC.out, HJ6.out]
                  exact jn_u P6 hn6 rfl _ _ rfl))
                clear HTR HPC HXT HTsi hs0 hs1
                have HPa := Lib.hid fun w => RefParse10_any Z w
                have HNe := Lib.hid fun w => neT (prsC Z).1 T w
                rw [HR.out] at HR2
                clear HR
                obtain ⟨U, c, HU⟩ : ∃ U c, Hid (prsC Z = (U, c)) := ⟨_, _, Lib.hid rfl⟩
                rw [HU.out] at HPa HNe HR2
                dsimp only at HPa HNe HR2
                obtain ⟨C, HC, HCs, HC1⟩ : ∃ C, Hid (ckR T = C) ∧ Hid (C.size = 11) ∧ Hid (C.all (·.oneCell') = true) := ⟨_, Lib.hid rfl, Lib.hid rfl, Lib.hid (ckR_one _)⟩
                obtain ⟨V, HV, HVs, HV1⟩ : ∃ V, Hid (ckR U = V) ∧ Hid (V.size = 11) ∧ Hid (V.all (·.oneCell') = true) := ⟨_, Lib.hid rfl, Lib.hid rfl, Lib.hid (ckR_one _)⟩
                have HA1 : Hid (wc.heap[w.heap.size]? = some (.cells C 24 (0, 0))) := Lib.hid (by rw [← HC.out]; exact HC6.out.1)
                have HB1 := Lib.hid HC6.out.2
                rw [HC.out] at HNe
                rw [HV.out] at HPa HNe
                obtain ⟨B, HB⟩ : ∃ B, Hid (ckEq U T = B) := ⟨_, Lib.hid rfl⟩
                rw [HB.out] at HNe HR2
                clear HC6
                go_wp2_with fail
                rw [HZ.out]
                refine (HPa.out _).mono ?_
                rintro e w2 ⟨rfl, b2⟩
                have HB2 := Lib.hid (HB1.out.trans (b2.mono HB1.out.size))
                have HA2 : Hid (w2.heap[w.heap.size]? = some (.cells C 24 (0, 0))) := Lib.hid ((b2.block _ (lt_of_block HA1.out)).trans HA1.out)
                clear b2 g6
                have HA3 : Hid ((w2.alloc (.cells (ckR ck0) 24)).heap[w2.heap.size]? = some (.cells (ckR ck0) 24 (0, 0))) := Lib.hid (heap_alloc_new w2 _)
                have hlt : w.heap.size < w2.heap.size := lt_of_block HA2.out
                obtain ⟨W4, HW4⟩ : ∃ W, Hid ((w2.alloc (.cells #[.string ⟨#[]⟩, .string ⟨#[]⟩, .string ⟨#[]⟩, .string ⟨#[]⟩, .int .i64 0, .bool false, .int .i64 0, .bool false, .bool false, .bool false, .int .u8 0] 24)).setRow w2.heap.size V = W) := ⟨_, Lib.hid rfl⟩
                have HA4 : Hid (W4.heap[w2.heap.size]? = some (.cells V 24 (0, 0))) := Lib.hid (by rw [← HW4.out]; exact setRow_heap _ _ _ _ _ _ (HA3.out))
                have HC4 : Hid (W4.heap[w.heap.size]? = some (.cells C 24 (0, 0))) := Lib.hid (by rw [← HW4.out, setRow_other _ _ _ _ (by omega)]; exact (Below.heap_alloc _ _ _ hlt).trans HA2.out)
                have HB4 : Hid (Below w.heap.size w W4) := Lib.hid (by rw [← HW4.out]; exact sc_below (HB2.out.alloc HB2.out.size _) _ _ (by omega))
                have HNe4 := Lib.hid (HNe.out W4)
                clear hlt
                by_cases hc : c = 0
                · subst hc
                  cases B with
                  | true =>
                    have HRR : Hid (R = .tuple #[.string Z, .int .i64 0]) := HR2
                    go_upto_region 25 with (refine wpL_store_row rfl 24 _ _ rfl w2.heap.size V ?_ ?_ 24 (ckR ck0) ?_ ?_ ?_ ?_ ?_; exact rfl; exact rfl; (exact HA3.out); (rw [HVs.out]; exact infoTo); (rw [HVs.out]; rfl); exact HV1.out; rw [HW4.out])
                    go_wp2_with (first
                      | (refine scW_load rfl 24 _ rfl w2.heap.size ?_ 24 V (0, 0) _ ?_ Tryz.underlying24 rfl ?_ ?_; (exact rfl); (exact HA4.out); (rw [HVs.out]; exact infoTo))
                      | (refine scW_load rfl 24 _ rfl w.heap.size ?_ 24 C (0, 0) _ ?_ Tryz.underlying24 rfl ?_ ?_; (exact rfl); (exact HC4.out); (rw [HCs.out]; exact infoTo); refine scW_bin rfl .neq 24 24 (.tmp 89) (.tmp 90) rfl _ (gd_T .neq (.tmp 89) (.tmp 90) V C _) HNe4.out ?_))
                    go_ret2
                    exact ⟨by rw [HRR.out]; rfl, HB4.out⟩
                  | false =>
                    have HRR : Hid (R = .tuple #[.string noB, .int .i64 1]) := HR2
                    go_upto_region 25 with (refine wpL_store_row rfl 24 _ _ rfl w2.heap.size V ?_ ?_ 24 (ckR ck0) ?_ ?_ ?_ ?_ ?_; exact rfl; exact rfl; (exact HA3.out); (rw [HVs.out]; exact infoTo); (rw [HVs.out]; rfl); exact HV1.out; rw [HW4.out])
                    go_wp2_with (first
                      | (refine scW_load rfl 24 _ rfl w2.heap.size ?_ 24 V (0, 0) _ ?_ Tryz.underlying24 rfl ?_ ?_; (exact rfl); (exact HA4.out); (rw [HVs.out]; exact infoTo))
                      | (refine scW_load rfl 24 _ rfl w.heap.size ?_ 24 C (0, 0) _ ?_ Tryz.underlying24 rfl ?_ ?_; (exact rfl); (exact HC4.out); (rw [HCs.out]; exact infoTo); refine scW_bin rfl .neq 24 24 (.tmp 89) (.tmp 90) rfl _ (gd_T .neq (.tmp 89) (.tmp 90) V C _) HNe4.out ?_))
                    go_ret2
                    exact ⟨by rw [HRR.out]; rfl, HB4.out⟩
                · have hcb : (c != 0) = true := bne_iff_ne.2 hc
                  have hce : (c == 0) = false := beq_eq_false_iff_ne.2 hc
                  have HRR : Hid (R = .tuple #[.string noB, .int .i64 1]) := Lib.hid (by rw [HR2.out, hce]; rfl)
                  clear hc hce
                  go_wp2_with (refine wpL_store_row rfl 24 _ _ rfl w2.heap.size V ?_ ?_ 24 (ckR ck0) ?_ ?_ ?_ ?_ ?_; exact rfl; exact rfl; (exact HA3.out); (rw [HVs.out]; exact infoTo); (rw [HVs.out]; rfl); exact HV1.out; rw [HW4.out])
                  go_ret2
                  exact ⟨by rw [HRR.out]; rfl, HB4.out⟩
              by_cases hk2 : si = 2
              · subst hk2
                have hz : ¬ 9223372036854775807 < S6.size + 14 := by omega
                obtain ⟨Z, HZ⟩ : ∃ Z, Hid (S6 ++ ({ data := #[59, 32, 83, 97, 109, 101, 83, 105, 116, 101, 61, 76, 97, 120] } : ByteArray) = Z) := ⟨_, Lib.hid rfl⟩
                have HR2 : Hid (txtR T D = if ((prsC Z).2 == 0 && ckEq (prsC Z).1 T) = true then .tuple #[.string Z, .int .i64 0] else .tuple #[.string noB, .int .i64 1]) := Lib.hid (HTR.out Z (by
                  rw [← HZ.out, HXT.out, HPC.out, HJ6.out]
                  exact jn_u P6 hn6 rfl _ _ rfl))
                clear HTR HPC HXT HTsi hs0 hs1
                have HPa := Lib.hid fun w => RefParse10_any Z w
                have HNe := Lib.hid fun w => neT (prsC Z).1 T w
                rw [HR.out] at HR2
                clear HR
                obtain ⟨U, c, HU⟩ : ∃ U c, Hid (prsC Z = (U, c)) := ⟨_, _, Lib.hid rfl⟩
                rw [HU.out] at HPa HNe HR2
                dsimp only at HPa HNe HR2
                obtain ⟨C, HC, HCs, HC1⟩ : ∃ C, Hid (ckR T = C) ∧ Hid (C.size = 11) ∧ Hid (C.all (·.oneCell') = true) := ⟨_, Lib.hid rfl, Lib.hid rfl, Lib.hid (ckR_one _)⟩
                obtain ⟨V, HV, HVs, HV1⟩ : ∃ V, Hid (ckR U = V) ∧ Hid (V.size = 11) ∧ Hid (V.all (·.oneCell') = true) := ⟨_, Lib.hid rfl, Lib.hid rfl, Lib.hid (ckR_one _)⟩
                have HA1 : Hid (wc.heap[w.heap.size]? = some (.cells C 24 (0, 0))) := Lib.hid (by rw [← HC.out]; exact HC6.out.1)
                have HB1 := Lib.hid HC6.out.2
                rw [HC.out] at HNe
                rw [HV.out] at HPa HNe
                obtain ⟨B, HB⟩ : ∃ B, Hid (ckEq U T = B) := ⟨_, Lib.hid rfl⟩
                rw [HB.out] at HNe HR2
                clear HC6
                go_wp2_with fail
                rw [HZ.out]
                refine (HPa.out _).mono ?_
                rintro e w2 ⟨rfl, b2⟩
                have HB2 := Lib.hid (HB1.out.trans (b2.mono HB1.out.size))
                have HA2 : Hid (w2.heap[w.heap.size]? = some (.cells C 24 (0, 0))) := Lib.hid ((b2.block _ (lt_of_block HA1.out)).trans HA1.out)
                clear b2 g6
                have HA3 : Hid ((w2.alloc (.cells (ckR ck0) 24)).heap[w2.heap.size]? = some (.cells (ckR ck0) 24 (0, 0))) := Lib.hid (heap_alloc_new w2 _)
                have hlt : w.heap.size < w2.heap.size := lt_of_block HA2.out
                obtain ⟨W4, HW4⟩ : ∃ W, Hid ((w2.alloc (.cells #[.string ⟨#[]⟩, .string ⟨#[]⟩, .string ⟨#[]⟩, .string ⟨#[]⟩, .int .i64 0, .bool false, .int .i64 0, .bool false, .bool false, .bool false, .int .u8 0] 24)).setRow w2.heap.size V = W) := ⟨_, Lib.hid rfl⟩
                have HA4 : Hid (W4.heap[w2.heap.size]? = some (.cells V 24 (0, 0))) := Lib.hid (by rw [← HW4.out]; exact setRow_heap _ _ _ _ _ _ (HA3.out))
                have HC4 : Hid (W4.heap[w.heap.size]? = some (.cells C 24 (0, 0))) := Lib.hid (by rw [← HW4.out, setRow_other _ _ _ _ (by omega)]; exact (Below.heap_alloc _ _ _ hlt).trans HA2.out)
                have HB4 : Hid (Below w.heap.size w W4) := Lib.hid (by rw [← HW4.out]; exact sc_below (HB2.out.alloc HB2.out.size _) _ _ (by omega))
                have HNe4 := Lib.hid (HNe.out W4)
                clear hlt
                by_cases hc : c = 0
                · subst hc
                  cases B with
                  | true =>
                    have HRR : Hid (R = .tuple #[.string Z, .int .i64 0]) := HR2
                    go_upto_region 25 with (refine wpL_store_row rfl 24 _ _ rfl w2.heap.size V ?_ ?_ 24 (ckR ck0) ?_ ?_ ?_ ?_ ?_; exact rfl; exact rfl; (exact HA3.out); (rw [HVs.out]; exact infoTo); (rw [HVs.out]; rfl); exact HV1.out; rw [HW4.out])
                    go_wp2_with (first
                      | (refine scW_load rfl 24 _ rfl w2.heap.size ?_ 24 V (0, 0) _ ?_ Tryz.underlying24 rfl ?_ ?_; (exact rfl); (exact HA4.out); (rw [HVs.out]; exact infoTo))
                      | (refine scW_load rfl 24 _ rfl w.heap.size ?_ 24 C (0, 0) _ ?_ Tryz.underlying24 rfl ?_ ?_; (exact rfl); (exact HC4.out); (rw [HCs.out]; exact infoTo); refine scW_bin rfl .neq 24 24 (.tmp 89) (.tmp 90) rfl _ (gd_T .neq (.tmp 89) (.tmp 90) V C _) HNe4.out ?_))
                    go_ret2
                    exact ⟨by rw [HRR.out]; rfl, HB4.out⟩
                  | false =>
                    have HRR : Hid (R = .tuple #[.string noB, .int .i64 1]) := HR2
                    go_upto_region 25 with (refine wpL_store_row rfl 24 _ _ rfl w2.heap.size V ?_ ?_ 24 (ckR ck0) ?_ ?_ ?_ ?_ ?_; exact rfl; exact rfl; (exact HA3.out); (rw [HVs.out]; exact infoTo); (rw [HVs.out]; rfl); exact HV1.out; rw [HW4.out])
                    go_wp2_with (first
                      | (refine scW_load rfl 24 _ rfl w2.heap.size ?_ 24 V (0, 0) _ ?_ Tryz.underlying24 rfl ?_ ?_; (exact rfl); (exact HA4.out); (rw [HVs.out]; exact infoTo))
                      | (refine scW_load rfl 24 _ rfl w.heap.size ?_ 24 C (0, 0) _ ?_ Tryz.underlying24 rfl ?_ ?_; (exact rfl); (exact HC4.out); (rw [HCs.out]; exact infoTo); refine scW_bin rfl .neq 24 24 (.tmp 89) (.tmp 90) rfl _ (gd_T .neq (.tmp 89) (.tmp 90) V C _) HNe4.out ?_))
                    go_ret2
                    exact ⟨by rw [HRR.out]; rfl, HB4.out⟩
                · have hcb : (c != 0) = true := bne_iff_ne.2 hc
                  have hce : (c == 0) = false := beq_eq_false_iff_ne.2 hc
                  have HRR : Hid (R = .tuple #[.string noB, .int .i64 1]) := Lib.hid (by rw [HR2.out, hce]; rfl)
                  clear hc hce
                  go_wp2_with (refine wpL_store_row rfl 24 _ _ rfl w2.heap.size V ?_ ?_ 24 (ckR ck0) ?_ ?_ ?_ ?_ ?_; exact rfl; exact rfl; (exact HA3.out); (rw [HVs.out]; exact infoTo); (rw [HVs.out]; rfl); exact HV1.out; rw [HW4.out])
                  go_ret2
                  exact ⟨by rw [HRR.out]; rfl, HB4.out⟩
              by_cases hk3 : si = 3
              · subst hk3
                have hz : ¬ 9223372036854775807 < S6.size + 15 := by omega
                obtain ⟨Z, HZ⟩ : ∃ Z, Hid (S6 ++ ({ data := #[59, 32, 83, 97, 109, 101, 83, 105, 116, 101, 61, 78, 111, 110, 101] } : ByteArray) = Z) := ⟨_, Lib.hid rfl⟩
                have HR2 : Hid (txtR T D = if ((prsC Z).2 == 0 && ckEq (prsC Z).1 T) = true then .tuple #[.string Z, .int .i64 0] else .tuple #[.string noB, .int .i64 1]) := Lib.hid (HTR.out Z (by
                  rw [← HZ.out, HXT.out, HPC.out, HJ6.out]
                  exact jn_u P6 hn6 rfl _ _ rfl))
                clear HTR HPC HXT HTsi hs0 hs1
                have HPa := Lib.hid fun w => RefParse10_any Z w
                have HNe := Lib.hid fun w => neT (prsC Z).1 T w
                rw [HR.out] at HR2
                clear HR
                obtain ⟨U, c, HU⟩ : ∃ U c, Hid (prsC Z = (U, c)) := ⟨_, _, Lib.hid rfl⟩
                rw [HU.out] at HPa HNe HR2
                dsimp only at HPa HNe HR2
                obtain ⟨C, HC, HCs, HC1⟩ : ∃ C, Hid (ckR T = C) ∧ Hid (C.size = 11) ∧ Hid (C.all (·.oneCell') = true) := ⟨_, Lib.hid rfl, Lib.hid rfl, Lib.hid (ckR_one _)⟩
                obtain ⟨V, HV, HVs, HV1⟩ : ∃ V, Hid (ckR U = V) ∧ Hid (V.size = 11) ∧ Hid (V.all (·.oneCell') = true) := ⟨_, Lib.hid rfl, Lib.hid rfl, Lib.hid (ckR_one _)⟩
                have HA1 : Hid (wc.heap[w.heap.size]? = some (.cells C 24 (0, 0))) := Lib.hid (by rw [← HC.out]; exact HC6.out.1)
                have HB1 := Lib.hid HC6.out.2
                rw [HC.out] at HNe
                rw [HV.out] at HPa HNe
                obtain ⟨B, HB⟩ : ∃ B, Hid (ckEq U T = B) := ⟨_, Lib.hid rfl⟩
                rw [HB.out] at HNe HR2
                clear HC6
                go_wp2_with fail
                rw [HZ.out]
                refine (HPa.out _).mono ?_
                rintro e w2 ⟨rfl, b2⟩
                have HB2 := Lib.hid (HB1.out.trans (b2.mono HB1.out.size))
                have HA2 : Hid (w2.heap[w.heap.size]? = some (.cells C 24 (0, 0))) := Lib.hid ((b2.block _ (lt_of_block HA1.out)).trans HA1.out)
                clear b2 g6
                have HA3 : Hid ((w2.alloc (.cells (ckR ck0) 24)).heap[w2.heap.size]? = some (.cells (ckR ck0) 24 (0, 0))) := Lib.hid (heap_alloc_new w2 _)
                have hlt : w.heap.size < w2.heap.size := lt_of_block HA2.out
                obtain ⟨W4, HW4⟩ : ∃ W, Hid ((w2.alloc (.cells #[.string ⟨#[]⟩, .string ⟨#[]⟩, .string ⟨#[]⟩, .string ⟨#[]⟩, .int .i64 0, .bool false, .int .i64 0, .bool false, .bool false, .bool false, .int .u8 0] 24)).setRow w2.heap.size V = W) := ⟨_, Lib.hid rfl⟩
                have HA4 : Hid (W4.heap[w2.heap.size]? = some (.cells V 24 (0, 0))) := Lib.hid (by rw [← HW4.out]; exact setRow_heap _ _ _ _ _ _ (HA3.out))
                have HC4 : Hid (W4.heap[w.heap.size]? = some (.cells C 24 (0, 0))) := Lib.hid (by rw [← HW4.out, setRow_other _ _ _ _ (by omega)]; exact (Below.heap_alloc _ _ _ hlt).trans HA2.out)
                have HB4 : Hid (Below w.heap.size w W4) := Lib.hid (by rw [← HW4.out]; exact sc_below (HB2.out.alloc HB2.out.size _) _ _ (by omega))
                have HNe4 := Lib.hid (HNe.out W4)
                clear hlt
                by_cases hc : c = 0
                · subst hc
                  cases B with
                  | true =>
                    have HRR : Hid (R = .tuple #[.string Z, .int .i64 0]) := HR2
                    go_upto_region 25 with (refine wpL_store_row rfl 24 _ _ rfl w2.heap.size V ?_ ?_ 24 (ckR ck0) ?_ ?_ ?_ ?_ ?_; exact rfl; exact rfl; (exact HA3.out); (rw [HVs.out]; exact infoTo); (rw [HVs.out]; rfl); exact HV1.out; rw [HW4.out])
                    go_wp2_with (first
                      | (refine scW_load rfl 24 _ rfl w2.heap.size ?_ 24 V (0, 0) _ ?_ Tryz.underlying24 rfl ?_ ?_; (exact rfl); (exact HA4.out); (rw [HVs.out]; exact infoTo))
                      | (refine scW_load rfl 24 _ rfl w.heap.size ?_ 24 C (0, 0) _ ?_ Tryz.underlying24 rfl ?_ ?_; (exact rfl); (exact HC4.out); (rw [HCs.out]; exact infoTo); refine scW_bin rfl .neq 24 24 (.tmp 89) (.tmp 90) rfl _ (gd_T .neq (.tmp 89) (.tmp 90) V C _) HNe4.out ?_))
                    go_ret2
                    exact ⟨by rw [HRR.out]; rfl, HB4.out⟩
                  | false =>
                    have HRR : Hid (R = .tuple #[.string noB, .int .i64 1]) := HR2
                    go_upto_region 25 with (refine wpL_store_row rfl 24 _ _ rfl w2.heap.size V ?_ ?_ 24 (ckR ck0) ?_ ?_ ?_ ?_ ?_; exact rfl; exact rfl; (exact HA3.out); (rw [HVs.out]; exact infoTo); (rw [HVs.out]; rfl); exact HV1.out; rw [HW4.out])
                    go_wp2_with (first
                      | (refine scW_load rfl 24 _ rfl w2.heap.size ?_ 24 V (0, 0) _ ?_ Tryz.underlying24 rfl ?_ ?_; (exact rfl); (exact HA4.out); (rw [HVs.out]; exact infoTo))
                      | (refine scW_load rfl 24 _ rfl w.heap.size ?_ 24 C (0, 0) _ ?_ Tryz.underlying24 rfl ?_ ?_; (exact rfl); (exact HC4.out); (rw [HCs.out]; exact infoTo); refine scW_bin rfl .neq 24 24 (.tmp 89) (.tmp 90) rfl _ (gd_T .neq (.tmp 89) (.tmp 90) V C _) HNe4.out ?_))
                    go_ret2
                    exact ⟨by rw [HRR.out]; rfl, HB4.out⟩
                · have hcb : (c != 0) = true := bne_iff_ne.2 hc
                  have hce : (c == 0) = false := beq_eq_false_iff_ne.2 hc
                  have HRR : Hid (R = .tuple #[.string noB, .int .i64 1]) := Lib.hid (by rw [HR2.out, hce]; rfl)
                  clear hc hce
                  go_wp2_with (refine wpL_store_row rfl 24 _ _ rfl w2.heap.size V ?_ ?_ 24 (ckR ck0) ?_ ?_ ?_ ?_ ?_; exact rfl; exact rfl; (exact HA3.out); (rw [HVs.out]; exact infoTo); (rw [HVs.out]; rfl); exact HV1.out; rw [HW4.out])
                  go_ret2
                  exact ⟨by rw [HRR.out]; rfl, HB4.out⟩
              obtain ⟨Z, HZ⟩ : ∃ Z, Hid (S6 = Z) := ⟨_, Lib.hid rfl⟩
              have HR2 : Hid (txtR T D = if ((prsC Z).2 == 0 && ckEq (prsC Z).1 T) = true then .tuple #[.string Z, .int .i64 0] else .tuple #[.string noB, .int .i64 1]) := Lib.hid (by
                by_cases hk0 : si = 0
                · refine HTR.out Z ?_
                  rw [← HZ.out, HXT.out, HPC.out, HJ6.out]
                  exact jn_f P6 hn6 (by rw [hk0]; rfl) _
                · have hbd : ¬ BdC T := fun h => by
                    have := h.2
                    rw [HTsi.out] at this
                    omega
                  rw [txt_refused hbd, if_neg]
                  intro hh
                  rw [Bool.and_eq_true] at hh
                  have := (ckEq_iff _ _).1 hh.2
                  exact hbd (this ▸ prs_bd _))
              have e1 : (si == 1) = false := beq_eq_false_iff_ne.2 hk1
              have e2 : (si == 2) = false := beq_eq_false_iff_ne.2 hk2
              have e3 : (si == 3) = false := beq_eq_false_iff_ne.2 hk3
              clear HTR HPC HXT HTsi hs0 hs1
              have HPa := Lib.hid fun w => RefParse10_any Z w
              have HNe := Lib.hid fun w => neT (prsC Z).1 T w
              rw [HR.out] at HR2
              clear HR
              obtain ⟨U, c, HU⟩ : ∃ U c, Hid (prsC Z = (U, c)) := ⟨_, _, Lib.hid rfl⟩
              rw [HU.out] at HPa HNe HR2
              dsimp only at HPa HNe HR2
              obtain ⟨C, HC, HCs, HC1⟩ : ∃ C, Hid (ckR T = C) ∧ Hid (C.size = 11) ∧ Hid (C.all (·.oneCell') = true) := ⟨_, Lib.hid rfl, Lib.hid rfl, Lib.hid (ckR_one _)⟩
              obtain ⟨V, HV, HVs, HV1⟩ : ∃ V, Hid (ckR U = V) ∧ Hid (V.size = 11) ∧ Hid (V.all (·.oneCell') = true) := ⟨_, Lib.hid rfl, Lib.hid rfl, Lib.hid (ckR_one _)⟩
              have HA1 : Hid (wc.heap[w.heap.size]? = some (.cells C 24 (0, 0))) := Lib.hid (by rw [← HC.out]; exact HC6.out.1)
              have HB1 := Lib.hid HC6.out.2
              rw [HC.out] at HNe
              rw [HV.out] at HPa HNe
              obtain ⟨B, HB⟩ : ∃ B, Hid (ckEq U T = B) := ⟨_, Lib.hid rfl⟩
              rw [HB.out] at HNe HR2
              clear HC6
              go_wp2_with fail
              rw [HZ.out]
              refine (HPa.out _).mono ?_
              rintro e w2 ⟨rfl, b2⟩
              have HB2 := Lib.hid (HB1.out.trans (b2.mono HB1.out.size))
              have HA2 : Hid (w2.heap[w.heap.size]? = some (.cells C 24 (0, 0))) := Lib.hid ((b2.block _ (lt_of_block HA1.out)).trans HA1.out)
              clear b2 g6
              have HA3 : Hid ((w2.alloc (.cells (ckR ck0) 24)).heap[w2.heap.size]? = some (.cells (ckR ck0) 24 (0, 0))) := Lib.hid (heap_alloc_new w2 _)
              have hlt : w.heap.size < w2.heap.size := lt_of_block HA2.out
              obtain ⟨W4, HW4⟩ : ∃ W, Hid ((w2.alloc (.cells #[.string ⟨#[]⟩, .string ⟨#[]⟩, .string ⟨#[]⟩, .string ⟨#[]⟩, .int .i64 0, .bool false, .int .i64 0, .bool false, .bool false, .bool false, .int .u8 0] 24)).setRow w2.heap.size V = W) := ⟨_, Lib.hid rfl⟩
              have HA4 : Hid (W4.heap[w2.heap.size]? = some (.cells V 24 (0, 0))) := Lib.hid (by rw [← HW4.out]; exact setRow_heap _ _ _ _ _ _ (HA3.out))
              have HC4 : Hid (W4.heap[w.heap.size]? = some (.cells C 24 (0, 0))) := Lib.hid (by rw [← HW4.out, setRow_other _ _ _ _ (by omega)]; exact (Below.heap_alloc _ _ _ hlt).trans HA2.out)
              have HB4 : Hid (Below w.heap.size w W4) := Lib.hid (by rw [← HW4.out]; exact sc_below (HB2.out.alloc HB2.out.size _) _ _ (by omega))
              have HNe4 := Lib.hid (HNe.out W4)
              clear hlt
              by_cases hc : c = 0
              · subst hc
                cases B with
                | true =>
                  have HRR : Hid (R = .tuple #[.string Z, .int .i64 0]) := HR2
                  go_upto_region 25 with (refine wpL_store_row rfl 24 _ _ rfl w2.heap.size V ?_ ?_ 24 (ckR ck0) ?_ ?_ ?_ ?_ ?_; exact rfl; exact rfl; (exact HA3.out); (rw [HVs.out]; exact infoTo); (rw [HVs.out]; rfl); exact HV1.out; rw [HW4.out])
                  go_wp2_with (first
                    | (refine scW_load rfl 24 _ rfl w2.heap.size ?_ 24 V (0, 0) _ ?_ Tryz.underlying24 rfl ?_ ?_; (exact rfl); (exact HA4.out); (rw [HVs.out]; exact infoTo))
                    | (refine scW_load rfl 24 _ rfl w.heap.size ?_ 24 C (0, 0) _ ?_ Tryz.underlying24 rfl ?_ ?_; (exact rfl); (exact HC4.out); (rw [HCs.out]; exact infoTo); refine scW_bin rfl .neq 24 24 (.tmp 89) (.tmp 90) rfl _ (gd_T .neq (.tmp 89) (.tmp 90) V C _) HNe4.out ?_))
                  go_ret2
                  exact ⟨by rw [HRR.out]; rfl, HB4.out⟩
                | false =>
                  have HRR : Hid (R = .tuple #[.string noB, .int .i64 1]) := HR2
                  go_upto_region 25 with (refine wpL_store_row rfl 24 _ _ rfl w2.heap.size V ?_ ?_ 24 (ckR ck0) ?_ ?_ ?_ ?_ ?_; exact rfl; exact rfl; (exact HA3.out); (rw [HVs.out]; exact infoTo); (rw [HVs.out]; rfl); exact HV1.out; rw [HW4.out])
                  go_wp2_with (first
                    | (refine scW_load rfl 24 _ rfl w2.heap.size ?_ 24 V (0, 0) _ ?_ Tryz.underlying24 rfl ?_ ?_; (exact rfl); (exact HA4.out); (rw [HVs.out]; exact infoTo))
                    | (refine scW_load rfl 24 _ rfl w.heap.size ?_ 24 C (0, 0) _ ?_ Tryz.underlying24 rfl ?_ ?_; (exact rfl); (exact HC4.out); (rw [HCs.out]; exact infoTo); refine scW_bin rfl .neq 24 24 (.tmp 89) (.tmp 90) rfl _ (gd_T .neq (.tmp 89) (.tmp 90) V C _) HNe4.out ?_))
                  go_ret2
                  exact ⟨by rw [HRR.out]; rfl, HB4.out⟩
              · have hcb : (c != 0) = true := bne_iff_ne.2 hc
                have hce : (c == 0) = false := beq_eq_false_iff_ne.2 hc
                have HRR : Hid (R = .tuple #[.string noB, .int .i64 1]) := Lib.hid (by rw [HR2.out, hce]; rfl)
                clear hc hce
                go_wp2_with (refine wpL_store_row rfl 24 _ _ rfl w2.heap.size V ?_ ?_ 24 (ckR ck0) ?_ ?_ ?_ ?_ ?_; exact rfl; exact rfl; (exact HA3.out); (rw [HVs.out]; exact infoTo); (rw [HVs.out]; rfl); exact HV1.out; rw [HW4.out])
                go_ret2
                exact ⟨by rw [HRR.out]; rfl, HB4.out⟩

end Go.Proofs.YtblofndehbagnaaGreatDoor
