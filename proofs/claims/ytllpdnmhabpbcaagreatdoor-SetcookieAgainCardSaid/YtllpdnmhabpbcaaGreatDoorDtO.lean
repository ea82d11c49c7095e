/-
  Package dates: which texts are dates of headers; Text.
-/
import Derived.Test.YtllpdnmhabpbcaaGreatDoorDtX2
namespace Go.Proofs.YtllpdnmhabpbcaaGreatDoor
open Go.RowKit

/-- A text is that of seconds. -/
def IsTxt (n : Int) (l : List UInt8) : Prop := ∃ k D Y M d : Nat, n = (k : Int) ∧ (k + 62135596800) / 86400 = D ∧ IsDay D Y M d ∧ l = textL Y M d ((D + 1) % 7) (k % 86400)
theorem txt_some (n : Int) (h0 : 0 ≤ n) (h1 : n ≤ 253402300799) : ∃ l, IsTxt n l := by
  obtain ⟨k, rfl⟩ : ∃ k : Nat, n = k := ⟨n.toNat, by omega⟩
  obtain ⟨Y, M, d, hI⟩ := isDay_some ((k + 62135596800) / 86400) (by omega)
  exact ⟨_, k, _, Y, M, d, rfl, rfl, hI, rfl⟩
theorem IsTxt.lo {n : Int} {l : List UInt8} (h : IsTxt n l) : 0 ≤ n ∧ n ≤ 253402300799 := by
  obtain ⟨k, D, Y, M, d, rfl, h2, hI, _⟩ := h
  have := hI.lt
  omega
theorem wk_facts (k : Nat) (hk : k < 7) : (∀ c ∈ wkL.getD k [], btw c = false) ∧ clockP (wkL.getD k []) = none ∧ toldN 1 2 (wkL.getD k []) = none ∧ moP (wkL.getD k []) = none ∧ toldN 2 4 (wkL.getD k []) = none := by
  have h1 : ∀ n : Fin 7, (∀ c ∈ wkL.getD n.1 [], btw c = false) := by decide +kernel
  have h2 : ∀ n : Fin 7, clockP (wkL.getD n.1 []) = none := by decide +kernel
  have h3 : ∀ n : Fin 7, toldN 1 2 (wkL.getD n.1 []) = none := by decide +kernel
  have h4 : ∀ n : Fin 7, moP (wkL.getD n.1 []) = none := by decide +kernel
  have h5 : ∀ n : Fin 7, toldN 2 4 (wkL.getD n.1 []) = none := by decide +kernel
  exact ⟨h1 ⟨k, hk⟩, h2 ⟨k, hk⟩, h3 ⟨k, hk⟩, h4 ⟨k, hk⟩, h5 ⟨k, hk⟩⟩
theorem mn_facts (k : Nat) (hk : k < 13) : (∀ c ∈ monL.getD k [], btw c = false) ∧ clockP (monL.getD k []) = none := by
  have h1 : ∀ n : Fin 13, (∀ c ∈ monL.getD n.1 [], btw c = false) := by decide +kernel
  have h2 : ∀ n : Fin 13, clockP (monL.getD n.1 []) = none := by decide +kernel
  exact ⟨h1 ⟨k, hk⟩, h2 ⟨k, hk⟩⟩
/-- What the words tell are the seconds. -/
theorem cook_secs {k D Y M d : Nat} (h2 : (k + 62135596800) / 86400 = D) (hI : IsDay D Y M d) (hY : 1970 ≤ Y) (y : Int) (hy : whole y = (Y : Int)) :
    cookR ⟨some (((k % 86400 / 3600 : Nat) : Int), ((k % 86400 / 60 % 60 : Nat) : Int), ((k % 86400 % 60 : Nat) : Int)), some (d : Int), some M, some y⟩ = (k : Int) ∧ cookB ⟨some (((k % 86400 / 3600 : Nat) : Int), ((k % 86400 / 60 % 60 : Nat) : Int), ((k % 86400 % 60 : Nat) : Int)), some (d : Int), some M, some y⟩ = true := by
  have y2 := hI.y2
  have m1 := hI.m1
  have m2 := hI.m2
  have hd := hI.d1
  have hb := hI.back
  have hB : secB (Y : Int) (M : Int) (d : Int) ((k % 86400 / 3600 : Nat) : Int) ((k % 86400 / 60 % 60 : Nat) : Int) ((k % 86400 % 60 : Nat) : Int) = true := by
    refine secB_iff.2 ⟨dayB_iff.2 ⟨by omega, by omega, by rw [Int.toNat_natCast, Int.toNat_natCast]; omega⟩, by omega, by omega, by omega⟩
  unfold cookR cookB
  simp only [hy]
  rw [if_neg (by omega), if_neg (by omega)]
  refine ⟨?_, hB⟩
  rw [secR, if_pos hB, secV, Int.toNat_natCast, Int.toNat_natCast]
  omega
theorem whole_ge (Y : Nat) (h : 1970 ≤ Y) : whole (Y : Int) = (Y : Int) := by
  unfold whole
  rw [if_neg (by omega), if_neg (by omega)]
theorem cook_gen {k D Y M d : Nat} {wk mn g : List UInt8} (h2 : (k + 62135596800) / 86400 = D) (hI : IsDay D Y M d) (hl : mn.length = 3) (hm : mn.map low = (monL.getD M []).map low)
    (wb : ∀ c ∈ wk, btw c = false) (wc : clockP wk = none) (wt : toldN 1 2 wk = none) (wm : moP wk = none) (wy : toldN 2 4 wk = none)
    (mb : ∀ c ∈ mn, btw c = false) (mc : clockP mn = none) (gb : ∀ c ∈ g, btw c = false) :
    cookR (scanF noneT [] (textG wk d mn Y (k % 86400) g)) = (k : Int) ∧ cookB (scanF noneT [] (textG wk d mn Y (k % 86400) g)) = true := by
  have hY := year_1970 hI h2
  have y2 := hI.y2
  have hd := hI.d1
  have hd31 := (days_pos Y M).2
  rw [scan_text (by omega) (by omega) (Nat.mod_lt _ (by omega)) hI.m1 hI.m2 hl hm wb wc wt wm wy mb mc gb]
  exact cook_secs h2 hI hY _ (whole_ge Y hY)
theorem gmt_btw : ∀ c ∈ ([71, 77, 84] : List UInt8), btw c = false := by decide
theorem cook_txt {n : Int} {l : List UInt8} (h : IsTxt n l) : cookR (toldT (asB l)) = n ∧ cookB (toldT (asB l)) = true := by
  obtain ⟨k, D, Y, M, d, rfl, h2, hI, rfl⟩ := h
  obtain ⟨w1, w2, w3, w4, w5⟩ := wk_facts ((D + 1) % 7) (by omega)
  obtain ⟨m1, m2⟩ := mn_facts M (by have := hI.m2; omega)
  exact cook_gen h2 hI (mon_len3 M hI.m1 hI.m2) rfl w1 w2 w3 w4 w5 m1 m2 gmt_btw
theorem txt_one {n n' : Int} {l : List UInt8} (h : IsTxt n l) (h' : IsTxt n' l) : n = n' := (cook_txt h).1.symm.trans (cook_txt h').1
theorem txt_same {n : Int} {l l' : List UInt8} (h : IsTxt n l) (h' : IsTxt n l') : l = l' := by
  obtain ⟨k, D, Y, M, d, rfl, h2, hI, rfl⟩ := h
  obtain ⟨k', D', Y', M', d', e, h2', hI', rfl⟩ := h'
  obtain rfl : k = k' := by omega
  subst h2
  subst h2'
  obtain ⟨rfl, rfl, rfl⟩ := hI.one hI'
  rfl

theorem Text_yes {n : Int} {l : List UInt8} (h : IsTxt n l) (m : Int) (w : World) (hw : DtG m w) :
    Calls Tryz.prog 21 #[.int .i64 n] w fun e w' => e = .returned (.tuple #[.string (asB l), .bool true]) ∧ Below w.heap.size w w' := by
  obtain ⟨k, D, Y, M, d, rfl, h2, hI, rfl⟩ := h
  exact Text_any k D Y M d hI h2 m w hw

set_option maxHeartbeats 1000000 in
set_option maxRecDepth 100000 in
theorem Text_no (n : Int) (h : n < 0 ∨ 253402300799 < n) (w : World) :
    Calls Tryz.prog 21 #[.int .i64 n] w fun e w' => e = .returned (.tuple #[.string ⟨#[]⟩, .bool false]) ∧ Below w.heap.size w w' := by
  obtain ⟨Y, M, d, k, hP, hz⟩ : ∃ Y M d k : Nat, (∀ w, Calls Tryz.prog 37 #[.int .i64 n] w fun e w' => e = .returned (dayV Y M d k) ∧ Below w.heap.size w w') ∧ (n < 0 ∨ Y = 0) := by
    cases hn : inR (-62135596800) 253402300799 n with
    | false => exact ⟨0, 0, 0, 0, fun w => Day_no n hn w, .inr rfl⟩
    | true =>
      obtain ⟨h1, h2⟩ := inR_true.1 hn
      obtain ⟨D, hD⟩ : ∃ D : Nat, (n + 62135596800) / 86400 = (D : Int) := ⟨((n + 62135596800) / 86400).toNat, by omega⟩
      obtain ⟨Y, M, d, hI⟩ := isDay_some D (by omega)
      exact ⟨Y, M, d, _, fun w => Day_any n D Y M d hI h1 hD w, .inl (by omega)⟩
  have HP := Lib.hid hP
  unfold dayV at HP
  clear hP
  by_cases hn : n < 0
  · clear h hz
    go_enter Tryz.func21, Tryz.ntmps21
    go_wp2_with fail
    refine (HP.out _).mono ?_
    rintro e w1 ⟨rfl, bel⟩
    go_wp2
    go_ret2
    exact ⟨rfl, bel⟩
  · have hY : Y = 0 := by rcases hz with hz | hz; exact absurd hz hn; exact hz
    subst hY
    clear h hz
    go_enter Tryz.func21, Tryz.ntmps21
    go_wp2_with fail
    refine (HP.out _).mono ?_
    rintro e w1 ⟨rfl, bel⟩
    go_wp2
    go_ret2
    exact ⟨rfl, bel⟩

theorem bytes_beq {a b : ByteArray} (h : a = b) : (a.toList == b.toList) = true := by rw [h]; exact beq_self_eq_true _
theorem bytes_bne {a b : ByteArray} (h : a ≠ b) : (a.toList == b.toList) = false := by
  rw [beq_eq_false_iff_ne, ByteArray.toList_eq, ByteArray.toList_eq]
  exact fun e => h (ba_eq e)

end Go.Proofs.YtllpdnmhabpbcaaGreatDoor
