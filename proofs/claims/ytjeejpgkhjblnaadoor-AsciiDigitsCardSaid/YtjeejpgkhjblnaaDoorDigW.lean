/-
  The walks of footmanlaw01.digits and AsciiDigits.
-/
import Derived.Test.YtjeejpgkhjblnaaDoorDigM
import Derived.Test.YtjeejpgkhjblnaaDoorAlive
namespace Go.Proofs.YtjeejpgkhjblnaaDoor
open Go.RowKit

def digsC : ByteArray := ⟨#[48, 49, 50, 51, 52, 53, 54, 55, 56, 57]⟩
theorem digsC_at : ∀ k, k < 10 → (digsC.extract k (k + 1)).data.toList = [UInt8.ofNat (48 + k)] := by decide +kernel
def hiL (n : Nat) : List UInt8 := if n < 10 then [] else digL (n / 10)
theorem hiL_dig (n : Nat) : hiL n ++ [UInt8.ofNat (48 + n % 10)] = digL n := by
  unfold hiL
  by_cases h : n < 10
  · rw [if_pos h, digL_lt n h, Nat.mod_eq_of_lt h]; rfl
  · rw [if_neg h, digL_ge n h]
theorem hiL_ge (n : Nat) (h : ¬ n < 10) : hiL n = digL (n / 10) := by rw [hiL, if_neg h]
theorem hiL_lt (n : Nat) (h : n < 10) : hiL n = [] := by rw [hiL, if_pos h]
theorem dig20 (n : Nat) (h : n < 18446744073709551616) : (digL n).length ≤ 20 := digL_len n 19 (Nat.lt_of_lt_of_le h (by decide))
theorem size_data (t : ByteArray) : t.data.toList.length = t.size := by simp
theorem data_ext {a b : ByteArray} (h : a.data.toList = b.data.toList) : a = b := by
  cases a; cases b; simp only at h; congr 1; exact Array.toList_inj.1 h
theorem data_cat (a b : ByteArray) : (a ++ b).data.toList = a.data.toList ++ b.data.toList := by rw [ByteArray.data_append, Array.toList_append]

set_option maxHeartbeats 1000000 in
theorem digits_any (n : Nat) (w : World) (hn : n < 18446744073709551616) :
    Calls Tryd.prog 21 #[.int .u64 n] w fun e w' => e = .returned (.string ⟨(digL n).toArray⟩) ∧ w = w' := by
  have hmod : n % 10 < 10 := by omega
  go_enter Tryd.func21, Tryd.ntmps21
  go_wp2
  go_loop [0, 3] (fun v t => ∃ (p : Nat) (b : ByteArray), p < 18446744073709551616 ∧ v = .int .u64 p ∧ t = .string b ∧ hiL p ++ b.data.toList = digL n) (fun v _ => (intOf v).toNat)
  case atStart => exact ⟨n, _, hn, rfl, rfl, by
      have := digsC_at (n % 10) hmod
      unfold digsC at this
      rw [this]; exact hiL_dig n⟩
  case round =>
    obtain ⟨p, b, hp, rfl, rfl, hh⟩ := hrel
    have hbs : b.size ≤ 20 := by
      have h1 := congrArg List.length hh
      have h2 := dig20 n hn
      rw [List.length_append, size_data] at h1
      omega
    have HH := Lib.hid hh; clear hh
    by_cases hlt : p < 10
    · go_wp2
      go_ret
      exact ⟨by
        have : b = ⟨(digL n).toArray⟩ := data_ext (by rw [← HH.out, hiL_lt p hlt]; rfl)
        rw [← this]; rfl, rfl⟩
    · have hm2 : p / 10 % 10 < 10 := by omega
      have hsz : ((({ data := #[48, 49, 50, 51, 52, 53, 54, 55, 56, 57] } : ByteArray)).extract (p / 10 % 10) (p / 10 % 10 + 1)).size ≤ 1 := by
        rw [← size_data]
        have := digsC_at (p / 10 % 10) hm2
        unfold digsC at this
        rw [this]; simp
      go_wp2
      go_round
      case rel => exact ⟨p / 10, _, by omega, by go_num, rfl, by
        have := digsC_at (p / 10 % 10) hm2
        unfold digsC at this
        rw [data_cat, this, ← List.append_assoc, hiL_dig, ← hiL_ge p hlt]; exact HH.out⟩
      case measure => simp [intOf]; omega

def textOf (l : List UInt8) : ByteArray := ⟨l.toArray⟩
theorem textOf_nought (z : Nat) (l : List UInt8) : (⟨#[48]⟩ : ByteArray) ++ textOf (nouL z l) = textOf (nouL (z + 1) l) := data_ext (by
  rw [data_cat]; show [48] ++ nouL z l = nouL (z + 1) l; rw [nouL_succ]; rfl)
theorem textOf_size (l : List UInt8) : (textOf l).size = l.length := by
  show l.toArray.size = _; rw [List.size_toArray]

theorem Number_dig (l : List UInt8) (M : Int) (w : World) (h : (textOf l).size ≤ maxLen) :
    Calls Tryd.prog 22 #[.string (textOf l), .int .i64 M] w fun e w' => e = .returned (.tuple #[.int .i64 (numV l M), .bool (numB l M)]) ∧ Below w.heap.size w w' := Number_any (textOf l) M w h

set_option maxHeartbeats 1000000 in
set_option maxRecDepth 100000 in
theorem digits_walk (n most : Nat) (u : UInt8) (m : Int) (w : World) (hn : n < 18446744073709551616) (hmo : most < 18446744073709551616) (hm : w.cell? ⟨2, 0, none⟩ = some (.int .i64 m)) :
    Calls Tryd.prog 8 #[.int .u64 n, .int .u64 most, .int .u8 u.toNat] w fun e w' => e = .returned (.bool true) ∧ Below w.heap.size w w' := by
  have HM := Lib.hid hm; clear hm
  have hul := byte_lt u
  have hd20 := dig20 n hn
  have hL0 : (digL n).length ≠ 0 := digL_ne n
  go_enter Tryd.func8, Tryd.ntmps8
  go_wp2_with fail
  refine (digits_any n _ hn).mono ?_
  rintro e w1 ⟨rfl, rfl⟩
  go_wp2
  go_loop [8, 9] (fun v i => ∃ k : Nat, k ≤ u.toNat % 20 ∧ i = .int .i64 k ∧ v = .string (textOf (nouL k (digL n)))) (fun _ i => u.toNat % 20 - (intOf i).toNat)
  case atStart => exact ⟨0, Nat.zero_le _, rfl, rfl⟩
  case round =>
    obtain ⟨k, hk, rfl, rfl⟩ := hrel
    have hts : (textOf (nouL k (digL n))).size = k + (digL n).length := by rw [textOf_size, nouL_len]
    have HTS := Lib.hid hts
    have htl : (textOf (nouL k (digL n))).size ≤ 40 := by omega
    clear hts
    by_cases hlt : k < u.toNat % 20
    · have hlt' : (k : Int) < (u.toNat : Int) % 20 := by omega
      have HN := Lib.hid (textOf_nought k (digL n))
      go_wp2
      go_round
      case rel => exact ⟨k + 1, by omega, by go_num, by rw [HN.out]⟩
      case measure => simp [intOf]; omega
    · have hlt' : (u.toNat : Int) % 20 ≤ (k : Int) := by omega
      have HAns := Lib.hid (dig_answer n k ((most : Int) % 1152921504606846976))
      have hsm : (textOf (nouL k (digL n))).size ≤ maxLen := by unfold maxLen; omega
      rcases (show (k + (digL n).length ≤ 18 ∧ (n : Int) ≤ (most : Int) % 1152921504606846976) ∨ (k + (digL n).length ≤ 18 ∧ (most : Int) % 1152921504606846976 < (n : Int)) ∨ 18 < k + (digL n).length from by omega) with ⟨a1, a2⟩ | ⟨a1, a2⟩ | a1
      · have HB : Hid (numB (nouL k (digL n)) ((most : Int) % 1152921504606846976) = true) := Lib.hid (by rw [HAns.out.1]; simp [a1, a2])
        have HV : Hid (numV (nouL k (digL n)) ((most : Int) % 1152921504606846976) = n) := Lib.hid (by rw [HAns.out.2, if_pos ⟨a1, a2⟩])
        have a1' : (textOf (nouL k (digL n))).size ≤ 18 := by rw [HTS.out]; omega
        have a3 : ((n : Int) == (n : Int)) = true := beq_iff_eq.2 rfl
        go_wp2_with fail
        refine (Number_dig _ _ _ hsm).mono ?_
        rw [HB.out, HV.out]
        rintro e w2 ⟨rfl, b2⟩
        have B2 := Lib.hid b2; clear b2
        go_wp2_with fail
        refine (alive_any m _ (kept_cell B2.out HM.out (Nat.le_refl _))).mono ?_
        rintro e w3 ⟨rfl, b3⟩
        have B3 := Lib.hid b3; clear b3
        go_wp2
        go_ret
        exact ⟨rfl, B2.out.trans (B3.out.mono B2.out.size)⟩
      · have HB : Hid (numB (nouL k (digL n)) ((most : Int) % 1152921504606846976) = false) := Lib.hid (by rw [HAns.out.1]; simp [a1]; omega)
        have HV : Hid (numV (nouL k (digL n)) ((most : Int) % 1152921504606846976) = 0) := Lib.hid (by rw [HAns.out.2, if_neg (by omega)])
        have a1' : (textOf (nouL k (digL n))).size ≤ 18 := by rw [HTS.out]; omega
        go_wp2_with fail
        refine (Number_dig _ _ _ hsm).mono ?_
        rw [HB.out, HV.out]
        rintro e w2 ⟨rfl, b2⟩
        have B2 := Lib.hid b2; clear b2
        go_wp2_with fail
        refine (alive_any m _ (kept_cell B2.out HM.out (Nat.le_refl _))).mono ?_
        rintro e w3 ⟨rfl, b3⟩
        have B3 := Lib.hid b3; clear b3
        go_wp2
        go_ret
        exact ⟨ret_bool (a := !decide ((n : Int) ≤ (most : Int) % 1152921504606846976)) (by simp; omega), B2.out.trans (B3.out.mono B2.out.size)⟩
      · have HB : Hid (numB (nouL k (digL n)) ((most : Int) % 1152921504606846976) = false) := Lib.hid (by rw [HAns.out.1]; simp; omega)
        have HV : Hid (numV (nouL k (digL n)) ((most : Int) % 1152921504606846976) = 0) := Lib.hid (by rw [HAns.out.2, if_neg (by omega)])
        have a1' : 18 < (textOf (nouL k (digL n))).size := by rw [HTS.out]; omega
        go_wp2_with fail
        refine (Number_dig _ _ _ hsm).mono ?_
        rw [HB.out, HV.out]
        rintro e w2 ⟨rfl, b2⟩
        have B2 := Lib.hid b2; clear b2
        go_wp2_with fail
        refine (alive_any m _ (kept_cell B2.out HM.out (Nat.le_refl _))).mono ?_
        rintro e w3 ⟨rfl, b3⟩
        have B3 := Lib.hid b3; clear b3
        go_wp2
        go_ret
        exact ⟨rfl, B2.out.trans (B3.out.mono B2.out.size)⟩

theorem nat_of (n : Int) (h : (Lit.int .u64 n).wf = true) : ∃ k : Nat, n = (k : Int) ∧ k < 18446744073709551616 := by
  have a1 : IntKind.u64.min = 0 := rfl
  have a2 : IntKind.u64.max = 18446744073709551615 := rfl
  simp only [Lit.wf, Bool.and_eq_true, decide_eq_true_eq] at h
  exact ⟨n.toNat, by omega, by omega⟩
theorem byte_ofD (n : Int) (h : (Lit.int .u8 n).wf = true) : ∃ u : UInt8, n = (u.toNat : Int) := by
  have a1 : IntKind.u8.min = 0 := rfl
  have a2 : IntKind.u8.max = 255 := rfl
  simp only [Lit.wf, Bool.and_eq_true, decide_eq_true_eq] at h
  refine ⟨UInt8.ofNat n.toNat, ?_⟩
  rw [UInt8.toNat_ofNat']
  omega
theorem digits_all (a b c : Int) (m : Int) (w : World) (ha : (Lit.int .u64 a).wf = true) (hb : (Lit.int .u64 b).wf = true) (hc : (Lit.int .u8 c).wf = true) (hm : w.cell? ⟨2, 0, none⟩ = some (.int .i64 m)) :
    Calls Tryd.prog 8 #[.int .u64 a, .int .u64 b, .int .u8 c] w fun e w' => e = .returned (.bool true) ∧ Below w.heap.size w w' := by
  obtain ⟨x, rfl, hx⟩ := nat_of a ha
  obtain ⟨y, rfl, hy⟩ := nat_of b hb
  obtain ⟨u, rfl⟩ := byte_ofD c hc
  exact digits_walk x y u m w hx hy hm

end Go.Proofs.YtjeejpgkhjblnaaDoor
