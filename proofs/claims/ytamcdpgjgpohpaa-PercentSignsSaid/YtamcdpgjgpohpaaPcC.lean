/-
  Contracts: digit, firstByte, Decode.
-/
import Derived.Test.YtamcdpgjgpohpaaBase
import Derived.Test.YtamcdpgjgpohpaaPcM
namespace Go.Proofs.Ytamcdpgjgpohpaa
open Go.RowKit

theorem ret_dig {a b : Int} {c d : Bool} (h : a = b) (h' : c = d) : Ending.returned (.tuple #[.int .u8 a, .bool c]) = .returned (.tuple #[.int .u8 b, .bool d]) := by rw [h, h']
/-- What digit answers. -/
def digN (c : UInt8) : Nat := if hexV c < 16 then hexV c else 0
def digB (c : UInt8) : Bool := decide (hexV c < 16)

set_option maxRecDepth 100000 in
set_option maxHeartbeats 400000 in
theorem digit_any (c : UInt8) (w : World) :
    Calls Try.prog 26 #[.int .u8 c.toNat] w fun e w' => e = .returned (.tuple #[.int .u8 (digN c), .bool (digB c)]) ∧ w = w' := by
  have hby := byte_lt c
  by_cases h1 : 48 ≤ c.toNat ∧ c.toNat ≤ 57
  · have HR : Hid (((digN c : Nat) : Int) = (c.toNat : Int) - 48 ∧ digB c = true) := Lib.hid (by
      have hv : hexV c = c.toNat - 48 := by rw [hexV, if_pos h1]
      unfold digN digB; rw [hv, if_pos (by omega)]; exact ⟨by omega, by simp; omega⟩)
    obtain ⟨a1, a2⟩ := h1
    go_enter Try.func26, Try.ntmps26
    go_wp2
    go_ret2
    exact ⟨ret_dig HR.out.1.symm HR.out.2.symm, rfl⟩
  · by_cases h2 : 65 ≤ c.toNat ∧ c.toNat ≤ 70
    · have HR : Hid (((digN c : Nat) : Int) = (c.toNat : Int) - 65 + 10 ∧ digB c = true) := Lib.hid (by
        have hv : hexV c = c.toNat - 55 := by rw [hexV, if_neg h1, if_pos h2]
        unfold digN digB; rw [hv, if_pos (by omega)]; exact ⟨by omega, by simp; omega⟩)
      obtain ⟨a1, a2⟩ := h2
      have a0 : 57 < c.toNat := by omega
      clear h1
      go_enter Try.func26, Try.ntmps26
      go_wp2
      go_ret2
      exact ⟨ret_dig HR.out.1.symm HR.out.2.symm, rfl⟩
    · by_cases h3 : 97 ≤ c.toNat ∧ c.toNat ≤ 102
      · have HR : Hid (((digN c : Nat) : Int) = (c.toNat : Int) - 97 + 10 ∧ digB c = true) := Lib.hid (by
          have hv : hexV c = c.toNat - 87 := by rw [hexV, if_neg h1, if_neg h2, if_pos h3]
          unfold digN digB; rw [hv, if_pos (by omega)]; exact ⟨by omega, by simp; omega⟩)
        obtain ⟨a1, a2⟩ := h3
        have a0 : 70 < c.toNat := by omega
        clear h1 h2
        go_enter Try.func26, Try.ntmps26
        go_wp2
        go_ret2
        exact ⟨ret_dig HR.out.1.symm HR.out.2.symm, rfl⟩
      · have HR : Hid (((digN c : Nat) : Int) = 0 ∧ digB c = false) := Lib.hid (by
          have hv : hexV c = 16 := by rw [hexV, if_neg h1, if_neg h2, if_neg h3]
          unfold digN digB; rw [hv]; exact ⟨rfl, rfl⟩)
        go_enter Try.func26, Try.ntmps26
        go_wp2
        all_goals first
          | omega
          | (go_ret2; exact ⟨ret_dig HR.out.1.symm HR.out.2.symm, rfl⟩)

theorem digB_sig {c : UInt8} : digB c = true → hexV c < 16 := by simp [digB]
theorem or_hex : ∀ a b : Fin 16, bits BinOp.or IntKind.u8 ((a.1 : Int) * 16) (b.1 : Int) = ((16 * a.1 + b.1 : Nat) : Int) := by decide +kernel
theorem ret_fst {a b c d : Int} (h : a = b) (h' : c = d) : Ending.returned (.tuple #[.int .u8 a, .int .i64 c]) = .returned (.tuple #[.int .u8 b, .int .i64 d]) := by rw [h, h']

theorem s_list (s : ByteArray) (h : 0 < s.size) : ∃ r, s.data.toList = s[0] :: r ∧ r.length + 1 = s.size := by
  have hl : s.data.toList.length = s.size := by simp
  match hs : s.data.toList with
  | [] => rw [hs] at hl; simp at hl; omega
  | c :: r =>
    rw [hs] at hl
    refine ⟨r, ?_, by simpa using hl⟩
    have : s[0] = c := by
      have h1 : s.data.toList[0]? = some s[0] := by rw [List.getElem?_eq_getElem (by simp; exact h)]; rfl
      rw [hs] at h1; simpa using h1.symm
    rw [this]
theorem s_list3 (s : ByteArray) (h : 3 ≤ s.size) : ∃ r, s.data.toList = s[0] :: s[1] :: s[2] :: r := by
  have hl : s.data.toList.length = s.size := by simp
  have g : ∀ j, (hj : j < s.size) → s.data.toList[j]? = some s[j] := fun j hj => by rw [List.getElem?_eq_getElem (by simp; exact hj)]; rfl
  have g0 := g 0 (by omega)
  have g1 := g 1 (by omega)
  have g2 := g 2 (by omega)
  match hs : s.data.toList with
  | [] => rw [hs] at hl; simp at hl; omega
  | [_] => rw [hs] at hl; simp at hl; omega
  | [_, _] => rw [hs] at hl; simp at hl; omega
  | a :: b :: c :: r =>
    rw [hs] at g0 g1 g2
    refine ⟨r, ?_⟩
    simp at g0 g1 g2
    rw [g0, g1, g2]

set_option maxRecDepth 100000 in
set_option maxHeartbeats 400000 in
theorem firstByte_any (s : ByteArray) (w : World) (h0 : 0 < s.size) (hs : s.size ≤ maxLen) :
    Calls Try.prog 21 #[.string s] w fun e w' => e = .returned (.tuple #[.int .u8 (fstV s.data.toList).toNat, .int .i64 (fstW s.data.toList)]) ∧ w = w' := by
  unfold maxLen at hs
  have hby := byte_lt s[0]
  by_cases h3 : 3 ≤ s.size
  · obtain ⟨r, hr⟩ := s_list3 s h3
    have HL := Lib.hid hr
    clear hr
    by_cases hc : s[0].toNat = 37
    · have hc0 : s[0] = 37 := UInt8.toNat_inj.1 hc
      have HC0 := Lib.hid hc0
      have hcI : ((s[0].toNat : Int) == 37) = true := by rw [hc]; rfl
      clear hc hc0
      cases ha : digB s[1]
      · have HA := Lib.hid ha
        have HS : Hid (sig3 (s[0] :: s[1] :: s[2] :: r) = false) := Lib.hid (by simp [digB] at ha; simp [sig3]; intro _ h; omega)
        clear ha
        go_enter Try.func21, Try.ntmps21
        go_wp2_with fail
        refine (digit_any _ _).mono ?_
        rw [HA.out]
        rintro e w1 ⟨rfl, rfl⟩
        go_wp2_with fail
        refine (digit_any _ _).mono ?_
        rintro e w1 ⟨rfl, rfl⟩
        go_wp2
        go_ret2
        exact ⟨ret_fst (by rw [HL.out, fstV_no HS.out]) (by rw [HL.out, fstW, HS.out]; rfl), rfl⟩
      · cases hb : digB s[2]
        · have HA := Lib.hid ha
          have HBb := Lib.hid hb
          have HS : Hid (sig3 (s[0] :: s[1] :: s[2] :: r) = false) := Lib.hid (by simp [digB] at hb; simp [sig3]; intros; omega)
          clear ha hb
          go_enter Try.func21, Try.ntmps21
          go_wp2_with fail
          refine (digit_any _ _).mono ?_
          rw [HA.out]
          rintro e w1 ⟨rfl, rfl⟩
          go_wp2_with fail
          refine (digit_any _ _).mono ?_
          rw [HBb.out]
          rintro e w1 ⟨rfl, rfl⟩
          go_wp2
          go_ret2
          exact ⟨ret_fst (by rw [HL.out, fstV_no HS.out]) (by rw [HL.out, fstW, HS.out]; rfl), rfl⟩
        · have HA := Lib.hid ha
          have HBb := Lib.hid hb
          have ha' := digB_sig ha
          have hb' := digB_sig hb
          have HS : Hid (sig3 (s[0] :: s[1] :: s[2] :: r) = true) := Lib.hid (by rw [HC0.out]; simp [sig3, ha', hb'])
          clear ha hb
          obtain ⟨A, HA1⟩ : ∃ A : Nat, Hid (A = digN s[1]) := ⟨_, Lib.hid rfl⟩
          obtain ⟨B, HB1⟩ : ∃ B : Nat, Hid (B = digN s[2]) := ⟨_, Lib.hid rfl⟩
          have HA2 : Hid (A = hexV s[1]) := Lib.hid (by rw [HA1.out, digN, if_pos ha'])
          have HB2 : Hid (B = hexV s[2]) := Lib.hid (by rw [HB1.out, digN, if_pos hb'])
          have hA16 : A < 16 := by rw [HA2.out]; exact ha'
          have hB16 : B < 16 := by rw [HB2.out]; exact hb'
          have hor := or_hex ⟨A, hA16⟩ ⟨B, hB16⟩
          simp only at hor
          clear ha' hb'
          go_enter Try.func21, Try.ntmps21
          go_wp2_with fail
          refine (digit_any _ _).mono ?_
          rw [HA.out, ← HA1.out]
          rintro e w1 ⟨rfl, rfl⟩
          go_wp2_with fail
          refine (digit_any _ _).mono ?_
          rw [HBb.out, ← HB1.out]
          rintro e w1 ⟨rfl, rfl⟩
          go_wp2
          go_ret2
          refine ⟨ret_fst ?_ (by rw [HL.out, fstW, HS.out]; rfl), rfl⟩
          rw [HL.out]
          simp only [fstV, HS.out, if_true]
          rw [← HA2.out, ← HB2.out]
          simp; omega
    · have hcI : ((s[0].toNat : Int) == 37) = false := beq_eq_false_iff_ne.2 (by omega)
      have HS : Hid (sig3 (s[0] :: s[1] :: s[2] :: r) = false) := Lib.hid (sig3_ne (fun h => hc (by rw [h]; rfl)))
      clear hc
      go_enter Try.func21, Try.ntmps21
      go_wp2
      go_ret2
      exact ⟨ret_fst (by rw [HL.out, fstV_no HS.out]) (by rw [HL.out, fstW, HS.out]; rfl), rfl⟩
  · obtain ⟨r, hr, hrl⟩ := s_list s h0
    have HS : Hid (sig3 (s[0] :: r) = false) := Lib.hid (by
      match r, hrl with
      | [], _ => rfl
      | [_], _ => rfl
      | _ :: _ :: _, hrl => simp at hrl; omega)
    have HL := Lib.hid hr
    clear hr hrl
    by_cases hc : s[0].toNat = 37
    · have hcI : ((s[0].toNat : Int) == 37) = true := by rw [hc]; rfl
      clear hc
      go_enter Try.func21, Try.ntmps21
      go_wp2
      go_ret2
      exact ⟨ret_fst (by rw [HL.out, fstV_no HS.out]) (by rw [HL.out, fstW, HS.out]; rfl), rfl⟩
    · have hcI : ((s[0].toNat : Int) == 37) = false := beq_eq_false_iff_ne.2 (by omega)
      clear hc
      go_enter Try.func21, Try.ntmps21
      go_wp2
      go_ret2
      exact ⟨ret_fst (by rw [HL.out, fstV_no HS.out]) (by rw [HL.out, fstW, HS.out]; rfl), rfl⟩

end Go.Proofs.Ytamcdpgjgpohpaa
