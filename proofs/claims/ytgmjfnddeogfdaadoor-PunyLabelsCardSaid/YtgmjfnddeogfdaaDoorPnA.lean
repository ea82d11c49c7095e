/-
  Contracts: the bound of a digit, a byte's digit, the next bias, a number that bytes tell.
-/
import Derived.Test.YtgmjfnddeogfdaaDoorRows
import Derived.Test.YtgmjfnddeogfdaaDoorPnM
import Derived.WalkSpells
import Derived.WalkLawsBesides
import Derived.Deep.QuietTactic
import Derived.BigQuiet
namespace Go.Proofs.YtgmjfnddeogfdaaDoor
open Go.RowKit

theorem retp {k : IntKind} {a b : Int} {c : Bool} (h : a = b) : Ending.returned (.tuple #[.int k a, .bool c]) = .returned (.tuple #[.int k b, .bool c]) := by rw [h]

set_option maxHeartbeats 400000 in
theorem step_any (k b : Nat) (w : World) (hk : k ≤ 4611686018427387904) (hb : b ≤ 4611686018427387904) :
    Calls Tryd.prog 54 #[.int .i64 k, .int .i64 b] w fun e w' => e = .returned (.int .i64 (stepN k b)) ∧ w = w' := by
  by_cases h1 : (k : Int) - b < 1
  all_goals
    by_cases h2 : (k : Int) - b ≤ 26
    all_goals
      go_enter Tryd.func54, Tryd.ntmps54
      go_wp2
      all_goals
        go_ret
        exact ⟨ret_int (by unfold stepN; omega), rfl⟩

def digT : Option Nat → Value
  | none => .tuple #[.int .i64 0, .bool false]
  | some d => .tuple #[.int .i64 d, .bool true]

set_option maxHeartbeats 400000 in
theorem digitOf_any (c : UInt8) (w : World) :
    Calls Tryd.prog 60 #[.int .u8 c.toNat] w fun e w' => e = .returned (digT (digV c)) ∧ w = w' := by
  obtain ⟨n, hn⟩ : ∃ n, n = c.toNat := ⟨_, rfl⟩
  have hlt : n < 256 := by rw [hn]; exact c.toNat_lt
  have H : Hid (∀ o, (if 97 ≤ n ∧ n ≤ 122 then some (n - 97) else if 65 ≤ n ∧ n ≤ 90 then some (n - 65) else if 48 ≤ n ∧ n ≤ 57 then some (n - 48 + 26) else none) = o → digT (digV c) = digT o) := Lib.hid (fun o h => by rw [← h, hn]; rfl)
  rw [← hn]
  clear hn
  by_cases h1 : n < 48
  · go_enter Tryd.func60, Tryd.ntmps60
    go_wp2
    go_ret2
    exact ⟨by rw [H.out none (by rw [if_neg (by omega), if_neg (by omega), if_neg (by omega)])]; rfl, rfl⟩
  · by_cases h2 : n ≤ 57
    · go_enter Tryd.func60, Tryd.ntmps60
      go_wp2
      go_ret2
      exact ⟨by rw [H.out (some (n - 48 + 26)) (by rw [if_neg (by omega), if_neg (by omega), if_pos (by omega)])]; exact retp (by omega), rfl⟩
    · by_cases h3 : n < 65
      · go_enter Tryd.func60, Tryd.ntmps60
        go_wp2
        go_ret2
        exact ⟨by rw [H.out none (by rw [if_neg (by omega), if_neg (by omega), if_neg (by omega)])]; rfl, rfl⟩
      · by_cases h4 : n ≤ 90
        · go_enter Tryd.func60, Tryd.ntmps60
          go_wp2
          go_ret2
          exact ⟨by rw [H.out (some (n - 65)) (by rw [if_neg (by omega), if_pos (by omega)])]; exact retp (by omega), rfl⟩
        · by_cases h5 : n < 97
          · go_enter Tryd.func60, Tryd.ntmps60
            go_wp2
            go_ret2
            exact ⟨by rw [H.out none (by rw [if_neg (by omega), if_neg (by omega), if_neg (by omega)])]; rfl, rfl⟩
          · by_cases h6 : n ≤ 122
            · go_enter Tryd.func60, Tryd.ntmps60
              go_wp2
              go_ret2
              exact ⟨by rw [H.out (some (n - 97)) (by rw [if_pos (by omega)])]; exact retp (by omega), rfl⟩
            · go_enter Tryd.func60, Tryd.ntmps60
              go_wp2
              go_ret2
              exact ⟨by rw [H.out none (by rw [if_neg (by omega), if_neg (by omega), if_neg (by omega)])]; rfl, rfl⟩

set_option maxHeartbeats 400000 in
theorem nextBias_any (n signs : Nat) (first : Bool) (w : World) (hn : n ≤ 1152921504606846976) (h0 : 0 < signs) (hs : signs ≤ 4611686018427387904) :
    Calls Tryd.prog 38 #[.int .i64 n, .int .i64 signs, .bool first] w fun e w' => e = .returned (.int .i64 (nb n signs first)) ∧ w = w' := by
  have hsne : (signs : Int) ≠ 0 := by omega
  cases first
  · obtain ⟨T, HT⟩ : ∃ T, Hid (biasL 20 (halve n signs false) 0 = T) := ⟨_, Lib.hid rfl⟩
    have HG : Hid (nb n signs false = T) := Lib.hid HT.out
    rw [HG.out]
    have hq : n / 2 / signs ≤ n / 2 := Nat.div_le_self _ _
    have HS : Hid (wrap64 ((n : Int) / 2 + (n : Int) / 2 / signs) = ((halve n signs false : Nat) : Int)) := Lib.hid (by
      rw [show halve n signs false = n / 2 + n / 2 / signs from rfl]
      have e : (n : Int) / 2 / signs = ((n / 2 / signs : Nat) : Int) := by simp
      rw [e]
      generalize n / 2 / signs = q at hq ⊢
      rw [wr64 _ (by omega) (by omega)]; simp)
    have hh := halve_le n signs false
    go_enter Tryd.func38, Tryd.ntmps38
    go_wp2
    rw [HS.out]
    generalize halve n signs false = H at *
    go_loop [0, 7] (fun v k => ∃ f m j : Nat, f ≤ 20 ∧ v = .int .i64 m ∧ k = .int .i64 j ∧ biasL f m j = T ∧ m < 456 * 35 ^ f ∧ m ≤ 1152921504606846976 ∧ j ≤ 36 * (20 - f)) (fun v _ => (intOf v).toNat)
    case atStart => exact ⟨20, H, 0, Nat.le_refl _, rfl, rfl, HT.out, by omega, by omega, by omega⟩
    case round =>
      obtain ⟨f, m, j, hf, rfl, rfl, hT, hm, hm2, hj⟩ := hrel
      have HT2 := Lib.hid hT; clear hT
      by_cases hbig : 455 < m
      · cases f with
        | zero => simp at hm; omega
        | succ f =>
          have HM : Hid (m / 35 < 456 * 35 ^ f) := Lib.hid (by rw [Nat.pow_succ] at hm; omega)
          clear hm
          go_wp2
          go_round
          case rel => exact ⟨f, m / 35, j + 36, by omega, by go_num, by go_num, by rw [← biasL_step f m j hbig]; exact HT2.out, HM.out, by omega, by omega⟩
          case measure => simp [intOf]; omega
      · clear hm
        have hE := biasL_end f m j (by omega)
        have hB := biasE_le m
        have hqi : ((36 * m / (m + 38) : Nat) : Int) = 36 * (m : Int) / ((m : Int) + 38) := by simp
        obtain ⟨Q, HQ⟩ : ∃ Q, Hid (Q = 36 * m / (m + 38)) := ⟨_, Lib.hid rfl⟩
        rw [← HQ.out] at hB hqi hE
        have HE := Lib.hid (hE.symm.trans HT2.out)
        have HQI := Lib.hid hqi
        clear hE hqi
        go_wp2
        go_ret
        exact ⟨ret_int (by rw [← HQI.out, ← HE.out, wr64 _ (by omega) (by omega)]; omega), rfl⟩
  · obtain ⟨T, HT⟩ : ∃ T, Hid (biasL 20 (halve n signs true) 0 = T) := ⟨_, Lib.hid rfl⟩
    have HG : Hid (nb n signs true = T) := Lib.hid HT.out
    rw [HG.out]
    have hq : n / 700 / signs ≤ n / 700 := Nat.div_le_self _ _
    have HS : Hid (wrap64 ((n : Int) / 700 + (n : Int) / 700 / signs) = ((halve n signs true : Nat) : Int)) := Lib.hid (by
      rw [show halve n signs true = n / 700 + n / 700 / signs from rfl]
      have e : (n : Int) / 700 / signs = ((n / 700 / signs : Nat) : Int) := by simp
      rw [e]
      generalize n / 700 / signs = q at hq ⊢
      rw [wr64 _ (by omega) (by omega)]; simp)
    have hh := halve_le n signs true
    go_enter Tryd.func38, Tryd.ntmps38
    go_wp2
    rw [HS.out]
    generalize halve n signs true = H at *
    go_loop [0, 7] (fun v k => ∃ f m j : Nat, f ≤ 20 ∧ v = .int .i64 m ∧ k = .int .i64 j ∧ biasL f m j = T ∧ m < 456 * 35 ^ f ∧ m ≤ 1152921504606846976 ∧ j ≤ 36 * (20 - f)) (fun v _ => (intOf v).toNat)
    case atStart => exact ⟨20, H, 0, Nat.le_refl _, rfl, rfl, HT.out, by omega, by omega, by omega⟩
    case round =>
      obtain ⟨f, m, j, hf, rfl, rfl, hT, hm, hm2, hj⟩ := hrel
      have HT2 := Lib.hid hT; clear hT
      by_cases hbig : 455 < m
      · cases f with
        | zero => simp at hm; omega
        | succ f =>
          have HM : Hid (m / 35 < 456 * 35 ^ f) := Lib.hid (by rw [Nat.pow_succ] at hm; omega)
          clear hm
          go_wp2
          go_round
          case rel => exact ⟨f, m / 35, j + 36, by omega, by go_num, by go_num, by rw [← biasL_step f m j hbig]; exact HT2.out, HM.out, by omega, by omega⟩
          case measure => simp [intOf]; omega
      · clear hm
        have hE := biasL_end f m j (by omega)
        have hB := biasE_le m
        have hqi : ((36 * m / (m + 38) : Nat) : Int) = 36 * (m : Int) / ((m : Int) + 38) := by simp
        obtain ⟨Q, HQ⟩ : ∃ Q, Hid (Q = 36 * m / (m + 38)) := ⟨_, Lib.hid rfl⟩
        rw [← HQ.out] at hB hqi hE
        have HE := Lib.hid (hE.symm.trans HT2.out)
        have HQI := Lib.hid hqi
        clear hE hqi
        go_wp2
        go_ret
        exact ⟨ret_int (by rw [← HQI.out, ← HE.out, wr64 _ (by omega) (by omega)]; omega), rfl⟩


def rdT : Option (Nat × Nat) → Value
  | none => .tuple #[.int .i64 0, .int .i64 0, .bool false]
  | some (n, m) => .tuple #[.int .i64 n, .int .i64 m, .bool true]
theorem retr {a b c d : Int} (h : a = b) (h' : c = d) : Ending.returned (.tuple #[.int .i64 a, .int .i64 c, .bool true]) = .returned (.tuple #[.int .i64 b, .int .i64 d, .bool true]) := by rw [h, h']

set_option maxHeartbeats 1000000 in
theorem readNumber_any (s : ByteArray) (bias : Nat) (w : World) (hs : s.size ≤ 1152921504606846976 / 36) (hb : bias ≤ 756) :
    Calls Tryd.prog 46 #[.string s, .int .i64 bias] w fun e w' => e = .returned (rdT (rdN bias s.data.toList 0 1 0)) ∧ w = w' := by
  obtain ⟨T, HT⟩ : ∃ T, Hid (rdN bias s.data.toList 0 1 0 = T) := ⟨_, Lib.hid rfl⟩
  rw [HT.out]
  go_enter Tryd.func46, Tryd.ntmps46
  go_wp2
  go_loop [4, 7, 8, 9, 10, 11, 14] (fun n wt _ _ _ _ i => ∃ k W A : Nat, k ≤ s.size ∧ i = .int .i64 k ∧ n = .int .i64 A ∧ wt = .int .i64 W ∧ rdN bias (s.data.toList.drop k) k W A = T ∧ A ≤ 2147483647 ∧ W ≤ 75161927680) (fun _ _ _ _ _ _ i => s.size - (intOf i).toNat)
  case atStart => exact ⟨0, 1, 0, Nat.zero_le _, rfl, rfl, rfl, HT.out, by omega, by omega⟩
  case round =>
    obtain ⟨k, W, A, hk, rfl, rfl, rfl, hT, hA, hW⟩ := hrel
    have HT2 := Lib.hid hT; clear hT
    by_cases hlt : k < s.size
    · have HD := Lib.hid (drop_at s k hlt)
      cases hd : digV s[k] with
      | none =>
        have HN : Hid (T = none) := Lib.hid (by rw [← HT2.out, HD.out, rdN_none _ _ _ _ _ _ hd])
        have HDg := Lib.hid hd
        clear hd
        go_wp2_with (go_at_call 60; refine (digitOf_any _ _).mono ?_; rw [HDg.out]; rintro e w' ⟨rfl, rfl⟩; dsimp only [digT])
        go_ret3
        exact ⟨by rw [HN.out]; rfl, rfl⟩
      | some d =>
        have hdl := digV_lt hd
        have HDg := Lib.hid hd
        clear hd
        have hm : d * W ≤ 35 * 75161927680 := Nat.mul_le_mul (by omega) hW
        have hmi : ((d * W : Nat) : Int) = (d : Int) * (W : Int) := by simp
        have hm1 : 0 ≤ (d : Int) * (W : Int) := by omega
        have hm2 : (d : Int) * (W : Int) ≤ 2630667468800 := by omega
        by_cases hbig : 2147483647 < (A : Int) + (d : Int) * (W : Int)
        · have HN : Hid (T = none) := Lib.hid (by rw [← HT2.out, HD.out, rdN_big _ _ _ _ _ _ _ HDg.out (by omega)])
          clear hmi hm
          go_wp2_with (go_at_call 60; refine (digitOf_any _ _).mono ?_; rw [HDg.out]; rintro e w' ⟨rfl, rfl⟩; dsimp only [digT])
          go_ret3
          exact ⟨by rw [HN.out]; rfl, rfl⟩
        · obtain ⟨ht1, ht2⟩ := stepN_bd (36 * (k + 1)) bias
          have HE := Lib.hid (rdN_end bias s[k] (s.data.toList.drop (k + 1)) k W A d HDg.out (by omega))
          have HO := Lib.hid (rdN_on bias s[k] (s.data.toList.drop (k + 1)) k W A d HDg.out (by omega))
          have hk36 : ((36 * (k + 1) : Nat) : Int) = 36 * ((k : Int) + 1) := by omega
          have HSt : Hid (∀ w, Calls Tryd.prog 54 #[.int .i64 (36 * ((k : Int) + 1)), .int .i64 bias] w fun e w' => e = .returned (.int .i64 (stepN (36 * (k + 1)) bias)) ∧ w = w') := Lib.hid (fun w => by
            rw [← hk36]; exact step_any _ _ _ (by omega) (by omega))
          obtain ⟨t, Ht⟩ : ∃ t, Hid (t = stepN (36 * (k + 1)) bias) := ⟨_, Lib.hid rfl⟩
          rw [← Ht.out] at ht1 ht2 HE HO HSt
          have HMI := Lib.hid hmi
          clear hmi hm hk36
          by_cases hdt : d < t
          · go_wp2_with (first | (go_at_call 60; refine (digitOf_any _ _).mono ?_; rw [HDg.out]; rintro e w' ⟨rfl, rfl⟩; dsimp only [digT]) | (go_at_call 54; refine (HSt.out _).mono ?_; rintro e w' ⟨rfl, rfl⟩))
            go_ret3
            refine ⟨?_, rfl⟩
            rw [← HT2.out, HD.out, HE.out hdt]
            exact retr (by rw [← HMI.out]; simp) (by simp)
          · have hW1 : W ≤ d * W := Nat.le_mul_of_pos_left W (by omega)
            have hW2 : W ≤ 2147483647 := by have := HMI.out; omega
            have hp : W * (36 - t) ≤ 2147483647 * 35 := Nat.mul_le_mul hW2 (by omega)
            have hpi : ((W * (36 - t) : Nat) : Int) = (W : Int) * (36 - (t : Int)) := by rw [Int.natCast_mul, Int.natCast_sub (by omega)]; rfl
            have hp1 : 0 ≤ (W : Int) * (36 - (t : Int)) := by omega
            have hp2 : (W : Int) * (36 - (t : Int)) ≤ 75161927680 := by omega
            have HPI := Lib.hid hpi
            have HP := Lib.hid hp
            clear hpi hp hW1
            go_wp2_with (first | (go_at_call 60; refine (digitOf_any _ _).mono ?_; rw [HDg.out]; rintro e w' ⟨rfl, rfl⟩; dsimp only [digT]) | (go_at_call 54; refine (HSt.out _).mono ?_; rintro e w' ⟨rfl, rfl⟩))
            go_round
            case rel => exact ⟨k + 1, W * (36 - t), A + d * W, by omega, by go_num, by rw [Int.natCast_add, HMI.out], by rw [HPI.out], by rw [← HO.out hdt, ← HD.out]; exact HT2.out, by have := HMI.out; omega, by have := HP.out; omega⟩
            case measure => simp [intOf]; omega
    · have HN : Hid (T = none) := Lib.hid (by rw [← HT2.out, List.drop_of_length_le (by simp; omega)]; rfl)
      go_wp2
      go_ret3
      exact ⟨by rw [HN.out]; rfl, rfl⟩

end Go.Proofs.YtgmjfnddeogfdaaDoor
