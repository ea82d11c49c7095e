/-
  Contracts: the bound of a digit, a byte's digit, the next bias, a number that bytes tell.
  Contract: slices.Insert of one rune into a row of runes, at whatever place: the row with that rune there.
  Contracts: whether all bytes are plain; the place of the last border; a text's plain signs and its digits.
-/
import Derived.Test.YtcphokaamkalfaaGreatDoorRows
import Derived.Test.YtcphokaamkalfaaGreatDoorMpA
import Derived.WalkSpells
import Derived.WalkLawsBesides
import Derived.Deep.QuietTactic
import Derived.BigQuiet
import Derived.Shelf.Spec.SlicesInsertGrow
import Derived.ArgAppend
import Derived.Deep.AppendLies
import Derived.OneCell
import Derived.RegionTactic
import Derived.Laws.IdiomStrings
import Derived.Laws.RangeAny
import Derived.Lib.DecodeN
namespace Go.Proofs.YtcphokaamkalfaaGreatDoor
open Go.RowKit

theorem retp {k : IntKind} {a b : Int} {c : Bool} (h : a = b) : Ending.returned (.tuple #[.int k a, .bool c]) = .returned (.tuple #[.int k b, .bool c]) := by rw [h]

set_option maxHeartbeats 400000 in
theorem step_any (k b : Nat) (w : World) (hk : k ≤ 4611686018427387904) (hb : b ≤ 4611686018427387904) :
  Calls Tryz.prog 186 #[.int .i64 k, .int .i64 b] w fun e w' => e = .returned (.int .i64 (stepN k b)) ∧ w = w' := by
 by_cases h1 : (k : Int) - b < 1
 all_goals
  by_cases h2 : (k : Int) - b ≤ 26
  all_goals
   go_enter Tryz.func186, Tryz.ntmps186
   go_wp2
   all_goals
    go_ret
    exact ⟨ret_int (by unfold stepN; omega), rfl⟩

def digT : Option Nat → Value
 | none => .tuple #[.int .i64 0, .bool false]
 | some d => .tuple #[.int .i64 d, .bool true]

set_option maxHeartbeats 400000 in
theorem digitOf_any (c : UInt8) (w : World) :
  Calls Tryz.prog 198 #[.int .u8 c.toNat] w fun e w' => e = .returned (digT (digV c)) ∧ w = w' := by
 obtain ⟨n, hn⟩ : ∃ n, n = c.toNat := ⟨_, rfl⟩
 have hlt : n < 256 := by rw [hn]; exact c.toNat_lt
 have H : Hid (∀ o, (if 97 ≤ n ∧ n ≤ 122 then some (n - 97) else if 65 ≤ n ∧ n ≤ 90 then some (n - 65) else if 48 ≤ n ∧ n ≤ 57 then some (n - 48 + 26) else none) = o → digT (digV c) = digT o) := Lib.hid (fun o h => by rw [← h, hn]; rfl)
 rw [← hn]
 clear hn
 by_cases h1 : n < 48
 ·go_enter Tryz.func198, Tryz.ntmps198
  go_wp2
  go_ret2
  exact ⟨by rw [H.out none (by rw [if_neg (by omega), if_neg (by omega), if_neg (by omega)])]; rfl, rfl⟩
 ·by_cases h2 : n ≤ 57
  ·go_enter Tryz.func198, Tryz.ntmps198
   go_wp2
   go_ret2
   exact ⟨by rw [H.out (some (n - 48 + 26)) (by rw [if_neg (by omega), if_neg (by omega), if_pos (by omega)])]; exact retp (by omega), rfl⟩
  ·by_cases h3 : n < 65
   ·go_enter Tryz.func198, Tryz.ntmps198
    go_wp2
    go_ret2
    exact ⟨by rw [H.out none (by rw [if_neg (by omega), if_neg (by omega), if_neg (by omega)])]; rfl, rfl⟩
   ·by_cases h4 : n ≤ 90
    ·go_enter Tryz.func198, Tryz.ntmps198
     go_wp2
     go_ret2
     exact ⟨by rw [H.out (some (n - 65)) (by rw [if_neg (by omega), if_pos (by omega)])]; exact retp (by omega), rfl⟩
    ·by_cases h5 : n < 97
     ·go_enter Tryz.func198, Tryz.ntmps198
      go_wp2
      go_ret2
      exact ⟨by rw [H.out none (by rw [if_neg (by omega), if_neg (by omega), if_neg (by omega)])]; rfl, rfl⟩
     ·by_cases h6 : n ≤ 122
      ·go_enter Tryz.func198, Tryz.ntmps198
       go_wp2
       go_ret2
       exact ⟨by rw [H.out (some (n - 97)) (by rw [if_pos (by omega)])]; exact retp (by omega), rfl⟩
      ·go_enter Tryz.func198, Tryz.ntmps198
       go_wp2
       go_ret2
       exact ⟨by rw [H.out none (by rw [if_neg (by omega), if_neg (by omega), if_neg (by omega)])]; rfl, rfl⟩

set_option maxHeartbeats 400000 in
theorem nextBias_any (n signs : Nat) (first : Bool) (w : World) (hn : n ≤ 1152921504606846976) (h0 : 0 < signs) (hs : signs ≤ 4611686018427387904) :
  Calls Tryz.prog 170 #[.int .i64 n, .int .i64 signs, .bool first] w fun e w' => e = .returned (.int .i64 (nb n signs first)) ∧ w = w' := by
 have hsne : (signs : Int) ≠ 0 := by omega
 cases first
 ·obtain ⟨T, HT⟩ : ∃ T, Hid (biasL 20 (halve n signs false) 0 = T) := ⟨_, Lib.hid rfl⟩
  have HG : Hid (nb n signs false = T) := Lib.hid HT.out
  rw [HG.out]
  have hq : n / 2 / signs ≤ n / 2 := Nat.div_le_self _ _
  have HS : Hid (wrap64 ((n : Int) / 2 + (n : Int) / 2 / signs) = ((halve n signs false : Nat) : Int)) := Lib.hid (by
   rw [show halve n signs false = n / 2 + n / 2 / signs from rfl]
   have e : (n : Int) / 2 / signs = ((n / 2 / signs : Nat) : Int) := by simp
   rw [e]
   generalize n / 2 / signs = q at hq ⊢
   rw [wr64 _ (by omega) (by omega)]; simp)
  have hh := halve_le n signs false
  go_enter Tryz.func170, Tryz.ntmps170
  go_wp2
  rw [HS.out]
  generalize halve n signs false = H at *
  go_loop [0, 7] (fun v k => ∃ f m j : Nat, f ≤ 20 ∧ v = .int .i64 m ∧ k = .int .i64 j ∧ biasL f m j = T ∧ m < 456 * 35 ^ f ∧ m ≤ 1152921504606846976 ∧ j ≤ 36 * (20 - f)) (fun v _ => (intOf v).toNat)
  case atStart => exact ⟨20, H, 0, Nat.le_refl _, rfl, rfl, HT.out, by omega, by omega, by omega⟩
  case round =>
   obtain ⟨f, m, j, hf, rfl, rfl, hT, hm, hm2, hj⟩ := hrel
   have HT2 := Lib.hid hT; clear hT
   by_cases hbig : 455 < m
   ·cases f with
    | zero => simp at hm; omega
    | succ f =>
     have HM : Hid (m / 35 < 456 * 35 ^ f) := Lib.hid (by rw [Nat.pow_succ] at hm; omega)
     clear hm
     go_wp2
     go_round
     case rel => exact ⟨f, m / 35, j + 36, by omega, by go_num, by go_num, by rw [← biasL_step f m j hbig]; exact HT2.out, HM.out, by omega, by omega⟩
     case measure => simp [intOf]; omega
   ·clear hm
    have hE := biasL_end f m j (by omega)
    have hB := biasE_le m
    have hqi : ((36 * m / (m + 38) : Nat) : Int) = 36 * (m : Int) / ((m : Int) + 38) := by simp
    obtain ⟨Q, HQ⟩ : ∃ Q, Hid (Q = 36 * m / (m + 38)) := ⟨_, Lib.hid rfl⟩
    rw [← HQ.out] at hB hqi hE
    have HE := Lib.hid (hE.symm.trans HT2.out)
    have HQI := Lib.hid hqi
    clear hE hqi
    go_wp2
    go_ret
    exact ⟨ret_int (by rw [← HQI.out, ← HE.out, wr64 _ (by omega) (by omega)]; omega), rfl⟩
 ·obtain ⟨T, HT⟩ : ∃ T, Hid (biasL 20 (halve n signs true) 0 = T) := ⟨_, Lib.hid rfl⟩
  have HG : Hid (nb n signs true = T) := Lib.hid HT.out
  rw [HG.out]
  have hq : n / 700 / signs ≤ n / 700 := Nat.div_le_self _ _
  have HS : Hid (wrap64 ((n : Int) / 700 + (n : Int) / 700 / signs) = ((halve n signs true : Nat) : Int)) := Lib.hid (by
   rw [show halve n signs true = n / 700 + n / 700 / signs from rfl]
   have e : (n : Int) / 700 / signs = ((n / 700 / signs : Nat) : Int) := by simp
   rw [e]
   generalize n / 700 / signs = q at hq ⊢
   rw [wr64 _ (by omega) (by omega)]; simp)
  have hh := halve_le n signs true
  go_enter Tryz.func170, Tryz.ntmps170
  go_wp2
  rw [HS.out]
  generalize halve n signs true = H at *
  go_loop [0, 7] (fun v k => ∃ f m j : Nat, f ≤ 20 ∧ v = .int .i64 m ∧ k = .int .i64 j ∧ biasL f m j = T ∧ m < 456 * 35 ^ f ∧ m ≤ 1152921504606846976 ∧ j ≤ 36 * (20 - f)) (fun v _ => (intOf v).toNat)
  case atStart => exact ⟨20, H, 0, Nat.le_refl _, rfl, rfl, HT.out, by omega, by omega, by omega⟩
  case round =>
   obtain ⟨f, m, j, hf, rfl, rfl, hT, hm, hm2, hj⟩ := hrel
   have HT2 := Lib.hid hT; clear hT
   by_cases hbig : 455 < m
   ·cases f with
    | zero => simp at hm; omega
    | succ f =>
     have HM : Hid (m / 35 < 456 * 35 ^ f) := Lib.hid (by rw [Nat.pow_succ] at hm; omega)
     clear hm
     go_wp2
     go_round
     case rel => exact ⟨f, m / 35, j + 36, by omega, by go_num, by go_num, by rw [← biasL_step f m j hbig]; exact HT2.out, HM.out, by omega, by omega⟩
     case measure => simp [intOf]; omega
   ·clear hm
    have hE := biasL_end f m j (by omega)
    have hB := biasE_le m
    have hqi : ((36 * m / (m + 38) : Nat) : Int) = 36 * (m : Int) / ((m : Int) + 38) := by simp
    obtain ⟨Q, HQ⟩ : ∃ Q, Hid (Q = 36 * m / (m + 38)) := ⟨_, Lib.hid rfl⟩
    rw [← HQ.out] at hB hqi hE
    have HE := Lib.hid (hE.symm.trans HT2.out)
    have HQI := Lib.hid hqi
    clear hE hqi
    go_wp2
    go_ret
    exact ⟨ret_int (by rw [← HQI.out, ← HE.out, wr64 _ (by omega) (by omega)]; omega), rfl⟩


def rdT : Option (Nat × Nat) → Value
 | none => .tuple #[.int .i64 0, .int .i64 0, .bool false]
 | some (n, m) => .tuple #[.int .i64 n, .int .i64 m, .bool true]
theorem retr {a b c d : Int} (h : a = b) (h' : c = d) : Ending.returned (.tuple #[.int .i64 a, .int .i64 c, .bool true]) = .returned (.tuple #[.int .i64 b, .int .i64 d, .bool true]) := by rw [h, h']

set_option maxHeartbeats 1000000 in
theorem readNumber_any (s : ByteArray) (bias : Nat) (w : World) (hs : s.size ≤ 1152921504606846976 / 36) (hb : bias ≤ 756) :
  Calls Tryz.prog 194 #[.string s, .int .i64 bias] w fun e w' => e = .returned (rdT (rdN bias s.data.toList 0 1 0)) ∧ w = w' := by
 obtain ⟨T, HT⟩ : ∃ T, Hid (rdN bias s.data.toList 0 1 0 = T) := ⟨_, Lib.hid rfl⟩
 rw [HT.out]
 go_enter Tryz.func194, Tryz.ntmps194
 go_wp2
 go_loop [4, 7, 8, 9, 10, 11, 14] (fun n wt _ _ _ _ i => ∃ k W A : Nat, k ≤ s.size ∧ i = .int .i64 k ∧ n = .int .i64 A ∧ wt = .int .i64 W ∧ rdN bias (s.data.toList.drop k) k W A = T ∧ A ≤ 2147483647 ∧ W ≤ 75161927680) (fun _ _ _ _ _ _ i => s.size - (intOf i).toNat)
 case atStart => exact ⟨0, 1, 0, Nat.zero_le _, rfl, rfl, rfl, HT.out, by omega, by omega⟩
 case round =>
  obtain ⟨k, W, A, hk, rfl, rfl, rfl, hT, hA, hW⟩ := hrel
  have HT2 := Lib.hid hT; clear hT
  by_cases hlt : k < s.size
  ·have HD := Lib.hid (drop_at s k hlt)
   cases hd : digV s[k] with
   | none =>
    have HN : Hid (T = none) := Lib.hid (by rw [← HT2.out, HD.out, rdN_none _ _ _ _ _ _ hd])
    have HDg := Lib.hid hd
    clear hd
    go_wp2_with (go_at_call 198; refine (digitOf_any _ _).mono ?_; rw [HDg.out]; rintro e w' ⟨rfl, rfl⟩; dsimp only [digT])
    go_ret3
    exact ⟨by rw [HN.out]; rfl, rfl⟩
   | some d =>
    have hdl := digV_lt hd
    have HDg := Lib.hid hd
    clear hd
    have hm : d * W ≤ 35 * 75161927680 := Nat.mul_le_mul (by omega) hW
    have hmi : ((d * W : Nat) : Int) = (d : Int) * (W : Int) := by simp
    have hm1 : 0 ≤ (d : Int) * (W : Int) := by omega
    have hm2 : (d : Int) * (W : Int) ≤ 2630667468800 := by omega
    by_cases hbig : 2147483647 < (A : Int) + (d : Int) * (W : Int)
    ·have HN : Hid (T = none) := Lib.hid (by rw [← HT2.out, HD.out, rdN_big _ _ _ _ _ _ _ HDg.out (by omega)])
     clear hmi hm
     go_wp2_with (go_at_call 198; refine (digitOf_any _ _).mono ?_; rw [HDg.out]; rintro e w' ⟨rfl, rfl⟩; dsimp only [digT])
     go_ret3
     exact ⟨by rw [HN.out]; rfl, rfl⟩
    ·obtain ⟨ht1, ht2⟩ := stepN_bd (36 * (k + 1)) bias
     have HE := Lib.hid (rdN_end bias s[k] (s.data.toList.drop (k + 1)) k W A d HDg.out (by omega))
     have HO := Lib.hid (rdN_on bias s[k] (s.data.toList.drop (k + 1)) k W A d HDg.out (by omega))
     have hk36 : ((36 * (k + 1) : Nat) : Int) = 36 * ((k : Int) + 1) := by omega
     have HSt : Hid (∀ w, Calls Tryz.prog 186 #[.int .i64 (36 * ((k : Int) + 1)), .int .i64 bias] w fun e w' => e = .returned (.int .i64 (stepN (36 * (k + 1)) bias)) ∧ w = w') := Lib.hid (fun w => by
      rw [← hk36]; exact step_any _ _ _ (by omega) (by omega))
     obtain ⟨t, Ht⟩ : ∃ t, Hid (t = stepN (36 * (k + 1)) bias) := ⟨_, Lib.hid rfl⟩
     rw [← Ht.out] at ht1 ht2 HE HO HSt
     have HMI := Lib.hid hmi
     clear hmi hm hk36
     by_cases hdt : d < t
     ·go_wp2_with (first | (go_at_call 198; refine (digitOf_any _ _).mono ?_; rw [HDg.out]; rintro e w' ⟨rfl, rfl⟩; dsimp only [digT]) | (go_at_call 186; refine (HSt.out _).mono ?_; rintro e w' ⟨rfl, rfl⟩))
      go_ret3
      refine ⟨?_, rfl⟩
      rw [← HT2.out, HD.out, HE.out hdt]
      exact retr (by rw [← HMI.out]; simp) (by simp)
     ·have hW1 : W ≤ d * W := Nat.le_mul_of_pos_left W (by omega)
      have hW2 : W ≤ 2147483647 := by have := HMI.out; omega
      have hp : W * (36 - t) ≤ 2147483647 * 35 := Nat.mul_le_mul hW2 (by omega)
      have hpi : ((W * (36 - t) : Nat) : Int) = (W : Int) * (36 - (t : Int)) := by rw [Int.natCast_mul, Int.natCast_sub (by omega)]; rfl
      have hp1 : 0 ≤ (W : Int) * (36 - (t : Int)) := by omega
      have hp2 : (W : Int) * (36 - (t : Int)) ≤ 75161927680 := by omega
      have HPI := Lib.hid hpi
      have HP := Lib.hid hp
      clear hpi hp hW1
      go_wp2_with (first | (go_at_call 198; refine (digitOf_any _ _).mono ?_; rw [HDg.out]; rintro e w' ⟨rfl, rfl⟩; dsimp only [digT]) | (go_at_call 186; refine (HSt.out _).mono ?_; rintro e w' ⟨rfl, rfl⟩))
      go_round
      case rel => exact ⟨k + 1, W * (36 - t), A + d * W, by omega, by go_num, by rw [Int.natCast_add, HMI.out], by rw [HPI.out], by rw [← HO.out hdt, ← HD.out]; exact HT2.out, by have := HMI.out; omega, by have := HP.out; omega⟩
      case measure => simp [intOf]; omega
  ·have HN : Hid (T = none) := Lib.hid (by rw [← HT2.out, List.drop_of_length_le (by simp; omega)]; rfl)
   go_wp2
   go_ret3
   exact ⟨by rw [HN.out]; rfl, rfl⟩

end Go.Proofs.YtcphokaamkalfaaGreatDoor
namespace Go.Proofs.YtcphokaamkalfaaGreatDoor
open Go.RowKit

theorem infoR : (Tryz.prog.info? 21).map (fun i => (i.zero, i.size, i.bytes)) = some (some (.int .i32 0), 1, 4) := by kernel_rfl
theorem sizeR : (Tryz.prog.info? 21).map (·.size) = some 1 := by kernel_rfl
theorem sizeOfR (w : World) : (Go.sizeOf 21).run Tryz.prog w = .ok 1 w := by
 obtain ⟨i0, hi, hz0, hz1, hz2⟩ := info_parts infoR
 simp [Go.sizeOf, typeInfo, hi, hz1]

/-- A row with cells written over. -/
def over (l : List Value) (o : Nat) (vs : List Value) : List Value := l.take o ++ vs ++ l.drop (o + vs.length)
theorem over_nil (l : List Value) (o : Nat) : over l o [] = l := by simp [over]
theorem over_length (l : List Value) (o : Nat) (vs : List Value) (h : o + vs.length ≤ l.length) : (over l o vs).length = l.length := by simp [over]; omega
theorem over_cons (l : List Value) (o : Nat) (v : Value) (vs : List Value) (h : o + vs.length + 1 ≤ l.length) : over (l.set o v) (o + 1) vs = over l o (v :: vs) := by
 have hA : (l.take o).length = o := by simp; omega
 have hs : l.set o v = l.take o ++ v :: l.drop (o + 1) := by rw [List.set_eq_take_append_cons_drop, if_pos (by omega)]
 have h1 : (l.take o ++ v :: l.drop (o + 1)).take (o + 1) = l.take o ++ [v] := by
  rw [List.take_append, List.take_of_length_le (by omega), hA, show o + 1 - o = 1 by omega]; rfl
 have h2 : (l.take o ++ v :: l.drop (o + 1)).drop (o + 1 + vs.length) = l.drop (o + (v :: vs).length) := by
  rw [List.drop_append, List.drop_of_length_le (by omega), hA, show o + 1 + vs.length - o = vs.length + 1 by omega, List.nil_append, List.drop_succ_cons, List.drop_drop]
  congr 1; simp; omega
 rw [over, over, hs, h1, h2]; simp

theorem heap_setCells (g : Nat) (e : TypeId) : ∀ (vs : List Value) (o : Nat) (w : World) (cur : Array Value), w.heap[g]? = some (.cells cur e (0, 0)) → o + vs.length ≤ cur.size →
  (w.setCells g o vs).heap[g]? = some (.cells (over cur.toList o vs).toArray e (0, 0))
 | [], o, w, cur, h, _ => by rw [over_nil]; simpa [World.setCells] using h
 | v :: vs, o, w, cur, h, hl => by
  have h1 := heap_setCell_same w g o cur e v h
  rw [World.setCells]
  rw [heap_setCells g e vs (o + 1) _ _ h1 (by simp at hl ⊢; omega)]
  have := over_cons cur.toList o v vs (by simp at hl ⊢; omega)
  rw [← this]
  simp

theorem shapeOf (w : World) (g : Nat) (cur : Array Value) (e : TypeId) (h : w.heap[g]? = some (.cells cur e (0, 0))) : w.shape? g = some (e, cur.size) := by simp [World.shape?, h]
theorem cellOf (w : World) (g : Nat) (cur : Array Value) (e : TypeId) (h : w.heap[g]? = some (.cells cur e (0, 0))) (j : Nat) : w.cell? ⟨g, j, none⟩ = cur[j]? := cell_of_row w _ _ _ _ _ h
theorem frozenOf (w : World) (g : Nat) (cur : Array Value) (e : TypeId) (h : w.heap[g]? = some (.cells cur e (0, 0))) (j : Nat) : w.frozen? ⟨g, j, none⟩ = false := frozen_of_row w _ _ _ _ h

set_option maxHeartbeats 4000000 in
set_option maxRecDepth 100000 in
theorem Insert_room (g n c i vb : Nat) (cur : Array Value) (x : Value) (W : World) (hi : i < n) (hroom : n + 1 ≤ c) (hc : c ≤ maxLen) (hvb : vb ≠ g)
  (hg : W.heap[g]? = some (.cells cur 21 (0, 0))) (hv : W.heap[vb]? = some (.cells #[x] 21 (0, 0))) (hcs : cur.size = c) (hx : x.oneCell' = true) (h1 : ∀ v ∈ cur.toList.take n, v.oneCell' = true) :
  Calls Tryz.prog 195 #[.slice (some ⟨g, 0, none⟩) n c, .int .i64 i, .slice (some ⟨vb, 0, none⟩) 1 1] W fun e w' =>
   e = .returned (.slice (some ⟨g, 0, none⟩) (n + 1) c) ∧ w' = (W.drew.setCells g (i + 1) ((cur.toList.take n).drop i)).setCells g i [x] := by
 unfold maxLen at hc
 obtain ⟨cs, HC⟩ : ∃ cs, Hid (cs = (cur.toList.take n).drop i) := ⟨_, Lib.hid rfl⟩
 rw [← HC.out]
 have hcl : cs.length = n - i := by rw [HC.out]; simp; omega
 have hov : ∀ lb cb, (callFunc 199 #[.slice (some ⟨vb, 0, none⟩) 1 1, .slice (some ⟨g, i + 1, none⟩) lb cb]).run Tryz.prog W = .ok (.value (.bool false)) W := fun lb cb => by
  rw [run_callFunc_extern Tryz.func199 (by kernel_rfl) (by kernel_rfl) (by kernel_rfl) (e := Extern.SlicesOverlaps.overlaps #[188, 188] #[4]) (by kernel_rfl),
   Lib.run_overlaps_apart W 188 4 21 Tryz.underlying188 1 sizeOfR ⟨vb, 0, none⟩ ⟨g, i + 1, none⟩ 1 1 lb cb hvb _ _ _ _ (shapeOf W vb _ _ hv) (shapeOf W g _ _ hg) (by omega) (frozenOf W vb _ _ hv 0) (frozenOf W vb _ _ hv _)]
  rfl
 have hcp1 : ∀ ty dc sc, (Builtin.copy_ #[188, 188] ty #[.slice (some ⟨g, i + 1, none⟩) (n - i) dc, .slice (some ⟨g, i, none⟩) (n + 1 - i) sc]).run Tryz.prog W.drew = .ok (goInt cs.length) (W.drew.setCells g (i + 1) cs) := fun ty dc sc => by
  refine run_copy_cells W.drew _ _ ty 21 g (i + 1) (n - i) dc ⟨g, i, none⟩ (n + 1 - i) sc cs Tryz.underlying188 sizeR (by rw [hcl]; simp only [Nat.min_def]; split <;> omega) (fun j v hj => ?_) (fun j hj => ?_) (fun j hj => ?_) (fun v hv' => ?_)
  ·rw [Addr.add_lit]
   show W.cell? _ = _
   rw [cellOf W g _ _ hg, ← hj, HC.out, List.getElem?_drop, List.getElem?_take_of_lt, Array.getElem?_toList]
   have := (List.getElem?_eq_some_iff.1 hj).1
   omega
  ·show (W.cell? _).isSome = true
   rw [cellOf W g _ _ hg, Array.getElem?_eq_getElem (by omega)]; rfl
  ·exact frozenOf W g _ _ hg _
  ·rw [HC.out] at hv'
   exact h1 v (List.mem_of_mem_drop hv')
 obtain ⟨W1, HW1⟩ : ∃ W1, Hid (W1 = W.drew.setCells g (i + 1) cs) := ⟨_, Lib.hid rfl⟩
 have hg1 : W1.heap[g]? = some (.cells (over cur.toList (i + 1) cs).toArray 21 (0, 0)) := by
  rw [HW1.out]; exact heap_setCells g 21 cs (i + 1) W.drew cur hg (by omega)
 have hz1 : (over cur.toList (i + 1) cs).toArray.size = c := by rw [List.size_toArray, over_length _ _ _ (by simp; omega)]; simpa using hcs
 have hcp2 : ∀ (Wx : World), (∀ x, Wx.cell? x = W1.cell? x) → (∀ x, Wx.frozen? x = W1.frozen? x) → ∀ ty dc, (Builtin.copy_ #[188, 188] ty #[.slice (some ⟨g, i, none⟩) (n + 1 - i) dc, .slice (some ⟨vb, 0, none⟩) 1 1]).run Tryz.prog Wx = .ok (goInt 1) (Wx.setCells g i [x]) := fun Wx hWc hWf ty dc => by
  refine run_copy_cells Wx _ _ ty 21 g i (n + 1 - i) dc ⟨vb, 0, none⟩ 1 1 [x] Tryz.underlying188 sizeR (by simp only [Nat.min_def]; split <;> simp; omega) (fun j v hj => ?_) (fun j hj => ?_) (fun j hj => ?_) (fun v hv' => ?_)
  ·rw [Addr.add_lit, hWc, HW1.out, World.cell?_setCells_out g _ _ _ _ (fun h _ => absurd h hvb)]
   show W.cell? _ = _
   rw [cellOf W vb _ _ hv, ← hj]
   simp
  ·rw [hWc, cellOf W1 g _ _ hg1, Array.getElem?_eq_getElem (by simp at hj; omega)]; rfl
  ·rw [hWf]; exact frozenOf W1 g _ _ hg1 _
  ·simp at hv'; subst hv'; exact hx
 rw [← HW1.out] at hcp1 ⊢
 have hn1 : ¬ ((i : Int) = (n : Int)) := by omega
 have hb3 : (i : Int) ≤ (n : Int) + 1 := by omega
 have hb2 : ¬ (c = i + 1) := by omega
 have hb4 : ¬ (c = i) := by omega
 have hw1 : IntKind.i64.wrap ((i : Int) + 1) = (i : Int) + 1 := by rw [IntKind.wrap_i64]; omega
 have hb1 : (0 : Int) ≤ (i : Int) + 1 := by omega
 have hb5 : (i : Int) + 1 ≤ (n : Int) + 1 := by omega
 have htn : ((i : Int) + 1).toNat = i + 1 := by omega
 clear hg hv hg1
 go_enter Tryz.func195, Tryz.ntmps195
 go_wp2_with (simp only [hov])
 go_region_law (refine step_copy_runI rfl _ _ 188 188 rfl _ _ (by simp [Act.eval, Act.put]) (by simp [Act.eval, Act.put]) (hcp1 _ _ _) ?_)
 go_wp2_with (at_builtin; refine wpList_copy_runI _ rfl _ _ 188 188 rfl _ _ rfl rfl (hcp2 _ (fun _ => rfl) (fun _ => rfl) _ _) ?_)
 go_ret
 exact ⟨rfl, rfl⟩

/-- The library's own road where there is no room. -/
def grown (cur : List Value) (n i G : Nat) : List Value := (cur.take n).take i ++ List.replicate (n + 1 - i) (.int .i32 0) ++ List.replicate (G - (n + 1)) (.int .i32 0)
theorem zeroCellsR (k : Nat) : Builtin.zeroCells (Value.int .i32 0).cells k = (List.replicate k (Value.int .i32 0)).toArray := by
 have h : ∀ j : Nat, [Value.int IntKind.i32 0][j % 1]?.getD default = Value.int .i32 0 := fun j => by rw [Nat.mod_one]; rfl
 simp [Builtin.zeroCells, Value.cells, h]
 apply Array.ext <;> simp

set_option maxHeartbeats 4000000 in
set_option maxRecDepth 100000 in
theorem Insert_grow (g n i vb : Nat) (cur : Array Value) (x : Value) (W : World) (hi : i < n) (hn : n ≤ 10000000)
  (hg : W.heap[g]? = some (.cells cur 21 (0, 0))) (hv : W.heap[vb]? = some (.cells #[x] 21 (0, 0))) (hcs : cur.size = n) (hx : x.oneCell' = true) (h1 : ∀ v ∈ cur.toList, v.oneCell' = true) :
  Calls Tryz.prog 195 #[.slice (some ⟨g, 0, none⟩) n n, .int .i64 i, .slice (some ⟨vb, 0, none⟩) 1 1] W fun e w' => ∃ G, n + 1 ≤ G ∧ G ≤ maxLen ∧
   e = .returned (.slice (some ⟨W.heap.size, 0, none⟩) (n + 1) G) ∧
   w' = (((W.alloc (.cells (grown cur.toList n i G).toArray 21)).drew.setCells W.heap.size i [x]).drew).setCells W.heap.size (i + 1) (cur.toList.drop i) := by
 obtain ⟨i0, hi0, hz0, hzs, hzb⟩ := info_parts infoR
 have hcl : (cur.toList.drop i).length = n - i := by simp; omega
 have hold : (Builtin.firstCells i0.size i (.slice (some ⟨g, 0, none⟩) i n)).run Tryz.prog W.drew = .ok (cur.toList.take i).toArray W.drew := by
  rw [hzs]
  refine run_firstCells_some W.drew 1 i ⟨g, 0, none⟩ i n (cur.toList.take i) (by simp; omega) (fun j v hj => ?_)
  rw [Addr.add_lit]
  show W.cell? _ = _
  rw [cellOf W g _ _ hg, ← hj, Nat.zero_add, List.getElem?_take_of_lt, Array.getElem?_toList]
  have := (List.getElem?_eq_some_iff.1 hj).1
  simp at this; omega
 have hrz : ∀ ty, (Builtin.append_ #[188, 3] ty #[.slice (some ⟨g, 0, none⟩) i n, .int .i64 ((n : Int) + 1 - (i : Int))]).run Tryz.prog W =
   .ok (.slice (some ⟨W.heap.size, 0, none⟩) (n + 1) (grownCap W (n + 1) n 21)) (W.drew.alloc (.cells (grown cur.toList n i (grownCap W (n + 1) n 21)).toArray 21)) := fun ty => by
  have h := Lib.run_append_grow_zeros W 188 3 ty 21 i0 _ .i64 .i64 Tryz.underlying188 Tryz.underlying3 hi0 hz0 (some ⟨g, 0, none⟩) i n (cur.toList.take i) hold (n + 1 - i) (by omega) (by omega) (by omega) (by omega) (by rw [hzb]; omega)
   (by rw [hzb, show i + (n + 1 - i) = n + 1 by omega]; exact growslice_fits (by omega) (by omega))
  rw [show i + (n + 1 - i) = n + 1 by omega] at h
  rw [show (n : Int) + 1 - (i : Int) = ((n + 1 - i : Nat) : Int) by omega, h]
  congr 3
  rw [grown, List.take_of_length_le (show cur.toList.length ≤ n by simp; omega), zeroCellsR, zeroCellsR]
  simp
 have hG1 : n + 1 ≤ grownCap W (n + 1) n 21 := grownCap_ge W _ _ _
 have hG2 := grownCap_le_maxLen W (n + 1) n 21 (by unfold maxLen; omega)
 obtain ⟨G, HG⟩ : ∃ G, Hid (G = grownCap W (n + 1) n 21) := ⟨_, Lib.hid rfl⟩
 rw [← HG.out] at hrz hG1 hG2
 have hrow : (grown cur.toList n i G).length = G := by simp [grown]; omega
 obtain ⟨ROW, HROW⟩ : ∃ ROW : Array Value, Hid (ROW = (grown cur.toList n i G).toArray) := ⟨_, Lib.hid rfl⟩
 rw [← HROW.out] at hrz
 have hRs : ROW.size = G := by rw [HROW.out, List.size_toArray, hrow]
 obtain ⟨W1, HW1⟩ : ∃ W1, Hid (W1 = W.drew.alloc (.cells ROW 21)) := ⟨_, Lib.hid rfl⟩
 have hgl : g < W.heap.size := (Array.getElem?_eq_some_iff.1 hg).1
 have hvl : vb < W.heap.size := (Array.getElem?_eq_some_iff.1 hv).1
 have hr1 : W1.heap[W.heap.size]? = some (.cells ROW 21 (0, 0)) := by rw [HW1.out]; exact heap_alloc_new W.drew _
 have hg1 : W1.heap[g]? = some (.cells cur 21 (0, 0)) := by rw [HW1.out]; show (W.heap.push _)[g]? = _; rw [Array.getElem?_push_lt hgl, ← hg]; simp
 have hv1 : W1.heap[vb]? = some (.cells #[x] 21 (0, 0)) := by rw [HW1.out]; show (W.heap.push _)[vb]? = _; rw [Array.getElem?_push_lt hvl, ← hv]; simp
 have hcpA : ∀ (Wx : World), (∀ x, Wx.cell? x = W1.cell? x) → (∀ x, Wx.frozen? x = W1.frozen? x) → ∀ ty dc, (Builtin.copy_ #[188, 188] ty #[.slice (some ⟨W.heap.size, i, none⟩) (n + 1 - i) dc, .slice (some ⟨vb, 0, none⟩) 1 1]).run Tryz.prog Wx = .ok (goInt 1) (Wx.setCells W.heap.size i [x]) := fun Wx hWc hWf ty dc => by
  refine run_copy_cells Wx _ _ ty 21 W.heap.size i (n + 1 - i) dc ⟨vb, 0, none⟩ 1 1 [x] Tryz.underlying188 sizeR (by simp only [Nat.min_def]; split <;> simp; omega) (fun j v hj => ?_) (fun j hj => ?_) (fun j hj => ?_) (fun v hv' => ?_)
  ·rw [Addr.add_lit, hWc, cellOf W1 vb _ _ hv1, ← hj]
   simp
  ·rw [hWc, cellOf W1 _ _ _ hr1, Array.getElem?_eq_getElem (by simp at hj; omega)]; rfl
  ·rw [hWf]; exact frozenOf W1 _ _ _ hr1 _
  ·simp at hv'; subst hv'; exact hx
 obtain ⟨W2, HW2⟩ : ∃ W2, Hid (W2 = W1.setCells W.heap.size i [x]) := ⟨_, Lib.hid rfl⟩
 have hr2 : W2.heap[W.heap.size]? = some (.cells (over ROW.toList i [x]).toArray 21 (0, 0)) := by
  rw [HW2.out]; exact heap_setCells _ 21 [x] i W1 ROW hr1 (by simp; omega)
 have hz2 : (over ROW.toList i [x]).toArray.size = G := by rw [List.size_toArray, over_length _ _ _ (by simp; omega)]; simpa using hRs
 have hcpB : ∀ (Wx : World), (∀ x, Wx.cell? x = W2.cell? x) → (∀ x, Wx.frozen? x = W2.frozen? x) → ∀ ty dc sc, (Builtin.copy_ #[188, 188] ty #[.slice (some ⟨W.heap.size, i + 1, none⟩) (n - i) dc, .slice (some ⟨g, i, none⟩) (n - i) sc]).run Tryz.prog Wx = .ok (goInt (cur.toList.drop i).length) (Wx.setCells W.heap.size (i + 1) (cur.toList.drop i)) := fun Wx hWc hWf ty dc sc => by
  refine run_copy_cells Wx _ _ ty 21 W.heap.size (i + 1) (n - i) dc ⟨g, i, none⟩ (n - i) sc (cur.toList.drop i) Tryz.underlying188 sizeR (by rw [hcl]; simp only [Nat.min_def]; split <;> omega) (fun j v hj => ?_) (fun j hj => ?_) (fun j hj => ?_) (fun v hv' => ?_)
  ·rw [Addr.add_lit, hWc, HW2.out, World.cell?_setCells_out _ _ _ _ _ (fun h _ => absurd h (by show g ≠ _; omega)), cellOf W1 g _ _ hg1, ← hj, List.getElem?_drop, Array.getElem?_toList]
  ·rw [hWc, cellOf W2 _ _ _ hr2, Array.getElem?_eq_getElem (by omega)]; rfl
  ·rw [hWf]; exact frozenOf W2 _ _ _ hr2 _
  ·exact h1 v (List.mem_of_mem_drop hv')
 obtain ⟨DR, HDR⟩ : ∃ DR, Hid (DR = cur.toList.drop i) := ⟨_, Lib.hid rfl⟩
 rw [← HDR.out] at hcpB ⊢
 have hE1 : ∀ x, ((W.alloc (.cells ROW 21)).drew).cell? x = W1.cell? x := fun x => by rw [HW1.out]; rfl
 have hE2 : ∀ x, ((W.alloc (.cells ROW 21)).drew).frozen? x = W1.frozen? x := fun x => by rw [HW1.out]; rfl
 have hF1 : ∀ y, (((W.alloc (.cells ROW 21)).drew.setCells W.heap.size i [x]).drew).cell? y = W2.cell? y := fun y => by rw [HW2.out, HW1.out]; rfl
 have hF2 : ∀ y, (((W.alloc (.cells ROW 21)).drew.setCells W.heap.size i [x]).drew).frozen? y = W2.frozen? y := fun y => by rw [HW2.out, HW1.out]; rfl
 have hn1 : ¬ ((i : Int) = (n : Int)) := by omega
 have hn3 : (n : Int) < (n : Int) + 1 := by omega
 have hGi : ¬ (G = i) := by omega
 have hGim : ¬ (G = i + 1) := by omega
 have hci : ¬ (n = i) := by omega
 have hw1 : IntKind.i64.wrap ((i : Int) + 1) = (i : Int) + 1 := by rw [IntKind.wrap_i64]; omega
 have hb1 : (0 : Int) ≤ (i : Int) + 1 := by omega
 have hb5 : (i : Int) + 1 ≤ (n : Int) + 1 := by omega
 have htn : ((i : Int) + 1).toNat = i + 1 := by omega
 have hb3 : (i : Int) ≤ (n : Int) := by omega
 have hG63 : G ≤ 9223372036854775807 := by unfold maxLen at hG2; omega
 have HG2 := Lib.hid hG2
 have HRE : Hid ((grown cur.toList n i G).toArray = ROW) := Lib.hid HROW.out.symm
 clear hg hv hg1 hv1 hr1 hr2 hold hG2
 go_enter Tryz.func195, Tryz.ntmps195
 go_wp2_with (first
  | (at_builtin; refine Lib.wpList_append_run _ rfl _ _ _ _ rfl _ _ rfl rfl _ _ (hrz _) ?_)
  | (at_builtin; refine wpList_copy_runI _ rfl _ _ 188 188 rfl _ _ rfl rfl (hcpA _ hE1 hE2 _ _) ?_))
 go_region_law (refine step_copy_runI rfl _ _ 188 188 rfl _ _ (by simp [Act.eval, Act.put]) (by simp [Act.eval, Act.put]) (hcpB _ hF1 hF2 _ _ _) ?_)
 go_wp2
 go_ret
 refine ⟨G, hG1, HG2.out, rfl, ?_⟩
 rw [HRE.out]

/-- A row of runes of one's own. -/
def RowR (w : World) (base : Nat) (v : Value) (xs : List Value) : Prop :=
 ∃ g cap cur, v = .slice (some ⟨g, 0, none⟩) xs.length cap ∧ base ≤ g ∧ w.heap[g]? = some (.cells cur 21 (0, 0)) ∧ xs.length ≤ cap ∧ cap ≤ maxLen ∧ cur.size = cap ∧ cur.toList.take xs.length = xs
theorem RowR.own {w : World} {base : Nat} {v : Value} {xs : List Value} (h : RowR w base v xs) : w.ownsRow base 21 1 v xs.length xs := by
 obtain ⟨g, cap, cur, hv, hb, hg, hn, hc, hs, ht⟩ := h
 exact ⟨by omega, .inr ⟨g, cap, cur, hv, hb, hg, hn, hc, by omega, by rw [Nat.mul_one]; exact ht⟩⟩
theorem RowR.of {w : World} {base : Nat} {v : Value} {n : Nat} {xs : List Value} (h : w.ownsRow base 21 1 v n xs) (hne : v ≠ .slice none 0 0) : RowR w base v xs := by
 obtain ⟨hl, ⟨rfl, _⟩ | ⟨g, cap, cur, hv, hb, hg, hn, hc, hs, ht⟩⟩ := h
 ·exact absurd rfl hne
 ·rw [Nat.mul_one] at hl hs ht
  subst hl
  exact ⟨g, cap, cur, hv, hb, hg, hn, hc, hs, ht⟩
theorem RowR.len {w : World} {base : Nat} {v : Value} {xs : List Value} (h : RowR w base v xs) : xs.length ≤ maxLen := by
 obtain ⟨g, cap, cur, hv, hb, hg, hn, hc, hs, ht⟩ := h
 omega
theorem RowR.ne {w : World} {base : Nat} {v : Value} {xs : List Value} (h : RowR w base v xs) : v ≠ .slice none 0 0 := by
 obtain ⟨g, cap, cur, rfl, _⟩ := h
 intro h; cases h
theorem below_sets {B b : Nat} {a : World} (hb : B ≤ b) : ∀ (vs : List Value) (o : Nat) (w : World), Below B a w → Below B a (w.setCells b o vs)
 | [], _, _, h => h
 | v :: vs, o, _, h => below_sets hb vs (o + 1) _ (h.setCell hb v)
theorem over_take (l vs : List Value) (n i : Nat) (x : Value) (hi : i < n) (hn : n + 1 ≤ l.length) (hv : vs = (l.take n).drop i) : (over (over l (i + 1) vs) i [x]).take (n + 1) = l.take i ++ x :: vs := by
 have hvl : vs.length = n - i := by rw [hv]; simp; omega
 have hl1 : (l.take (i + 1)).length = i + 1 := by simp; omega
 have hli : (l.take i).length = i := by simp; omega
 have h1 : (over l (i + 1) vs).take i = l.take i := by
  rw [over, List.append_assoc, List.take_append_of_le_length (by omega), List.take_take, Nat.min_eq_left (by omega)]
 have h2 : (over l (i + 1) vs).drop (i + 1) = vs ++ l.drop (i + 1 + vs.length) := by
  rw [over, List.append_assoc, List.drop_left' hl1]
 rw [over, h1]
 simp only [List.length_singleton]
 rw [h2, List.append_assoc, ← List.append_assoc [x], ← List.append_assoc]
 rw [List.take_left' (by simp [hvl]; omega)]
 rfl
theorem over_grown (cur : List Value) (n i G : Nat) (x : Value) (hi : i < n) (hn : cur.length = n) : (over (over (grown cur n i G) i [x]) (i + 1) (cur.drop i)).take (n + 1) = cur.take i ++ x :: cur.drop i := by
 have hdl : (cur.drop i).length = n - i := by simp; omega
 have hli : (cur.take i).length = i := by simp; omega
 have hgt : (grown cur n i G).take i = cur.take i := by
  rw [grown, List.append_assoc, List.take_of_length_le (show cur.length ≤ n by omega), List.take_left' hli]
 have h1 : (over (grown cur n i G) i [x]).take (i + 1) = cur.take i ++ [x] := by
  rw [over, hgt, List.take_left' (by simp; omega)]
 rw [over, h1, List.take_left' (by simp; omega)]
 simp

set_option maxRecDepth 100000 in
set_option maxHeartbeats 1000000 in
/-- slices.Insert of one rune into a row of one's own. -/
theorem Insert_any (base : Nat) (v x : Value) (xs : List Value) (i : Nat) (w : World) (hown : RowR w base v xs) (hi : i ≤ xs.length) (hx : x.oneCell' = true) (h1 : ∀ u ∈ xs, u.oneCell' = true) (hn : xs.length ≤ 9000000) (hb : base ≤ w.heap.size) :
  Calls Tryz.prog 195 #[v, .int .i64 i, .slice (some ⟨w.heap.size, 0, none⟩) 1 1] (w.alloc (.cells #[x] 21)) fun e w' =>
   ∃ v', e = .returned v' ∧ RowR w' base v' (xs.take i ++ x :: xs.drop i) ∧ Below base w w' := by
 have hbel : Below base w (w.alloc (.cells #[x] 21)) := (Below.refl _ _).alloc hb _
 rcases Nat.lt_or_eq_of_le hi with hlt | rfl
 ·obtain ⟨g, cap, cur, rfl, hgb, hg, hnc, hcm, hcs, hct⟩ := hown
  have hgl : g < w.heap.size := (Array.getElem?_eq_some_iff.1 hg).1
  have hg' : (w.alloc (.cells #[x] 21)).heap[g]? = some (.cells cur 21 (0, 0)) := by show (w.heap.push _)[g]? = _; rw [Array.getElem?_push_lt hgl, ← hg]; simp
  have hv' : (w.alloc (.cells #[x] 21)).heap[w.heap.size]? = some (.cells #[x] 21 (0, 0)) := heap_alloc_new w _
  have hdr : xs.drop i = (cur.toList.take xs.length).drop i := by rw [hct]
  have htk : cur.toList.take i = xs.take i := by rw [← hct, List.take_take, Nat.min_eq_left (by omega)]
  have hlen : (xs.take i ++ x :: xs.drop i).length = xs.length + 1 := by simp; omega
  by_cases hroom : xs.length + 1 ≤ cap
  ·refine (Insert_room g xs.length cap i w.heap.size cur x _ hlt hroom hcm (by omega) hg' hv' hcs hx (by rw [hct]; exact h1)).mono ?_
   rintro e w' ⟨rfl, rfl⟩
   rw [← hdr]
   refine ⟨_, rfl, ⟨g, cap, (over (over cur.toList (i + 1) (xs.drop i)) i [x]).toArray, by rw [hlen], hgb, ?_, by omega, hcm, ?_, ?_⟩, ?_⟩
   ·rw [heap_setCells g 21 [x] i _ (over cur.toList (i + 1) (xs.drop i)).toArray]
    ·exact heap_setCells g 21 (xs.drop i) (i + 1) _ cur hg' (by simp; omega)
    ·rw [List.size_toArray, over_length _ _ _ (by simp; omega)]; simp; omega
   ·rw [List.size_toArray, over_length, over_length] <;> simp
    ·exact hcs
    ·omega
    ·rw [over_length _ _ _ (by simp; omega)]; simp; omega
   ·rw [hlen, ← htk]
    exact over_take cur.toList _ xs.length i x hlt (by simp; omega) hdr
   ·exact below_sets hgb _ _ _ (below_sets hgb _ _ _ hbel.drew)
  ·obtain rfl : cap = xs.length := by omega
   have hce : cur.toList = xs := by rw [← hct, List.take_of_length_le (by simp; omega)]
   refine (Insert_grow g xs.length i w.heap.size cur x _ hlt (by omega) hg' hv' hcs hx (by rw [hce]; exact h1)).mono ?_
   rintro e w' ⟨G, hG1, hG2, rfl, rfl⟩
   rw [hce]
   have hsz : (w.alloc (.cells #[x] 21)).heap.size = w.heap.size + 1 := by simp
   have hgr : (grown xs xs.length i G).length = G := by simp [grown]; omega
   have hdl : (xs.drop i).length = xs.length - i := by simp
   have hov : (over (grown xs xs.length i G) i [x]).length = G := by rw [over_length _ _ _ (by simp; omega), hgr]
   refine ⟨_, rfl, ⟨_, G, (over (over (grown xs xs.length i G) i [x]) (i + 1) (xs.drop i)).toArray, by rw [hlen], by rw [hsz]; omega, ?_, by omega, hG2, ?_, ?_⟩, ?_⟩
   ·rw [heap_setCells _ 21 (xs.drop i) (i + 1) _ (over (grown xs xs.length i G) i [x]).toArray]
    ·exact heap_setCells _ 21 [x] i _ (grown xs xs.length i G).toArray (heap_alloc_new _ _) (by simp; omega)
    ·rw [List.size_toArray, hov]; omega
   ·rw [List.size_toArray, over_length _ _ _ (by omega), hov]
   ·rw [hlen]
    exact over_grown xs xs.length i G x hlt rfl
   ·exact below_sets (by rw [hsz]; omega) _ _ _ (below_sets (by rw [hsz]; omega) _ _ _ ((hbel.alloc (by rw [hsz]; omega) _).drew)).drew
 ·obtain ⟨i0, hi0, hz0, hz1, hz2⟩ := info_parts infoR
  have hnews : ∀ j u, ([x] : List Value)[j]? = some u → (w.alloc (.cells #[x] 21)).cell? ((⟨w.heap.size, 0, none⟩ : Addr).add j) = some u :=
   World.news_of_block (cs := #[x]) (t := 21) (fr := (0, 0)) (heap_alloc_new w _)
  obtain ⟨v', w1, hrun, hown', hgrow, hnil⟩ := run_append_own (P := Tryz.prog) (w.alloc (.cells #[x] 21)) base 188 188 21 i0 (.int .i32 0) 1 4 Tryz.underlying188 hi0 hz0 hz1 hz2 rfl (by decide)
   v xs.length xs (hown.own.alloc _) ⟨w.heap.size, 0, none⟩ 1 1 [x] (by simp) hnews (by simp [hx]) (by unfold maxLen; omega) (by omega) (by simp; omega)
  have hne := hown.ne
  rw [List.take_length, List.drop_length]
  have HF : Hid (RowR w1 base v' (xs ++ [x]) ∧ Below base w w1) := Lib.hid (by
   refine ⟨?_, hbel.grown hgrow (by simp; omega) (fun q hq => (hown.own.lt q hq).1)⟩
   exact RowR.of hown' (fun h => hne (hnil.1 h).1))
  have HRun := Lib.hid hrun
  obtain ⟨g, cap, cur, rfl, hgb, hg, hnc, hcm, hcs, hct⟩ := hown
  have hcm2 : cap ≤ 9223372036854775807 := by unfold maxLen at hcm; omega
  clear hrun hown' hgrow hnil hnews hne hbel hg hct hgb hcm
  go_enter Tryz.func195, Tryz.ntmps195
  go_wp2_with (at_builtin; refine Lib.wpList_append_run _ rfl _ _ _ _ rfl _ _ rfl rfl _ _ HRun.out ?_)
  all_goals
   go_ret
   exact ⟨_, rfl, HF.out.1, HF.out.2⟩

end Go.Proofs.YtcphokaamkalfaaGreatDoor
namespace Go.Proofs.YtcphokaamkalfaaGreatDoor
open Go.RowKit

def plainL (l : List UInt8) : Bool := l.all fun c => decide (c.toNat < 128)
theorem plainL_snoc (l : List UInt8) (c : UInt8) : plainL (l ++ [c]) = (plainL l && decide (c.toNat < 128)) := by simp [plainL]
theorem plainL_at_false (s : ByteArray) (k : Nat) (h : k < s.size) (hc : ¬ s[k].toNat < 128) : plainL s.data.toList = false := by
 have hm : s[k] ∈ s.data.toList := by
  have : s[k] = s.data[k]'h := rfl
  rw [this]; simp
 rw [plainL, List.all_eq_false]; exact ⟨_, hm, by simpa using hc⟩
theorem decode_big (s : ByteArray) (k : Nat) (h : k < s.size) (hc : ¬ s[k].toNat < 128) : 128 ≤ (Utf8.decode s k).1 ∧ (Utf8.decode s k).1 ≤ 1114111 := by
 have e : s.get! k = s[k]'h := by simp [ByteArray.get!, getElem!_pos, h]; rfl
 rw [Lib.decode_at, e]
 have hl := s[k].toNat_lt
 generalize s[k].toNat = b0 at *
 unfold Lib.decodeN
 repeat' split
 all_goals simp only
 all_goals omega

set_option maxRecDepth 1000000 in
set_option maxHeartbeats 1000000 in
theorem plain_any (s : ByteArray) (w : World) :
  Calls Tryz.prog 142 #[.string s] w fun e w' => e = .returned (.bool (plainL s.data.toList)) ∧ ∃ pos, w' = w.iter s pos := by
 go_enter Tryz.func142, Tryz.ntmps142
 go_wp2
 go_loopw [4] (fun _ w' => ∃ pos : Nat, w' = w.iter s pos ∧ pos ≤ s.size ∧ plainL (s.data.toList.take pos) = true) (fun _ w' => s.size - w'.iterPos w.heap.size)
 case atStart => exact ⟨0, rfl, Nat.zero_le _, rfl⟩
 case round =>
  obtain ⟨pos, rfl, hle, hpl⟩ := hrel
  have HP := Lib.hid hpl
  clear hpl
  by_cases hp : pos < s.size
  ·by_cases hc : s[pos].toNat < 128
   ·have hnx : ∀ ty, (Instr.next (.pointer (some ⟨w.heap.size, 0, none⟩)) true ty).run Tryz.prog (w.iter s pos) = _ := fun ty => run_next_ascii w s pos ty hp hc
    go_wp2
    go_roundw
    case rel => exact ⟨pos + 1, rfl, by omega, by rw [take_snoc s pos hp, plainL_snoc, HP.out]; simpa using hc⟩
    case measure => simp; omega
   ·have hnx : ∀ ty, (Instr.next (.pointer (some ⟨w.heap.size, 0, none⟩)) true ty).run Tryz.prog (w.iter s pos) = _ := fun ty => run_next_any w s pos ty hp
    obtain ⟨h1, h2⟩ := decode_big s pos hp hc
    have HF := Lib.hid (plainL_at_false s pos hp hc)
    go_wp2
    go_ret
    exact ⟨ret_bool HF.out.symm, _, rfl⟩
  ·have hnx : ∀ ty, (Instr.next (.pointer (some ⟨w.heap.size, 0, none⟩)) true ty).run Tryz.prog (w.iter s pos) = _ := fun ty => run_next_end w s pos ty hp
   have HF : Hid (plainL s.data.toList = true) := Lib.hid (by rw [← HP.out, List.take_of_length_le (by simp; omega)])
   go_wp2
   go_ret
   exact ⟨ret_bool HF.out.symm, _, rfl⟩
theorem iter_below (w : World) (s : ByteArray) (pos : Nat) : Below w.heap.size w (w.iter s pos) := (Below.refl _ _).alloc (Nat.le_refl _) _

/-- The place of the last border, or -1. -/
def lastR : List UInt8 → Int
 | [] => -1
 | c :: r => if c = 45 then r.length else lastR r
def lastI (l : List UInt8) : Int := lastR l.reverse
theorem lastI_snoc (l : List UInt8) (c : UInt8) : lastI (l ++ [c]) = if c = 45 then (l.length : Int) else lastI l := by simp [lastI, lastR]
theorem lastI_bd (l : List UInt8) : -1 ≤ lastI l ∧ lastI l < l.length := by
 refine snocInd (P := fun l => -1 ≤ lastI l ∧ lastI l < l.length) (by simp [lastI, lastR]) (fun l c ih => ?_) l
 rw [lastI_snoc]
 split <;> simp <;> omega

set_option maxHeartbeats 1000000 in
theorem LastIndexByteString_any (s : ByteArray) (w : World) (hs : s.size ≤ maxLen) :
  Calls Tryz.prog 124 #[.string s, .int .u8 45] w fun e w' => e = .returned (.int .i64 (lastI s.data.toList)) ∧ w = w' := by
 unfold maxLen at hs
 go_enter Tryz.func124, Tryz.ntmps124
 go_wp2
 go_loop [5] (fun i => ∃ k : Nat, k ≤ s.size ∧ i = .int .i64 ((k : Int) - 1) ∧ lastI (s.data.toList.take k) = lastI s.data.toList) (fun i => (intOf i + 1).toNat)
 case atStart => exact ⟨s.size, Nat.le_refl _, rfl, by rw [List.take_of_length_le (by simp)]⟩
 case round =>
  obtain ⟨k, hk, rfl, ha⟩ := hrel
  have HA := Lib.hid ha; clear ha
  cases k with
  | zero =>
   have HF : Hid (lastI s.data.toList = -1) := Lib.hid (by rw [← HA.out]; rfl)
   go_wp2
   go_ret
   exact ⟨ret_int HF.out.symm, rfl⟩
  | succ k =>
   have hlt : k < s.size := by omega
   have e1 : ((k + 1 : Nat) : Int) - 1 = (k : Int) := by omega
   rw [e1]
   have HS := Lib.hid (take_snoc s k hlt)
   by_cases hc : s[k] = 45
   ·have hc' : ((s[k].toNat : Int) == 45) = true := by rw [hc]; rfl
    have HF : Hid (lastI s.data.toList = k) := Lib.hid (by rw [← HA.out, HS.out, lastI_snoc, if_pos hc]; simp; try omega)
    go_wp2
    go_ret
    exact ⟨ret_int HF.out.symm, rfl⟩
   ·have hc' : ((s[k].toNat : Int) == 45) = false := beq_eq_false_iff_ne.2 (fun h => hc (UInt8.toNat_inj.1 (by show s[k].toNat = 45; omega)))
    have HF : Hid (lastI (s.data.toList.take k) = lastI s.data.toList) := Lib.hid (by rw [← HA.out, HS.out, lastI_snoc, if_neg hc])
    go_wp2
    go_round
    case rel => exact ⟨k, by omega, rfl, HF.out⟩
    case measure => simp [intOf]

set_option maxHeartbeats 1000000 in
theorem LastIndexByte_any (s : ByteArray) (w : World) (hs : s.size ≤ maxLen) :
  Calls Tryz.prog 193 #[.string s, .int .u8 45] w fun e w' => e = .returned (.int .i64 (lastI s.data.toList)) ∧ w = w' := by
 go_enter Tryz.func193, Tryz.ntmps193
 go_wp2_with fail
 refine (LastIndexByteString_any s _ hs).mono ?_
 rintro e w1 ⟨rfl, rfl⟩
 go_wp2
 go_ret
 exact ⟨rfl, rfl⟩

/-- The plain signs of few letters, and their digits. -/
def pSigns (s : ByteArray) : ByteArray := if lastI s.data.toList ≤ 0 then ⟨#[]⟩ else s.extract 0 (lastI s.data.toList).toNat
def pRest (s : ByteArray) : ByteArray := if lastI s.data.toList ≤ 0 then s else s.extract ((lastI s.data.toList).toNat + 1) s.size

set_option maxHeartbeats 1000000 in
theorem parted_any (s : ByteArray) (w : World) (hs : s.size ≤ maxLen) :
  Calls Tryz.prog 188 #[.string s] w fun e w' => e = .returned (.tuple #[.string (pSigns s), .string (pRest s)]) ∧ ∃ m, w' = w.drewN m := by
 have hbd := lastI_bd s.data.toList
 have hl : (s.data.toList.length : Int) = s.size := by simp
 rw [hl] at hbd
 clear hl
 obtain ⟨k, HK⟩ : ∃ k, Hid (k = lastI s.data.toList) := ⟨_, Lib.hid rfl⟩
 rw [← HK.out] at hbd
 obtain ⟨h1, h2⟩ := hbd
 by_cases hk : k ≤ 0
 ·have HR : Hid (pSigns s = ⟨#[]⟩ ∧ pRest s = s) := Lib.hid (by rw [pSigns, pRest, ← HK.out, if_pos hk, if_pos hk]; exact ⟨rfl, rfl⟩)
  go_enter Tryz.func188, Tryz.ntmps188
  go_wp2_with fail
  refine (LastIndexByte_any s _ hs).mono ?_
  rw [← HK.out]
  rintro e w1 ⟨rfl, rfl⟩
  go_wp2
  go_ret2
  exact ⟨by rw [HR.out.1, HR.out.2]; rfl, 0, rfl⟩
 ·unfold maxLen at hs
  obtain ⟨n, rfl⟩ : ∃ n : Nat, k = n := ⟨k.toNat, by omega⟩
  have HR : Hid (pSigns s = s.extract 0 n ∧ pRest s = s.extract (n + 1) s.size) := Lib.hid (by rw [pSigns, pRest, ← HK.out, if_neg hk, if_neg hk]; exact ⟨rfl, rfl⟩)
  go_enter Tryz.func188, Tryz.ntmps188
  go_wp2_with fail
  refine (LastIndexByte_any s _ (by unfold maxLen; omega)).mono ?_
  rw [← HK.out]
  rintro e w1 ⟨rfl, rfl⟩
  have hw1 : IntKind.i64.wrap ((n : Int) + 1) = (n : Int) + 1 := by rw [IntKind.wrap_i64]; omega
  have hb1 : (0 : Int) ≤ (n : Int) + 1 := by omega
  have hb2 : (n : Int) + 1 ≤ s.size := by omega
  have htn : ((n : Int) + 1).toNat = n + 1 := by omega
  go_wp2
  go_region
  go_wp2
  go_ret2
  exact ⟨by rw [HR.out.1, HR.out.2]; rfl, 1, rfl⟩

end Go.Proofs.YtcphokaamkalfaaGreatDoor
