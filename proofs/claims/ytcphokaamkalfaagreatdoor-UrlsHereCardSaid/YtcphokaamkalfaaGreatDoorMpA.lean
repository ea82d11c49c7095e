/-
  Plain facts on bytes, numbers and lists, of no program.
  The words of the chapter on names in few letters, as plain functions of numbers and lists, of no program.
  A tree of sums over places: what each of its numbers counts, what is added up ahead of a place, what one place more turns. Plain, of no program.
  What few letters say, as a plain function of lists, of no program.
-/
import Derived.WalkKit
import Derived.Lib.Hide
namespace Go.Proofs.YtcphokaamkalfaaGreatDoor
open Go.RowKit

theorem ret_int {k : IntKind} {a b : Int} (h : a = b) : Ending.returned (.int k a) = .returned (.int k b) := by rw [h]
theorem ret_bool {a b : Bool} (h : a = b) : Ending.returned (.bool a) = .returned (.bool b) := by rw [h]
theorem take_snoc (s : ByteArray) (k : Nat) (h : k < s.size) : s.data.toList.take (k + 1) = s.data.toList.take k ++ [s[k]] := by
 rw [List.take_succ_eq_append_getElem (by simpa using h)]; rfl
theorem byte_lt (c : UInt8) : (c.toNat : Int) < 256 := by have := c.toNat_lt; omega

/-- Is a byte from a to b? -/
def inR (a b c : Int) : Bool := decide (a ≤ c) && decide (c ≤ b)
theorem inR_true {a b c : Int} : inR a b c = true ↔ a ≤ c ∧ c ≤ b := by simp [inR]
theorem inR_false {a b c : Int} : inR a b c = false ↔ c < a ∨ b < c := by
 simp [inR]; omega
def allR (a b : Int) (l : List UInt8) : Bool := l.all fun c => inR a b c.toNat
theorem allR_snoc (a b : Int) (l : List UInt8) (c : UInt8) : allR a b (l ++ [c]) = (allR a b l && inR a b c.toNat) := by simp [allR]
theorem allR_take_false (a b : Int) (s : ByteArray) (k : Nat) (h : k < s.size) (hc : inR a b s[k].toNat = false) : allR a b s.data.toList = false := by
 have hm : s[k] ∈ s.data.toList := by
  have : s[k] = s.data[k]'h := rfl
  rw [this]; simp
 rw [allR, List.all_eq_false]; exact ⟨_, hm, by simp [hc]⟩

/-- What digits tell. -/
def num (l : List UInt8) : Int := l.foldl (fun n c => n * 10 + ((c.toNat : Int) - 48)) 0
theorem num_snoc (l : List UInt8) (c : UInt8) : num (l ++ [c]) = num l * 10 + ((c.toNat : Int) - 48) := by simp [num]
theorem snocInd {α : Type} {P : List α → Prop} (h0 : P []) (hs : ∀ l c, P l → P (l ++ [c])) (l : List α) : P l := by
 have h : ∀ r : List α, P r.reverse := fun r => by
  induction r with
  | nil => exact h0
  | cons c r ih => rw [List.reverse_cons]; exact hs _ _ ih
 simpa using h l.reverse
theorem num_bd (l : List UInt8) (h : allR 48 57 l = true) : 0 ≤ num l ∧ num l < 10 ^ l.length := by
 revert h
 refine snocInd (P := fun l => allR 48 57 l = true → 0 ≤ num l ∧ num l < 10 ^ l.length) (by simp [num]) (fun l c ih h => ?_) l
 rw [allR_snoc, Bool.and_eq_true, inR_true] at h
 have := ih h.1
 rw [num_snoc, List.length_append, List.length_singleton, Int.pow_succ]
 omega

end Go.Proofs.YtcphokaamkalfaaGreatDoor
namespace Go.Proofs.YtcphokaamkalfaaGreatDoor
open Go.RowKit

theorem wr64 (n : Int) (h0 : -9223372036854775808 ≤ n) (h1 : n ≤ 9223372036854775807) : wrap64 n = n := by unfold wrap64; omega

theorem exD (t : ByteArray) (a b : Nat) : (t.extract a b).data.toList = (t.data.toList.take b).drop a := by
 rw [ByteArray.data_extract, Array.toList_extract, List.extract_eq_take_drop, List.drop_take]
theorem dLen (t : ByteArray) : t.data.toList.length = t.size := by simp
theorem exS (t : ByteArray) (a b : Nat) (hb : b ≤ t.size) : (t.extract a b).size = b - a := by
 rw [← dLen, exD, List.length_drop, List.length_take, dLen]; omega
theorem exDrop (t : ByteArray) (a : Nat) : (t.extract a t.size).data.toList = t.data.toList.drop a := by rw [exD, List.take_of_length_le (by simp)]
theorem exTake (t : ByteArray) (b : Nat) : (t.extract 0 b).data.toList = t.data.toList.take b := by rw [exD, List.drop_zero]
def strZ : Value → Nat
 | .string t => t.size
 | _ => 0

/-- The bound of the digit at k. -/
def stepN (k b : Nat) : Nat := min (max (k - b) 1) 26
theorem stepN_bd (k b : Nat) : 1 ≤ stepN k b ∧ stepN k b ≤ 26 := by unfold stepN; omega

/-- A number, divided, behind which the next bias is reckoned. -/
def halve (n signs : Nat) (first : Bool) : Nat := (if first then n / 700 else n / 2) + (if first then n / 700 else n / 2) / signs
def biasL : Nat → Nat → Nat → Nat
 | 0, n, k => k + 36 * n / (n + 38)
 | f + 1, n, k => if 455 < n then biasL f (n / 35) (k + 36) else k + 36 * n / (n + 38)
theorem biasL_end (f n k : Nat) (h : n ≤ 455) : biasL f n k = k + 36 * n / (n + 38) := by
 cases f with
 | zero => rfl
 | succ f => rw [biasL, if_neg (by omega)]
theorem biasL_step (f n k : Nat) (h : 455 < n) : biasL (f + 1) n k = biasL f (n / 35) (k + 36) := by rw [biasL, if_pos h]
theorem biasE_le (n : Nat) : 36 * n / (n + 38) ≤ 36 := by
 apply Nat.div_le_of_le_mul
 rw [Nat.add_mul]; omega
theorem biasL_bd : ∀ f n k, biasL f n k ≤ k + 36 * f + 36
 | 0, n, k => by have := biasE_le n; rw [biasL]; omega
 | f + 1, n, k => by
  rw [biasL]
  split
  ·have := biasL_bd f (n / 35) (k + 36); omega
  ·have := biasE_le n; omega
/-- The next bias. -/
def nb (n signs : Nat) (first : Bool) : Nat := biasL 20 (halve n signs first) 0
theorem nb_bd (n signs : Nat) (first : Bool) : nb n signs first ≤ 756 := by
 have := biasL_bd 20 (halve n signs first) 0
 unfold nb; omega
theorem halve_le (n signs : Nat) (first : Bool) : halve n signs first ≤ n := by
 unfold halve
 have h : ∀ m : Nat, m ≤ n / 2 → m + m / signs ≤ n := fun m hm => by
  have := Nat.div_le_self m signs
  omega
 cases first
 ·exact h _ (Nat.le_refl _)
 ·exact h _ (by simp; omega)

/-- The digit that a byte is. -/
def digV (c : UInt8) : Option Nat :=
 if 97 ≤ c.toNat ∧ c.toNat ≤ 122 then some (c.toNat - 97)
 else if 65 ≤ c.toNat ∧ c.toNat ≤ 90 then some (c.toNat - 65)
 else if 48 ≤ c.toNat ∧ c.toNat ≤ 57 then some (c.toNat - 48 + 26)
 else none
theorem digV_lt {c : UInt8} {d : Nat} (h : digV c = some d) : d < 36 := by
 unfold digV at h
 repeat' split at h
 all_goals simp at h
 all_goals omega

/-- A number that bytes tell, from the i-th digit on, and how many digits it has. -/
def rdN (bias : Nat) : List UInt8 → Nat → Nat → Nat → Option (Nat × Nat)
 | [], _, _, _ => none
 | c :: r, i, w, a => match digV c with
  | none => none
  | some d => if 2147483647 < a + d * w then none else if d < stepN (36 * (i + 1)) bias then some (a + d * w, i + 1) else rdN bias r (i + 1) (w * (36 - stepN (36 * (i + 1)) bias)) (a + d * w)
theorem rdN_none (bias : Nat) (c : UInt8) (r : List UInt8) (i w a : Nat) (h : digV c = none) : rdN bias (c :: r) i w a = none := by rw [rdN, h]
theorem rdN_big (bias : Nat) (c : UInt8) (r : List UInt8) (i w a d : Nat) (h : digV c = some d) (hb : 2147483647 < a + d * w) : rdN bias (c :: r) i w a = none := by rw [rdN, h]; simp [hb]
theorem rdN_end (bias : Nat) (c : UInt8) (r : List UInt8) (i w a d : Nat) (h : digV c = some d) (hb : a + d * w ≤ 2147483647) (hd : d < stepN (36 * (i + 1)) bias) : rdN bias (c :: r) i w a = some (a + d * w, i + 1) := by
 rw [rdN, h]; simp only; rw [if_neg (by omega), if_pos hd]
theorem rdN_on (bias : Nat) (c : UInt8) (r : List UInt8) (i w a d : Nat) (h : digV c = some d) (hb : a + d * w ≤ 2147483647) (hd : ¬ d < stepN (36 * (i + 1)) bias) :
  rdN bias (c :: r) i w a = rdN bias r (i + 1) (w * (36 - stepN (36 * (i + 1)) bias)) (a + d * w) := by
 rw [rdN, h]; simp only; rw [if_neg (by omega), if_neg hd]
theorem drop_at (s : ByteArray) (k : Nat) (h : k < s.size) : s.data.toList.drop k = s[k] :: s.data.toList.drop (k + 1) := by
 rw [List.drop_eq_getElem_cons (by simpa using h)]; rfl
theorem rdN_bd (bias : Nat) : ∀ (l : List UInt8) (i w a n m : Nat), rdN bias l i w a = some (n, m) → n ≤ 2147483647 ∧ a ≤ n ∧ i < m ∧ m ≤ i + l.length
 | [], _, _, _, _, _, h => by simp [rdN] at h
 | c :: r, i, w, a, n, m, h => by
  rw [rdN] at h
  split at h
  ·simp at h
  ·split at h
   ·simp at h
   ·split at h
    ·simp at h
     obtain ⟨rfl, rfl⟩ := h
     refine ⟨by omega, by omega, by omega, by simp⟩
    ·have := rdN_bd bias r _ _ _ n m h
     refine ⟨this.1, ?_, by omega, by simp; omega⟩
     have := this.2.1
     omega

end Go.Proofs.YtcphokaamkalfaaGreatDoor
namespace Go.Proofs.YtcphokaamkalfaaGreatDoor
open Go.RowKit

/-- The lowest bit of a number. -/
def lowF : Nat → Nat → Nat
 | 0, _ => 0
 | f + 1, n => if n % 2 = 1 then 1 else 2 * lowF f (n / 2)
def lowB (n : Nat) : Nat := lowF n n
theorem lowF_more : ∀ (f g n : Nat), 0 < n → n ≤ f → n ≤ g → lowF f n = lowF g n
 | 0, _, n, h, hf, _ => by omega
 | _, 0, n, h, _, hg => by omega
 | f + 1, g + 1, n, h, hf, hg => by
  rw [lowF, lowF]
  split
  ·rfl
  ·rw [lowF_more f g (n / 2) (by omega) (by omega) (by omega)]
theorem low_odd {n : Nat} (h : n % 2 = 1) : lowB n = 1 := by
 obtain ⟨k, rfl⟩ : ∃ k, n = k + 1 := ⟨n - 1, by omega⟩
 rw [lowB, lowF, if_pos h]
theorem low_even {m : Nat} (h : 0 < m) : lowB (2 * m) = 2 * lowB m := by
 obtain ⟨k, hk⟩ : ∃ k, 2 * m = k + 1 := ⟨2 * m - 1, by omega⟩
 rw [lowB, hk, lowF, if_neg (by omega), ← hk, Nat.mul_div_cancel_left _ (by decide), lowB, lowF_more k m m h (by omega) (Nat.le_refl _)]
theorem low_bd : ∀ (f n : Nat), 0 < n → n ≤ f → 0 < lowB n ∧ lowB n ≤ n
 | 0, n, h, hf => by omega
 | f + 1, n, h, hf => by
  rcases Nat.mod_two_eq_zero_or_one n with e | e
  ·obtain ⟨m, rfl⟩ : ∃ m, n = 2 * m := ⟨n / 2, by omega⟩
   have := low_bd f m (by omega) (by omega)
   rw [low_even (by omega)]; omega
  ·rw [low_odd e]; omega
theorem low_pos {n : Nat} (h : 0 < n) : 0 < lowB n := (low_bd n n h (Nat.le_refl _)).1
theorem low_le {n : Nat} (h : 0 < n) : lowB n ≤ n := (low_bd n n h (Nat.le_refl _)).2
theorem low_up : ∀ (f n : Nat), 0 < n → n ≤ f → 2 * lowB n ≤ lowB (n + lowB n)
 | 0, n, h, hf => by omega
 | f + 1, n, h, hf => by
  rcases Nat.mod_two_eq_zero_or_one n with e | e
  ·obtain ⟨m, rfl⟩ : ∃ m, n = 2 * m := ⟨n / 2, by omega⟩
   have hm : 0 < m := by omega
   have := low_up f m hm (by omega)
   have hp := low_pos hm
   rw [low_even hm, show 2 * m + 2 * lowB m = 2 * (m + lowB m) by omega, low_even (by omega)]; omega
  ·rw [low_odd e]
   obtain ⟨m, hm⟩ : ∃ m, n + 1 = 2 * m := ⟨(n + 1) / 2, by omega⟩
   rw [hm, low_even (by omega)]
   have := low_pos (show 0 < m by omega)
   omega
theorem low_add : ∀ (f n r : Nat), 0 < n → n ≤ f → 0 < r → r < lowB n → lowB (n + r) = lowB r
 | 0, n, r, h, hf, _, _ => by omega
 | f + 1, n, r, h, hf, h0, hr => by
  rcases Nat.mod_two_eq_zero_or_one n with e | e
  ·obtain ⟨m, rfl⟩ : ∃ m, n = 2 * m := ⟨n / 2, by omega⟩
   have hm : 0 < m := by omega
   rw [low_even hm] at hr
   rcases Nat.mod_two_eq_zero_or_one r with e' | e'
   ·obtain ⟨q, rfl⟩ : ∃ q, r = 2 * q := ⟨r / 2, by omega⟩
    rw [show 2 * m + 2 * q = 2 * (m + q) by omega, low_even (by omega), low_even (by omega), low_add f m q hm (by omega) (by omega) (by omega)]
   ·rw [low_odd e', low_odd (by omega)]
  ·rw [low_odd e] at hr; omega
/-- The lowest bit by the bits of a number and of what it lacks. -/
theorem low_and : ∀ (w n : Nat), 0 < n → n < 2 ^ w → n &&& (2 ^ w - n) = lowB n
 | 0, n, h, hw => by simp at hw; omega
 | w + 1, n, h, hw => by
  rw [Nat.pow_succ] at hw ⊢
  apply Nat.eq_of_testBit_eq
  intro i
  rcases Nat.mod_two_eq_zero_or_one n with e | e
  ·obtain ⟨m, rfl⟩ : ∃ m, n = 2 * m := ⟨n / 2, by omega⟩
   have ih := low_and w m (by omega) (by omega)
   rw [low_even (by omega), ← ih, show 2 ^ w * 2 - 2 * m = 2 * (2 ^ w - m) by omega]
   cases i with
   | zero => simp [Nat.testBit_zero]
   | succ i =>
    rw [Nat.testBit_and, Nat.testBit_succ, Nat.testBit_succ, Nat.testBit_succ, Nat.mul_div_cancel_left _ (by decide), Nat.mul_div_cancel_left _ (by decide), Nat.mul_div_cancel_left _ (by decide), Nat.testBit_and]
  ·rw [low_odd e]
   obtain ⟨m, rfl⟩ : ∃ m, n = 2 * m + 1 := ⟨n / 2, by omega⟩
   cases i with
   | zero =>
    simp [Nat.testBit_zero]; omega
   | succ i =>
    rw [Nat.testBit_and, Nat.testBit_succ, Nat.testBit_succ, Nat.testBit_succ]
    rw [show (2 * m + 1) / 2 = m by omega, show (2 ^ w * 2 - (2 * m + 1)) / 2 = 2 ^ w - (m + 1) by omega]
    rw [Nat.testBit_two_pow_sub_succ (by omega)]
    simp
    cases Nat.testBit m i <;> simp

/-- How many of the places stand ahead of n. -/
def cntLt (ps : List Nat) (n : Nat) : Nat := ps.countP (fun p => decide (p < n))
/-- How many of the places the i-th number counts. -/
def cntAt (ps : List Nat) (i : Nat) : Nat := ps.countP (fun p => decide (i - lowB i ≤ p ∧ p < i))
theorem cnt_split (ps : List Nat) (i : Nat) : cntLt ps i = cntLt ps (i - lowB i) + cntAt ps i := by
 unfold cntLt cntAt
 induction ps with
 | nil => rfl
 | cons p ps ih =>
  rw [List.countP_cons, List.countP_cons, List.countP_cons, ih]
  simp only [decide_eq_true_eq]
  split <;> split <;> split <;> omega
theorem cntLt_le (ps : List Nat) (n : Nat) : cntLt ps n ≤ ps.length := List.countP_le_length
theorem cntLt_zero (ps : List Nat) : cntLt ps 0 = 0 := by simp [cntLt]
theorem cntAt_cons (p : Nat) (ps : List Nat) (i : Nat) : cntAt (p :: ps) i = cntAt ps i + if i - lowB i ≤ p ∧ p < i then 1 else 0 := by
 unfold cntAt
 rw [List.countP_cons]
 simp
/-- While one place more is told: the numbers below i have it. -/
def cntBy (p : Nat) (ps : List Nat) (i j : Nat) : Nat := cntAt ps j + if j < i ∧ (j - lowB j ≤ p ∧ p < j) then 1 else 0
theorem cntBy_start (p : Nat) (ps : List Nat) (j : Nat) : cntBy p ps (p + 1) j = cntAt ps j := by
 rw [cntBy, if_neg (by omega)]; rfl
theorem cntBy_end (p : Nat) (ps : List Nat) (i j : Nat) (h : j < i) : cntBy p ps i j = cntAt (p :: ps) j := by
 rw [cntBy, cntAt_cons]
 simp [h]
theorem cntBy_same (p : Nat) (ps : List Nat) (i : Nat) (h : i - lowB i ≤ p ∧ p < i) : cntBy p ps (i + lowB i) i = cntBy p ps i i + 1 := by
 have := low_pos (show 0 < i by omega)
 rw [cntBy, cntBy, if_pos ⟨by omega, h⟩, if_neg (by omega)]
theorem cntBy_other (p : Nat) (ps : List Nat) (i j : Nat) (h : i - lowB i ≤ p ∧ p < i) (hj : j ≠ i) : cntBy p ps (i + lowB i) j = cntBy p ps i j := by
 rw [cntBy, cntBy]
 congr 1
 by_cases h1 : j < i
 ·have := low_pos (show 0 < i by omega)
  simp [h1, show j < i + lowB i by omega]
 ·by_cases h2 : j < i + lowB i
  ·have h3 := low_add i i (j - i) (by omega) (Nat.le_refl _) (by omega) (by omega)
   rw [show i + (j - i) = j by omega] at h3
   have h4 := low_le (show 0 < j - i by omega)
   rw [if_neg (by omega), if_neg (by omega)]
  ·rw [if_neg (by omega), if_neg (by omega)]
theorem cover_up (p i : Nat) (h : i - lowB i ≤ p ∧ p < i) : i + lowB i - lowB (i + lowB i) ≤ p ∧ p < i + lowB i := by
 have h1 := low_up i i (by omega) (Nat.le_refl _)
 omega
theorem cover_start (p : Nat) : (p + 1) - lowB (p + 1) ≤ p ∧ p < p + 1 := by
 have := low_pos (show 0 < p + 1 by omega)
 omega

end Go.Proofs.YtcphokaamkalfaaGreatDoor
namespace Go.Proofs.YtcphokaamkalfaaGreatDoor
open Go.RowKit

/-- No sign: above the last one, or a half of one. -/
def badS (x : Nat) : Bool := decide (1114111 < x) || (decide (55296 ≤ x) && decide (x ≤ 57343))
theorem badS_true {x : Nat} : badS x = true ↔ 1114111 < x ∨ 55296 ≤ x ∧ x ≤ 57343 := by simp [badS]
theorem badS_false {x : Nat} : badS x = false ↔ x ≤ 1114111 ∧ (x < 55296 ∨ 57343 < x) := by
 rw [Bool.eq_false_iff, Ne, badS_true]; omega
/-- A sign put among others. -/
def insN (l : List Nat) (i x : Nat) : List Nat := l.take i ++ x :: l.drop i
theorem insN_length (l : List Nat) (i x : Nat) : (insN l i x).length = l.length + 1 := by simp [insN]; omega
theorem insN_mem {l : List Nat} {i x y : Nat} (h : y ∈ insN l i x) : y = x ∨ y ∈ l := by
 simp [insN] at h
 rcases h with h | h | h
 ·exact .inr (List.mem_of_mem_take h)
 ·exact .inl h
 ·exact .inr (List.mem_of_mem_drop h)

/-- The signs, with those that digits tell put among them. -/
def decL : Nat → List Nat → List UInt8 → Nat → Nat → Nat → Bool → Option (List Nat)
 | 0, l, r, _, _, _, _ => if r = [] then some l else none
 | f + 1, l, r, place, sign, bias, first =>
  if r = [] then some l else
  match rdN bias r 0 1 0 with
  | none => none
  | some (n, m) =>
   if badS (sign + (place + n) / (l.length + 1)) then none
   else decL f (insN l ((place + n) % (l.length + 1)) (sign + (place + n) / (l.length + 1))) (r.drop m) ((place + n) % (l.length + 1) + 1) (sign + (place + n) / (l.length + 1)) (nb n (l.length + 1) first) false
theorem decL_nil (f : Nat) (l : List Nat) (place sign bias : Nat) (first : Bool) : decL f l [] place sign bias first = some l := by
 cases f <;> simp [decL]
theorem decL_none {f : Nat} {l : List Nat} {r : List UInt8} {place sign bias : Nat} {first : Bool} (hr : r ≠ []) (h : rdN bias r 0 1 0 = none) : decL (f + 1) l r place sign bias first = none := by
 rw [decL, if_neg hr, h]
theorem decL_bad {f : Nat} {l : List Nat} {r : List UInt8} {place sign bias n m : Nat} {first : Bool} (hr : r ≠ []) (h : rdN bias r 0 1 0 = some (n, m)) (hb : badS (sign + (place + n) / (l.length + 1)) = true) :
  decL (f + 1) l r place sign bias first = none := by
 rw [decL, if_neg hr, h]; simp [hb]
theorem decL_on {f : Nat} {l : List Nat} {r : List UInt8} {place sign bias n m : Nat} {first : Bool} (hr : r ≠ []) (h : rdN bias r 0 1 0 = some (n, m)) (hb : badS (sign + (place + n) / (l.length + 1)) = false) :
  decL (f + 1) l r place sign bias first = decL f (insN l ((place + n) % (l.length + 1)) (sign + (place + n) / (l.length + 1))) (r.drop m) ((place + n) % (l.length + 1) + 1) (sign + (place + n) / (l.length + 1)) (nb n (l.length + 1) first) false := by
 rw [decL, if_neg hr, h]; simp [hb]

end Go.Proofs.YtcphokaamkalfaaGreatDoor
