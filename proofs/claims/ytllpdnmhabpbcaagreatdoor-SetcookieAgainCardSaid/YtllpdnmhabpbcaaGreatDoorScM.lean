/-
  Package setcookie: what a field's value tells, in plain words.
-/
import Derived.Test.YtllpdnmhabpbcaaGreatDoorUrM
import Derived.Test.YtllpdnmhabpbcaaGreatDoorSplM
import Derived.Test.YtllpdnmhabpbcaaGreatDoorLowC
import Derived.Test.YtllpdnmhabpbcaaGreatDoorDtZ
import Derived.Test.YtllpdnmhabpbcaaGreatDoorDtB
import Derived.Test.YtllpdnmhabpbcaaGreatDoorAdB
namespace Go.Proofs.YtllpdnmhabpbcaaGreatDoor
open Go.RowKit

/-- What a server tells of a cookie. -/
structure Cki where
  nm : ByteArray
  vl : ByteArray
  dm : ByteArray
  pa : ByteArray
  ex : Int
  hx : Bool
  ag : Int
  ha : Bool
  se : Bool
  hi : Bool
  si : Int
def noB : ByteArray := ⟨#[]⟩
def ck0 : Cki := ⟨noB, noB, noB, noB, 0, false, 0, false, false, false, 0⟩
/-- Its cells. -/
def ckR (t : Cki) : Array Value := #[.string t.nm, .string t.vl, .string t.dm, .string t.pa, .int .i64 t.ex, .bool t.hx, .int .i64 t.ag, .bool t.ha, .bool t.se, .bool t.hi, .int .u8 t.si]
/-- A pair's name, its value, and whether it has an equals sign. -/
def eqF (s : ByteArray) : Bool := (cutP 61 s.data.toList).2.2
def pnm (s : ByteArray) : ByteArray := trimA (asB (cutP 61 s.data.toList).1)
def pvl (s : ByteArray) : ByteArray := trimA (asB (cutP 61 s.data.toList).2.1)
/-- An age, as digits tell it, a sign ahead or not. -/
def ageL (l : List UInt8) : List UInt8 := if l.head? = some 45 then l.drop 1 else l
def ageB (l : List UInt8) : Bool := !(ageL l).isEmpty && allR 48 57 (ageL l)
def ageV (l : List UInt8) : Int := if l.head? = some 45 then - min 2147483647 (num (ageL l)) else min 2147483647 (num (ageL l))
/-- The seven names. -/
def kEx : List UInt8 := [101, 120, 112, 105, 114, 101, 115]
def kAg : List UInt8 := [109, 97, 120, 45, 97, 103, 101]
def kDm : List UInt8 := [100, 111, 109, 97, 105, 110]
def kPa : List UInt8 := [112, 97, 116, 104]
def kSe : List UInt8 := [115, 101, 99, 117, 114, 101]
def kHi : List UInt8 := [104, 116, 116, 112, 111, 110, 108, 121]
def kSi : List UInt8 := [115, 97, 109, 101, 115, 105, 116, 101]
def siteV (l : List UInt8) : Int := if l = [115, 116, 114, 105, 99, 116] then 1 else if l = [108, 97, 120] then 2 else if l = [110, 111, 110, 101] then 3 else 0
/-- A text without a point at its beginning. -/
def unpt (l : List UInt8) : List UInt8 := if l.head? = some 46 then l.drop 1 else l
/-- What one attribute does. -/
def sayEx (t : Cki) (v : ByteArray) : Cki := if cookB (toldT v) then { t with ex := cookR (toldT v), hx := true } else t
def sayAg (t : Cki) (v : ByteArray) : Cki := if ageB v.data.toList then { t with ag := ageV v.data.toList, ha := true } else t
def sayDm (t : Cki) (v : ByteArray) : Cki := { t with dm := lowS (asB (unpt v.data.toList)) }
def sayPa (t : Cki) (v : ByteArray) : Cki := { t with pa := if v.data.toList.head? = some 47 then v else noB }
def saySi (t : Cki) (v : ByteArray) : Cki := { t with si := siteV (v.data.toList.map low) }
def say (t : Cki) (n : List UInt8) (v : ByteArray) : Cki :=
  if n = kEx then sayEx t v else if n = kAg then sayAg t v else if n = kDm then sayDm t v else if n = kPa then sayPa t v
  else if n = kSe then { t with se := true } else if n = kHi then { t with hi := true } else if n = kSi then saySi t v else t
def heard (t : Cki) (p : ByteArray) : Cki := if (pvl p).size ≤ 1024 then say t ((pnm p).data.toList.map low) (pvl p) else t
/-- A byte that no field's value has. -/
def ctlB (c : UInt8) : Bool := c.toNat == 127 || (decide (c.toNat < 32) && !(c.toNat == 9))
/-- The first pair. -/
def fnm (p : ByteArray) : ByteArray := if eqF p then pnm p else noB
def fvl (p : ByteArray) : ByteArray := if eqF p then pvl p else pnm p
def prsF (ps : List ByteArray) : Cki × Int :=
  match ps with
  | [] => (ck0, 0)
  | p :: r =>
    if 4096 < (fnm p).size + (fvl p).size then (ck0, 3) else if (fnm p).size = 0 ∧ (fvl p).size = 0 then (ck0, 4)
    else (r.foldl heard { ck0 with nm := fnm p, vl := fvl p }, 0)
def prsC (s : ByteArray) : Cki × Int :=
  if 65536 < s.size then (ck0, 3) else if s.data.toList.any ctlB then (ck0, 4) else prsF (partsA 59 s)

/-- An age's digits as Number sees them: one nought, then those without noughts ahead. -/
theorem num_cons (c : UInt8) (l : List UInt8) : num (c :: l) = ((c.toNat : Int) - 48) * 10 ^ l.length + num l := by
  refine snocInd (P := fun l => num (c :: l) = ((c.toNat : Int) - 48) * 10 ^ l.length + num l) (by simp [num]) (fun l d ih => ?_) l
  rw [← List.cons_append, num_snoc, num_snoc, ih, List.length_append, List.length_singleton, Int.pow_succ, Int.add_mul, Int.mul_assoc]
  omega
theorem num_drop0 : ∀ l : List UInt8, num (l.dropWhile (· == 48)) = num l
  | [] => rfl
  | c :: l => by
    by_cases h : c = 48
    · subst h
      rw [List.dropWhile_cons, if_pos (by rfl), num_drop0 l, num_cons]
      simp
    · rw [List.dropWhile_cons, if_neg (by simpa using h)]
theorem allR_drop {l : List UInt8} (h : allR 48 57 l = true) : allR 48 57 (l.dropWhile (· == 48)) = true := by
  unfold allR at *
  rw [List.all_eq_true] at *
  exact fun c hc => h c ((List.dropWhile_sublist _).subset hc)
theorem num_big {l : List UInt8} (h : allR 48 57 l = true) (h0 : ∀ c, l.head? = some c → c ≠ 48) (hl : 17 < l.length) : 2147483647 < num l := by
  cases l with
  | nil => simp at hl
  | cons c r =>
    have hc := h0 c rfl
    unfold allR at h
    rw [List.all_cons, Bool.and_eq_true, inR_true] at h
    have hb := num_bd r h.2
    have hne : (c.toNat : Int) ≠ 48 := fun e => hc (by
      have : c.toNat = (48 : UInt8).toNat := by simpa using (by omega : c.toNat = 48)
      exact UInt8.toNat.inj this)
    rw [num_cons]
    have h17 : 17 ≤ r.length := by simp at hl; omega
    have hp : (10 : Int) ^ 17 ≤ 10 ^ r.length := by
      have := Nat.pow_le_pow_right (n := 10) (by omega) h17
      exact_mod_cast this
    have hm : (10 : Int) ^ r.length ≤ ((c.toNat : Int) - 48) * 10 ^ r.length := by
      have h1 : (1 : Int) ≤ (c.toNat : Int) - 48 := by omega
      have h2 : (0 : Int) ≤ 10 ^ r.length := by omega
      have := Int.mul_le_mul_of_nonneg_right h1 h2
      rwa [Int.one_mul] at this
    omega
/-- Of an age the program asks Number, and takes the most where it tells none. -/
theorem age_num {l : List UInt8} (h : allR 48 57 l = true) :
    (if numB (48 :: l.dropWhile (· == 48)) 2147483647 = true then numV (48 :: l.dropWhile (· == 48)) 2147483647 else 2147483647) = min 2147483647 (num l) := by
  have ha := allR_drop h
  have ha' : allR 48 57 (48 :: l.dropWhile (· == 48)) = true := by
    unfold allR at *; rw [List.all_cons, ha]; rfl
  have hn : num (48 :: l.dropWhile (· == 48)) = num l := by rw [num_cons, num_drop0]; simp
  by_cases hl : (48 :: l.dropWhile (· == 48)).length ≤ 18
  · by_cases hm : num l ≤ 2147483647
    · have := num_yes (48 :: l.dropWhile (· == 48)) 2147483647 (by simp) hl ha' (by omega)
      rw [this.1, this.2, if_pos rfl, hn]; omega
    · have := num_no (48 :: l.dropWhile (· == 48)) 2147483647 (.inr (.inr (.inr (by omega))))
      rw [this.2, if_neg (by decide)]; omega
  · have := num_no (48 :: l.dropWhile (· == 48)) 2147483647 (.inr (.inl (by omega)))
    rw [this.2, if_neg (by decide)]
    have hb := num_big ha (fun c hc => by
      intro e; subst e
      have h1 := List.head?_dropWhile_not (fun x : UInt8 => x == 48) l
      rw [hc] at h1
      simp at h1) (by simp at hl ⊢; omega)
    rw [num_drop0] at hb
    omega
theorem ageV_bd {l : List UInt8} (h : ageB l = true) : -2147483647 ≤ ageV l ∧ ageV l ≤ 2147483647 := by
  unfold ageB at h
  rw [Bool.and_eq_true] at h
  have := num_bd _ h.2
  unfold ageV
  split <;> omega

end Go.Proofs.YtllpdnmhabpbcaaGreatDoor
