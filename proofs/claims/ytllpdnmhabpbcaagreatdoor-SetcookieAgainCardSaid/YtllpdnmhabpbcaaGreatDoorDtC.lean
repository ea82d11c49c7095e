/-
  The words of a cookie's date, in plain lists of bytes (package dates).
-/
import Derived.Test.YtllpdnmhabpbcaaGreatDoorLowA
import Derived.Test.YtllpdnmhabpbcaaGreatDoorDtM
namespace Go.Proofs.YtllpdnmhabpbcaaGreatDoor
/-- A byte that stands between words; a digit. -/
def btw (c : UInt8) : Bool := c.toNat == 9 || (decide (32 ≤ c.toNat) && decide (c.toNat ≤ 47)) || (decide (59 ≤ c.toNat) && decide (c.toNat ≤ 64)) || (decide (91 ≤ c.toNat) && decide (c.toNat ≤ 96)) || (decide (123 ≤ c.toNat) && decide (c.toNat ≤ 126))
def isD (c : UInt8) : Bool := inR 48 57 c.toNat
def toldN (least most : Nat) (l : List UInt8) : Option (Int × List UInt8) :=
  if least ≤ (l.takeWhile isD).length ∧ (l.takeWhile isD).length ≤ most then some (num (l.takeWhile isD), l.dropWhile isD) else none
def afterC : List UInt8 → Option (List UInt8)
  | [] => none
  | c :: r => if c = 58 then some r else none
def clockP (l : List UInt8) : Option (Int × Int × Int) :=
  match toldN 1 2 l with
  | none => none
  | some (h, r) => match afterC r with
    | none => none
    | some r => match toldN 1 2 r with
      | none => none
      | some (m, r) => match afterC r with
        | none => none
        | some r => match toldN 1 2 r with
          | none => none
          | some (x, _) => some (h, m, x)
def monL : List (List UInt8) := [[], [74, 97, 110], [70, 101, 98], [77, 97, 114], [65, 112, 114], [77, 97, 121], [74, 117, 110], [74, 117, 108], [65, 117, 103], [83, 101, 112], [79, 99, 116], [78, 111, 118], [68, 101, 99]]
def monAt (l : List UInt8) (k : Nat) : Bool := decide ((l.take 3).map low = (monL.getD k []).map low)
def monF (l : List UInt8) : Nat → Nat → Option Nat
  | 0, _ => none
  | f + 1, k => if monAt l k then some k else monF l f (k + 1)
def moP (l : List UInt8) : Option Nat := if l.length < 3 then none else monF l 12 1
/-- What the words of a cookie's date told. -/
structure Told where
  tm : Option (Int × Int × Int)
  dy : Option Int
  mo : Option Nat
  yr : Option Int
def step4 (st : Told) (w : List UInt8) : Told :=
  if st.yr = none then match toldN 2 4 w with
    | some (n, _) => { st with yr := some n }
    | none => st
  else st
def step3 (st : Told) (w : List UInt8) : Told :=
  if st.mo = none then match moP w with
    | some m => { st with mo := some m }
    | none => step4 st w
  else step4 st w
def step2 (st : Told) (w : List UInt8) : Told :=
  if st.dy = none then match toldN 1 2 w with
    | some (n, _) => { st with dy := some n }
    | none => step3 st w
  else step3 st w
def step (st : Told) (w : List UInt8) : Told :=
  if st.tm = none then match clockP w with
    | some t => { st with tm := some t }
    | none => step2 st w
  else step2 st w
def nob (c : UInt8) : Bool := !btw c
/-- The words, as the reader cuts them. -/
def cutF : Nat → Told → List UInt8 → Told
  | 0, st, _ => st
  | f + 1, st, l => if l = [] then st else cutF f (step st ((l.dropWhile btw).takeWhile nob)) ((l.dropWhile btw).dropWhile nob)
/-- The words, byte for byte. -/
def endW (st : Told) (cur : List UInt8) : Told := if cur = [] then st else step st cur
def scanF : Told → List UInt8 → List UInt8 → Told
  | st, cur, [] => endW st cur
  | st, cur, c :: l => if btw c then scanF (endW st cur) [] l else scanF st (cur ++ [c]) l
def noneT : Told := ⟨none, none, none, none⟩
def whole (y : Int) : Int := if y < 70 then 2000 + y else if y < 100 then 1900 + y else y

theorem step_nil (st : Told) : step st [] = st := by
  have h1 : clockP [] = none := rfl
  have h2 : toldN 1 2 [] = none := rfl
  have h3 : moP [] = none := rfl
  have h4 : toldN 2 4 [] = none := rfl
  unfold step; rw [h1]; unfold step2; rw [h2]; unfold step3; rw [h3]; unfold step4; rw [h4]
  simp
theorem scan_btw (st : Told) : ∀ l : List UInt8, scanF st [] l = scanF st [] (l.dropWhile btw)
  | [] => rfl
  | c :: l => by
    rw [List.dropWhile_cons]
    cases h : btw c with
    | true => simp only [if_true]; rw [← scan_btw st l]; rw [scanF, if_pos h]; rfl
    | false => simp
theorem scan_nob (st : Told) : ∀ (l cur : List UInt8), scanF st cur l = scanF (endW st (cur ++ l.takeWhile nob)) [] (l.dropWhile nob)
  | [], cur => by simp [scanF, endW]
  | c :: l, cur => by
    rw [List.takeWhile_cons, List.dropWhile_cons]
    cases h : btw c with
    | true => simp [nob, h]; rw [scanF, if_pos h, scanF, if_pos h]; rfl
    | false =>
      have hn : nob c = true := by simp [nob, h]
      rw [if_pos hn, if_pos hn, scanF, h]
      simp only [Bool.false_eq_true, if_false]
      rw [scan_nob st l (cur ++ [c])]; simp
theorem cut_scan : ∀ (f : Nat) (st : Told) (l : List UInt8), l.length ≤ f → cutF f st l = scanF st [] l
  | 0, st, l, h => by
    have : l = [] := List.length_eq_zero_iff.1 (by omega)
    subst this; rfl
  | f + 1, st, l, h => by
    rw [cutF]
    by_cases hl : l = []
    · subst hl; rfl
    · rw [if_neg hl, scan_btw, scan_nob, List.nil_append]
      have hlen : ((l.dropWhile btw).dropWhile nob).length ≤ f := by
        have h1 : (l.dropWhile btw).length ≤ l.length := (List.dropWhile_suffix _).length_le
        have h2 : ((l.dropWhile btw).dropWhile nob).length ≤ (l.dropWhile btw).length := (List.dropWhile_suffix _).length_le
        cases hd : l.dropWhile btw with
        | nil => simp
        | cons c m =>
          have hc : btw c = false := by
            have := List.head?_dropWhile_not btw l
            rw [hd] at this; simpa using this
          have hn : nob c = true := by simp [nob, hc]
          rw [List.dropWhile_cons, if_pos hn]
          have h3 : (m.dropWhile nob).length ≤ m.length := (List.dropWhile_suffix _).length_le
          have h4 := congrArg List.length hd
          simp at h4; omega
      rw [cut_scan f _ _ hlen]
      congr 1
      unfold endW
      split
      · rename_i h0; rw [h0, step_nil]
      · rfl
theorem monF_some (l : List UInt8) : ∀ (f k m : Nat), monF l f k = some m → k ≤ m ∧ m < k + f ∧ monAt l m = true
  | 0, k, m, h => by cases h
  | f + 1, k, m, h => by
    rw [monF] at h
    split at h
    · rename_i h1
      cases h; exact ⟨Nat.le_refl _, by omega, h1⟩
    · have := monF_some l f (k + 1) m h
      exact ⟨by omega, by omega, this.2.2⟩
theorem moP_some {l : List UInt8} {m : Nat} (h : moP l = some m) : 3 ≤ l.length ∧ 1 ≤ m ∧ m ≤ 12 := by
  unfold moP at h
  split at h
  · cases h
  · have := monF_some l 12 1 m h
    omega
end Go.Proofs.YtllpdnmhabpbcaaGreatDoor
