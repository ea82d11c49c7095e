/-
  Package sts, plain words: what a text wishes, read from its beginning on.
-/
import Derived.Test.YthffgnlebljkcaaDoorTrimA
import Derived.Test.YthffgnlebljkcaaDoorTokA
import Derived.Test.YthffgnlebljkcaaDoorLowC
import Derived.Test.YthffgnlebljkcaaDoorAscA
namespace Go.Proofs.YthffgnlebljkcaaDoor
open Go.RowKit

/-- The bytes 61 and 59; the byte 59 alone. -/
def en2 : List UInt8 := [61, 59]
def en1 : List UInt8 := [59]
/-- What stands ahead of the first of some bytes; the rest from there on. -/
def upT (e l : List UInt8) : List UInt8 := l.takeWhile fun c => !e.contains c
def frT (e l : List UInt8) : List UInt8 := l.dropWhile fun c => !e.contains c
/-- A byte that may stand in quotes. -/
def okQ (c : UInt8) : Bool := c.toNat == 9 || (decide (32 ≤ c.toNat) && !(c.toNat == 127))
/-- A text in quotes, behind the first mark: what it says, what stands behind its directive. -/
def quoD : List UInt8 → List UInt8 → Option (List UInt8 × List UInt8)
  | [], _ => none
  | c :: l, a =>
    if c = 34 then (if trimL (upT en1 l) = [] then some (a, frT en1 l) else none)
    else if c = 92 then
      match l with
      | [] => none
      | d :: l' => if okQ d then quoD l' (a ++ [d]) else none
    else if okQ c then quoD l (a ++ [c]) else none
/-- A directive's value. -/
def valD (l : List UInt8) : Option (List UInt8 × List UInt8) :=
  if (cutL l).head? = some 34 then quoD ((cutL l).drop 1) []
  else if tokS (trimL (upT en1 (cutL l))) then some (trimL (upT en1 (cutL l)), frT en1 (cutL l)) else none
/-- What directives say: a name, whether it has a value, the value. -/
abbrev TsE := List UInt8 × Bool × List UInt8
def twiceB (n : List UInt8) (T : List TsE) : Bool := T.any fun x => decide (x.1 = n)
/-- A directive at a text's beginning. -/
def dirD (l : List UInt8) (T : List TsE) : Option (List UInt8 × List TsE) :=
  if (frT en2 l).head? = some 61 then
    if tokS (trimL (upT en2 l)) = false ∨ twiceB ((trimL (upT en2 l)).map low) T = true then none
    else match valD ((frT en2 l).drop 1) with
      | none => none
      | some (t, r) => some (r, T ++ [((trimL (upT en2 l)).map low, true, t)])
  else if trimL (upT en2 l) = [] then some (frT en2 l, T)
  else if tokS (trimL (upT en2 l)) = false ∨ twiceB ((trimL (upT en2 l)).map low) T = true then none
  else some (frT en2 l, T ++ [((trimL (upT en2 l)).map low, false, [])])
/-- All directives. -/
def runF : Nat → List UInt8 → List TsE → Option (List TsE)
  | 0, _, _ => none
  | n + 1, l, T =>
    match dirD l T with
    | none => none
    | some (r, T') => if r.head? = some 59 then runF n (r.drop 1) T' else some T'
def runT (l : List UInt8) (T : List TsE) : Option (List TsE) := runF (l.length + 1) l T
/-- The two names. -/
def nAge : List UInt8 := [109, 97, 120, 45, 97, 103, 101]
def nSub : List UInt8 := [105, 110, 99, 108, 117, 100, 101, 115, 117, 98, 100, 111, 109, 97, 105, 110, 115]
/-- What a name says; nothing, if it is not told. -/
def sayT (n : List UInt8) : List TsE → Option (Bool × List UInt8)
  | [] => none
  | x :: T => if x.1 = n then some x.2 else sayT n T
def capF (a : Int) (c : UInt8) : Int := min (a * 10 + ((c.toNat : Int) - 48)) 2147483647
def capN (l : List UInt8) : Int := l.foldl capF 0
def ageD (l : List UInt8) : Option Int := if l = [] ∨ allR 48 57 l = false then none else some (capN l)
def wishT (T : List TsE) : Option (Int × Bool) :=
  if ((sayT nSub T).getD (false, [])).1 = true then none
  else match ageD ((sayT nAge T).getD (false, [])).2 with
    | none => none
    | some a => some (a, (sayT nSub T).isSome)
/-- What a text wishes, and the error. -/
def prsT (l : List UInt8) : (Int × Bool) × Int :=
  match (runT l []).bind wishT with
  | none => ((0, false), 4)
  | some x => (x, 0)
def prsW (s : ByteArray) : (Int × Bool) × Int := if 65536 < s.size then ((0, false), 3) else prsT s.data.toList

theorem frT_le (e l : List UInt8) : (frT e l).length ≤ l.length := by
  unfold frT
  exact (List.dropWhile_sublist _).length_le
theorem upT_frT (e l : List UInt8) : upT e l ++ frT e l = l := List.takeWhile_append_dropWhile
theorem upT_le (e l : List UInt8) : (upT e l).length ≤ l.length := by
  have := congrArg List.length (upT_frT e l)
  rw [List.length_append] at this
  omega
theorem cutL_le (l : List UInt8) : (cutL l).length ≤ l.length := (List.dropWhile_sublist _).length_le
theorem quoD_le : ∀ (l a t r : List UInt8), quoD l a = some (t, r) → r.length ≤ l.length
  | [], a, t, r, h => by simp [quoD] at h
  | [c], a, t, r, h => by
    unfold quoD at h
    split at h
    · split at h
      · simp only [Option.some.injEq, Prod.mk.injEq] at h
        have := frT_le en1 []
        rw [← h.2]; simp only [List.length_nil, List.length_cons] at this ⊢; omega
      · cases h
    · split at h
      · simp at h
      · split at h
        · simp [quoD] at h
        · cases h
  | c :: d :: l, a, t, r, h => by
    unfold quoD at h
    split at h
    · split at h
      · simp only [Option.some.injEq, Prod.mk.injEq] at h
        have := frT_le en1 (d :: l)
        rw [← h.2]; simp only [List.length_cons] at this ⊢; omega
      · cases h
    · split at h
      · simp only at h
        split at h
        · have := quoD_le _ _ _ _ h
          simp; omega
        · cases h
      · split at h
        · have := quoD_le _ _ _ _ h
          simp at this ⊢; omega
        · cases h
theorem valD_le {l t r : List UInt8} (h : valD l = some (t, r)) : r.length ≤ l.length := by
  unfold valD at h
  have h0 := cutL_le l
  split at h
  · have := quoD_le _ _ _ _ h
    rw [List.length_drop] at this
    omega
  · split at h
    · simp only [Option.some.injEq, Prod.mk.injEq] at h
      have := frT_le en1 (cutL l)
      rw [← h.2]; omega
    · cases h
theorem dirD_le {l : List UInt8} {T : List TsE} {r : List UInt8} {T' : List TsE} (h : dirD l T = some (r, T')) : r.length ≤ l.length := by
  unfold dirD at h
  have h0 := frT_le en2 l
  split at h
  · split at h
    · cases h
    · split at h
      · cases h
      · rename_i hv
        simp only [Option.some.injEq, Prod.mk.injEq] at h
        have := valD_le hv
        rw [List.length_drop] at this
        rw [← h.1]; omega
  · split at h
    · simp only [Option.some.injEq, Prod.mk.injEq] at h
      rw [← h.1]; omega
    · split at h
      · cases h
      · simp only [Option.some.injEq, Prod.mk.injEq] at h
        rw [← h.1]; omega
theorem head_drop {r : List UInt8} {c : UInt8} (h : r.head? = some c) : (r.drop 1).length + 1 = r.length := by
  cases r with
  | nil => cases h
  | cons a r => rfl
theorem runF_more : ∀ (n m : Nat) (l : List UInt8) (T : List TsE), l.length < n → l.length < m → runF n l T = runF m l T
  | 0, _, _, _, h, _ => absurd h (Nat.not_lt_zero _)
  | _ + 1, 0, _, _, _, h => absurd h (Nat.not_lt_zero _)
  | n + 1, m + 1, l, T, h1, h2 => by
    unfold runF
    cases hd : dirD l T with
    | none => rfl
    | some x =>
      obtain ⟨r, T'⟩ := x
      have h3 := dirD_le hd
      simp only
      split
      · rename_i h4
        have h5 := head_drop h4
        exact runF_more n m _ _ (by omega) (by omega)
      · rfl
/-- One directive after the other. -/
theorem runT_eq (l : List UInt8) (T : List TsE) : runT l T = match dirD l T with
    | none => none
    | some (r, T') => if r.head? = some 59 then runT (r.drop 1) T' else some T' := by
  unfold runT
  rw [runF]
  cases hd : dirD l T with
  | none => rfl
  | some x =>
    obtain ⟨r, T'⟩ := x
    have h3 := dirD_le hd
    simp only
    split
    · rename_i h4
      have h5 := head_drop h4
      exact runF_more _ _ _ _ (by omega) (by omega)
    · rfl

end Go.Proofs.YthffgnlebljkcaaDoor
