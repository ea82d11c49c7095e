/-
  Contract: strconv.FormatInt at base 16.
  Contract: joined.
  Contracts: numbersOf at four bytes, and at sixteen by two.
  Contract: longestRun.
  Contract: Text.
  Contract: Text of sixteen bytes. NOT CLEAN YET: the last region (NOTES.md).
  Text of any address: the program's; addresses cell by cell.
-/
import Derived.Test.YtldddgmhmolohaaMaC
import Derived.Test.YtldddgmhmolohaaMaA
import Derived.Test.YtldddgmhmolohaaShelfZ
import Derived.Test.YtldddgmhmolohaaShelfT
import Derived.Lib.AppendIntMem
import Derived.Deep.RegionHeld3
namespace Go.Proofs.Ytldddgmhmolohaa
open Go.RowKit

/-- A digit's sign; a number by a base. -/
def hd (d : Nat) : UInt8 := UInt8.ofNat (if d < 10 then 48 + d else 87 + d)
def numF (b : Nat) : Nat → Nat → List UInt8
  | 0, _ => []
  | f + 1, n => if n < b then [hd n] else numF b f (n / b) ++ [hd (n % b)]

end Go.Proofs.Ytldddgmhmolohaa
namespace Go.Proofs.Ytldddgmhmolohaa
open Go.RowKit

theorem numF_len (b : Nat) : ∀ f n, (numF b f n).length ≤ f
  | 0, _ => Nat.le_refl _
  | f + 1, n => by
    rw [numF]
    split
    · simp
    · have := numF_len b f (n / b)
      rw [List.length_append, List.length_singleton]; omega
theorem lens_le4 : ∀ xs : List (List UInt8), (∀ x ∈ xs, x.length ≤ 4) → Lib.lens xs ≤ 4 * xs.length
  | [], _ => by simp [Lib.lens]
  | x :: r, h => by
    have h1 := h x List.mem_cons_self
    have h2 := lens_le4 r (fun y hy => h y (List.mem_cons_of_mem _ hy))
    have e : Lib.lens (x :: r) = x.length + Lib.lens r := by simp [Lib.lens]
    rw [e, List.length_cons]; omega
theorem join_le (xs : List (List UInt8)) (sep : List UInt8) (h : ∀ x ∈ xs, x.length ≤ 4) (hs : sep.length ≤ 1) : (Lib.join xs sep).length ≤ 5 * xs.length := by
  cases xs with
  | nil => simp [Lib.join_nil]
  | cons x r =>
    have h1 := lens_le4 _ h
    have h2 := Nat.mul_le_mul_right r.length hs
    rw [Lib.join_length]
    rw [List.length_cons] at h1 ⊢
    omega
end Go.Proofs.Ytldddgmhmolohaa
namespace Go.Proofs.Ytldddgmhmolohaa
open Go.RowKit

/-- Sixteen bytes by two, while k of them are read. -/
def by2 (l : List Nat) (k j : Nat) : Nat := if 2 * j + 1 < k then 256 * l.getD (2 * j) 0 + l.getD (2 * j + 1) 0 else if 2 * j < k then l.getD (2 * j) 0 else 0

end Go.Proofs.Ytldddgmhmolohaa
namespace Go.Proofs.Ytldddgmhmolohaa
open Go.RowKit

/-- The longest run of noughts, while k pieces are looked at: where the last run begins, from, to. -/
def lrS (P : List Nat) : Nat → Nat × Nat × Nat
  | 0 => (0, 0, 0)
  | k + 1 => if P.getD k 0 ≠ 0 then (k + 1, (lrS P k).2) else if (lrS P k).2.2 - (lrS P k).2.1 < k + 1 - (lrS P k).1 then ((lrS P k).1, (lrS P k).1, k + 1) else lrS P k
theorem lrS_ok (P : List Nat) : ∀ k, (lrS P k).1 ≤ k ∧ (lrS P k).2.1 ≤ (lrS P k).2.2 ∧ (lrS P k).2.2 ≤ k
  | 0 => ⟨Nat.le_refl _, Nat.le_refl _, Nat.le_refl _⟩
  | k + 1 => by
    obtain ⟨h1, h2, h3⟩ := lrS_ok P k
    rw [lrS]
    split
    · exact ⟨Nat.le_refl _, h2, Nat.le_succ_of_le h3⟩
    · split
      · exact ⟨by simp only; omega, by simp only; omega, by simp only; omega⟩
      · exact ⟨by omega, h2, by omega⟩

end Go.Proofs.Ytldddgmhmolohaa
namespace Go.Proofs.Ytldddgmhmolohaa
open Go.RowKit

/-- The pieces of sixteen bytes. -/
def pcs (l : List Nat) : List Nat := (List.range 8).map (by2 l 16)
/-- The text of an address: the four bytes', the sixteen's. -/
def four1T (l : List Nat) : List UInt8 := Lib.join ((l.take 4).map (numF 10 4)) [46]
def sixT (l : List Nat) : List UInt8 :=
  if (lrS (pcs l) 8).2.2 - (lrS (pcs l) 8).2.1 < 2 then Lib.join ((pcs l).map (numF 16 4)) [58]
  else Lib.join (((pcs l).take (lrS (pcs l) 8).2.1).map (numF 16 4)) [58] ++ [58, 58] ++ Lib.join (((pcs l).drop (lrS (pcs l) 8).2.2).map (numF 16 4)) [58]

end Go.Proofs.Ytldddgmhmolohaa
namespace Go.Proofs.Ytldddgmhmolohaa
open Go.RowKit

end Go.Proofs.Ytldddgmhmolohaa
namespace Go.Proofs.Ytldddgmhmolohaa
open Go.RowKit

/-- The text of an address. -/
def textD (six : Bool) (l : List Nat) : List UInt8 := if six then sixT l else four1T l
end Go.Proofs.Ytldddgmhmolohaa
