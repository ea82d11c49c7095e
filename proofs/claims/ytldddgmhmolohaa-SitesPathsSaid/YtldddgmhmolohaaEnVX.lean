/-
  What lies where while the numbers are told.
  Contract: puny.fewLetters.
  The document's telling of numbers, as lists; it is the program's. Of no walk.
  The document's Encode: its loops, plainly.
  Contract: the document's Encode.
  Contract: the document's Encode, of any text.
  The document's Signs are the program's; both few letters are the same.
  Contract: puny.Encode: the document's answer.
-/
import Derived.Test.YtldddgmhmolohaaMpH
import Derived.Sort.LoopGhostIn
import Derived.Sort.CutIn
import Derived.Deep.DeepCutAuto
import Derived.Lib.TrimUEq
import Derived.Lib.ValidLaws
namespace Go.Proofs.Ytldddgmhmolohaa
open Go.RowKit Go.Shelf

/-- What is told so far, and what is to come. -/
structure Nm (s : ByteArray) (F : List UInt8) (B : Nat) (R : List Pr) (L : List UInt8) (told : List Nat) (i place last bias : Nat) : Prop where
  i_le : i ≤ R.length
  eq : L ++ fewN B (R.drop i) told i place last bias = F
  told_len : told.length = B + i
  place_le : place ≤ told.length
  bias_le : bias ≤ 756
  len : L.length ≤ 1000001 + 17 * i
  last_le : last ≤ 1114111
  nxt : Nxt told place last (R.drop i)

end Go.Proofs.Ytldddgmhmolohaa
namespace Go.Proofs.Ytldddgmhmolohaa
open Go.RowKit Go.Shelf
attribute [local go_sem] Oper.semAt_some

end Go.Proofs.Ytldddgmhmolohaa
namespace Go.Proofs.Ytldddgmhmolohaa

/-- The smallest sign from a sign on. -/
def minS (last : Nat) (l : List Nat) : Nat := l.foldl (fun m x => if last ≤ x ∧ x < m then x else m) 1114112
/-- One going through of the document's: what it tells, the number behind it, how many are told, the bias. -/
def docIn (plain m : Nat) : List Nat → Nat → Nat → Nat → List UInt8 × Nat × Nat × Nat
  | [], number, many, bias => ([], number, many, bias)
  | x :: l, number, many, bias =>
    if x < m then docIn plain m l (number + 1) many bias
    else if x = m then (digsL number number 36 bias ++ (docIn plain m l 0 (many + 1) (nb number (many + 1) (many == plain))).1, (docIn plain m l 0 (many + 1) (nb number (many + 1) (many == plain))).2)
    else docIn plain m l number many bias
/-- The document's numbers. -/
def docOut (plain : Nat) (l : List Nat) : Nat → Nat → Nat → Nat → Nat → List UInt8
  | 0, _, _, _, _ => []
  | f + 1, number, last, many, bias =>
    if many < l.length then
      (docIn plain (minS last l) l (number + (minS last l - last) * (many + 1)) many bias).1 ++
        docOut plain l f ((docIn plain (minS last l) l (number + (minS last l - last) * (many + 1)) many bias).2.1 + 1) (minS last l + 1)
          (docIn plain (minS last l) l (number + (minS last l - last) * (many + 1)) many bias).2.2.1 (docIn plain (minS last l) l (number + (minS last l - last) * (many + 1)) many bias).2.2.2
    else []

end Go.Proofs.Ytldddgmhmolohaa
namespace Go.Proofs.Ytldddgmhmolohaa
open Go.RowKit

/-- The plain signs of a list, as bytes; and the document's few letters. -/
def plL (l : List Nat) : List UInt8 := (l.filter fun x => decide (x < 128)).map UInt8.ofNat
def docE (l : List Nat) : List UInt8 := plL l ++ (if plL l = [] then [] else [45]) ++ docOut (plL l).length l l.length 0 128 (plL l).length 72

end Go.Proofs.Ytldddgmhmolohaa
namespace Go.Proofs.Ytldddgmhmolohaa
open Go.RowKit

end Go.Proofs.Ytldddgmhmolohaa
namespace Go.Proofs.Ytldddgmhmolohaa
open Go.RowKit

/-- What the document's Encode answers. -/
def refEncT (s : ByteArray) : ByteArray × Int :=
  if 65536 < s.size then (⟨#[]⟩, 3) else match sgO s s.size 0 with | none => (⟨#[]⟩, 4) | some l => (⟨(docE l).toArray⟩, 0)
end Go.Proofs.Ytldddgmhmolohaa
namespace Go.Proofs.Ytldddgmhmolohaa
open Go.RowKit

end Go.Proofs.Ytldddgmhmolohaa
namespace Go.Proofs.Ytldddgmhmolohaa
open Go.RowKit

end Go.Proofs.Ytldddgmhmolohaa
