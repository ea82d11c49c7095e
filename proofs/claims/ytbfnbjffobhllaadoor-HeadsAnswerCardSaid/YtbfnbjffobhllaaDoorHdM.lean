/-
  Package heads, plain words: a head as it is put, and what is read of bytes.
-/
import Derived.Test.YtbfnbjffobhllaaDoorTrimA
import Derived.Test.YtbfnbjffobhllaaDoorTokA
import Derived.Test.YtbfnbjffobhllaaDoorAscA
import Derived.Test.YtbfnbjffobhllaaDoorLowA
import Derived.Lib.IndexMore
import Derived.Lib.CutLaws
namespace Go.Proofs.YtbfnbjffobhllaaDoor
open Go.RowKit

/-- A byte that is no control byte; a byte of a target. -/
def txB (c : UInt8) : Bool := c.toNat == 9 || (decide (32 ≤ c.toNat) && !(c.toNat == 127))
def sgB (c : UInt8) : Bool := decide (32 < c.toNat) && decide (c.toNat < 127)
abbrev Fld := List UInt8 × List UInt8
def valB (l : List UInt8) : Bool := l.all txB && decide (trimL l = l)
def fldB (f : Fld) : Bool := tokS f.1 && valB f.2
def tgtB (l : List UInt8) : Bool := !l.isEmpty && l.all sgB
def crlf : List UInt8 := [13, 10]
def crlf2 : List UInt8 := [13, 10, 13, 10]
def http1 : List UInt8 := [72, 84, 84, 80, 47, 49, 46, 49]
def http0 : List UInt8 := [72, 84, 84, 80, 47, 49, 46, 48]
/-- A head's lines as they are put. -/
def lineR (m t : List UInt8) : List UInt8 := m ++ [32] ++ t ++ [32] ++ http1
def lineF (f : Fld) : List UInt8 := f.1 ++ [58] ++ [32] ++ f.2
def linesP (m t : List UInt8) (F : List Fld) : List (List UInt8) := lineR m t :: (F.map lineF ++ [[]])
def joinP (L : List (List UInt8)) : List UInt8 := L.flatMap fun l => l ++ crlf
def headP (m t : List UInt8) (F : List Fld) : List UInt8 := joinP (linesP m t F)
def putOk (m t : List UInt8) (F : List Fld) : Bool := tokS m && tgtB t && F.all fldB
def putE (m t : List UInt8) (F : List Fld) : Int := if putOk m t F = false then 1 else if 256 < F.length then 3 else if 65536 < (headP m t F).length then 3 else 0
def putT (m t : List UInt8) (F : List Fld) : List UInt8 := if putE m t F = 0 then headP m t F else []
/-- Where the head ends that bytes begin with. -/
def idx2 (b : List UInt8) : Int := Lib.index (b.take 65536) crlf2
def aheadE (b : List UInt8) : Int := if 0 ≤ idx2 b then 0 else if 65536 ≤ b.length then 3 else 7
def headT (b : List UInt8) : List UInt8 := b.take ((idx2 b).toNat + 4)
def bodyT (b : List UInt8) : List UInt8 := b.take ((idx2 b).toNat + 2)
/-- Its lines. -/
def linF : Nat → List UInt8 → List (List UInt8)
  | 0, _ => []
  | n + 1, l => if l = [] then [] else (Lib.cut l crlf).1 :: linF n (Lib.cut l crlf).2.1
def linT (l : List UInt8) : List (List UInt8) := linF (l.length + 1) l
/-- What a line tells. -/
def fldV (l : List UInt8) : Fld := ((Lib.cut l [58]).1, trimL (Lib.cut l [58]).2.1)
def fldD (l : List UInt8) : Option Fld := if (Lib.cut l [58]).2.2 = true ∧ fldB (fldV l) = true then some (fldV l) else none
abbrev Fst12 := List UInt8 × List UInt8 × Int
def resV (l : List UInt8) : List UInt8 := (Lib.cut l [32]).1
def resG (l : List UInt8) : List UInt8 := (Lib.cut (Lib.cut l [32]).2.1 [32]).1
def resW (l : List UInt8) : List UInt8 := (Lib.cut (Lib.cut l [32]).2.1 [32]).2.1
def resD (l : List UInt8) : Option Fst12 :=
  if (resV l = http1 ∨ resV l = http0) ∧ (resG l).length = 3 ∧ (resW l).all txB = true ∧ 100 ≤ numV (resG l) 999 then some ([], [], numV (resG l) 999) else none
def reqD (l : List UInt8) : Option Fst12 :=
  if tokS (resV l) = true ∧ tgtB (resG l) = true ∧ resW l = http1 then some (resV l, resG l, 0) else none
def gath : List (List UInt8) → List Fld → Option (List Fld)
  | [], F => some F
  | l :: r, F => match fldD l with
    | none => none
    | some f => gath r (F ++ [f])
/-- A message: method, target, status, fields. -/
abbrev Msg12 := Fst12 × List Fld
def msg0 : Msg12 := (([], [], 0), [])
def msgD (rd : List UInt8 → Option Fst12) : List (List UInt8) → Option Msg12
  | [] => some msg0
  | l :: r => match rd l with
    | none => none
    | some x => match gath r [] with
      | none => none
      | some F => some (x, F)
def readD (rd : List UInt8 → Option Fst12) (b : List UInt8) : Msg12 × Int × Int :=
  if aheadE b ≠ 0 then (msg0, 0, aheadE b)
  else match msgD rd (linT (bodyT b)) with
    | none => (msg0, 0, 8)
    | some m => if 256 < m.2.length then (msg0, 0, 3) else (m, ((headT b).length : Int), 0)
/-- The values of all fields of a name. -/
def findD (F : List Fld) (n : List UInt8) : List (List UInt8) := (F.filter fun f => decide (f.1.map low = n.map low)).map (·.2)

theorem cut_le (l s : List UInt8) : (Lib.cut l s).2.1.length ≤ l.length := by
  unfold Lib.cut
  split
  · simp
  · exact Nat.zero_le _
theorem cut_lt {l s : List UInt8} (h : l ≠ []) (hs : s ≠ []) : (Lib.cut l s).2.1.length < l.length := by
  have hl : 0 < l.length := List.length_pos_iff.2 h
  have h2 : 0 < s.length := List.length_pos_iff.2 hs
  unfold Lib.cut
  split
  · simp; omega
  · exact hl
theorem crlf_ne : crlf ≠ [] := by decide
theorem linF_more : ∀ (n m : Nat) (l : List UInt8), l.length < n → l.length < m → linF n l = linF m l
  | 0, _, _, h, _ => absurd h (Nat.not_lt_zero _)
  | _ + 1, 0, _, _, h => absurd h (Nat.not_lt_zero _)
  | n + 1, m + 1, l, h1, h2 => by
    unfold linF
    split
    · rfl
    · rename_i h
      have := cut_lt h crlf_ne
      rw [linF_more n m _ (by omega) (by omega)]
theorem linT_nil : linT [] = [] := rfl
theorem linT_eq {l : List UInt8} (h : l ≠ []) : linT l = (Lib.cut l crlf).1 :: linT (Lib.cut l crlf).2.1 := by
  have h1 := cut_lt h crlf_ne
  unfold linT
  rw [linF, if_neg h, linF_more l.length ((Lib.cut l crlf).2.1.length + 1) _ h1 (Nat.lt_succ_self _)]
theorem joinP_cons (l : List UInt8) (L : List (List UInt8)) : joinP (l :: L) = l ++ crlf ++ joinP L := by simp [joinP]
theorem joinP_app (K L : List (List UInt8)) : joinP (K ++ L) = joinP K ++ joinP L := by simp [joinP]
theorem joinP_nil : joinP [] = [] := rfl

end Go.Proofs.YtbfnbjffobhllaaDoor
