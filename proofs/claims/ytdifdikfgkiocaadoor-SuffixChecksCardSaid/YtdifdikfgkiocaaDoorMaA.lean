/-
  Plain words on bytes as three signs: sets, encoding, decoding. Of no program.
  Plain words on addresses: digits, numbers, parts, rows that are cut off a text. Of no program.
  Plain words on addresses of four bytes: a part's number, the numbers as bytes, what the document asks, what a reader cuts. Of no program.
  Plain words on addresses of sixteen bytes: pieces, four bytes at their end, where nothing stands; what the document asks, what a reader cuts. Of no program.
  Frames: all that was there is as it was but for named blocks; a block of one text; rows of ints that are put behind a row.
  Texts and lists of bytes.
-/
import Derived.Test.YtdifdikfgkiocaaDoorMpA
import Derived.Test.YtdifdikfgkiocaaDoorRows
import Derived.WalkSpells
import Derived.WalkLawsBesides
import Derived.OneCell
import Derived.Deep.WholeRow
import Derived.Laws.CopyOwn
import Derived.Deep.QuietTactic
import Derived.BigQuiet
import Derived.Deep.AppendLies
import Derived.ArgAppend
import Derived.RegionTactic
import Derived.Lib.DecodeN
import Derived.Lib.AppendZeros
namespace Go.Proofs.YtdifdikfgkiocaaDoor
open Go.RowKit

/-- What a digit tells; 16: it is none. -/
def hexV (c : UInt8) : Nat := if 48 ≤ c.toNat ∧ c.toNat ≤ 57 then c.toNat - 48 else if 65 ≤ c.toNat ∧ c.toNat ≤ 70 then c.toNat - 55 else if 97 ≤ c.toNat ∧ c.toNat ≤ 102 then c.toNat - 87 else 16
end Go.Proofs.YtdifdikfgkiocaaDoor
namespace Go.Proofs.YtdifdikfgkiocaaDoor
open Go.RowKit

/-- Puts a byte ahead of the first part. -/
def ahd (c : UInt8) : List (List UInt8) → List (List UInt8)
  | [] => [[c]]
  | p :: ps => (c :: p) :: ps
/-- What stands between the bytes a. -/
def pts (a : UInt8) : List UInt8 → List (List UInt8)
  | [] => [[]]
  | c :: l => if c = a then [] :: pts a l else ahd c (pts a l)
theorem pts_ne (a : UInt8) (l : List UInt8) : pts a l ≠ [] := by
  cases l with
  | nil => simp [pts]
  | cons c l =>
    rw [pts]; split
    · simp
    · cases pts a l <;> simp [ahd]
theorem pts_append (a : UInt8) (r : List UInt8) : ∀ l : List UInt8, pts a (l ++ a :: r) = pts a l ++ pts a r
  | [] => by simp [pts]
  | c :: l => by
    have ih := pts_append a r l
    rw [List.cons_append, pts, pts, ih]
    by_cases h : c = a
    · rw [if_pos h, if_pos h]; rfl
    · rw [if_neg h, if_neg h]
      have hne := pts_ne a l
      cases e : pts a l with
      | nil => contradiction
      | cons q qs => rfl
theorem pts_none (a : UInt8) : ∀ (l : List UInt8), (∀ c ∈ l, c ≠ a) → pts a l = [l]
  | [], _ => rfl
  | c :: l, h => by
    rw [pts, if_neg (h c List.mem_cons_self), pts_none a l fun x hx => h x (List.mem_cons_of_mem _ hx)]; rfl
theorem pts_front (a : UInt8) (q r : List UInt8) (h : ∀ c ∈ q, c ≠ a) : pts a (q ++ a :: r) = q :: pts a r := by
  rw [pts_append, pts_none a q h]; rfl
/-- Is a byte a digit by a base? What digits tell, 2^32 at most. -/
def dig (b : Nat) (c : UInt8) : Bool := decide (hexV c < b)
def stp (b n : Nat) (c : UInt8) : Nat := min 4294967296 (n * b + hexV c)
def fol (b : Nat) (l : List UInt8) : Nat := l.foldl (stp b) 0
def cnt (b : Nat) (l : List UInt8) : Option Nat := if l.all (dig b) then some (fol b l) else none
theorem fol_snoc (b : Nat) (l : List UInt8) (c : UInt8) : fol b (l ++ [c]) = stp b (fol b l) c := by simp [fol]
/-- The parts, one by one; the last one otherwise than the others. -/
def evs (evI evL : List UInt8 → Option (List Nat)) : List (List UInt8) → Option (List Nat)
  | [] => none
  | [q] => evL q
  | q :: Q => match evI q with
    | none => none
    | some ns => match evs evI evL Q with
      | none => none
      | some ms => some (ns ++ ms)
theorem evs_cons (evI evL : List UInt8 → Option (List Nat)) (q : List UInt8) {Q : List (List UInt8)} (h : Q ≠ []) : evs evI evL (q :: Q) = match evI q with
    | none => none
    | some ns => match evs evI evL Q with
      | none => none
      | some ms => some (ns ++ ms) := by
  cases Q with
  | nil => contradiction
  | cons p Q => rfl

end Go.Proofs.YtdifdikfgkiocaaDoor
namespace Go.Proofs.YtdifdikfgkiocaaDoor
open Go.RowKit

def isX : List UInt8 → Bool
  | a :: b :: _ => decide (a = 48) && (decide (b = 120) || decide (b = 88))
  | _ => false
/-- A part's number. -/
def numD (l : List UInt8) : Option Nat := if isX l then cnt 16 (l.drop 2) else if 2 ≤ l.length ∧ l.head? = some 48 then cnt 8 (l.drop 1) else if l = [] then none else cnt 10 l
def num1 (l : List UInt8) : Option (List Nat) := match numD l with
  | none => none
  | some n => some [n]
theorem cnt_all {b : Nat} {q : List UInt8} (h : q.all (dig b) = true) : cnt b q = some (fol b q) := by rw [cnt, if_pos h]
/-- The rest ahead of which a part stands: nothing, or what begins with a byte that is no digit. -/
def Endy (R : List UInt8) : Prop := ∀ c, R.head? = some c → hexV c = 16
theorem Endy.dig {R : List UInt8} (h : Endy R) {b : Nat} (hb : b ≤ 16) : ∀ c, R.head? = some c → Go.Proofs.YtdifdikfgkiocaaDoor.dig b c = false := by
  intro c hc
  have := h c hc
  simp [Go.Proofs.YtdifdikfgkiocaaDoor.dig, this]; omega
/-- A number as bytes, the highest first. -/
def be : Nat → Nat → List Nat
  | 0, _ => []
  | k + 1, n => be k (n / 256) ++ [n % 256]
/-- Numbers as r bytes: the last one has the room that the others leave. -/
def lay4 : Nat → List Nat → Option (List Nat)
  | r, [] => some (List.replicate r 0)
  | r, [n] => if n < 256 ^ r then some (be r n) else none
  | r, n :: m :: ns => if n < 256 then match lay4 (r - 1) (m :: ns) with
    | none => none
    | some bs => some (n :: bs) else none
/-- Without a point at its end. -/
def trimP (l : List UInt8) : List UInt8 := if l.getLast? = some 46 then l.dropLast else l
def looksQ (q : List UInt8) : Bool := (!q.isEmpty && q.all (dig 10)) || (isX q && (numD q).isSome)
def lastQ (P : List (List UInt8)) : List UInt8 := P.getLast?.getD []
/-- Looks a text like four bytes, and which are they? -/
def fourD (l : List UInt8) : Bool × Option (List Nat) :=
  if looksQ (lastQ (pts 46 (trimP l))) then (true, if 4 < (pts 46 (trimP l)).length then none else match evs num1 num1 (pts 46 (trimP l)) with
    | none => none
    | some ns => lay4 4 ns) else (false, none)
end Go.Proofs.YtdifdikfgkiocaaDoor
namespace Go.Proofs.YtdifdikfgkiocaaDoor
open Go.RowKit

end Go.Proofs.YtdifdikfgkiocaaDoor
namespace Go.Proofs.YtdifdikfgkiocaaDoor
open Go.RowKit

/-- All blocks that were there are as they were, but those of X. -/
structure Kp (X : Nat → Prop) (w w' : World) : Prop where
  os : w'.os = w.os
  tape : w'.tape = w.tape
  output : w'.output = w.output
  size : w.heap.size ≤ w'.heap.size
  block : ∀ k, k < w.heap.size → ¬ X k → w'.heap[k]? = w.heap[k]?
theorem Kp.refl (X : Nat → Prop) (w : World) : Kp X w w := ⟨rfl, rfl, rfl, Nat.le_refl _, fun _ _ _ => rfl⟩
theorem Kp.trans {X : Nat → Prop} {a b c : World} (h : Kp X a b) (k : Kp X b c) : Kp X a c :=
  ⟨k.os.trans h.os, k.tape.trans h.tape, k.output.trans h.output, Nat.le_trans h.size k.size, fun i hi hx => (k.block i (Nat.lt_of_lt_of_le hi h.size) hx).trans (h.block i hi hx)⟩
theorem Kp.of_below {X : Nat → Prop} {a b : World} (h : Below a.heap.size a b) : Kp X a b := ⟨h.os, h.tape, h.output, h.size, fun k hk _ => h.block k hk⟩
theorem Kp.alloc {X : Nat → Prop} {a w : World} (h : Kp X a w) (o : Obj) : Kp X a (w.alloc o) := h.trans (.of_below ((Below.refl _ _).alloc (Nat.le_refl _) o))
theorem Kp.drewN {X : Nat → Prop} {a w : World} (h : Kp X a w) (n : Nat) : Kp X a (w.drewN n) := ⟨h.os, h.tape, h.output, h.size, h.block⟩
theorem Kp.mono {X Y : Nat → Prop} {a w : World} (h : Kp X a w) (hxy : ∀ k, X k → Y k) : Kp Y a w := ⟨h.os, h.tape, h.output, h.size, fun k hk hy => h.block k hk (fun hx => hy (hxy k hx))⟩
theorem Kp.cell {X : Nat → Prop} {a w : World} (h : Kp X a w) {p : Addr} {v : Value} (hc : a.cell? p = some v) (hx : ¬ X p.block) : w.cell? p = some v :=
  (World.cell?_of_block (w := a) (h.block p.block (block_lt_of_cell hc) hx)).trans hc
theorem Kp.at {X : Nat → Prop} {a w : World} (h : Kp X a w) {k : Nat} {o : Obj} (hc : a.heap[k]? = some o) (hx : ¬ X k) : w.heap[k]? = some o :=
  (h.block k (lt_of_block hc) hx).trans hc
theorem Kp.grown {X : Nat → Prop} {a w w' : World} {row : Option Nat} (h : Kp X a w) (hg : w.grownBy w' row) (hr : ∀ q, row = some q → a.heap.size ≤ q) : Kp X a w' :=
  ⟨hg.os.trans h.os, hg.tape.trans h.tape, hg.output.trans h.output, Nat.le_trans h.size hg.size, fun k hk hx => (hg.block k (Nat.lt_of_lt_of_le hk h.size) (fun e => by have := hr k e.symm; omega)).trans (h.block k hk hx)⟩
/-- One block alone. -/
def Only (b : Nat) : Nat → Prop := fun k => k = b
/-- A block that holds one value. -/
def Holds1 (w : World) (b : Nat) (t : TypeId) (v : Value) : Prop := w.heap[b]? = some (.cells #[v] t (0, 0))
theorem Holds1.cell {w : World} {b : Nat} {t : TypeId} {v : Value} (h : Holds1 w b t v) : w.cell? ⟨b, 0, none⟩ = some v := cell_of_one h
theorem Holds1.lt {w : World} {b : Nat} {t : TypeId} {v : Value} (h : Holds1 w b t v) : b < w.heap.size := lt_of_block h
theorem Holds1.kept {X : Nat → Prop} {w w' : World} {b : Nat} {t : TypeId} {v : Value} (h : Holds1 w b t v) (k : Kp X w w') (hx : ¬ X b) : Holds1 w' b t v := k.at h hx
theorem Holds1.alloc {w : World} {b : Nat} {t : TypeId} {v : Value} (h : Holds1 w b t v) (o : Obj) : Holds1 (w.alloc o) b t v := h.kept (X := fun _ => False) ((Kp.refl _ _).alloc o) id
theorem Holds1.grown {w w' : World} {row : Option Nat} {b : Nat} {t : TypeId} {v : Value} (h : Holds1 w b t v) (hg : w.grownBy w' row) (hne : row ≠ some b) : Holds1 w' b t v :=
  (hg.block b h.lt (fun e => hne e.symm)).trans h

def k_iv (n : Nat) : Value := .int .i64 (n : Int)
end Go.Proofs.YtdifdikfgkiocaaDoor
namespace Go.Proofs.YtdifdikfgkiocaaDoor
open Go.RowKit

def asB (l : List UInt8) : ByteArray := ⟨l.toArray⟩
theorem lenB (t : ByteArray) : t.data.toList.length = t.size := by simp
end Go.Proofs.YtdifdikfgkiocaaDoor
