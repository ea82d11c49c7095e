/-
  Contract: puny.sorted: a text's plain signs, its others in order, and the tree of sums over the places of the plain ones.
-/
import Derived.Test.YtgmjfnddeogfdaaDoorSoJ
import Derived.Test.YtgmjfnddeogfdaaDoorApp2
import Derived.Lib.OthersKept
namespace Go.Proofs.YtgmjfnddeogfdaaDoor
open Go.RowKit

/-- The signs of a text from a place on, each with its place. -/
def sgn (s : ByteArray) : Nat → Nat → List Pr
  | 0, _ => []
  | f + 1, p => if p < s.size then ((Utf8.decode s p).1, p) :: sgn s f (p + (Utf8.decode s p).2) else []
def isPl (p : Pr) : Bool := decide (p.1 < 128)
def plB (D : List Pr) : List UInt8 := (D.filter isPl).map fun p => UInt8.ofNat p.1
def otL (D : List Pr) : List Pr := D.filter fun p => !isPl p
def plA (D : List Pr) : List Nat := ((D.filter isPl).map (·.2)).reverse

theorem plB_snoc (D : List Pr) (x : Pr) : plB (D ++ [x]) = plB D ++ (if isPl x then [UInt8.ofNat x.1] else []) := by
  cases h : isPl x <;> simp [plB, h]
theorem otL_snoc (D : List Pr) (x : Pr) : otL (D ++ [x]) = otL D ++ (if isPl x then [] else [x]) := by
  cases h : isPl x <;> simp [otL, h]
theorem plA_snoc (D : List Pr) (x : Pr) : plA (D ++ [x]) = (if isPl x then [x.2] else []) ++ plA D := by
  cases h : isPl x <;> simp [plA, h]

theorem infoO : (Tryd.prog.info? 54).map (fun i => (i.zero, i.size, i.bytes)) = some (some (.agg #[.int .i32 0, .int .i64 0]), 2, 16) := by kernel_rfl

/-- What has been gathered of a text's first signs. -/
structure Gth (s : ByteArray) (w0 : World) (gt k base pos : Nat) (vo vt : Value) (D : List Pr) (wr : World) : Prop where
  it : wr.heap[k]? = some (.stringIter s pos)
  fen : Fen wr gt (s.size + 1) (cntAt (plA D))
  out : wr.ownsRow base 5 1 vo (plB D).length ((plB D).map bv)
  oth : wr.ownsRow base 54 2 vt (otL D).length (flat (otL D))
  ne : ∀ q, vo.ownBlock = some q → vt.ownBlock ≠ some q
  bel : Below w0.heap.size w0 wr
  ord : w0.heap.size ≤ gt ∧ gt < k ∧ k < base ∧ base ≤ wr.heap.size
theorem Fen.old {w w' : World} {g n : Nat} {f : Nat → Nat} (h : Fen w g n f) (hb : w'.heap[g]? = w.heap[g]?) : Fen w' g n f := by
  obtain ⟨cs, h1, h2⟩ := h
  exact ⟨cs, hb.trans h1, h2⟩
theorem Fen.lt {w : World} {g n : Nat} {f : Nat → Nat} (h : Fen w g n f) : g < w.heap.size := by
  obtain ⟨cs, h1, h2⟩ := h
  exact (Array.getElem?_eq_some_iff.1 h1).1
theorem iter_grown (w : World) (k : Nat) (s : ByteArray) (pos : Nat) : w.grownBy (w.iterAt k s pos) (some k) :=
  ⟨rfl, rfl, rfl, by rw [Lib.iterAt_size]; exact Nat.le_refl _, fun j _ hne => Lib.iterAt_other w k j s pos (fun h => hne (by rw [h]))⟩
theorem But.grown {g : Nat} {w w' : World} (h : But g w w') : w.grownBy w' (some g) := ⟨h.os, h.tape, h.output, by rw [h.size]; exact Nat.le_refl _, fun j _ hne => h.block j (fun e => hne (by rw [e]))⟩
theorem Gth.next {s : ByteArray} {w0 : World} {gt k base pos : Nat} {vo vt : Value} {D : List Pr} {wr : World} (h : Gth s w0 gt k base pos vo vt D wr) (pos' : Nat) : Gth s w0 gt k base pos' vo vt D (wr.iterAt k s pos') := by
  have o := h.ord
  have g := iter_grown wr k s pos'
  refine ⟨Lib.iterAt_heap wr k s pos pos' h.it, h.fen.old (Lib.iterAt_other wr k gt s pos' (by omega)), h.out.kept g (.inr ?_), h.oth.kept g (.inr ?_), h.ne, h.bel.grown g (by omega) (fun q hq => by cases hq; omega), ⟨o.1, o.2.1, o.2.2.1, by rw [Lib.iterAt_size]; exact o.2.2.2⟩⟩
  · intro e
    have := (h.out.lt k e).1
    omega
  · intro e
    have := (h.oth.lt k e).1
    omega
/-- One plain sign more: its byte is appended; then its place is told. -/
theorem Gth.plain {s : ByteArray} {w0 : World} {gt k base pos : Nat} {vo vt : Value} {D : List Pr} {wr : World} (h : Gth s w0 gt k base pos vo vt D wr) (x : Pr) (hx : isPl x = true) (hD : D.length ≤ 1000000) :
    ∃ vo' w1, (Builtin.append_ #[48, 48] 48 #[vo, .slice (some ⟨wr.heap.size, 0, none⟩) 1 1]).run Tryd.prog (wr.alloc (.cells #[.int .u8 (x.1 : Int)] 5)) = .ok vo' w1 ∧ Fen w1 gt (s.size + 1) (cntAt (plA D)) ∧
      ∀ w2, Fen w2 gt (s.size + 1) (cntAt (x.2 :: plA D)) → But gt w1 w2 → Gth s w0 gt k base pos vo' vt (D ++ [x]) w2 := by
  have o := h.ord
  have hx' : x.1 < 128 := by simpa [isPl] using hx
  obtain ⟨i0, hi, hz0, hz1, hz2⟩ := info_parts infoB
  have hpl : (plB D).length ≤ D.length := by simp [plB]; exact List.length_filter_le _ _
  obtain ⟨vo', w1, hrun, hown, hg, hblk⟩ := app_own2 (P := Tryd.prog) (wr.alloc (.cells #[.int .u8 (x.1 : Int)] 5)) base 48 48 5 i0 (.int .u8 0) 1 1 Tryd.underlying48 hi hz0 hz1 hz2 rfl (by decide)
    vo (plB D).length ((plB D).map bv) (h.out.alloc _) ⟨wr.heap.size, 0, none⟩ 1 1 [.int .u8 (x.1 : Int)] (by simp) (World.news_of_block (cs := #[.int .u8 (x.1 : Int)]) (t := 5) (fr := (0, 0)) (heap_alloc_new wr _)) (by simp [Value.oneCell']) (by unfold maxLen; omega) (by omega) (by simp; omega)
  have hga := World.grownBy_alloc wr (.cells #[.int .u8 (x.1 : Int)] 5) none
  have hsz : wr.heap.size ≤ w1.heap.size := by have := hg.size; simp at this; omega
  have hnk : ∀ j, j < base → w1.heap[j]? = wr.heap[j]? := fun j hj => by
    have hj1 : some j ≠ vo.ownBlock := fun e => by have := (h.out.lt j e.symm).1; omega
    rw [hg.block j (by simp; omega) hj1]
    exact hga.block j (by omega) (by simp)
  refine ⟨vo', w1, hrun, h.fen.old (hnk gt (by omega)), fun w2 hF hB => ?_⟩
  have hgb := hB.grown
  have hlen : (plB (D ++ [x])).length = (plB D).length + 1 := by rw [plB_snoc, if_pos hx]; simp
  have hmap : (plB (D ++ [x])).map bv = (plB D).map bv ++ [.int .u8 (x.1 : Int)] := by rw [plB_snoc, if_pos hx, List.map_append, List.map_singleton, bvN (by omega)]
  have hot : otL (D ++ [x]) = otL D := by rw [otL_snoc, if_pos hx, List.append_nil]
  have hoth1 : w1.ownsRow base 54 2 vt (otL D).length (flat (otL D)) := (h.oth.alloc _).kept hg (by
    cases e : vt.ownBlock with
    | none => exact .inl rfl
    | some q => exact .inr (fun e2 => h.ne q e2.symm e))
  refine ⟨?_, ?_, ?_, ?_, ?_, ?_, ?_⟩
  · rw [hB.block k (by omega), hnk k (by omega)]; exact h.it
  · rw [plA_snoc, if_pos hx]; exact hF
  · rw [hlen, hmap]
    exact hown.kept hgb (.inr (fun e => by have := (hown.lt gt e).1; omega))
  · rw [hot]
    exact hoth1.kept hgb (.inr (fun e => by have := (hoth1.lt gt e).1; omega))
  · intro q hq hv
    rcases hblk with hb | hb
    · rw [hb] at hq; exact h.ne q hq hv
    · have h1 := hb q hq
      have h2 := (h.oth.lt q hv).2
      simp at h1; omega
  · exact ((h.bel.grown hga (by omega) (fun q hq => by cases hq)).grown hg (by simp; omega) (fun q hq => by have := (h.out.lt q hq).1; omega)).grown hgb (by omega) (fun q hq => by cases hq; omega)
  · exact ⟨o.1, o.2.1, o.2.2.1, by rw [hB.size]; omega⟩

end Go.Proofs.YtgmjfnddeogfdaaDoor
