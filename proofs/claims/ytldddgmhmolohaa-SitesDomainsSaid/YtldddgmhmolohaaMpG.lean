/-
  Contracts: slices.symMergeCmpFunc, slices.stableCmpFunc and slices.SortStableFunc over pairs.
  Contracts: slices.stableCmpFunc and slices.SortStableFunc over pairs.
  An append onto a row of one's own answers in its own block or in a new one. Of no program.
  Contract: puny.sorted: a text's plain signs, its others in order, and the tree of sums over the places of the plain ones.
  Contract: puny.sorted.
  What puny.sorted begins with: a tree of sums of noughts, an iterator at the first byte, two empty rows.
  Contract: slices.SortStableFunc over a nil slice.
  Contract: puny.sorted: a text's plain signs, its others in order, and the tree of sums over the places of the plain ones.
-/
import Derived.Test.YtldddgmhmolohaaSoG
import Derived.Test.YtldddgmhmolohaaSoH
import Derived.Test.YtldddgmhmolohaaPnU
import Derived.Lib.OthersKept
import Derived.Laws.MakeOwn
namespace Go.Proofs.Ytldddgmhmolohaa
open Go.RowKit Go.Sort

end Go.Proofs.Ytldddgmhmolohaa
namespace Go.Proofs.Ytldddgmhmolohaa
open Go.RowKit Go.Sort

end Go.Proofs.Ytldddgmhmolohaa
namespace Go.Proofs.Ytldddgmhmolohaa
open Go.RowKit

theorem app_own2 {P : Program} (w : World) (base : Nat) (t ty e : TypeId) (i : TypeInfo) (z : Value) (size bytes : Nat) (ht : P.underlying t = some (.slice e)) (hi : P.info? e = some i) (hz : i.zero = some z)
    (hsize : i.size = size) (hby : i.bytes = bytes) (hzs : z.cells.size = size) (hsz : 0 < size)
    (v : Value) (n : Nat) (xs : List Value) (hown : w.ownsRow base e size v n xs)
    (a : Addr) (m c : Nat) (news : List Value) (hl : news.length = m * size) (hnews : ∀ j u, news[j]? = some u → w.cell? (a.add j) = some u) (h1 : ∀ u ∈ news, u.oneCell' = true)
    (h63 : n + m ≤ maxLen) (hbytes : (n + m) * bytes ≤ 140737488355328) (hbase : base ≤ w.heap.size) :
    ∃ v' w', (Builtin.append_ #[t, t] ty #[v, .slice (some a) m c]).run P w = .ok v' w' ∧ w'.ownsRow base e size v' (n + m) (xs ++ news) ∧ w.grownBy w' v.ownBlock ∧ (v'.ownBlock = v.ownBlock ∨ ∀ q, v'.ownBlock = some q → w.heap.size ≤ q) := by
  obtain ⟨v', w', hrun, hown', hgrow, _⟩ := run_append_own (P := P) w base t ty e i z size bytes ht hi hz hsize hby hzs hsz v n xs hown a m c news hl hnews h1 h63 hbytes hbase
  refine ⟨v', w', hrun, hown', hgrow, ?_⟩
  rcases hown.2 with ⟨rfl, hn⟩ | ⟨g, cap, cur, rfl, hgb, hg, hnc, hcm, hcs, hct⟩
  · subst hn
    obtain ⟨v2, w2, hrun2, hown2, _, _⟩ := run_append_own (P := P) w w.heap.size t ty e i z size bytes ht hi hz hsize hby hzs hsz (.slice none 0 0) 0 [] (World.ownsRow_nil _ _ _ _) a m c news hl hnews h1 h63 hbytes (Nat.le_refl _)
    rw [hrun] at hrun2
    injection hrun2 with e1 e2
    subst e1 e2
    exact .inr (fun q hq => (hown2.lt q hq).1)
  · by_cases hroom : n + m ≤ cap
    · have h2 := run_append_room (P := P) w t ty e i ht hi g n cap cur hg a m c news (by rw [hsize]; exact hl) hnews h1 hroom (by
        rw [hsize, hl, hcs, ← Nat.add_mul]; exact Nat.mul_le_mul_right _ hroom)
      rw [hrun] at h2
      injection h2 with e1 e2
      subst e1
      exact .inl rfl
    · have hxl : xs.length = n * i.size := by rw [hsize]; exact hown.1
      have h2 := run_append_grow (P := P) w t ty e i z ht hi hz ⟨g, 0, none⟩ n cap xs hxl (hown.cells rfl) a m c news (by rw [hsize]; exact hl) hnews (by omega) (by unfold maxLen at h63; omega) (by rw [hby]; exact growslice_fits (by omega) hbytes)
      rw [hrun] at h2
      injection h2 with e1 e2
      subst e1
      refine .inr (fun q hq => ?_)
      have : q = w.heap.size := by simpa [Value.ownBlock] using hq.symm
      omega

end Go.Proofs.Ytldddgmhmolohaa
namespace Go.Proofs.Ytldddgmhmolohaa
open Go.RowKit

/-- The signs of a text from a place on, each with its place. -/
def sgn (s : ByteArray) : Nat → Nat → List Pr
  | 0, _ => []
  | f + 1, p => if p < s.size then ((Utf8.decode s p).1, p) :: sgn s f (p + (Utf8.decode s p).2) else []
def isPl (p : Pr) : Bool := decide (p.1 < 128)
def plB (D : List Pr) : List UInt8 := (D.filter isPl).map fun p => UInt8.ofNat p.1
def otL (D : List Pr) : List Pr := D.filter fun p => !isPl p
def plA (D : List Pr) : List Nat := ((D.filter isPl).map (·.2)).reverse

theorem plB_snoc (D : List Pr) (x : Pr) : plB (D ++ [x]) = plB D ++ (if isPl x then [UInt8.ofNat x.1] else []) := by
  cases h : isPl x <;> simp [plB, h]
theorem otL_snoc (D : List Pr) (x : Pr) : otL (D ++ [x]) = otL D ++ (if isPl x then [] else [x]) := by
  cases h : isPl x <;> simp [otL, h]
theorem plA_snoc (D : List Pr) (x : Pr) : plA (D ++ [x]) = (if isPl x then [x.2] else []) ++ plA D := by
  cases h : isPl x <;> simp [plA, h]

theorem Fen.old {w w' : World} {g n : Nat} {f : Nat → Nat} (h : Fen w g n f) (hb : w'.heap[g]? = w.heap[g]?) : Fen w' g n f := by
  obtain ⟨cs, h1, h2⟩ := h
  exact ⟨cs, hb.trans h1, h2⟩
theorem Fen.lt {w : World} {g n : Nat} {f : Nat → Nat} (h : Fen w g n f) : g < w.heap.size := by
  obtain ⟨cs, h1, h2⟩ := h
  exact (Array.getElem?_eq_some_iff.1 h1).1
theorem iter_grown (w : World) (k : Nat) (s : ByteArray) (pos : Nat) : w.grownBy (w.iterAt k s pos) (some k) :=
  ⟨rfl, rfl, rfl, by rw [Lib.iterAt_size]; exact Nat.le_refl _, fun j _ hne => Lib.iterAt_other w k j s pos (fun h => hne (by rw [h]))⟩
theorem But.grown {g : Nat} {w w' : World} (h : But g w w') : w.grownBy w' (some g) := ⟨h.os, h.tape, h.output, by rw [h.size]; exact Nat.le_refl _, fun j _ hne => h.block j (fun e => hne (by rw [e]))⟩
end Go.Proofs.Ytldddgmhmolohaa
namespace Go.Proofs.Ytldddgmhmolohaa
open Go.RowKit

end Go.Proofs.Ytldddgmhmolohaa
namespace Go.Proofs.Ytldddgmhmolohaa
open Go.RowKit

end Go.Proofs.Ytldddgmhmolohaa
namespace Go.Proofs.Ytldddgmhmolohaa
open Go.RowKit Go.Sort

end Go.Proofs.Ytldddgmhmolohaa
namespace Go.Proofs.Ytldddgmhmolohaa
open Go.RowKit

theorem Gro.grown {g : Nat} {w w' : World} (h : Gro g w w') : w.grownBy w' (some g) := ⟨h.os, h.tape, h.output, h.size, fun j hj hne => h.block j hj (fun e => hne (by rw [e]))⟩
end Go.Proofs.Ytldddgmhmolohaa
