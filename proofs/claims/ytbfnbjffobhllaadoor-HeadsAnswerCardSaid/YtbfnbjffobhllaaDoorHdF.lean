/-
  Package heads: fields as they lie in memory.
-/
import Derived.Test.YtbfnbjffobhllaaDoorHdM
import Derived.Test.YtbfnbjffobhllaaDoorAdB
import Derived.Test.YtbfnbjffobhllaaDoorKp
import Derived.Deep.MidRow
namespace Go.Proofs.YtbfnbjffobhllaaDoor
open Go.RowKit

/-- A field, its bytes; its words. -/
abbrev BF := ByteArray × ByteArray
def flB (f : BF) : Fld := (f.1.data.toList, f.2.data.toList)
def flL (F : List BF) : List Fld := F.map flB
def bfF (f : Fld) : BF := (asB f.1, asB f.2)
theorem bfF_back (f : Fld) : flB (bfF f) = f := rfl
theorem flB_back (f : BF) : bfF (flB f) = f := rfl
theorem flL_back (F : List Fld) : flL (F.map bfF) = F := by
  unfold flL
  rw [List.map_map]
  exact List.map_id' F
theorem flL_len (F : List BF) : (flL F).length = F.length := List.length_map ..
/-- Fields in a row, from a place on. -/
structure FxAt (F : List BF) (a : Option Addr) (b o : Nat) (w : World) : Prop where
  at0 : 0 < F.length → a = some ⟨b, o, none⟩
  c0 : ∀ i (h : i < F.length), w.cell? ⟨b, o + i * 2, none⟩ = some (.string (F[i]).1)
  c1 : ∀ i (h : i < F.length), w.cell? ⟨b, o + i * 2 + 1, none⟩ = some (.string (F[i]).2)
theorem FxAt.range {F : List BF} {a : Option Addr} {b o : Nat} {w : World} (h : FxAt F a b o w) (i : Nat) (hi : i < F.length) : w.rangeAt b (o + i * 2) [.string (F[i]).1, .string (F[i]).2] := by
  intro j _ hv
  match j, hv with
  | 0, hv => simp only [List.getElem?_cons_zero, Option.some.injEq] at hv; rw [← hv]; exact h.c0 i hi
  | 1, hv => simp only [List.getElem?_cons_succ, List.getElem?_cons_zero, Option.some.injEq] at hv; rw [← hv]; exact h.c1 i hi
  | k + 2, hv => simp at hv
theorem FxAt.lt {F : List BF} {a : Option Addr} {b o : Nat} {w : World} (h : FxAt F a b o w) (hn : 0 < F.length) : b < w.heap.size := block_lt_of_cell (h.c0 0 hn)
theorem FxAt.kept {F : List BF} {a : Option Addr} {b o : Nat} {w w' : World} (h : FxAt F a b o w) (hc : ∀ (q : Addr) (u : Value), q.block = b → w.cell? q = some u → w'.cell? q = some u) : FxAt F a b o w' :=
  ⟨h.at0, fun i hi => hc _ _ rfl (h.c0 i hi), fun i hi => hc _ _ rfl (h.c1 i hi)⟩
theorem FxAt.later {F : List BF} {a : Option Addr} {b o : Nat} {w w' : World} (h : FxAt F a b o w) (hb : Below w.heap.size w w') : FxAt F a b o w' :=
  h.kept fun q _ _ hq => (hb.cell (p := q) (block_lt_of_cell hq)).trans hq
theorem FxAt.kp {F : List BF} {a : Option Addr} {b o : Nat} {X : Nat → Prop} {w w' : World} (h : FxAt F a b o w) (hk : Kp X w w') (hx : 0 < F.length → ¬ X b) : FxAt F a b o w' := by
  by_cases h0 : 0 < F.length
  · exact h.kept fun q _ hq hc => hk.cell hc (by rw [hq]; exact hx h0)
  · exact ⟨fun hn => absurd hn h0, fun i hi => absurd (Nat.lt_of_le_of_lt (Nat.zero_le _) hi) h0, fun i hi => absurd (Nat.lt_of_le_of_lt (Nat.zero_le _) hi) h0⟩
/-- The cells of fields. -/
def fcells (F : List BF) : List Value := F.flatMap fun f => [.string f.1, .string f.2]
theorem fcells_len (F : List BF) : (fcells F).length = F.length * 2 := by
  induction F with
  | nil => rfl
  | cons f F ih => unfold fcells at ih ⊢; rw [List.flatMap_cons, List.length_append, ih, List.length_cons]; simp; omega
theorem fcells_at : ∀ (F : List BF) (i : Nat) (h : i < F.length), (fcells F)[i * 2]? = some (.string (F[i]).1) ∧ (fcells F)[i * 2 + 1]? = some (.string (F[i]).2)
  | f :: F, 0, _ => ⟨rfl, rfl⟩
  | f :: F, i + 1, h => by
    have ih := fcells_at F i (by simpa using h)
    have e : fcells (f :: F) = .string f.1 :: .string f.2 :: fcells F := rfl
    rw [e, show (i + 1) * 2 = i * 2 + 1 + 1 by omega]
    exact ih
theorem fcells_app (F G : List BF) : fcells (F ++ G) = fcells F ++ fcells G := by simp [fcells]
theorem fcells_one (F : List BF) : ∀ v ∈ fcells F, v.oneCell' = true := by
  intro v hv
  obtain ⟨f, _, h⟩ := List.mem_flatMap.1 hv
  rcases List.mem_cons.1 h with rfl | h
  · rfl
  · rw [List.mem_singleton.1 h]; rfl

end Go.Proofs.YtbfnbjffobhllaaDoor
