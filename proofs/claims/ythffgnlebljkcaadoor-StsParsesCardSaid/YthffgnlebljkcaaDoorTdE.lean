/-
  Package sts, the document's side: all parts, told.
-/
import Derived.Test.YthffgnlebljkcaaDoorTdD
namespace Go.Proofs.YthffgnlebljkcaaDoor
open Go.RowKit Go.Lib

theorem tell_skip {p : List UInt8} {ps : List (List UInt8)} {T : List TsE} (h : trimL p = []) : tellC (p :: ps) T = tellC ps T := by
  conv => { lhs; unfold tellC }
  rw [if_pos h]
def nextC (o : Option TsE) (ps : List (List UInt8)) (T : List TsE) : Option (List TsE) := match o with
  | none => none
  | some x => if twiceB x.1 T = true ∨ chk x = false then none else tellC ps (T ++ [x])
theorem tell_more {p : List UInt8} {ps : List (List UInt8)} {T : List TsE} (h : ¬ trimL p = []) : tellC (p :: ps) T = nextC (refD (trimL p)) ps T := by
  conv => { lhs; unfold tellC }
  rw [if_neg h]
  unfold nextC
  cases refD (trimL p) <;> rfl
/-- What is known of the names, the wish so far. -/
structure Told (w5 wr : World) (g : Nat) (T : List TsE) (v : Value) (ag : Bool) : Prop where
  own : wr.ownsRow w5.heap.size 9 1 v T.length (T.map tnV)
  kp : Kp (Only g) w5 wr
  row : ∃ a, wr.heap[g]? = some (.cells #[.int .i64 a, .bool (sayT nSub T).isSome] 24 (0, 0)) ∧ ∀ v, sayT nAge T = some v → ageD v.2 = some a
  age : ag = (sayT nAge T).isSome
theorem Told.run {w5 wr w2 : World} {g : Nat} {T : List TsE} {v : Value} {ag : Bool} (h : Told w5 wr g T v ag) (hb : Below wr.heap.size wr w2) : Told w5 w2 g T v ag := by
  obtain ⟨h1, h2, ⟨a, h3, h4⟩, h5⟩ := h
  exact ⟨own_kept h1 (Kp.of_below (X := fun _ => False) hb) fun _ _ => id, h2.trans (Kp.of_below hb), ⟨a, (hb.block _ (lt_of_block h3)).trans h3, h4⟩, h5⟩
theorem own_slice {w : World} {base : Nat} {e : TypeId} {v : Value} {n : Nat} {xs : List Value} (h : w.ownsRow base e 1 v n xs) : ∃ q cap, v = .slice q n cap ∧ ∀ k, k < n → ∃ g, q = some ⟨g, 0, none⟩ ∧ w.cell? ⟨g, k, none⟩ = xs[k]? := by
  rcases h.2 with ⟨e1, h0⟩ | ⟨g, cap, cur, e1, e2, e3, e5⟩
  · subst h0
    exact ⟨none, 0, e1, fun k hk => absurd hk (Nat.not_lt_zero _)⟩
  · refine ⟨some ⟨g, 0, none⟩, cap, e1, fun k hk => ⟨g, rfl, ?_⟩⟩
    subst e1
    exact h.cellAt k (by omega)
/-- A name is put behind the names. -/
theorem told_add {w5 w2 : World} {g : Nat} {T : List TsE} {v : Value} {ag : Bool} (h : Told w5 w2 g T v ag) (hg : g < w5.heap.size) (x : Value) (hx : x.oneCell' = true) (hT : T.length ≤ 1048577) :
    ∃ v' w3, (Builtin.append_ #[46, 46] 46 #[v, .slice (some ⟨w2.heap.size, 0, none⟩) 1 1]).run Tryd.prog (w2.alloc (.cells #[x] 9)) = .ok v' w3 ∧ w3.ownsRow w5.heap.size 9 1 v' (T.length + 1) (T.map tnV ++ [x]) ∧ Kp (Only g) w5 w3 ∧ ∃ a, w3.heap[g]? = some (.cells #[.int .i64 a, .bool (sayT nSub T).isSome] 24 (0, 0)) ∧ ∀ v, sayT nAge T = some v → ageD v.2 = some a := by
  obtain ⟨h1, h2, ⟨a, h3, h4⟩, h5⟩ := h
  obtain ⟨v', w3, r1, r2, r3, _⟩ := td_step w5.heap.size v x (T.map tnV) w2 w2 hx (by rw [List.length_map]; exact hT) h2.size (by rw [List.length_map]; exact h1) (Below.refl _ _)
  refine ⟨v', w3, r1, ?_, ⟨r3.os.trans h2.os, r3.tape.trans h2.tape, r3.output.trans h2.output, Nat.le_trans h2.size r3.size, fun k hk hx => (r3.block k hk).trans (h2.block k hk hx)⟩, a, (r3.block g hg).trans h3, h4⟩
  rw [List.length_append, List.length_map] at r2
  exact r2
theorem chk_other {x : TsE} (h1 : ¬ x.1 = nAge) (h2 : ¬ x.1 = nSub) : chk x = true := by unfold chk; rw [if_neg h1, if_neg h2]; rfl
theorem chk_age {x : TsE} (h1 : x.1 = nAge) : chk x = (ageD x.2.2).isSome := by
  unfold chk
  rw [if_pos h1, if_neg (by rw [h1]; decide)]; simp
theorem chk_sub {x : TsE} (h1 : x.1 = nSub) : chk x = !x.2.1 := by
  unfold chk
  rw [if_pos h1, if_neg (by rw [h1]; decide)]; simp
theorem td_none {T : List TsE} {n : List UInt8} (h : twiceB n T = false) : sayT n T = none := by
  rw [twice_say] at h
  cases hs : sayT n T with
  | none => rfl
  | some z => rw [hs] at h; cases h
theorem say_add {T : List TsE} {x : TsE} (n : List UInt8) (h : twiceB x.1 T = false) : sayT n (T ++ [x]) = if x.1 = n then some x.2 else sayT n T := by
  rw [sayT_app]
  by_cases hn : x.1 = n
  · rw [if_pos hn, ← hn, td_none h, if_pos rfl]
  · rw [if_neg hn, if_neg hn]
    cases sayT n T <;> rfl
section
variable {w5 w3 : World} {g : Nat} {T : List TsE} {v : Value} {ag : Bool} {x : TsE} {a : Int}
theorem told_other (ho : w3.ownsRow w5.heap.size 9 1 v (T.length + 1) (T.map tnV ++ [tnV x])) (hk : Kp (Only g) w5 w3) (hz : w3.heap[g]? = some (.cells #[.int .i64 a, .bool (sayT nSub T).isSome] 24 (0, 0))) (ha : ∀ v, sayT nAge T = some v → ageD v.2 = some a) (hg : ag = (sayT nAge T).isSome)
    (ht : twiceB x.1 T = false) (h1 : ¬ x.1 = nAge) (h2 : ¬ x.1 = nSub) : Told w5 w3 g (T ++ [x]) v ag := by
  refine ⟨by rw [List.length_append, List.map_append]; exact ho, hk, ⟨a, ?_, fun v hv => ?_⟩, ?_⟩
  · rw [say_add _ ht, if_neg h2]; exact hz
  · rw [say_add _ ht, if_neg h1] at hv; exact ha v hv
  · rw [say_add _ ht, if_neg h1]; exact hg
theorem told_age (ho : w3.ownsRow w5.heap.size 9 1 v (T.length + 1) (T.map tnV ++ [tnV x])) (hk : Kp (Only g) w5 w3) (hz : w3.heap[g]? = some (.cells #[.int .i64 a, .bool (sayT nSub T).isSome] 24 (0, 0))) (hgb : g < w5.heap.size) (n : Int) (hn : ageD x.2.2 = some n)
    (ht : twiceB x.1 T = false) (h1 : x.1 = nAge) : Told w5 (w3.setCell ⟨g, 0, none⟩ (.int .i64 n)) g (T ++ [x]) v true := by
  have hns : ¬ x.1 = nSub := by rw [h1]; decide
  refine ⟨by rw [List.length_append, List.map_append]; exact own_kept ho ((Kp.refl (Only g) w3).one 0 _) (fun q hq e => by have e : q = g := e; omega), hk.one 0 _, ⟨n, ?_, fun v hv => ?_⟩, ?_⟩
  · rw [say_add _ ht, if_neg hns, heap_setCell_same _ _ _ _ _ _ hz]; rfl
  · rw [say_add _ ht, if_pos h1] at hv
    injection hv with hv
    rw [← hv]; exact hn
  · rw [say_add _ ht, if_pos h1]; rfl
theorem told_sub (ho : w3.ownsRow w5.heap.size 9 1 v (T.length + 1) (T.map tnV ++ [tnV x])) (hk : Kp (Only g) w5 w3) (hz : w3.heap[g]? = some (.cells #[.int .i64 a, .bool (sayT nSub T).isSome] 24 (0, 0))) (ha : ∀ v, sayT nAge T = some v → ageD v.2 = some a) (hg : ag = (sayT nAge T).isSome) (hgb : g < w5.heap.size)
    (ht : twiceB x.1 T = false) (h1 : x.1 = nSub) : Told w5 (w3.setCell ⟨g, 1, none⟩ (.bool true)) g (T ++ [x]) v ag := by
  have hna : ¬ x.1 = nAge := by rw [h1]; decide
  refine ⟨by rw [List.length_append, List.map_append]; exact own_kept ho ((Kp.refl (Only g) w3).one 1 _) (fun q hq e => by have e : q = g := e; omega), hk.one 1 _, ⟨a, ?_, fun v hv => ?_⟩, ?_⟩
  · rw [say_add _ ht, if_pos h1, heap_setCell_same _ _ _ _ _ _ hz]; rfl
  · rw [say_add _ ht, if_neg hna] at hv; exact ha v hv
  · rw [say_add _ ht, if_neg hna]; exact hg
end

end Go.Proofs.YthffgnlebljkcaaDoor
