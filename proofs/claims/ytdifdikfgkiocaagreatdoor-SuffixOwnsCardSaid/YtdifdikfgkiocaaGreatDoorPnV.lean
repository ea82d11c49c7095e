/-
  Contract: the document's Decode.
-/
import Derived.Test.YtdifdikfgkiocaaGreatDoorMpI
import Derived.Test.YtdifdikfgkiocaaGreatDoorPnU
namespace Go.Proofs.YtdifdikfgkiocaaGreatDoor
open Go.RowKit

theorem iv_one (l : List Nat) : ∀ v ∈ l.map iv, v.oneCell' = true := by
 intro v hv
 obtain ⟨n, _, rfl⟩ := List.mem_map.1 hv
 rfl

theorem own_mono {w : World} {base base' : Nat} {e : TypeId} {v : Value} {n : Nat} {xs : List Value} (h : w.ownsRow base e 1 v n xs) (hb : base' ≤ base) : w.ownsRow base' e 1 v n xs := by
 obtain ⟨hl, h | ⟨g, cap, cur, hv, hg, hr⟩⟩ := h
 ·exact ⟨hl, .inl h⟩
 ·exact ⟨hl, .inr ⟨g, cap, cur, hv, Nat.le_trans hb hg, hr⟩⟩
/-- Numbers that lie somewhere are put behind a row. -/
theorem appI (base : Nat) (v : Value) (D news : List Value) (a : Addr) (m c : Nat) (w : World) (hown : w.ownsRow base 3 1 v D.length D) (hl : news.length = m) (hD : D.length + m ≤ 10000000) (h1 : ∀ u ∈ news, u.oneCell' = true) (hb : base ≤ w.heap.size)
  (hnews : ∀ j u, news[j]? = some u → w.cell? (a.add j) = some u) :
  ∃ v' w1, (Builtin.append_ #[63, 63] 63 #[v, .slice (some a) m c]).run Tryz.prog w = .ok v' w1 ∧ w1.ownsRow base 3 1 v' (D ++ news).length (D ++ news) ∧ w.grownBy w1 v.ownBlock := by
 obtain ⟨i0, hi, hz0, hz1, hz2⟩ := info_parts infoI
 obtain ⟨v', w1, hrun, hown', hgrow, _⟩ := run_append_own (P := Tryz.prog) w base 63 63 3 i0 (.int .i64 0) 1 8 Tryz.underlying63 hi hz0 hz1 hz2 rfl (by decide)
  v D.length D hown a m c news (by omega) hnews h1 (by unfold maxLen; omega) (by omega) hb
 refine ⟨v', w1, hrun, ?_, hgrow⟩
 rw [List.length_append, hl]; exact hown'
theorem appNone (base : Nat) (v : Value) (D : List Value) (w : World) (hown : w.ownsRow base 3 1 v D.length D) :
  (Builtin.append_ #[63, 63] 63 #[v, .slice none 0 0]).run Tryz.prog w = .ok v w := by
 obtain ⟨i0, hi, hz0, hz1, hz2⟩ := info_parts infoI
 exact run_append_owned_none w base 63 63 3 i0 1 Tryz.underlying63 hi v D.length D hown

/-- The three appends by which the document puts a sign among others. -/
theorem insI (base g cap : Nat) (L : List Nat) (R sg : Nat) (a : Addr) (ca : Nat) (w w0 : World) (hown : w.ownsRow base 3 1 (.slice (some ⟨g, 0, none⟩) L.length cap) L.length (L.map iv)) (hR : R ≤ L.length) (hL : L.length ≤ 1000000) (hb : base ≤ w.heap.size) (hB : Below base w0 w)
  (ha : a = ⟨g, R, none⟩ ∨ R = L.length) :
  ∃ v1 w1 v2 w2 v3 w3, (Builtin.append_ #[63, 63] 63 #[.slice none 0 0, .slice (some ⟨g, 0, none⟩) R cap]).run Tryz.prog w = .ok v1 w1 ∧
   (Builtin.append_ #[63, 63] 63 #[v1, .slice (some ⟨w1.heap.size, 0, none⟩) 1 1]).run Tryz.prog (w1.alloc (.cells #[iv sg] 3)) = .ok v2 w2 ∧
   (Builtin.append_ #[63, 63] 63 #[v2, .slice (some a) (L.length - R) ca]).run Tryz.prog w2 = .ok v3 w3 ∧
   w3.ownsRow base 3 1 v3 (insN L R sg).length ((insN L R sg).map iv) ∧ Below base w0 w3 := by
 have hlt := hown.lt g rfl
 have hTl : ((L.take R).map iv).length = R := by simp; omega
 obtain ⟨v1, w1, r1, o1, g1⟩ := appI w.heap.size (.slice none 0 0) [] ((L.take R).map iv) ⟨g, 0, none⟩ R cap w (World.ownsRow_nil _ _ _ _) hTl (by simp; omega) (iv_one _) (Nat.le_refl _) (fun j u hj => by
  have hjl := (List.getElem?_eq_some_iff.1 hj).1
  rw [hTl] at hjl
  rw [Addr.add_lit, Nat.zero_add, hown.cellAt j (by omega), ← hj, List.map_take, List.getElem?_take_of_lt hjl])
 rw [List.nil_append] at o1
 have k1 := hown.kept g1 (.inr (fun h => by cases h))
 have s1 : w.heap.size ≤ w1.heap.size := g1.size
 have o1a : (w1.alloc (.cells #[iv sg] 3)).ownsRow w.heap.size 3 1 v1 ((L.take R).map iv).length ((L.take R).map iv) := o1.alloc _
 obtain ⟨v2, w2, r2, o2, g2⟩ := appI w.heap.size v1 ((L.take R).map iv) [iv sg] ⟨w1.heap.size, 0, none⟩ 1 1 _ o1a rfl (by rw [hTl]; omega) (by simp; rfl) (by simp; omega)
  (World.news_of_block (cs := #[iv sg]) (t := 3) (fr := (0, 0)) (heap_alloc_new w1 _))
 have k2 := (k1.alloc (.cells #[iv sg] 3)).kept g2 (.inr (fun h => by
  have := (o1.lt g h.symm).1; omega))
 have s2 : w1.heap.size + 1 ≤ w2.heap.size := by have := g2.size; simpa using this
 obtain ⟨v3, w3, r3, o3, g3⟩ := appI w.heap.size v2 ((L.take R).map iv ++ [iv sg]) ((L.drop R).map iv) a (L.length - R) ca w2 o2 (by simp) (by simp; omega) (iv_one _) (by omega) (fun j u hj => by
  have hjl := (List.getElem?_eq_some_iff.1 hj).1
  simp at hjl
  rcases ha with rfl | rfl
  ·rw [Addr.add_lit, k2.cellAt (R + j) (by omega), ← hj, List.map_drop, List.getElem?_drop]
  ·omega)
 have e : (L.take R).map iv ++ [iv sg] ++ (L.drop R).map iv = (insN L R sg).map iv := by simp [insN]
 rw [e] at o3
 refine ⟨v1, w1, v2, w2, v3, w3, r1, r2, r3, ?_, ?_⟩
 ·rw [List.length_map] at o3
  exact own_mono o3 hb
 ·have b1 := hB.grown g1 (by omega) (fun q hq => by cases hq)
  have b2 := (b1.alloc (by omega) (.cells #[iv sg] 3)).grown g2 (by simp; omega) (fun q hq => by have := (o1.lt q hq).1; omega)
  exact b2.grown g3 (by omega) (fun q hq => by have := (o2.lt q hq).1; omega)

/-- The same, where there are none yet. -/
theorem insI0 (base : Nat) (sg : Nat) (w w0 : World) (hb : base ≤ w.heap.size) (hB : Below base w0 w) :
  ∃ v2 w2, (Builtin.append_ #[63, 63] 63 #[.slice none 0 0, .slice none 0 0]).run Tryz.prog w = .ok (.slice none 0 0) w ∧
   (Builtin.append_ #[63, 63] 63 #[.slice none 0 0, .slice (some ⟨w.heap.size, 0, none⟩) 1 1]).run Tryz.prog (w.alloc (.cells #[iv sg] 3)) = .ok v2 w2 ∧
   (Builtin.append_ #[63, 63] 63 #[v2, .slice none 0 0]).run Tryz.prog w2 = .ok v2 w2 ∧
   w2.ownsRow base 3 1 v2 1 ([sg].map iv) ∧ Below base w0 w2 := by
 obtain ⟨v2, w2, r2, o2, g2⟩ := appI base (.slice none 0 0) [] [iv sg] ⟨w.heap.size, 0, none⟩ 1 1 (w.alloc (.cells #[iv sg] 3)) (World.ownsRow_nil _ _ _ _) rfl (by simp) (by simp; rfl) (by simp; omega)
  (World.news_of_block (cs := #[iv sg]) (t := 3) (fr := (0, 0)) (heap_alloc_new w _))
 exact ⟨v2, w2, appNone base _ [] w (World.ownsRow_nil _ _ _ _), r2, appNone base v2 _ w2 o2, o2, (hB.alloc hb _).grown g2 (by simp; omega) (fun q hq => by cases hq)⟩

theorem shapeI {w : World} {base n : Nat} {v : Value} {xs : List Value} (h : w.ownsRow base 3 1 v n xs) : ∃ a cap, v = .slice a n cap := by
 rcases h.2 with ⟨rfl, rfl⟩ | ⟨g, cap, cur, rfl, _⟩
 ·exact ⟨none, 0, rfl⟩
 ·exact ⟨_, _, rfl⟩
/-- Both. -/
theorem insStep (base : Nat) (L : List Nat) (R sg : Nat) (a : Option Addr) (cap : Nat) (w w0 : World) (hown : w.ownsRow base 3 1 (.slice a L.length cap) L.length (L.map iv)) (hR : R ≤ L.length) (hL : L.length ≤ 1000000) (hb : base ≤ w.heap.size) (hB : Below base w0 w) :
  ∃ v1 w1 v2 w2 a' cap' w3, (Builtin.append_ #[63, 63] 63 #[.slice none 0 0, .slice a R cap]).run Tryz.prog w = .ok v1 w1 ∧
   (Builtin.append_ #[63, 63] 63 #[v1, .slice (some ⟨w1.heap.size, 0, none⟩) 1 1]).run Tryz.prog (w1.alloc (.cells #[.int .i64 (sg : Int)] 3)) = .ok v2 w2 ∧
   (Builtin.append_ #[63, 63] 63 #[v2, .slice (if cap = R then a else a.map (fun x => ⟨x.block, R, none⟩)) (L.length - R) (cap - R)]).run Tryz.prog w2 = .ok (.slice a' (insN L R sg).length cap') w3 ∧
   Hid (w3.ownsRow base 3 1 (.slice a' (insN L R sg).length cap') (insN L R sg).length ((insN L R sg).map iv)) ∧ Hid (Below base w0 w3) := by
 rcases hown.2 with ⟨hv, hn⟩ | ⟨g, cap', cur, hv, hgb, hg, hnc, hcm, hcs, hct⟩
 ·injection hv with e1 e2 e3
  subst e1 e3
  obtain rfl : L = [] := List.eq_nil_of_length_eq_zero hn
  obtain rfl : R = 0 := by simpa using hR
  obtain ⟨v2, w2, r1, r2, r3, o2, b2⟩ := insI0 base sg w w0 hb hB
  obtain ⟨a', cap', rfl⟩ := shapeI o2
  exact ⟨_, _, _, _, a', cap', w2, r1, r2, r3, Lib.hid o2, Lib.hid b2⟩
 ·injection hv with e1 e2 e3
  subst e1 e3
  obtain ⟨v1, w1, v2, w2, v3, w3, r1, r2, r3, o3, b3⟩ := insI base g cap L R sg (if cap = R then ⟨g, 0, none⟩ else ⟨g, R, none⟩) (cap - R) w w0 hown hR hL hb hB (by
   by_cases h : cap = R
   ·exact .inr (by omega)
   ·exact .inl (if_neg h))
  obtain ⟨a', cap', rfl⟩ := shapeI o3
  refine ⟨v1, w1, v2, w2, a', cap', w3, r1, r2, ?_, Lib.hid o3, Lib.hid b3⟩
  rw [← r3]
  by_cases h : cap = R
  ·rw [if_pos h, if_pos h]
  ·rw [if_neg h, if_neg h]; rfl

theorem pSigns_data (s : ByteArray) : (pSigns s).data.toList = s.data.toList.take (lastI s.data.toList).toNat := by
 rw [pSigns]
 split
 ·rename_i h
  rw [show (lastI s.data.toList).toNat = 0 by omega]; rfl
 ·rw [exTake]
/-- Where the digits begin. -/
def pAt (s : ByteArray) : Nat := if 0 < (lastI s.data.toList).toNat then (lastI s.data.toList).toNat + 1 else 0
theorem pRest_data (s : ByteArray) : (pRest s).data.toList = s.data.toList.drop (pAt s) := by
 rw [pRest, pAt]
 split
 ·rename_i h
  rw [if_neg (by omega)]; rfl
 ·rename_i h
  rw [if_pos (by omega), exDrop]
theorem pRest_size (s : ByteArray) : (pRest s).size = s.size - pAt s := by
 rw [← dLen, pRest_data, List.length_drop, dLen]
theorem small_ok (l : List UInt8) (h : plainL l = true) : ∀ x ∈ l.map (·.toNat), badS x = false := by
 intro x hx
 obtain ⟨c, hc, rfl⟩ := List.mem_map.1 hx
 rw [plainL, List.all_eq_true] at h
 have := h c hc
 simp at this
 exact badS_false.2 (by omega)

end Go.Proofs.YtdifdikfgkiocaaGreatDoor
