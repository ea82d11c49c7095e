/-
  Contracts of the Book's functions at lists of texts.
-/
import Derived.Test.YtjeejpgkhjblnaaDoorBookN
import Derived.Test.YtjeejpgkhjblnaaDoorShelfI
import Derived.Test.YtjeejpgkhjblnaaDoorLowA
import Derived.Deep.RegionHeld3
import Derived.Deep.AppendLies
import Derived.StillTailTactics
import Derived.Deep.QuietTactic
import Derived.BigQuiet
namespace Go.Proofs.YtjeejpgkhjblnaaDoor
open Go.RowKit

/-- A mark as a text. -/
def wordS (i : Nat) : ByteArray := ⟨#[35]⟩ ++ ⟨(Lib.decDigits i).toArray⟩

set_option maxHeartbeats 400000 in
theorem word_any (i : Nat) (hi : i < 100) (w : World) :
    Calls Tryd.prog 91 #[.int .i64 i] w fun e w' => e = .returned (.string (wordS i)) ∧ w = w' := by
  obtain ⟨d, HD, hsz⟩ : ∃ d : ByteArray, Hid (⟨(Lib.decDigits i).toArray⟩ = d) ∧ d.size ≤ 100 := ⟨_, Lib.hid rfl, by
    have : ∀ k : Fin 100, (Lib.decDigits k.val).length ≤ 100 := by decide +kernel
    have h := this ⟨i, hi⟩
    show (Lib.decDigits i).toArray.size ≤ 100
    rw [List.size_toArray]; exact h⟩
  have HC : Hid (Calls Tryd.prog 98 #[.int .i64 i] w fun e w' => e = .returned (.string d) ∧ w = w') := Lib.hid ((Tryd.strconv_Itoa_small i hi w).mono fun e w' ⟨he, hw⟩ => ⟨by rw [he, HD.out], hw.symm⟩)
  go_enter Tryd.func91, Tryd.ntmps91
  go_wp2_with (go_at_call 98; refine HC.out.mono ?_; rintro e w' ⟨rfl, rfl⟩)
  go_ret
  exact ⟨by rw [wordS, HD.out]; rfl, rfl⟩

set_option maxHeartbeats 400000 in
theorem markText_any (i : Nat) (hi : i < 100) (w : World) :
    Calls Tryd.prog 68 #[.int .i64 i] w fun e w' => e = .returned (.string (wordS i)) ∧ w = w' := by
  go_enter Tryd.func68, Tryd.ntmps68
  go_wp2_with (go_at_call 91; refine (word_any i hi _).mono ?_; rintro e w' ⟨rfl, rfl⟩)
  go_ret
  exact ⟨rfl, rfl⟩

set_option maxHeartbeats 400000 in
theorem isText_yes (i : Nat) (hi : i < 100) (w : World) :
    Calls Tryd.prog 76 #[.string (wordS i), .int .i64 i] w fun e w' => e = .returned (.bool true) ∧ w = w' := by
  have he : ((wordS i).toList == (wordS i).toList) = true := by simp
  go_enter Tryd.func76, Tryd.ntmps76
  go_wp2_with (go_at_call 91; refine (word_any i hi _).mono ?_; rintro e w' ⟨rfl, rfl⟩)
  go_ret
  exact ⟨rfl, rfl⟩

/-- All blocks that were there are as they were, but those of X. -/
structure Kept (X : Nat → Prop) (w w' : World) : Prop where
  os : w'.os = w.os
  tape : w'.tape = w.tape
  output : w'.output = w.output
  size : w.heap.size ≤ w'.heap.size
  block : ∀ k, k < w.heap.size → ¬ X k → w'.heap[k]? = w.heap[k]?
theorem Kept.refl (X : Nat → Prop) (w : World) : Kept X w w := ⟨rfl, rfl, rfl, Nat.le_refl _, fun _ _ _ => rfl⟩
theorem Kept.trans {X : Nat → Prop} {a b c : World} (h : Kept X a b) (k : Kept X b c) : Kept X a c :=
  ⟨k.os.trans h.os, k.tape.trans h.tape, k.output.trans h.output, Nat.le_trans h.size k.size, fun i hi hx => (k.block i (Nat.lt_of_lt_of_le hi h.size) hx).trans (h.block i hi hx)⟩
theorem Kept.of_below {X : Nat → Prop} {a b : World} (h : Below a.heap.size a b) : Kept X a b := ⟨h.os, h.tape, h.output, h.size, fun k hk _ => h.block k hk⟩
theorem Kept.alloc {X : Nat → Prop} {a w : World} (h : Kept X a w) (o : Obj) : Kept X a (w.alloc o) := h.trans (.of_below ((Below.refl _ _).alloc (Nat.le_refl _) o))
theorem Kept.drewN {X : Nat → Prop} {a w : World} (h : Kept X a w) (n : Nat) : Kept X a (w.drewN n) := ⟨h.os, h.tape, h.output, h.size, h.block⟩
theorem Kept.drew {X : Nat → Prop} {a w : World} (h : Kept X a w) : Kept X a w.drew := ⟨h.os, h.tape, h.output, h.size, h.block⟩
theorem Kept.setCell {X : Nat → Prop} {a w : World} (h : Kept X a w) {p : Addr} (hp : X p.block) (u : Value) : Kept X a (w.setCell p u) :=
  h.trans ⟨rfl, rfl, rfl, by simp [World.setCell], fun k _ hx => Below.heap_setCell _ _ _ _ (fun e => hx (e ▸ hp))⟩
theorem Kept.mono {X Y : Nat → Prop} {a w : World} (h : Kept X a w) (hxy : ∀ k, X k → Y k) : Kept Y a w := ⟨h.os, h.tape, h.output, h.size, fun k hk hy => h.block k hk (fun hx => hy (hxy k hx))⟩
theorem Kept.cell {X : Nat → Prop} {a w : World} (h : Kept X a w) {p : Addr} {v : Value} (hc : a.cell? p = some v) (hx : ¬ X p.block) : w.cell? p = some v :=
  (World.cell?_of_block (w := a) (h.block p.block (block_lt_of_cell hc) hx)).trans hc

theorem info70 : (Tryd.prog.info? 70).map (fun i => (i.zero, i.size, i.bytes)) = some (some (.agg #[.slice none 0 0, .slice none 0 0, .int .i64 0]), 3, 56) := by kernel_rfl

theorem own_setCell {w : World} {base : Nat} {e : TypeId} {size : Nat} {v : Value} {n : Nat} {xs : List Value} (h : w.ownsRow base e size v n xs) {p : Addr} (hp : v.ownBlock ≠ some p.block) (u : Value) : (w.setCell p u).ownsRow base e size v n xs := by
  obtain ⟨h1, h2⟩ := h
  refine ⟨h1, ?_⟩
  rcases h2 with h2 | ⟨g, cap, cur, rfl, hg, hh, r⟩
  · exact .inl h2
  · exact .inr ⟨g, cap, cur, rfl, hg, by rw [Below.heap_setCell _ _ _ _ (fun e => hp (by rw [← e]; rfl))]; exact hh, r⟩

theorem grown_block {w1 w2 : World} {o : Obj} {v : Value} {b : Nat} (hg : ((w1.alloc o).drew).grownBy w2 v.ownBlock) (hb : b < w1.heap.size) (hne : v.ownBlock ≠ some b) : w2.heap[b]? = w1.heap[b]? :=
  (hg.block b (by show b < (w1.alloc o).heap.size; simp; omega) (Ne.symm hne)).trans (Below.heap_alloc _ _ _ hb)

/-- What keepText leaves: one more list is held. -/
def KeepsT (b base n k : Nat) (l v : Value) (xs : List Value) (C : Array Value) (w : World) (e : Ending) (w' : World) : Prop :=
  e = .returned (.tuple #[]) ∧ ∃ gg cap, w'.heap[b]? = some (.cells ((C.setIfInBounds 0 (.int .i64 ((k : Int) + 1))).setIfInBounds 3 (.slice (some ⟨gg, 0, none⟩) (n + 1) cap)) 37 (0, 0)) ∧
    w'.ownsRow base 70 3 (.slice (some ⟨gg, 0, none⟩) (n + 1) cap) (n + 1) (xs ++ [l, .slice none 0 0, .int .i64 ((k : Int) + 1)]) ∧ (v.ownBlock = some gg ∨ gg = w.heap.size + 1) ∧ gg ≠ b ∧ Kept (fun q => q = b ∨ v.ownBlock = some q) w w'

set_option maxHeartbeats 1000000 in
set_option maxRecDepth 100000 in
theorem keepText_any (b base n : Nat) (k : Nat) (la : Option Addr) (ln lc : Nat) (v : Value) (xs : List Value) (C : Array Value) (w : World) (hk : k < 1000) (hn : n < 1000)
    (hB : w.heap[b]? = some (.cells C 37 (0, 0))) (h0 : C[0]? = some (.int .i64 k)) (h3 : C[3]? = some v)
    (hown : w.ownsRow base 70 3 v n xs) (hbase : base ≤ w.heap.size) (hvb : v.ownBlock ≠ some b) :
    Calls Tryd.prog 27 #[.pointer (some ⟨b, 0, none⟩), .slice la ln lc] w (KeepsT b base n k (.slice la ln lc) v xs C w) := by
  have hbl : b < w.heap.size := lt_of_block hB
  have hB1 := heap_setCell_same w b 0 C _ (.int .i64 ((k : Int) + 1)) hB
  have hK1 : Kept (fun q => q = b ∨ v.ownBlock = some q) w (w.setCell ⟨b, 0, none⟩ (.int .i64 ((k : Int) + 1))) := (Kept.refl _ _).setCell (.inl rfl) _
  have hz1 : (w.setCell ⟨b, 0, none⟩ (.int .i64 ((k : Int) + 1))).heap.size = w.heap.size := by simp [World.setCell]
  obtain ⟨w1, HW, c0, c3, g3, own1, hb1, HB1, hbl1, HK1, HZ⟩ : ∃ w1, Hid (w.setCell ⟨b, 0, none⟩ (.int .i64 ((k : Int) + 1)) = w1) ∧ w1.cell? ⟨b, 0, none⟩ = some (.int .i64 ((k : Int) + 1)) ∧ w1.cell? ⟨b, 3, none⟩ = some v ∧ w1.frozen? ⟨b, 3, none⟩ = false ∧ Hid (w1.ownsRow base 70 3 v n xs) ∧ base ≤ w1.heap.size ∧ Hid (w1.heap[b]? = some (.cells (C.setIfInBounds 0 (.int .i64 ((k : Int) + 1))) 37 (0, 0))) ∧ b < w1.heap.size ∧ Hid (Kept (fun q => q = b ∨ v.ownBlock = some q) w w1) ∧ Hid (w1.heap.size = w.heap.size) := by
    refine ⟨_, Lib.hid rfl, ?_, ?_, frozen_of_row _ _ _ _ _ hB1, Lib.hid (own_setCell hown hvb _), by omega, Lib.hid hB1, by omega, Lib.hid hK1, Lib.hid hz1⟩
    · rw [cell_of_row _ _ _ _ _ _ hB1, Array.getElem?_setIfInBounds, if_pos rfl, if_pos (Array.getElem?_eq_some_iff.1 h0).1]
    · rw [cell_of_row _ _ _ _ _ _ hB1, Array.getElem?_setIfInBounds, if_neg (by omega)]; exact h3
  have f0 := frozen_of_row w b 0 C _ hB
  have d0 : w.cell? ⟨b, 0, none⟩ = some (.int .i64 k) := (cell_of_row w b 0 C _ _ hB).trans h0
  obtain ⟨i0, hi, hz0, hz1', hz2⟩ := info_parts info70
  have HI := Lib.hid hi
  have HZ0 := Lib.hid hz0
  have HZ1 := Lib.hid hz1'
  have HZ2 := Lib.hid hz2
  clear hi hz0 hz1 hz1' hz2 hB1 hK1 hown h0 h3 hB hbase
  go_enter Tryd.func27, Tryd.ntmps27
  go_wp2
  rw [HW.out]
  clear HW f0 d0
  go_region_law (refine step_append_lies _ (by rfl) _ _ _ (by rfl) base 70 i0 _ 3 56 Tryd.underlying30 HI.out HZ0.out HZ1.out HZ2.out rfl (by omega) v n xs (by rfl) ((own1.out.alloc _).drew) ⟨w1.heap.size, 0, none⟩ 1 1 [.slice la ln lc, .slice none 0 0, .int .i64 ((k : Int) + 1)] (by rfl) (by rfl) (World.news_of_block (cs := #[.slice la ln lc, .slice none 0 0, .int .i64 ((k : Int) + 1)]) (t := 70) (fr := (0, 0)) (heap_alloc_new w1 _)) (by simp [Value.oneCell']) (by omega) (by unfold maxLen; omega) (by omega) (by simp; omega) (w1.heap.size + 1) (by simp) ?_; intro gg cap w2 hown2 hgrow hat hlt; have hbk := grown_block hgrow hbl1 hvb; have hc2 : w2.cell? ⟨b, 3, none⟩ = some v := (World.cell?_of_block (w := w1) hbk).trans c3; have hf2 : w2.frozen? ⟨b, 3, none⟩ = false := (World.frozen?_of_block (w := w1) hbk).trans g3; have HBK := Lib.hid hbk; have HOwn2 := Lib.hid hown2; have HGrow := Lib.hid hgrow; have HAt := Lib.hid hat; clear hbk hown2 hgrow hat)
  all_goals
    try go_wp2
    go_end0
    have hne : gg ≠ b := by
      rcases HAt.out with h | h
      · intro e; subst e; exact hvb h
      · omega
    refine ⟨rfl, gg, cap, ?_, own_setCell HOwn2.out (by simp [Value.ownBlock]; exact hne) _, ?_, hne, ?_⟩
    · exact heap_setCell_same _ _ _ _ _ _ (HBK.out.trans HB1.out)
    · rw [← HZ.out]; exact HAt.out
    · refine Kept.setCell (HK1.out.trans ?_) (.inl rfl) _
      have hg := HGrow.out
      exact ⟨hg.os, hg.tape, hg.output, Nat.le_trans (by simp) hg.size, fun q hq hx => (hg.block q (by show q < (w1.alloc _).heap.size; simp; omega) (fun e => hx (.inr e.symm))).trans (Below.heap_alloc _ _ _ hq)⟩

end Go.Proofs.YtjeejpgkhjblnaaDoor
