/-
  Contracts of the Book's functions at lists of texts.
  Contracts: fillText.
  Contracts: growText.
-/
import Derived.Test.YtjalbfgdhmkclaaGreatDoorBookN
import Derived.Test.YtjalbfgdhmkclaaGreatDoorShelfI
import Derived.Test.YtjalbfgdhmkclaaGreatDoorMpI
import Derived.Deep.RegionHeld3
import Derived.Deep.AppendLies
import Derived.StillTailTactics
import Derived.Deep.QuietTactic
import Derived.BigQuiet
import Derived.ArgAppend
namespace Go.Proofs.YtjalbfgdhmkclaaGreatDoor
open Go.RowKit

/-- A mark as a text. -/
def wordS (i : Nat) : ByteArray := ⟨#[35]⟩ ++ ⟨(Lib.decDigits i).toArray⟩

set_option maxHeartbeats 400000 in
theorem word_any (i : Nat) (hi : i < 100) (w : World) :
    Calls Tryz.prog 153 #[.int .i64 i] w fun e w' => e = .returned (.string (wordS i)) ∧ w = w' := by
  obtain ⟨d, HD, hsz⟩ : ∃ d : ByteArray, Hid (⟨(Lib.decDigits i).toArray⟩ = d) ∧ d.size ≤ 100 := ⟨_, Lib.hid rfl, by
    have : ∀ k : Fin 100, (Lib.decDigits k.val).length ≤ 100 := by decide +kernel
    have h := this ⟨i, hi⟩
    show (Lib.decDigits i).toArray.size ≤ 100
    rw [List.size_toArray]; exact h⟩
  have HC : Hid (Calls Tryz.prog 183 #[.int .i64 i] w fun e w' => e = .returned (.string d) ∧ w = w') := Lib.hid ((Tryz.strconv_Itoa_small i hi w).mono fun e w' ⟨he, hw⟩ => ⟨by rw [he, HD.out], hw.symm⟩)
  go_enter Tryz.func153, Tryz.ntmps153
  go_wp2_with (go_at_call 183; refine HC.out.mono ?_; rintro e w' ⟨rfl, rfl⟩)
  go_ret
  exact ⟨by rw [wordS, HD.out]; rfl, rfl⟩

set_option maxHeartbeats 400000 in
theorem markText_any (i : Nat) (hi : i < 100) (w : World) :
    Calls Tryz.prog 102 #[.int .i64 i] w fun e w' => e = .returned (.string (wordS i)) ∧ w = w' := by
  go_enter Tryz.func102, Tryz.ntmps102
  go_wp2_with (go_at_call 153; refine (word_any i hi _).mono ?_; rintro e w' ⟨rfl, rfl⟩)
  go_ret
  exact ⟨rfl, rfl⟩

set_option maxHeartbeats 400000 in
theorem isText_yes (i : Nat) (hi : i < 100) (w : World) :
    Calls Tryz.prog 110 #[.string (wordS i), .int .i64 i] w fun e w' => e = .returned (.bool true) ∧ w = w' := by
  have he : ((wordS i).toList == (wordS i).toList) = true := by simp
  go_enter Tryz.func110, Tryz.ntmps110
  go_wp2_with (go_at_call 153; refine (word_any i hi _).mono ?_; rintro e w' ⟨rfl, rfl⟩)
  go_ret
  exact ⟨rfl, rfl⟩

/-- All blocks that were there are as they were, but those of X. -/
structure Kept (X : Nat → Prop) (w w' : World) : Prop where
  os : w'.os = w.os
  tape : w'.tape = w.tape
  output : w'.output = w.output
  size : w.heap.size ≤ w'.heap.size
  block : ∀ k, k < w.heap.size → ¬ X k → w'.heap[k]? = w.heap[k]?
theorem Kept.refl (X : Nat → Prop) (w : World) : Kept X w w := ⟨rfl, rfl, rfl, Nat.le_refl _, fun _ _ _ => rfl⟩
theorem Kept.trans {X : Nat → Prop} {a b c : World} (h : Kept X a b) (k : Kept X b c) : Kept X a c :=
  ⟨k.os.trans h.os, k.tape.trans h.tape, k.output.trans h.output, Nat.le_trans h.size k.size, fun i hi hx => (k.block i (Nat.lt_of_lt_of_le hi h.size) hx).trans (h.block i hi hx)⟩
theorem Kept.of_below {X : Nat → Prop} {a b : World} (h : Below a.heap.size a b) : Kept X a b := ⟨h.os, h.tape, h.output, h.size, fun k hk _ => h.block k hk⟩
theorem Kept.alloc {X : Nat → Prop} {a w : World} (h : Kept X a w) (o : Obj) : Kept X a (w.alloc o) := h.trans (.of_below ((Below.refl _ _).alloc (Nat.le_refl _) o))
theorem Kept.drewN {X : Nat → Prop} {a w : World} (h : Kept X a w) (n : Nat) : Kept X a (w.drewN n) := ⟨h.os, h.tape, h.output, h.size, h.block⟩
theorem Kept.drew {X : Nat → Prop} {a w : World} (h : Kept X a w) : Kept X a w.drew := ⟨h.os, h.tape, h.output, h.size, h.block⟩
theorem Kept.setCell {X : Nat → Prop} {a w : World} (h : Kept X a w) {p : Addr} (hp : X p.block) (u : Value) : Kept X a (w.setCell p u) :=
  h.trans ⟨rfl, rfl, rfl, by simp [World.setCell], fun k _ hx => Below.heap_setCell _ _ _ _ (fun e => hx (e ▸ hp))⟩
theorem Kept.mono {X Y : Nat → Prop} {a w : World} (h : Kept X a w) (hxy : ∀ k, X k → Y k) : Kept Y a w := ⟨h.os, h.tape, h.output, h.size, fun k hk hy => h.block k hk (fun hx => hy (hxy k hx))⟩
theorem Kept.cell {X : Nat → Prop} {a w : World} (h : Kept X a w) {p : Addr} {v : Value} (hc : a.cell? p = some v) (hx : ¬ X p.block) : w.cell? p = some v :=
  (World.cell?_of_block (w := a) (h.block p.block (block_lt_of_cell hc) hx)).trans hc

theorem info94 : (Tryz.prog.info? 94).map (fun i => (i.zero, i.size, i.bytes)) = some (some (.agg #[.slice none 0 0, .slice none 0 0, .int .i64 0]), 3, 56) := by kernel_rfl

theorem own_setCell {w : World} {base : Nat} {e : TypeId} {size : Nat} {v : Value} {n : Nat} {xs : List Value} (h : w.ownsRow base e size v n xs) {p : Addr} (hp : v.ownBlock ≠ some p.block) (u : Value) : (w.setCell p u).ownsRow base e size v n xs := by
  obtain ⟨h1, h2⟩ := h
  refine ⟨h1, ?_⟩
  rcases h2 with h2 | ⟨g, cap, cur, rfl, hg, hh, r⟩
  · exact .inl h2
  · exact .inr ⟨g, cap, cur, rfl, hg, by rw [Below.heap_setCell _ _ _ _ (fun e => hp (by rw [← e]; rfl))]; exact hh, r⟩

theorem grown_block {w1 w2 : World} {o : Obj} {v : Value} {b : Nat} (hg : ((w1.alloc o).drew).grownBy w2 v.ownBlock) (hb : b < w1.heap.size) (hne : v.ownBlock ≠ some b) : w2.heap[b]? = w1.heap[b]? :=
  (hg.block b (by show b < (w1.alloc o).heap.size; simp; omega) (Ne.symm hne)).trans (Below.heap_alloc _ _ _ hb)

/-- What keepText leaves: one more list is held. -/
def KeepsT (b base n k : Nat) (l v : Value) (xs : List Value) (C : Array Value) (w : World) (e : Ending) (w' : World) : Prop :=
  e = .returned (.tuple #[]) ∧ ∃ gg cap, w'.heap[b]? = some (.cells ((C.setIfInBounds 0 (.int .i64 ((k : Int) + 1))).setIfInBounds 3 (.slice (some ⟨gg, 0, none⟩) (n + 1) cap)) 39 (0, 0)) ∧
    w'.ownsRow base 94 3 (.slice (some ⟨gg, 0, none⟩) (n + 1) cap) (n + 1) (xs ++ [l, .slice none 0 0, .int .i64 ((k : Int) + 1)]) ∧ (v.ownBlock = some gg ∨ gg = w.heap.size + 1) ∧ gg ≠ b ∧ Kept (fun q => q = b ∨ v.ownBlock = some q) w w'

set_option maxHeartbeats 1000000 in
set_option maxRecDepth 100000 in
theorem keepText_any (b base n : Nat) (k : Nat) (la : Option Addr) (ln lc : Nat) (v : Value) (xs : List Value) (C : Array Value) (w : World) (hk : k < 1000) (hn : n < 1000)
    (hB : w.heap[b]? = some (.cells C 39 (0, 0))) (h0 : C[0]? = some (.int .i64 k)) (h3 : C[3]? = some v)
    (hown : w.ownsRow base 94 3 v n xs) (hbase : base ≤ w.heap.size) (hvb : v.ownBlock ≠ some b) :
    Calls Tryz.prog 40 #[.pointer (some ⟨b, 0, none⟩), .slice la ln lc] w (KeepsT b base n k (.slice la ln lc) v xs C w) := by
  have hbl : b < w.heap.size := lt_of_block hB
  have hB1 := heap_setCell_same w b 0 C _ (.int .i64 ((k : Int) + 1)) hB
  have hK1 : Kept (fun q => q = b ∨ v.ownBlock = some q) w (w.setCell ⟨b, 0, none⟩ (.int .i64 ((k : Int) + 1))) := (Kept.refl _ _).setCell (.inl rfl) _
  have hz1 : (w.setCell ⟨b, 0, none⟩ (.int .i64 ((k : Int) + 1))).heap.size = w.heap.size := by simp [World.setCell]
  obtain ⟨w1, HW, c0, c3, g3, own1, hb1, HB1, hbl1, HK1, HZ⟩ : ∃ w1, Hid (w.setCell ⟨b, 0, none⟩ (.int .i64 ((k : Int) + 1)) = w1) ∧ w1.cell? ⟨b, 0, none⟩ = some (.int .i64 ((k : Int) + 1)) ∧ w1.cell? ⟨b, 3, none⟩ = some v ∧ w1.frozen? ⟨b, 3, none⟩ = false ∧ Hid (w1.ownsRow base 94 3 v n xs) ∧ base ≤ w1.heap.size ∧ Hid (w1.heap[b]? = some (.cells (C.setIfInBounds 0 (.int .i64 ((k : Int) + 1))) 39 (0, 0))) ∧ b < w1.heap.size ∧ Hid (Kept (fun q => q = b ∨ v.ownBlock = some q) w w1) ∧ Hid (w1.heap.size = w.heap.size) := by
    refine ⟨_, Lib.hid rfl, ?_, ?_, frozen_of_row _ _ _ _ _ hB1, Lib.hid (own_setCell hown hvb _), by omega, Lib.hid hB1, by omega, Lib.hid hK1, Lib.hid hz1⟩
    · rw [cell_of_row _ _ _ _ _ _ hB1, Array.getElem?_setIfInBounds, if_pos rfl, if_pos (Array.getElem?_eq_some_iff.1 h0).1]
    · rw [cell_of_row _ _ _ _ _ _ hB1, Array.getElem?_setIfInBounds, if_neg (by omega)]; exact h3
  have f0 := frozen_of_row w b 0 C _ hB
  have d0 : w.cell? ⟨b, 0, none⟩ = some (.int .i64 k) := (cell_of_row w b 0 C _ _ hB).trans h0
  obtain ⟨i0, hi, hz0, hz1', hz2⟩ := info_parts info94
  have HI := Lib.hid hi
  have HZ0 := Lib.hid hz0
  have HZ1 := Lib.hid hz1'
  have HZ2 := Lib.hid hz2
  clear hi hz0 hz1 hz1' hz2 hB1 hK1 hown h0 h3 hB hbase
  go_enter Tryz.func40, Tryz.ntmps40
  go_wp2
  rw [HW.out]
  clear HW f0 d0
  go_region_law (refine step_append_lies _ (by rfl) _ _ _ (by rfl) base 94 i0 _ 3 56 Tryz.underlying32 HI.out HZ0.out HZ1.out HZ2.out rfl (by omega) v n xs (by rfl) ((own1.out.alloc _).drew) ⟨w1.heap.size, 0, none⟩ 1 1 [.slice la ln lc, .slice none 0 0, .int .i64 ((k : Int) + 1)] (by rfl) (by rfl) (World.news_of_block (cs := #[.slice la ln lc, .slice none 0 0, .int .i64 ((k : Int) + 1)]) (t := 94) (fr := (0, 0)) (heap_alloc_new w1 _)) (by simp [Value.oneCell']) (by omega) (by unfold maxLen; omega) (by omega) (by simp; omega) (w1.heap.size + 1) (by simp) ?_; intro gg cap w2 hown2 hgrow hat hlt; have hbk := grown_block hgrow hbl1 hvb; have hc2 : w2.cell? ⟨b, 3, none⟩ = some v := (World.cell?_of_block (w := w1) hbk).trans c3; have hf2 : w2.frozen? ⟨b, 3, none⟩ = false := (World.frozen?_of_block (w := w1) hbk).trans g3; have HBK := Lib.hid hbk; have HOwn2 := Lib.hid hown2; have HGrow := Lib.hid hgrow; have HAt := Lib.hid hat; clear hbk hown2 hgrow hat)
  all_goals
    try go_wp2
    go_end0
    have hne : gg ≠ b := by
      rcases HAt.out with h | h
      · intro e; subst e; exact hvb h
      · omega
    refine ⟨rfl, gg, cap, ?_, own_setCell HOwn2.out (by simp [Value.ownBlock]; exact hne) _, ?_, hne, ?_⟩
    · exact heap_setCell_same _ _ _ _ _ _ (HBK.out.trans HB1.out)
    · rw [← HZ.out]; exact HAt.out
    · refine Kept.setCell (HK1.out.trans ?_) (.inl rfl) _
      have hg := HGrow.out
      exact ⟨hg.os, hg.tape, hg.output, Nat.le_trans (by simp) hg.size, fun q hq hx => (hg.block q (by show q < (w1.alloc _).heap.size; simp; omega) (fun e => hx (.inr e.symm))).trans (Below.heap_alloc _ _ _ hq)⟩

end Go.Proofs.YtjalbfgdhmkclaaGreatDoor
namespace Go.Proofs.YtjalbfgdhmkclaaGreatDoor
open Go.RowKit

/-- The lists of texts that a Book holds: where its row lies, and each list's block, length, mark, and its longer copy. -/
structure Lists where
  b : Nat
  gT : Nat
  N : Nat
  cT : Nat
  g : Nat → Nat
  n : Nat → Nat
  id : Nat → Nat
  la : Nat → Option Addr
  ln : Nat → Nat
  lc : Nat → Nat
  z : Nat → Bool := fun _ => false
/-- A list's address; none: it is no list. -/
def Lists.ad (L : Lists) (i : Nat) : Option Addr := if L.z i = true then none else some ⟨L.g i, 0, none⟩
theorem Lists.ad_no {L : Lists} {i : Nat} (h : L.z i = false) : L.ad i = some ⟨L.g i, 0, none⟩ := by rw [Lists.ad, h]; rfl
theorem Lists.ad_yes {L : Lists} {i : Nat} (h : L.z i = true) : L.ad i = none := by rw [Lists.ad, if_pos h]
/-- It is so in a world. -/
structure Lists.In (L : Lists) (w : World) : Prop where
  h3 : w.cell? ⟨L.b, 3, none⟩ = some (.slice (some ⟨L.gT, 0, none⟩) L.N L.cT)
  e0 : ∀ i, i < L.N → w.cell? ⟨L.gT, i * 3, none⟩ = some (.slice (L.ad i) (L.n i) (L.n i))
  e1 : ∀ i, i < L.N → w.cell? ⟨L.gT, i * 3 + 1, none⟩ = some (.slice (L.la i) (L.ln i) (L.lc i))
  e2 : ∀ i, i < L.N → w.cell? ⟨L.gT, i * 3 + 2, none⟩ = some (.int .i64 (L.id i))
  fT : ∀ o, w.frozen? ⟨L.gT, o, none⟩ = false
  lT : L.gT < w.heap.size
/-- What has nothing to do with a world. -/
structure Lists.Fit (L : Lists) : Prop where
  hN : L.N < 1000
  hn : ∀ i, i < L.N → L.n i ≤ 4294967296
  hid : ∀ i, i < L.N → L.id i < 100
  hb : ∀ i, i < L.N → L.g i ≠ L.b
  hT : ∀ i, i < L.N → L.g i ≠ L.gT
  hg : ∀ i j, i < L.N → j < L.N → L.g i = L.g j → i = j
  hz : ∀ i, i < L.N → L.z i = true → L.n i = 0
def Lists.X (L : Lists) (q : Nat) : Prop := ∃ i, i < L.N ∧ q = L.g i
theorem Lists.In.kept {L : Lists} (F : L.Fit) {w w' : World} (h : L.In w) (k : Kept L.X w w') : L.In w' := by
  have hT : ¬ L.X L.gT := fun ⟨i, hi, e⟩ => F.hT i hi e.symm
  have hb : ¬ L.X L.b := fun ⟨i, hi, e⟩ => F.hb i hi e.symm
  exact ⟨k.cell h.h3 hb, fun i hi => k.cell (h.e0 i hi) hT, fun i hi => k.cell (h.e1 i hi) hT, fun i hi => k.cell (h.e2 i hi) hT, fun o => (World.frozen?_of_block (w := w) (k.block L.gT h.lT hT)).trans (h.fT o), Nat.lt_of_lt_of_le h.lT k.size⟩
/-- A block of n texts, the first j of them the mark. -/
def marked (i j : Nat) (C : Array Value) : Array Value := Array.replicate j (.string (wordS i)) ++ C.extract j C.size
theorem marked_size (i j : Nat) (C : Array Value) (h : j ≤ C.size) : (marked i j C).size = C.size := by simp [marked]; omega
theorem marked_zero (i : Nat) (C : Array Value) : marked i 0 C = C := by simp [marked]
theorem marked_all (i : Nat) (C : Array Value) : marked i C.size C = Array.replicate C.size (.string (wordS i)) := by simp [marked]
theorem marked_set (i j : Nat) (C : Array Value) (h : j < C.size) : (marked i j C).setIfInBounds j (.string (wordS i)) = marked i (j + 1) C := by
  apply Array.ext_getElem?
  intro q
  have h1 := marked_size i j C (by omega)
  rw [Array.getElem?_setIfInBounds, h1]
  by_cases e : j = q
  · subst e
    rw [if_pos rfl, if_pos h, marked, Array.getElem?_append_left (by simp)]
    simp
  · rw [if_neg e]
    unfold marked
    by_cases hq : q < j
    · rw [Array.getElem?_append_left (by simp; omega), Array.getElem?_append_left (by simp; omega)]
      rw [Array.getElem?_replicate, Array.getElem?_replicate, if_pos hq, if_pos (by omega)]
    · rw [Array.getElem?_append_right (by simp; omega), Array.getElem?_append_right (by simp; omega)]
      simp only [Array.getElem?_extract, Array.size_replicate]
      have e1 : j + (q - j) = q := by omega
      have e2 : j + 1 + (q - (j + 1)) = q := by omega
      rw [e1, e2]
      by_cases hc : q < C.size
      · rw [if_pos (by omega), if_pos (by omega)]
      · rw [if_neg (by omega), if_neg (by omega)]
theorem marked_at (i j : Nat) (C : Array Value) (h : j < C.size) : (marked i j C)[j]? = C[j]? := by
  rw [marked, Array.getElem?_append_right (by simp)]
  simp only [Array.getElem?_extract, Array.size_replicate]
  rw [if_pos (by omega)]
  congr 1
  omega

set_option maxHeartbeats 1000000 in
set_option maxRecDepth 100000 in
theorem fillText_any (L : Lists) (F : L.Fit) (C : Nat → Array Value) (w : World) (hI : L.In w) (hC : ∀ i, i < L.N → L.z i = false → w.heap[L.g i]? = some (.cells (C i) 9 (0, 0)) ∧ (C i).size = L.n i) :
    Calls Tryz.prog 43 #[.pointer (some ⟨L.b, 0, none⟩)] w fun e w' => e = .returned (.tuple #[]) ∧ Kept L.X w w' ∧ ∀ i, i < L.N → L.z i = false → w'.heap[L.g i]? = some (.cells (Array.replicate (L.n i) (.string (wordS (L.id i)))) 9 (0, 0)) := by
  have HI := Lib.hid hI; clear hI
  have HC := Lib.hid hC; clear hC
  have hN := F.hN
  have h3 := HI.out.h3
  go_enter Tryz.func43, Tryz.ntmps43
  go_wp2
  go_loopw [2, 3, 4] (fun i _ _ wr => ∃ k : Nat, k ≤ L.N ∧ i = .int .i64 k ∧ Kept L.X w wr ∧ (∀ i, i < k → L.z i = false → wr.heap[L.g i]? = some (.cells (Array.replicate (L.n i) (.string (wordS (L.id i)))) 9 (0, 0))) ∧ (∀ i, k ≤ i → i < L.N → L.z i = false → wr.heap[L.g i]? = some (.cells (C i) 9 (0, 0)))) (fun i _ _ _ => L.N - (intOf i).toNat)
  case atStart => exact ⟨0, Nat.zero_le _, rfl, Kept.refl _ _, fun i hi => absurd hi (by omega), fun i _ hi hz => (HC.out i hi hz).1⟩
  case round =>
    obtain ⟨k, hk, rfl, hK, hD, hU⟩ := hrel
    have HK := Lib.hid hK; clear hK
    have HD := Lib.hid hD; clear hD
    have HU := Lib.hid hU; clear hU
    clear h3
    have h3 := (HI.out.kept F HK.out).h3
    by_cases hlt : k < L.N
    · have c1 := (HI.out.kept F HK.out).e0 k hlt
      have c2 := (HI.out.kept F HK.out).e1 k hlt
      have c3 := (HI.out.kept F HK.out).e2 k hlt
      have hlt' : (k : Int) < (L.N : Int) := by omega
      have hid := F.hid k hlt
      have hnk := F.hn k hlt
      cases hz : L.z k
      · rw [L.ad_no hz] at c1
        have HCs := Lib.hid (HC.out k hlt hz).2
        obtain ⟨wo, rfl⟩ : ∃ wo : World, wo = wr := ⟨_, rfl⟩
        have hgl : L.g k < wo.heap.size := lt_of_block (HU.out k (Nat.le_refl _) hlt hz)
        have hgne : L.g k ≠ wo.heap.size := by omega
        go_wp2
        go_loopw [4] (fun i wq => ∃ j : Nat, j ≤ L.n k ∧ i = .int .i64 j ∧ wq.cell? ⟨wo.heap.size, 0, none⟩ = some (.slice (some ⟨L.g k, 0, none⟩) (L.n k) (L.n k)) ∧ wq.cell? ⟨wo.heap.size, 2, none⟩ = some (.int .i64 (L.id k)) ∧ wq.heap[L.g k]? = some (.cells (marked (L.id k) j (C k)) 9 (0, 0)) ∧ Kept (fun q => q = L.g k) wo wq) (fun i _ => L.n k - (intOf i).toNat)
        case atStart =>
          refine ⟨0, Nat.zero_le _, rfl, ?_, ?_, ?_, (Kept.refl _ _).alloc _⟩
          · rw [World.cell?_alloc_at _ _ _ _ rfl]; rfl
          · rw [World.cell?_alloc_at _ _ _ _ rfl]; rfl
          · rw [Below.heap_alloc _ _ _ hgl, marked_zero]; exact HU.out k (Nat.le_refl _) hlt hz
        case round =>
          obtain ⟨j, hj, rfl, d0, d2, hrow, hKq⟩ := hrel
          by_cases hjl : j < L.n k
          · have hjl' : (j : Int) < (L.n k : Int) := by omega
            have hsz : j < (C k).size := by rw [HCs.out]; exact hjl
            obtain ⟨x, hx⟩ : ∃ x, wr.cell? ⟨L.g k, j, none⟩ = some x := by
              rw [cell_of_row _ _ _ _ _ _ hrow]
              exact ⟨_, Array.getElem?_eq_getElem (by rw [marked_size _ _ _ (by omega)]; exact hsz)⟩
            have hf := frozen_of_row wr (L.g k) j _ _ hrow
            have HRow := Lib.hid hrow; clear hrow
            have HKq := Lib.hid hKq; clear hKq
            go_wp2
            go_region_held3 (fun w' => w'.cell? ⟨wo.heap.size, 0, none⟩ = some (.slice (some ⟨L.g k, 0, none⟩) (L.n k) (L.n k)) ∧ w'.cell? ⟨wo.heap.size, 2, none⟩ = some (.int .i64 (L.id k))) (go_keep)
              (first | (go_at_call 102; refine (markText_any (L.id k) hid _).mono ?_; rintro e w' ⟨rfl, rfl⟩))
            go_wp2
            refine ⟨⟨j + 1, by omega, by go_num, ?_, ?_, ?_, ?_⟩, by simp [intOf]; omega⟩
            · rw [World.cell?_drew, World.cell?_setCell_other _ _ _ _ (by simp)]; exact d0
            · rw [World.cell?_drew, World.cell?_setCell_other _ _ _ _ (by simp)]; exact d2
            · show (wr.setCell ⟨L.g k, j, none⟩ _).heap[L.g k]? = _
              rw [heap_setCell_same _ _ _ _ _ _ HRow.out, marked_set _ _ _ hsz]
            · exact (HKq.out.setCell rfl _).drew
          · obtain rfl : j = L.n k := by omega
            have HRow := Lib.hid hrow; clear hrow
            have HKq := Lib.hid hKq; clear hKq
            have HKX : Hid (Kept L.X w wr) := Lib.hid (HK.out.trans (HKq.out.mono (fun q hq => ⟨k, hlt, hq⟩)))
            go_wp2
            refine ⟨⟨k + 1, by omega, by go_num, HKX.out, ?_, ?_⟩, by simp [intOf]; omega⟩
            · intro i hi hzi
              by_cases e : i = k
              · subst e
                rw [HRow.out, ← HCs.out, marked_all]
              · have hi' : i < L.N := by omega
                have hw : L.g i < wo.heap.size := lt_of_block (HD.out i (by omega) hzi)
                rw [HKq.out.block (L.g i) hw (fun h => e (F.hg i k hi' hlt h))]
                exact HD.out i (by omega) hzi
            · intro i hi hi' hzi
              have hw : L.g i < wo.heap.size := lt_of_block (HU.out i (by omega) hi' hzi)
              rw [HKq.out.block (L.g i) hw (fun h => by have := F.hg i k hi' hlt h; omega)]
              exact HU.out i (by omega) hi' hzi
      · rw [L.ad_yes hz, F.hz k hlt hz] at c1
        have HZk := Lib.hid hz
        clear hz
        obtain ⟨wo, rfl⟩ : ∃ wo : World, wo = wr := ⟨_, rfl⟩
        go_wp2
        go_loopw [4] (fun i wq => i = .int .i64 0 ∧ wq.cell? ⟨wo.heap.size, 0, none⟩ = some (.slice none 0 0) ∧ Hid (Kept (fun _ => False) wo wq)) (fun i _ => 0)
        case atStart =>
          refine ⟨rfl, ?_, Lib.hid ((Kept.refl _ _).alloc _)⟩
          rw [World.cell?_alloc_at _ _ _ _ rfl]; rfl
        case round =>
          obtain ⟨rfl, d0, HKq⟩ := hrel
          have HKX : Hid (Kept L.X w wr) := Lib.hid (HK.out.trans (HKq.out.mono (fun q hq => hq.elim)))
          go_wp2
          refine ⟨⟨k + 1, by omega, by go_num, HKX.out, ?_, ?_⟩, by simp [intOf]; omega⟩
          · intro i hi hzi
            by_cases e : i = k
            · subst e; rw [HZk.out] at hzi; cases hzi
            · rw [HKq.out.block (L.g i) (lt_of_block (HD.out i (by omega) hzi)) (fun h => h)]
              exact HD.out i (by omega) hzi
          · intro i hi hi' hzi
            rw [HKq.out.block (L.g i) (lt_of_block (HU.out i (by omega) hi' hzi)) (fun h => h)]
            exact HU.out i (by omega) hi' hzi
    · obtain rfl : k = L.N := by omega
      go_wp2
      go_end0
      exact ⟨rfl, HK.out, HD.out⟩

end Go.Proofs.YtjalbfgdhmkclaaGreatDoor
namespace Go.Proofs.YtjalbfgdhmkclaaGreatDoor
open Go.RowKit

theorem infoG : (Tryz.prog.info? 9).map (fun i => (i.zero, i.size, i.bytes)) = some (some (.string ⟨#[]⟩), 1, 16) := by kernel_rfl
/-- An append of which the run is known. -/
theorem append_ran {P : Program} {ops : Array Oper} {Q : Exit → Act → World → Prop} {a : Act} {w : World} {rest : List Oper} {o : Oper} (hw : Region.wanted o (yielded ops a.tmps) = true)
    (s x : Operand) (t : TypeId) (hop : o.op = Op.call { callee := Callee.builtin Builtin.append, args := #[s, x], argTypes := #[t, t] }) (vs vx v' : Value) (w' : World) (hs : a.eval s = vs) (hx : a.eval x = vx)
    (hrun : (Builtin.append_ #[t, t] o.type #[vs, vx]).run P w = .ok v' w') (h : wpList P ops Q rest (a.put o.dst v') w') : wpList P ops Q (o :: rest) a w := by
  refine wpList_step fun K hK' => ?_
  rw [if_pos hw]
  unfold Oper.wp
  simp [execOp, hop, resolve, invoke, builtin, hs, hx, hrun, Result.andThen]
  exact hK' _ _ h

/-- The first k lists have their longer copies. -/
def Lists.grown (L : Lists) (k : Nat) (d cp : Nat → Nat) : Lists :=
  { L with la := fun i => if i < k then some ⟨d i, 0, none⟩ else L.la i, ln := fun i => if i < k then L.n i + 40 else L.ln i, lc := fun i => if i < k then cp i else L.lc i }
theorem Lists.grown_zero (L : Lists) (d cp : Nat → Nat) : L.grown 0 d cp = L := by
  unfold Lists.grown; simp
/-- Each copy holds its mark all over. -/
def Marks (L : Lists) (k : Nat) (d : Nat → Nat) (w : World) : Prop := ∀ i, i < k → d i < w.heap.size ∧ d i ≠ L.gT ∧ ∀ q, q < L.n i + 40 → w.cell? ⟨d i, q, none⟩ = some (.string (wordS (L.id i)))
/-- The longer copy while it grows. -/
def Long (base : Nat) (g n id j : Nat) (v : Value) (w : World) : Prop :=
  (j = 0 ∧ v = .slice (some ⟨g, 0, none⟩) n n) ∨ (0 < j ∧ w.ownsRow base 9 1 v (n + j) (List.replicate (n + j) (.string (wordS id))))
/-- One more mark behind it. -/
theorem long_step (base g n id j : Nat) (v : Value) (w : World) (hn : n ≤ 4294967296) (hj : j < 40) (hb : base ≤ w.heap.size)
    (hrow : w.heap[g]? = some (.cells (Array.replicate n (.string (wordS id))) 9 (0, 0))) (h : Long base g n id j v w) :
    ∃ v' w1, (Builtin.append_ #[27, 27] 27 #[v, .slice (some ⟨w.heap.size, 0, none⟩) 1 1]).run Tryz.prog (w.alloc (.cells #[.string (wordS id)] 9)) = .ok v' w1 ∧ Long base g n id (j + 1) v' w1 ∧ (∀ q, q < base → w1.heap[q]? = w.heap[q]?) ∧ w.heap.size ≤ w1.heap.size ∧ w1.os = w.os ∧ w1.tape = w.tape ∧ w1.output = w.output := by
  obtain ⟨i0, hi, hz0, hz1, hz2⟩ := info_parts infoG
  have hnews : ∀ j u, ([.string (wordS id)] : List Value)[j]? = some u → (w.alloc (.cells #[.string (wordS id)] 9)).cell? ((⟨w.heap.size, 0, none⟩ : Addr).add j) = some u :=
    World.news_of_block (cs := #[.string (wordS id)]) (t := 9) (fr := (0, 0)) (heap_alloc_new w _)
  rcases h with ⟨rfl, rfl⟩ | ⟨hj0, hown⟩
  · obtain ⟨v', w1, hrun, hown, hgrow⟩ := run_append_arg_grows (P := Tryz.prog) (w.alloc (.cells #[.string (wordS id)] 9)) 27 27 9 i0 (.string ⟨#[]⟩) 1 16 Tryz.underlying27 hi hz0 hz1 hz2 rfl (by decide)
      ⟨g, 0, none⟩ n n (List.replicate n (.string (wordS id))) (by simp) (fun j u hu => by
        have e : (⟨g, 0, none⟩ : Addr).add j = ⟨g, j, none⟩ := by unfold Addr.add; split <;> simp_all
        have hlt : g < w.heap.size := lt_of_block hrow
        rw [e, World.cell?_alloc_past _ _ _ hlt, cell_of_row w g _ _ _ _ hrow]
        rw [← Array.getElem?_toList, Array.toList_replicate]; exact hu)
      ⟨w.heap.size, 0, none⟩ 1 1 [.string (wordS id)] (by simp) hnews (by omega) (by unfold maxLen; omega) (by omega)
    refine ⟨v', w1, hrun, .inr ⟨by omega, ?_⟩, fun q hq => ?_, Nat.le_trans (by simp) hgrow.size, hgrow.os, hgrow.tape, hgrow.output⟩
    · have e : List.replicate (n + 1) (Value.string (wordS id)) = List.replicate n (.string (wordS id)) ++ [.string (wordS id)] := by rw [List.replicate_succ']
      rw [e]
      obtain ⟨h1, h2⟩ := hown
      refine ⟨h1, ?_⟩
      rcases h2 with h2 | ⟨g', cap, cur, hv, hg', r⟩
      · exact .inl h2
      · exact .inr ⟨g', cap, cur, hv, by simp at hg'; omega, r⟩
    · rw [hgrow.block q (by show q < (w.alloc _).heap.size; simp; omega) (by simp)]; exact Below.heap_alloc _ _ _ (by omega)
  · obtain ⟨v', w1, hrun, hown', hgrow, _⟩ := run_append_own (P := Tryz.prog) (w.alloc (.cells #[.string (wordS id)] 9)) base 27 27 9 i0 (.string ⟨#[]⟩) 1 16 Tryz.underlying27 hi hz0 hz1 hz2 rfl (by decide)
      v (n + j) (List.replicate (n + j) (.string (wordS id))) (hown.alloc _) ⟨w.heap.size, 0, none⟩ 1 1 [.string (wordS id)] (by simp) hnews (by simp [Value.oneCell']) (by unfold maxLen; omega) (by omega) (by simp; omega)
    refine ⟨v', w1, hrun, .inr ⟨by omega, ?_⟩, fun q hq => ?_, Nat.le_trans (by simp) hgrow.size, hgrow.os, hgrow.tape, hgrow.output⟩
    · have e : List.replicate (n + (j + 1)) (Value.string (wordS id)) = List.replicate (n + j) (.string (wordS id)) ++ [.string (wordS id)] := by rw [← Nat.add_assoc, List.replicate_succ']
      rw [e]; exact hown'
    · have hne : some q ≠ v.ownBlock := fun e => by
        have := (hown.lt q e.symm).1
        omega
      rw [hgrow.block q (by show q < (w.alloc _).heap.size; simp; omega) hne]; exact Below.heap_alloc _ _ _ (by omega)

/-- The longer copy of no list, while it grows. -/
theorem long0_step (base id j : Nat) (v : Value) (w : World) (hj : j < 40) (hb : base ≤ w.heap.size) (hown : w.ownsRow base 9 1 v j (List.replicate j (.string (wordS id)))) :
    ∃ v' w1, (Builtin.append_ #[27, 27] 27 #[v, .slice (some ⟨w.heap.size, 0, none⟩) 1 1]).run Tryz.prog (w.alloc (.cells #[.string (wordS id)] 9)) = .ok v' w1 ∧ w1.ownsRow base 9 1 v' (j + 1) (List.replicate (j + 1) (.string (wordS id))) ∧ (∀ q, q < base → w1.heap[q]? = w.heap[q]?) ∧ w.heap.size ≤ w1.heap.size ∧ w1.os = w.os ∧ w1.tape = w.tape ∧ w1.output = w.output := by
  obtain ⟨i0, hi, hz0, hz1, hz2⟩ := info_parts infoG
  have hnews : ∀ j u, ([.string (wordS id)] : List Value)[j]? = some u → (w.alloc (.cells #[.string (wordS id)] 9)).cell? ((⟨w.heap.size, 0, none⟩ : Addr).add j) = some u :=
    World.news_of_block (cs := #[.string (wordS id)]) (t := 9) (fr := (0, 0)) (heap_alloc_new w _)
  obtain ⟨v', w1, hrun, hown', hgrow, _⟩ := run_append_own (P := Tryz.prog) (w.alloc (.cells #[.string (wordS id)] 9)) base 27 27 9 i0 (.string ⟨#[]⟩) 1 16 Tryz.underlying27 hi hz0 hz1 hz2 rfl (by decide)
    v (j) (List.replicate (j) (.string (wordS id))) (hown.alloc _) ⟨w.heap.size, 0, none⟩ 1 1 [.string (wordS id)] (by simp) hnews (by simp [Value.oneCell']) (by unfold maxLen; omega) (by omega) (by simp; omega)
  refine ⟨v', w1, hrun, ?_, fun q hq => ?_, Nat.le_trans (by simp) hgrow.size, hgrow.os, hgrow.tape, hgrow.output⟩
  · have e : List.replicate (j + 1) (Value.string (wordS id)) = List.replicate (j) (.string (wordS id)) ++ [.string (wordS id)] := by rw [List.replicate_succ']
    rw [e]; exact hown'
  · have hne : some q ≠ v.ownBlock := fun e => by
      have := (hown.lt q e.symm).1
      omega
    rw [hgrow.block q (by show q < (w.alloc _).heap.size; simp; omega) hne]; exact Below.heap_alloc _ _ _ (by omega)

end Go.Proofs.YtjalbfgdhmkclaaGreatDoor
