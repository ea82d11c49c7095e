/-
  Package setcookie: the text of what is told.
-/
import Derived.Test.YtllpdnmhabpbcaaGreatDoorScE
import Derived.Test.YtllpdnmhabpbcaaGreatDoorDtO
import Derived.Maps.AppendAt
import Derived.RegionTactic
namespace Go.Proofs.YtllpdnmhabpbcaaGreatDoor
open Go.RowKit

theorem sc_infoS : (Tryz.prog.info? 9).map (fun i => (i.zero, i.size, i.bytes)) = some (some (.string ⟨#[]⟩), 1, 16) := by kernel_rfl
/-- The closure's own variable: the pieces so far. -/
def TellAt (base tb : Nat) (D : List ByteArray) (w : World) : Prop :=
  base ≤ tb ∧ ∃ v, Holds1 w tb 36 v ∧ w.ownsRow base 9 1 v D.length (D.map Value.string) ∧ v.ownBlock ≠ some tb
theorem TellAt.below {base tb : Nat} {D : List ByteArray} {w w' : World} (h : TellAt base tb D w) (hb : Below w.heap.size w w') : TellAt base tb D w' := by
  obtain ⟨h0, v, h1, h2, h3⟩ := h
  exact ⟨h0, v, (hb.block tb h1.lt).trans h1, own_kept (X := fun _ => False) h2 (Kp.of_below hb) (fun _ _ h => h), h3⟩
theorem sc_appS (base : Nat) (v : Value) (D : List Value) (x : Value) (w : World) (hown : w.ownsRow base 9 1 v D.length D) (hx : x.oneCell' = true) (hD : D.length ≤ 10000000) (hb : base ≤ w.heap.size) :
    ∃ v' w1, (Builtin.append_ #[36, 36] 36 #[v, .slice (some ⟨w.heap.size, 0, none⟩) 1 1]).run Tryz.prog (w.alloc (.cells #[x] 9)) = .ok v' w1 ∧ w1.ownsRow base 9 1 v' (D ++ [x]).length (D ++ [x]) ∧ (w.alloc (.cells #[x] 9)).grownBy w1 v.ownBlock ∧ (v'.ownBlock = v.ownBlock ∨ v'.ownBlock = some (w.heap.size + 1)) ∧ Below base w w1 := by
  obtain ⟨i0, hi, hz0, hz1, hz2⟩ := info_parts sc_infoS
  have hnews : ∀ j u, [x][j]? = some u → (w.alloc (.cells #[x] 9)).cell? ((⟨w.heap.size, 0, none⟩ : Addr).add j) = some u :=
    World.news_of_block (cs := #[x]) (t := 9) (fr := (0, 0)) (heap_alloc_new w _)
  obtain ⟨v', w1, hrun, hown', hgrow, _, hlie⟩ := run_append_own_at (P := Tryz.prog) (w.alloc (.cells #[x] 9)) base 36 36 9 i0 (.string ⟨#[]⟩) 1 16 Tryz.underlying36 hi hz0 hz1 hz2 rfl (by decide)
    v D.length D (hown.alloc _) ⟨w.heap.size, 0, none⟩ 1 1 [x] rfl hnews (by simpa using hx) (by unfold maxLen; omega) (by omega) (by simp; omega)
  refine ⟨v', w1, hrun, by rw [List.length_append]; exact hown', hgrow, by rw [World.size_alloc] at hlie; exact hlie, ((Below.refl _ _).alloc hb _).grown hgrow (by simp; omega) (fun q hq => (hown.lt q hq).1)⟩
theorem sc_ownSet {w : World} {base : Nat} {e : TypeId} {size : Nat} {v : Value} {n : Nat} {xs : List Value} (h : w.ownsRow base e size v n xs) {p : Addr} (hp : v.ownBlock ≠ some p.block) (u : Value) : (w.setCell p u).ownsRow base e size v n xs := by
  obtain ⟨h1, h2⟩ := h
  refine ⟨h1, ?_⟩
  rcases h2 with h2 | ⟨g, cap, cur, rfl, hg, hh, r⟩
  · exact .inl h2
  · exact .inr ⟨g, cap, cur, rfl, hg, by rw [Below.heap_setCell _ _ _ _ (fun e => hp (by rw [← e]; rfl))]; exact hh, r⟩
def TellPost (base tb : Nat) (D : List ByteArray) (w : World) (e : Ending) (w' : World) : Prop := e = .returned (.tuple #[]) ∧ TellAt base tb D w' ∧ Below base w w'

set_option maxHeartbeats 1000000 in
set_option maxRecDepth 100000 in
theorem tell_any (base tb : Nat) (D : List ByteArray) (has : Bool) (x : ByteArray) (w : World) (h : TellAt base tb D w) (hD : D.length ≤ 1000) (hb : base ≤ w.heap.size) :
    Calls Tryz.prog 20 #[.bool has, .string x, .pointer (some ⟨tb, 0, none⟩)] w (TellPost base tb (D ++ if has then [x] else []) w) := by
  obtain ⟨D', HD'⟩ : ∃ D', Hid ((D ++ if has then [x] else []) = D') := ⟨_, Lib.hid rfl⟩
  rw [HD'.out]
  cases has with
  | false =>
    have HP : Hid (TellPost base tb D' w (.returned (.tuple #[])) w) := Lib.hid ⟨rfl, by rw [← HD'.out, if_neg (by decide), List.append_nil]; exact h, Below.refl _ _⟩
    clear h
    go_enter Tryz.func20, Tryz.ntmps20
    go_wp2
    refine bodyPost_ret (results_none rfl _ _ _) rfl ?_
    exact HP.out
  | true =>
    obtain ⟨h0, v, h1, h2, h3⟩ := h
    obtain ⟨v', w1, hrun, hown, hgrow, hlie, hbel⟩ := sc_appS base v (D.map Value.string) (.string x) w (by rw [List.length_map]; exact h2) rfl (by rw [List.length_map]; omega) hb
    obtain ⟨g, cap, rfl, _, _⟩ := hown.form (by simp)
    generalize hV : Value.slice (some ⟨g, 0, none⟩) (D.map Value.string ++ [Value.string x]).length cap = v' at *
    have hV1 : v' = .slice (some ⟨g, 0, none⟩) (D.length + 1) cap := by rw [← hV]; simp
    have hc := h1.cell
    have h1a : Holds1 (w.alloc (.cells #[.string x] 9)) tb 36 v := h1.alloc _
    have h1b : Holds1 w1 tb 36 v := h1a.grown hgrow h3
    have hc1 := h1b.cell
    have hf1 := h1b.free
    have hlt := h1.lt
    have HP : Hid (TellPost base tb D' w (.returned (.tuple #[])) (w1.setCell ⟨tb, 0, none⟩ v')) := Lib.hid ⟨rfl, ⟨h0, v', h1b.set v', by
      rw [← HD'.out, if_pos rfl]
      have e1 : (D ++ [x]).map Value.string = D.map Value.string ++ [Value.string x] := by simp
      have e2 : (D ++ [x]).length = (D.map Value.string ++ [Value.string x]).length := by simp
      rw [e1, e2]
      refine sc_ownSet hown (p := ⟨tb, 0, none⟩) (fun e => ?_) v'
      rcases hlie with hl | hl
      · exact h3 (hl ▸ e)
      · rw [hl] at e; injection e with e; have e' : w.heap.size + 1 = tb := e; omega, by
      rcases hlie with hl | hl
      · rw [hl]; exact h3
      · rw [hl]; intro e; injection e with e; omega⟩, hbel.setCell (p := ⟨tb, 0, none⟩) h0 _⟩
    have HRun := Lib.hid hrun
    subst hV1
    clear hV
    clear h0 h1 h2 h3 hrun hown hgrow hlie hbel h1a h1b hlt
    go_enter Tryz.func20, Tryz.ntmps20
    go_wp2_with (at_builtin; refine Lib.wpList_append_run _ rfl _ _ _ _ rfl _ _ rfl rfl _ _ HRun.out ?_)
    refine bodyPost_ret (results_none rfl _ _ _) rfl ?_
    exact HP.out

/-- The date's part of a text. -/
def DateOf (n : Int) (D : List UInt8) : Prop := IsTxt n D ∨ ((n < 0 ∨ 253402300799 < n) ∧ D = [])
theorem date_some (n : Int) : ∃ D, DateOf n D := by
  by_cases h : 0 ≤ n ∧ n ≤ 253402300799
  · obtain ⟨D, hD⟩ := txt_some n h.1 h.2
    exact ⟨D, .inl hD⟩
  · exact ⟨[], .inr ⟨by omega, rfl⟩⟩
theorem date_len {n : Int} {D : List UInt8} (h : DateOf n D) : D.length ≤ 29 := by
  rcases h with ⟨k, d, Y, M, dd, _, _, hI, rfl⟩ | ⟨_, rfl⟩
  · have h1 := wk_len ((d + 1) % 7) (by omega)
    have h2 := mon_len3 M hI.m1 hI.m2
    rw [asB_size] at h1 h2
    have e1 : (d2 dd).length = 2 := rfl
    have e2 : (yearL Y).length = 4 := rfl
    have e3 : (clockL (k % 86400)).length = 8 := rfl
    unfold textL
    simp only [List.length_append, List.length_cons, h1, h2, e1, e2, e3, List.length_nil]
    omega
  · simp
theorem date_any {n : Int} {D : List UInt8} (h : DateOf n D) (m : Int) (w : World) (hw : DtG m w) :
    Calls Tryz.prog 21 #[.int .i64 n] w fun e w' => (∃ ok, e = .returned (.tuple #[.string (asB D), .bool ok])) ∧ Below w.heap.size w w' := by
  rcases h with h | ⟨h, rfl⟩
  · exact (Text_yes h m w hw).mono fun e w' ⟨h1, h2⟩ => ⟨⟨_, h1⟩, h2⟩
  · exact (Text_no n h w).mono fun e w' ⟨h1, h2⟩ => ⟨⟨_, h1⟩, h2⟩
def cEx : ByteArray := ⟨#[69, 120, 112, 105, 114, 101, 115, 61]⟩
def cAg : ByteArray := ⟨#[77, 97, 120, 45, 65, 103, 101, 61]⟩
def cDm : ByteArray := ⟨#[68, 111, 109, 97, 105, 110, 61]⟩
def cPa : ByteArray := ⟨#[80, 97, 116, 104, 61]⟩
def cSe : ByteArray := ⟨#[83, 101, 99, 117, 114, 101]⟩
def cHi : ByteArray := ⟨#[72, 116, 116, 112, 79, 110, 108, 121]⟩
def cSi : ByteArray := ⟨#[83, 97, 109, 101, 83, 105, 116, 101, 61]⟩
def opt (b : Bool) (x : ByteArray) : List ByteArray := if b then [x] else []
/-- The pieces of a cookie's text. -/
def pcs (t : Cki) (D : List UInt8) : List ByteArray :=
  (((((([t.nm ++ ⟨#[61]⟩ ++ t.vl] ++ opt t.hx (cEx ++ asB D)) ++ opt t.ha (cAg ++ asB (Lib.itoa t.ag))) ++ opt (!t.dm.toList.isEmpty) (cDm ++ t.dm)) ++ opt (!t.pa.toList.isEmpty) (cPa ++ t.pa)) ++ opt t.se cSe) ++ opt t.hi cHi) ++ opt (t.si != 0) (cSi ++ asB (siteL t.si))
def txtC (t : Cki) (D : List UInt8) : ByteArray := asB (Lib.join ((pcs t D).map (·.data.toList)) [59, 32])
theorem dec_len (u k : Nat) (h : u < 10 ^ k) (hk : 1 ≤ k) : (Lib.decDigits u).length ≤ k := by
  induction k generalizing u with
  | zero => omega
  | succ k ih =>
    rw [Lib.decDigits]
    split
    · simp
    · rw [List.length_append]
      have hp : u / 10 < 10 ^ k := by rw [Nat.pow_succ] at h; omega
      cases k with
      | zero => simp at hp; omega
      | succ k => have := ih (u / 10) hp (by omega); simp; omega
theorem itoa_len (n : Int) (h0 : -9223372036854775808 ≤ n) (h1 : n ≤ 9223372036854775807) : (Lib.itoa n).length ≤ 1000 := by
  unfold Lib.itoa
  split
  · have := dec_len n.natAbs 20 (by omega) (by decide)
    rw [List.length_cons]; omega
  · have := dec_len n.toNat 20 (by omega) (by decide)
    omega
theorem Itoa_full (n : Int) (h0 : -9223372036854775808 ≤ n) (h1 : n ≤ 9223372036854775807) (w : World) (htab : Lib.TabIs Tryz.prog w "internal/strconv.uint64pow10" .u64 Lib.pow10Tab) :
    Calls Tryz.prog 22 #[.int .i64 n] w fun e w' => e = .returned (.string (asB (Lib.itoa n))) ∧ Below w.heap.size w w' :=
  (Tryz.strconv_Itoa n h0 h1 w htab).mono fun e w' ⟨he, k, os, hw⟩ => ⟨he, by
    rw [hw]; exact below_grown_sl _ w k os (Nat.le_refl _)⟩
theorem tail_bd (k : Nat) : ∀ xs : List (List UInt8), (∀ x ∈ xs, x.length ≤ k) → (Lib.joinTail [59, 32] xs).length ≤ xs.length * (k + 2)
  | [], _ => Nat.zero_le _
  | x :: xs, h => by
    have ih := tail_bd k xs fun y hy => h y (List.mem_cons_of_mem _ hy)
    have hx := h x (List.mem_cons_self ..)
    unfold Lib.joinTail at ih ⊢
    rw [List.map_cons, List.flatten_cons, List.length_append, List.length_append, show (x :: xs).length = xs.length + 1 from rfl, Nat.add_mul, Nat.one_mul]
    simp only [List.length_cons, List.length_nil]
    omega
theorem join_bd (k : Nat) (xs : List (List UInt8)) (h : ∀ x ∈ xs, x.length ≤ k) : (Lib.join xs [59, 32]).length ≤ xs.length * (k + 2) := by
  cases xs with
  | nil => exact Nat.zero_le _
  | cons x xs =>
    have h1 := tail_bd k xs fun y hy => h y (List.mem_cons_of_mem _ hy)
    have h2 := h x (List.mem_cons_self ..)
    rw [Lib.join_cons, List.length_append, List.length_cons, Nat.add_mul, Nat.one_mul]
    omega
theorem opt_bd {b : Bool} {x y : ByteArray} {k : Nat} (hx : x.size ≤ k) (h : y ∈ opt b x) : y.size ≤ k := by
  unfold opt at h
  split at h
  · rw [List.mem_singleton.1 h]; exact hx
  · cases h
theorem pcs_bd (t : Cki) (D : List UInt8) (hsz : t.nm.size + t.vl.size + t.dm.size + t.pa.size ≤ 2000000) (hd : D.length ≤ 29) (hi : (Lib.itoa t.ag).length ≤ 1000) : ∀ x ∈ pcs t D, x.size ≤ 3000000 := by
  intro x hx
  unfold pcs at hx
  simp only [List.mem_append, List.mem_singleton] at hx
  have hsi : (asB (siteL t.si)).size ≤ 6 := by
    rw [asB_size]; unfold siteL
    split
    · exact Nat.le_refl _
    · split
      · decide
      · split <;> decide
  rcases hx with ((((((rfl | h) | h) | h) | h) | h) | h) | h
  · rw [ByteArray.size_append, ByteArray.size_append, show ({ data := #[61] } : ByteArray).size = 1 from rfl]; omega
  · exact opt_bd (by rw [ByteArray.size_append, asB_size, show cEx.size = 8 from rfl]; omega) h
  · exact opt_bd (by rw [ByteArray.size_append, asB_size, show cAg.size = 8 from rfl]; omega) h
  · exact opt_bd (by rw [ByteArray.size_append, show cDm.size = 7 from rfl]; omega) h
  · exact opt_bd (by rw [ByteArray.size_append, show cPa.size = 5 from rfl]; omega) h
  · exact opt_bd (by rw [show cSe.size = 6 from rfl]; omega) h
  · exact opt_bd (by rw [show cHi.size = 8 from rfl]; omega) h
  · exact opt_bd (by rw [ByteArray.size_append, show cSi.size = 9 from rfl]; omega) h

/-- How far the closure is. -/
structure CkTx (w0 : World) (t : Cki) (D : List ByteArray) (W : World) : Prop where
  tl : TellAt (w0.heap.size + 1) (w0.heap.size + 1 + 1) D W
  bx : W.heap[w0.heap.size]? = some (.cells (ckR t) 26 (0, 0))
  bel : Below w0.heap.size w0 W
  sz : w0.heap.size + 3 ≤ W.heap.size
  ln : D.length ≤ 8
theorem CkTx.cell {w0 : World} {t : Cki} {D : List ByteArray} {W : World} (h : CkTx w0 t D W) (k : Nat) {v : Value} (hv : (ckR t)[k]? = some v) : W.cell? ⟨w0.heap.size, k, none⟩ = some v := by
  rw [cell_of_row W _ k _ _ _ h.bx]; exact hv
theorem CkTx.below {w0 : World} {t : Cki} {D : List ByteArray} {W W' : World} (h : CkTx w0 t D W) (hb : Below W.heap.size W W') : CkTx w0 t D W' :=
  ⟨h.tl.below hb, (hb.block _ (lt_of_block h.bx)).trans h.bx, h.bel.trans (hb.mono h.bel.size), Nat.le_trans h.sz hb.size, h.ln⟩
theorem CkTx.tell {w0 : World} {t : Cki} {D : List ByteArray} {W : World} (h : CkTx w0 t D W) (hl : D.length ≤ 7) (has : Bool) (x : ByteArray) :
    Calls Tryz.prog 20 #[.bool has, .string x, .pointer (some ⟨w0.heap.size + 1 + 1, 0, none⟩)] W fun e W' => e = .returned (.tuple #[]) ∧ CkTx w0 t (D ++ opt has x) W' :=
  (tell_any _ _ D has x W h.tl (by omega) (by have := h.sz; omega)).mono fun e W' ⟨h1, h2, h3⟩ => ⟨h1, h2, (h3.block _ (by omega)).trans h.bx, h.bel.trans (h3.mono (by omega)), Nat.le_trans h.sz h3.size, by
    rw [List.length_append]; unfold opt; split <;> simp <;> omega⟩

theorem CkTx.join {w0 : World} {t : Cki} {D : List ByteArray} {W : World} (h : CkTx w0 t D W) (h1 : 1 ≤ D.length) (hs : (Lib.join (D.map (·.data.toList)) [59, 32]).length ≤ 100000000) :
    ∃ g cap, W.cell? ⟨w0.heap.size + 1 + 1, 0, none⟩ = some (.slice (some ⟨g, 0, none⟩) D.length cap) ∧ Calls Tryz.prog 24 #[.slice (some ⟨g, 0, none⟩) D.length cap, .string ⟨#[59, 32]⟩] W fun e w' => e = .returned (.string (asB (Lib.join (D.map (·.data.toList)) [59, 32]))) ∧ Below W.heap.size W w' := by
  obtain ⟨⟨hbt, v, hh1, hown, _⟩, _, hbel, _, hln⟩ := h
  obtain ⟨g, cap, rfl, hgb, hgl⟩ := hown.form h1
  have hcells : ∀ (j : Nat) x, D[j]? = some x → W.cell? ⟨g, 0 + j, none⟩ = some (.string x) := fun j x hx => by
    have hj : j < D.length := by
      rcases Nat.lt_or_ge j D.length with h' | h'
      · exact h'
      · rw [List.getElem?_eq_none h'] at hx; cases hx
    rw [Nat.zero_add, hown.cellAt j (by omega), List.getElem?_map, hx]; rfl
  have hcap : D.length ≤ cap := by
    rcases hown.2 with ⟨h1, _⟩ | ⟨g2, cap2, cur, h1, _, _, h2, _⟩
    · cases h1
    · injection h1 with _ _ h3; rw [h3]; exact h2
  exact ⟨g, cap, hh1.cell, Tryz.strings_Join g 0 cap D ⟨#[59, 32]⟩ W hcells hgl (by omega) hcap (Nat.le_trans hs (by decide))⟩

end Go.Proofs.YtllpdnmhabpbcaaGreatDoor
