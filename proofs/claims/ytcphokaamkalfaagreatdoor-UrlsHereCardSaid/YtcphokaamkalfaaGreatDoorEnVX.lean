/-
  What lies where while the numbers are told.
  Contract: puny.fewLetters.
  The document's telling of numbers, as lists; it is the program's. Of no walk.
  The document's Encode: its loops, plainly.
  Contract: the document's Encode.
  Contract: the document's Encode, of any text.
  The document's Signs are the program's; both few letters are the same.
  Contract: puny.Encode: the document's answer.
-/
import Derived.Test.YtcphokaamkalfaaGreatDoorMpH
import Derived.Sort.LoopGhostIn
import Derived.Sort.CutIn
import Derived.Deep.DeepCutAuto
import Derived.Lib.TrimUEq
import Derived.Lib.ValidLaws
namespace Go.Proofs.YtcphokaamkalfaaGreatDoor
open Go.RowKit Go.Shelf

/-- Between two numbers: out's box, the tree of sums, the other signs' row, the marks. -/
structure St (s : ByteArray) (w0 : World) (Bo gt : Nat) (ta : Option Addr) (tc : Nat) (R : List Pr) (L : List UInt8) (told ds : List Nat) (wr : World) : Prop where
 box : ∃ v, Boxed wr Bo 81 v ∧ wr.ownsRow w0.heap.size 5 1 v L.length (L.map bv) ∧ v.ownBlock ≠ some gt ∧ (∀ g, ta = some ⟨g, 0, none⟩ → R ≠ [] → v.ownBlock ≠ some g)
 fen : Fen wr gt (s.size + 1) (cntAt told)
 oth : R = [] ∨ ∃ g, ta = some ⟨g, 0, none⟩ ∧ Row2 wr g tc R ∧ w0.heap.size ≤ g ∧ g ≠ gt ∧ g ≠ Bo
 ord : w0.heap.size ≤ gt ∧ w0.heap.size ≤ Bo ∧ gt ≠ Bo
 nodup : ds.Nodup
 marks : ∀ D ∈ ds, w0.heap.size ≤ D ∧ wr.heap[D]? = some (.deferred (some []))
 bel : Below w0.heap.size w0 wr

theorem own_cells {w : World} {base : Nat} {e : TypeId} {size n : Nat} {v : Value} {xs : List Value} (h : w.ownsRow base e size v n xs) (q : Nat) (hq : v.ownBlock = some q) : ∃ cur, w.heap[q]? = some (.cells cur e (0, 0)) := by
 rcases h.2 with ⟨rfl, _⟩ | ⟨g, cap, cur, rfl, _, hg, _⟩
 ·simp [Value.ownBlock] at hq
 ·obtain rfl : g = q := by simpa [Value.ownBlock] using hq
  exact ⟨cur, hg⟩

theorem st_inner {s : ByteArray} {w0 : World} {Bo gt : Nat} {ta : Option Addr} {tc : Nat} {R : List Pr} {L : List UInt8} {told ds : List Nat} {wr : World} (h : St s w0 Bo gt ta tc R L told ds wr) (v0 : Value) (hv0 : Boxed wr Bo 81 v0)
  (W1 W' : World) (h1 : Below wr.heap.size wr W1) (pre : List UInt8) (hin : InSt w0.heap.size Bo v0 W1 L pre W') (D : Nat) (hD : W1.heap.size ≤ D) (hDk : W'.heap[D]? = some (.deferred (some []))) :
  St s w0 Bo gt ta tc R (L ++ pre) told (D :: ds) W' := by
 obtain ⟨⟨v, hb, hr, hv⟩, hk⟩ := hin
 obtain ⟨v1, hb1, hr1, hg1, hg2⟩ := h.box
 obtain rfl : v1 = v0 := by
  have := (show wr.heap[Bo]? = _ from hb1).symm.trans hv0
  simpa using this
 have hsz := h1.size
 have hb := hb
 have hold : ∀ q, q < wr.heap.size → q ≠ Bo → v1.ownBlock ≠ some q → W'.heap[q]? = wr.heap[q]? := fun q hq hne hvq => (hk.block q (by omega) hne hvq).trans (h1.block q hq)
 have hnew : ∀ q, q < wr.heap.size → v1.ownBlock ≠ some q → v.ownBlock ≠ some q := by
  intro q hq hvq e
  rcases hv with h2 | h2
  ·exact hvq (h2 ▸ e)
  ·have := h2 q e; omega
 have hgt := h.fen.lt
 refine ⟨⟨v, hb, hr, hnew gt hgt hg1, fun g hg hR => ?_⟩, h.fen.old (hold gt hgt h.ord.2.2 hg1), ?_, h.ord, ?_, ?_, ?_⟩
 ·rcases h.oth with h2 | ⟨g', hg', hrow, _⟩
  ·exact absurd h2 hR
  ·have : g' = g := by rw [hg'] at hg; simpa using hg
   subst this
   exact hnew g' hrow.lt (hg2 g' hg hR)
 ·rcases h.oth with h2 | ⟨g', hg', hrow, h3, h4, h5⟩
  ·exact .inl h2
  ·by_cases hR : R = []
   ·exact .inl hR
   ·exact .inr ⟨g', hg', hrow.old (hold g' hrow.lt h5 (hg2 g' hg' hR)), h3, h4, h5⟩
 ·refine List.nodup_cons.2 ⟨fun hm => ?_, h.nodup⟩
  have := (Array.getElem?_eq_some_iff.1 (h.marks D hm).2).1
  omega
 ·intro E hE
  rcases List.mem_cons.1 hE with rfl | hE
  ·have := h.bel.size; exact ⟨by omega, hDk⟩
  ·obtain ⟨m1, m2⟩ := h.marks E hE
   have hlt := (Array.getElem?_eq_some_iff.1 m2).1
   refine ⟨m1, (hold E hlt (fun e => ?_) (fun e => ?_)).trans m2⟩
   ·rw [e, show wr.heap[Bo]? = _ from hb1] at m2; simp at m2
   ·obtain ⟨cur, hc⟩ := own_cells hr1 E e
    rw [hc] at m2; simp at m2
 ·have hbel := h.bel
  have hs0 := hbel.size
  refine ⟨hk.os.trans (h1.os.trans hbel.os), hk.tape.trans (h1.tape.trans hbel.tape), hk.output.trans (h1.output.trans hbel.output), by have := hk.size; omega, fun q hq => ?_⟩
  rw [hold q (by omega) (fun e => by have := h.ord.2.1; omega) (fun e => by have := (hr1.lt q e).1; omega)]
  exact hbel.block q hq

theorem st_add {s : ByteArray} {w0 : World} {Bo gt : Nat} {ta : Option Addr} {tc : Nat} {R : List Pr} {L : List UInt8} {told ds : List Nat} {wr W' : World} (h : St s w0 Bo gt ta tc R L told ds wr) (p : Nat) (hF : Fen W' gt (s.size + 1) (cntAt (p :: told))) (hB : But gt wr W') :
  St s w0 Bo gt ta tc R L (p :: told) ds W' := by
 obtain ⟨v1, hb1, hr1, hg1, hg2⟩ := h.box
 have hgr := hB.grown
 refine ⟨⟨v1, hb1.kept hgr (fun e => h.ord.2.2 (by simpa using e.symm)), hr1.kept hgr (.inr hg1), hg1, hg2⟩, hF, ?_, h.ord, h.nodup, fun D hD => ?_, hB.below h.bel h.ord.1⟩
 ·rcases h.oth with h2 | ⟨g', hg', hrow, h3, h4, h5⟩
  ·exact .inl h2
  ·exact .inr ⟨g', hg', hrow.old (hB.block g' h4), h3, h4, h5⟩
 ·obtain ⟨m1, m2⟩ := h.marks D hD
  refine ⟨m1, (hB.block D (fun e => ?_)).trans m2⟩
  obtain ⟨cs, hc, _⟩ := h.fen
  rw [e, hc] at m2; simp at m2

/-- What is told so far, and what is to come. -/
structure Nm (s : ByteArray) (F : List UInt8) (B : Nat) (R : List Pr) (L : List UInt8) (told : List Nat) (i place last bias : Nat) : Prop where
 i_le : i ≤ R.length
 eq : L ++ fewN B (R.drop i) told i place last bias = F
 told_len : told.length = B + i
 place_le : place ≤ told.length
 bias_le : bias ≤ 756
 len : L.length ≤ 1000001 + 17 * i
 last_le : last ≤ 1114111
 nxt : Nxt told place last (R.drop i)

/-- What holds of the other signs. -/
structure Oth (s : ByteArray) (R : List Pr) : Prop where
 srt : Srt R
 sign : ∀ x ∈ R, 128 ≤ x.1 ∧ x.1 ≤ 1114111
 at_lt : ∀ x ∈ R, x.2 < s.size

theorem nm_step {s : ByteArray} {F : List UInt8} {B : Nat} {R : List Pr} {L : List UInt8} {told : List Nat} {i place last bias : Nat} (h : Nm s F B R L told i place last bias) (ho : Oth s R) (hR : R.length ≤ 1000000) (hB : B ≤ 1000000) (hi : i < R.length) (m p : Nat) (hmp : R[i]? = some (m, p)) :
  ∃ d q N, d = m - last ∧ q = d * (B + i + 1) ∧ N = q + cntLt told p - place ∧ last ≤ m ∧ m ≤ 1114111 ∧ p < s.size ∧ cntLt told p ≤ 2000000 ∧ q ≤ 3000000000000 ∧ place ≤ q + cntLt told p ∧ N ≤ 4000000000000 ∧
   Nm s F B R (L ++ digsL N N 36 bias) (p :: told) (i + 1) (cntLt told p + 1) m (nb N (B + i + 1) (i == 0)) := by
 have hd : R.drop i = (m, p) :: R.drop (i + 1) := by
  rw [List.drop_eq_getElem_cons hi]
  have : R[i] = (m, p) := by
   rw [List.getElem?_eq_getElem hi] at hmp; simpa using hmp
  rw [this]
 have hmem : (m, p) ∈ R := List.mem_of_getElem? hmp
 have h1 := ho.sign _ hmem
 have h2 := ho.at_lt _ hmem
 have hn := h.nxt
 rw [hd] at hn
 obtain ⟨hlm, hpl⟩ := hn
 have htl := h.told_len
 have hcl := cntLt_le told p
 have hpp := h.place_le
 obtain ⟨d, hdd⟩ : ∃ d, d = m - last := ⟨_, rfl⟩
 obtain ⟨q, hqq⟩ : ∃ q, q = d * (B + i + 1) := ⟨_, rfl⟩
 obtain ⟨N, hNN⟩ : ∃ N, N = q + cntLt told p - place := ⟨_, rfl⟩
 have hq3 : q ≤ 3000000000000 := by
  rw [hqq]
  have : d * (B + i + 1) ≤ 1114111 * 2000001 := Nat.mul_le_mul (by simp at h1; omega) (by omega)
  omega
 have hpq : place ≤ q + cntLt told p := by
  by_cases e : last = m
  ·have := hpl e; omega
  ·have : 1 * (B + i + 1) ≤ d * (B + i + 1) := Nat.mul_le_mul_right _ (by omega)
   omega
 refine ⟨d, q, N, hdd, hqq, hNN, hlm, h1.2, h2, by omega, hq3, hpq, by omega, ?_⟩
 have hdl := digs_len bias 16 N N 36 (by have : (10 : Nat) ^ 16 = 10000000000000000 := by decide
                                         omega)
 refine ⟨by omega, ?_, by simp; omega, by simp; omega, nb_bd _ _ _, ?_, h1.2, ?_⟩
 ·rw [← h.eq, hd, fewN, ← hdd, ← hqq, ← hNN]; simp
 ·have := h.len
  rw [List.length_append]; omega
 ·match hnx : R.drop (i + 1) with
  | [] => exact trivial
  | (m', p') :: r =>
   have hs := ho.srt
   have hsd : Srt (R.drop i) := List.Pairwise.sublist (List.drop_sublist i R) hs
   rw [hd, hnx] at hsd
   have hlt := (List.pairwise_cons.1 hsd).1 (m', p') List.mem_cons_self
   refine ⟨ltP_le hlt, fun e => ?_⟩
   have e2 : m = m' := e
   have : p < p' := by unfold ltP at hlt; simp at hlt; omega
   rw [cntLt_cons, if_pos this]
   have := cntLt_mono told (Nat.le_of_lt this)
   omega

end Go.Proofs.YtcphokaamkalfaaGreatDoor
namespace Go.Proofs.YtcphokaamkalfaaGreatDoor
open Go.RowKit Go.Shelf
attribute [local go_sem] Oper.semAt_some

theorem shapeB {w : World} {base n : Nat} {v : Value} {e : TypeId} {xs : List Value} (h : w.ownsRow base e 1 v n xs) : ∃ a cap, v = .slice a n cap := by
 rcases h.2 with ⟨rfl, rfl⟩ | ⟨g, cap, cur, rfl, _⟩
 ·exact ⟨none, 0, rfl⟩
 ·exact ⟨_, _, rfl⟩

/-- At the head of a round: the frame, and what lies where. -/
def FewI (s : ByteArray) (w0 : World) (F : List UInt8) (B Bo gt : Nat) (ta : Option Addr) (tc : Nat) (R : List Pr) (m : Nat) (a : Act) (wr : World) : Prop :=
 ∃ (u0 u1 u2 u4 u10 u11 u12 u13 u14 u15 u16 u17 u18 u19 u20 u21 u22 u23 u24 u25 u26 u27 u28 u32 u33 u34 u35 u36 u37 u38 u39 u40 u41 u42 u43 u44 u45 u46 u47 u48 u49 u50 u51 u52 u53 u54 u55 u56 u57 u58 u59 u60 u61 u62 u63 u64 u65 u66 u67 u68 u69 u70 u71 u72 u73 u74 u75 u76 u77 u78 : Value) (L : List UInt8) (told ds : List Nat) (i place last bias : Nat), St s w0 Bo gt ta tc R L told ds wr ∧ Nm s F B R L told i place last bias ∧ m = R.length - i ∧
  a = { tmps := #[u0, u1, u2, .pointer (some ⟨Bo, 0, none⟩), u4, .slice (some ⟨gt, 0, none⟩) (s.size + 1) (s.size + 1), .int .i64 (B : Int), .int .i64 (place : Int), .int .i32 (last : Int), .int .i64 (bias : Int), u10, u11, u12, u13, u14, u15, u16, u17, u18, u19, u20, u21, u22, u23, u24, u25, u26, u27, u28, .slice ta R.length tc, .int .i64 (R.length : Int), .int .i64 (i : Int), u32, u33, u34, u35, u36, u37, u38, u39, u40, u41, u42, u43, u44, u45, u46, u47, u48, u49, u50, u51, u52, u53, u54, u55, u56, u57, u58, u59, u60, u61, u62, u63, u64, u65, u66, u67, u68, u69, u70, u71, u72, u73, u74, u75, u76, u77, u78], defers := ds.map markOf }

theorem sgn_len (s : ByteArray) : ∀ f p, (sgn s f p).length + p ≤ s.size + (if p ≤ s.size then 0 else p)
 | 0, p => by simp [sgn]; split <;> omega
 | f + 1, p => by
  by_cases h : p < s.size
  ·rw [sgn_on s f p h, List.length_cons]
   have h1 := width_pos s p
   have h2 := sgn_len s f (p + (Utf8.decode s p).2)
   rw [if_pos (by omega)]
   by_cases h3 : p + (Utf8.decode s p).2 ≤ s.size
   ·rw [if_pos h3] at h2; omega
   ·rw [sgn_end s f _ (by omega)] at *; simp; omega
  ·rw [sgn_end s _ p h]
   simp; split <;> omega


theorem st_drew {s : ByteArray} {w0 : World} {Bo gt : Nat} {ta : Option Addr} {tc : Nat} {R : List Pr} {L : List UInt8} {told ds : List Nat} {wr : World} (h : St s w0 Bo gt ta tc R L told ds wr) : St s w0 Bo gt ta tc R L told ds wr.drew := by
 obtain ⟨v1, hb1, hr1, hg1, hg2⟩ := h.box
 exact ⟨⟨v1, hb1, hr1.drew, hg1, hg2⟩, h.fen, h.oth, h.ord, h.nodup, h.marks, h.bel.drew⟩
theorem st_start {s : ByteArray} {SG : List Pr} {w w1 : World} {va ta : Option Addr} {vc tc B gt : Nat} {R : List Pr} (hS : Srtd s SG w w1 (.slice va B vc) (.slice ta R.length tc) gt R) (L : List UInt8) (W : World)
  (hI : InSt w.heap.size w1.heap.size (.slice va B vc) (w1.alloc (.cells #[.slice va B vc] 81)) (plB SG) L W) : St s w w1.heap.size gt ta tc R (plB SG ++ L) (plA SG) [] W := by
 obtain ⟨⟨v, hb, hr, hv⟩, hk⟩ := hI
 have hws := hS.bel.size
 have hol : ∀ q, q < w1.heap.size → Value.ownBlock (.slice va B vc) ≠ some q → W.heap[q]? = w1.heap[q]? := fun q hq hvq => by
  rw [hk.block q (by simp; omega) (by omega) hvq, Below.heap_alloc _ _ _ hq]
 have hnew : ∀ q, q < w1.heap.size → Value.ownBlock (.slice va B vc) ≠ some q → v.ownBlock ≠ some q := by
  intro q hq hvq e
  rcases hv with h2 | h2
  ·exact hvq (h2 ▸ e)
  ·have := h2 q e; simp at this; omega
 have hgt := hS.fen.lt
 refine ⟨⟨v, hb, hr, hnew gt hgt hS.gtl.2, fun g hg hR => ?_⟩, hS.fen.old (hol gt hgt hS.gtl.2), ?_, ⟨hS.gtl.1, hws, by omega⟩, List.nodup_nil, (fun D hD => by cases hD), ?_⟩
 ·rcases hS.oth with ⟨_, h2⟩ | ⟨g', cap, h1, hrow, _, _, h5⟩
  ·exact absurd h2 hR
  ·injection h1 with e1 e2 e3
   rw [e1] at hg
   have : g' = g := by simpa using hg
   subst this
   exact hnew g' hrow.lt h5
 ·rcases hS.oth with ⟨_, h2⟩ | ⟨g', cap, h1, hrow, h3, h4, h5⟩
  ·exact .inl h2
  ·injection h1 with e1 e2 e3
   subst e1 e3
   exact .inr ⟨g', rfl, hrow.old (hol g' hrow.lt h5), h3, h4, by have := hrow.lt; omega⟩
 ·have hs0 := hS.bel
  refine ⟨hk.os.trans hs0.os, hk.tape.trans hs0.tape, hk.output.trans hs0.output, by have := hk.size; simp at this; omega, fun q hq => ?_⟩
  rw [hol q (by omega) (fun e => by have := (hS.out.lt q e).1; omega)]
  exact hs0.block q hq
theorem sgn_mem (s : ByteArray) : ∀ f p, ∀ x ∈ sgn s f p, x.2 < s.size ∧ x.1 = (Utf8.decode s x.2).1
 | 0, _, x, h => by simp [sgn] at h
 | f + 1, p, x, h => by
  rw [sgn] at h
  split at h
  ·rcases List.mem_cons.1 h with rfl | h
   ·exact ⟨‹_›, rfl⟩
   ·exact sgn_mem s f _ x h
  ·simp at h
theorem oth_start {s : ByteArray} {R : List Pr} (hp : R.Perm (otL (sgn s s.size 0))) (hs : Srt R) : Oth s R := by
 have hm : ∀ x ∈ R, x ∈ sgn s s.size 0 ∧ isPl x = false := fun x hx => by
  have := hp.mem_iff.1 hx
  simpa [otL] using this
 refine ⟨hs, fun x hx => ?_, fun x hx => (sgn_mem s _ _ x (hm x hx).1).1⟩
 have h1 := (hm x hx).2
 have h2 := (sgn_mem s _ _ x (hm x hx).1).2
 have h3 := rune_bd s x.2
 exact ⟨by simpa [isPl] using h1, by rw [h2]; omega⟩
theorem nm_start {s : ByteArray} {SG R : List Pr} {F L0 : List UInt8} {B : Nat} (ho : Oth s R) (hB : B = (plB SG).length) (hL : L0 = plB SG ++ (if plB SG = [] then [] else [45])) (hF : F = fewL SG R) (hB1 : B ≤ 1000000) : Nm s F B R L0 (plA SG) 0 0 128 72 := by
 refine ⟨Nat.zero_le _, ?_, ?_, Nat.zero_le _, by decide, ?_, by decide, ?_⟩
 ·rw [List.drop_zero, hF, hL, hB]; rfl
 ·rw [hB]; simp [plA, plB]
 ·rw [hL, List.length_append, ← hB]; split <;> simp <;> omega
 ·rw [List.drop_zero]
  match R, ho with
  | [], _ => exact trivial
  | (m, p) :: r, ho => exact ⟨(ho.sign _ List.mem_cons_self).1, fun _ => Nat.zero_le _⟩

set_option maxHeartbeats 4000000 in
set_option maxRecDepth 1000000 in
theorem few_in (s : ByteArray) (w : World) (hs : s.size ≤ 1000000) :
  CallsIn Fence.wide 9 Tryz.prog 143 #[.string s] w fun e w' => ∃ R, R.Perm (otL (sgn s s.size 0)) ∧ Srt R ∧ e = .returned (.string ⟨(fewL (sgn s s.size 0) R).toArray⟩) ∧ Below w.heap.size w w' := by
 obtain ⟨SG, HSG⟩ : ∃ SG, Hid (sgn s s.size 0 = SG) := ⟨_, Lib.hid rfl⟩
 rw [HSG.out]
 have HSo : Hid (CallsIn Fence.wide 8 Tryz.prog 167 #[.string s] w fun e w' => ∃ vo vt gt R, e = .returned (.tuple #[vo, vt, .slice (some ⟨gt, 0, none⟩) (s.size + 1) (s.size + 1)]) ∧ Srtd s SG w w' vo vt gt R) := Lib.hid (by
  have := callsIn_wide (n := 8).2 (sorted_any s w hs)
  rwa [HSG.out] at this)
 refine callsIn_of_wp_marks Tryz.func143 rfl trivial ?_ rfl
 simp only [Tryz.ntmps143, List.size_toArray, List.length_cons, List.length_nil, Nat.reduceAdd, Nat.reduceSub, Array.replicate_succ, Array.replicate_zero, List.push_toArray, List.append_toArray, List.nil_append, List.cons_append]
 gi_wp2_with fail
 refine ⟨trivial, ?_⟩
 refine HSo.out.mono ?_
 rintro e w1 ⟨vo, vt, gt, R, rfl, hS⟩
 obtain ⟨va, vc, rfl⟩ := shapeB hS.out
 obtain ⟨B, HB⟩ : ∃ B, Hid (B = (plB SG).length) := ⟨_, Lib.hid rfl⟩
 rw [← HB.out]
 have HS := Lib.hid hS
 rw [← HB.out] at HS
 clear hS
 have HSGl : Hid (SG.length ≤ s.size) := Lib.hid (by
  have := sgn_len s s.size 0
  rw [← HSG.out]; simp at this; omega)
 have hB1 : B ≤ 1000000 := by
  rw [HB.out]
  have h1 : (plB SG).length ≤ SG.length := by simp [plB]; exact List.length_filter_le _ _
  have := HSGl.out
  omega
 obtain ⟨ta, tc, rfl⟩ : ∃ a c, vt = .slice a R.length c := by
  rcases HS.out.oth with ⟨h1, h2⟩ | ⟨g, cap, h1, _⟩
  ·exact ⟨none, 0, by rw [h1, h2]; rfl⟩
  ·exact ⟨_, _, h1⟩
 obtain ⟨L0, HL0⟩ : ∃ L0, Hid (L0 = plB SG ++ (if plB SG = [] then [] else [45])) := ⟨_, Lib.hid rfl⟩
 -- what lies where once out is boxed
 have hSt : ∀ (L : List UInt8) (W : World), InSt w.heap.size w1.heap.size (.slice va B vc) (w1.alloc (.cells #[.slice va B vc] 81)) (plB SG) L W → St s w w1.heap.size gt ta tc R (plB SG ++ L) (plA SG) [] W := st_start HS.out
 have HSt := Lib.hid hSt
 clear hSt
 have HI0 : Hid (InSt w.heap.size w1.heap.size (.slice va B vc) (w1.alloc (.cells #[.slice va B vc] 81)) (plB SG) [] (w1.alloc (.cells #[.slice va B vc] 81))) := Lib.hid
  (inst_start _ _ _ _ _ (Boxed.new _ _ _) (HS.out.out.alloc _))
 gi_upto_if 25 with (fail)
 gi_cut [] from 22 (fun wx => Hid (St s w w1.heap.size gt ta tc R L0 (plA SG) [] wx))
 case first =>
  have hwb := HS.out.bel.size
  have hvo : ∀ q, Value.ownBlock (.slice va B vc) = some q → q < w1.heap.size := fun q hq => (HS.out.out.lt q hq).2
  by_cases hB0 : 0 < B
  ·obtain ⟨v, g, cap, w2, hc, hrun, hc2, hf2, hI, hKO, hKp⟩ := inst_step _ _ _ _ _ _ 45 _ HI0.out hwb (by simp) (fun q hq => by have := hvo q hq; simp; omega) (by rw [List.append_nil, ← HB.out]; omega)
   have hv : v = .slice va B vc := by
    have h := (Boxed.new w1 81 (.slice va B vc)).cell
    rw [hc] at h; simpa using h
   subst hv
   have e45 : (((45 : UInt8).toNat : Nat) : Int) = 45 := rfl
   rw [e45, List.append_nil, ← HB.out, World.size_alloc] at hrun
   rw [List.append_nil, ← HB.out] at hI
   have HRun := Lib.hid hrun
   have HPost : Hid (St s w w1.heap.size gt ta tc R L0 (plA SG) [] (w2.setCell ⟨w1.heap.size, 0, none⟩ (.slice (some ⟨g, 0, none⟩) (B + 1) cap))) := Lib.hid (by
    have h := HSt.out _ _ hI
    rw [HL0.out, if_neg (fun e => by have := HB.out; rw [e] at this; simp at this; omega)]
    exact h)
   clear hrun hKO hKp hI hvo
   gi_wp2_with (gi_at_builtin; refine wpListIn_append_run _ rfl _ _ _ rfl _ _ rfl rfl _ _ HRun.out ?_)
   gi_meet
   exact HPost
  ·have HPost : Hid (St s w w1.heap.size gt ta tc R L0 (plA SG) [] (w1.alloc (.cells #[.slice va B vc] 81))) := Lib.hid (by
    have h := HSt.out _ _ HI0.out
    rw [HL0.out, if_pos (List.eq_nil_of_length_eq_zero (by have := HB.out; omega))]
    exact h)
   clear hvo
   gi_wp2
   gi_meet
   exact HPost
 case rest =>
  have HS0 := hcut
  clear hcut HSt HI0
  obtain ⟨F, HF⟩ : ∃ F, Hid (F = fewL SG R) := ⟨_, Lib.hid rfl⟩
  have HOth : Hid (Oth s R) := Lib.hid (oth_start (by rw [HSG.out]; exact HS.out.perm) HS.out.srt)
  have HNm0 : Hid (Nm s F B R L0 (plA SG) 0 0 128 72) := Lib.hid (nm_start HOth.out HB.out HL0.out HF.out hB1)
  have hRl : R.length ≤ 1000000 := by
   have h1 := HS.out.perm.length_eq
   have h2 : (otL SG).length ≤ SG.length := by simp [otL]; exact List.length_filter_le _ _
   have := HSGl.out
   omega
  have HFin : Hid (Srt R ∧ R.Perm (otL SG)) := Lib.hid ⟨HS.out.srt, HS.out.perm⟩
  clear HS HL0 HSo
  obtain ⟨Bo, HBo⟩ : ∃ Bo, Hid (Bo = w1.heap.size) := ⟨_, Lib.hid rfl⟩
  rw [← HBo.out] at HS0
  rw [← HBo.out]
  clear HBo
  gi_wp2
  refine wpIn_loop_ghost_k (FewI s w F B Bo gt ta tc R) (R.length - 0) ?_ ?_
  ·exact ⟨_, _, _, _, _, _, _, _, _, _, _, _, _, _, _, _, _, _, _, _, _, _, _, _, _, _, _, _, _, _, _, _, _, _, _, _, _, _, _, _, _, _, _, _, _, _, _, _, _, _, _, _, _, _, _, _, _, _, _, _, _, _, _, _, _, _, _, _, _, _, L0, plA SG, [], 0, 0, 128, 72, HS0.out, HNm0.out, rfl, rfl⟩
  rintro m a wr ⟨u0, u1, u2, u4, u10, u11, u12, u13, u14, u15, u16, u17, u18, u19, u20, u21, u22, u23, u24, u25, u26, u27, u28, u32, u33, u34, u35, u36, u37, u38, u39, u40, u41, u42, u43, u44, u45, u46, u47, u48, u49, u50, u51, u52, u53, u54, u55, u56, u57, u58, u59, u60, u61, u62, u63, u64, u65, u66, u67, u68, u69, u70, u71, u72, u73, u74, u75, u76, u77, u78, L, told, ds, i, place, last, bias, hst, hnm, rfl, rfl⟩ J K hJ hK
  have HSt := Lib.hid hst
  have HN := Lib.hid hnm
  clear hst hnm HS0 HNm0
  have hil := HN.out.i_le
  by_cases hi : i < R.length
  ·obtain ⟨⟨m, p⟩, hmp⟩ : ∃ x, R[i]? = some x := ⟨_, List.getElem?_eq_getElem hi⟩
   obtain ⟨g, rfl, hrow, hg1, hg2, hg3⟩ : ∃ g, ta = some ⟨g, 0, none⟩ ∧ Row2 wr g tc R ∧ w.heap.size ≤ g ∧ g ≠ gt ∧ g ≠ Bo := by
    rcases HSt.out.oth with h | h
    ·rw [h] at hi; simp at hi
    ·exact h
   obtain ⟨hc1, hc2⟩ := hrow.cells' i (m, p) hmp
   simp only at hc1 hc2
   obtain ⟨d, q, N, hd, hq, hN, hlm, hm1, hps, hT, hq3, hpq, hN4, hnm'⟩ := nm_step HN.out HOth.out hRl hB1 hi m p hmp
   have HRow := Lib.hid hrow
   have HMp := Lib.hid hmp
   obtain ⟨T, HT⟩ : ∃ T, Hid (T = cntLt told p) := ⟨_, Lib.hid rfl⟩
   rw [← HT.out] at hT hpq hN hnm'
   have HNm' := Lib.hid hnm'
   have hdI : (m : Int) - (last : Int) = (d : Int) := by omega
   have hqI : (d : Int) * ((B : Int) + (i : Int) + 1) = (q : Int) := by rw [hq]; simp
   have hNI : (q : Int) + (T : Int) - (place : Int) = (N : Int) := by omega
   have hll := HN.out.last_le
   have hpl := HN.out.place_le
   have htl := HN.out.told_len
   have hbl := HN.out.bias_le
   have hpl2 : place ≤ 2000000 := by omega
   have HAh : Hid (CallsIn Fence.wide 8 Tryz.prog 168 #[.slice (some ⟨gt, 0, none⟩) (s.size + 1) (s.size + 1), .int .i64 p] (wr.alloc (.cells #[.int .i32 (m : Int), .int .i64 (p : Int)] 169)) fun e w' => e = .returned (.int .i64 T) ∧ (wr.alloc (.cells #[.int .i32 (m : Int), .int .i64 (p : Int)] 169)) = w') := Lib.hid (by
    have := callsIn_wide (n := 8).2 (ahead_any gt (s.size + 1) p told _ (HSt.out.fen.old (Below.heap_alloc wr (.cells #[.int .i32 (m : Int), .int .i64 (p : Int)] 169) gt HSt.out.fen.lt)) (by omega) (by omega) (by omega))
    rwa [← HT.out] at this)
   clear hrow hmp hnm' hd hq hN htl hpl
   gi_wp2_with fail
   refine ⟨trivial, ?_⟩
   refine HAh.out.mono ?_
   rintro e w2 ⟨rfl, rfl⟩
   gi_wp2_with fail
   refine ⟨trivial, ?_⟩
   refine (callsIn_wide.2 (digits_any N bias _)).mono ?_
   rintro e w2 ⟨rfl, rfl⟩
   gi_wp2_with fail
   obtain ⟨v0, hv0, hr0, hv1, hv2⟩ := HSt.out.box
   have hBol := hv0.lt
   have hov : ∀ q, v0.ownBlock = some q → q < wr.heap.size := fun q hq => (hr0.lt q hq).2
   have hord := HSt.out.ord
   have hlen := HN.out.len
   have hB1' : Below wr.heap.size wr (((wr.alloc (.cells #[.int .i32 (m : Int), .int .i64 (p : Int)] 169)).alloc (.cells #[.int .i64 (N : Int)] 3)).alloc (.cells #[.int .i64 (bias : Int)] 3)) :=
    (((Below.refl _ _).alloc (Nat.le_refl _) _).alloc (by simp) _).alloc (by simp; omega) _
   have hbo : (((wr.alloc (.cells #[.int .i32 (m : Int), .int .i64 (p : Int)] 169)).alloc (.cells #[.int .i64 (N : Int)] 3)).alloc (.cells #[.int .i64 (bias : Int)] 3)).heap[wr.heap.size]? = some (.cells #[.int .i32 (m : Int), .int .i64 (p : Int)] 169 (0, 0)) := by
    rw [Below.heap_alloc _ _ _ (by simp; omega), Below.heap_alloc _ _ _ (by simp)]; exact heap_alloc_new _ _
   have hbn : (((wr.alloc (.cells #[.int .i32 (m : Int), .int .i64 (p : Int)] 169)).alloc (.cells #[.int .i64 (N : Int)] 3)).alloc (.cells #[.int .i64 (bias : Int)] 3)).heap[wr.heap.size + 1]? = some (.cells #[.int .i64 (N : Int)] 3 (0, 0)) := by
    rw [Below.heap_alloc _ _ _ (by simp)]
    have := heap_alloc_new (wr.alloc (.cells #[.int .i32 (m : Int), .int .i64 (p : Int)] 169)) (.cells #[.int .i64 (N : Int)] 3)
    rwa [World.size_alloc] at this
   have hbb : (((wr.alloc (.cells #[.int .i32 (m : Int), .int .i64 (p : Int)] 169)).alloc (.cells #[.int .i64 (N : Int)] 3)).alloc (.cells #[.int .i64 (bias : Int)] 3)).heap[wr.heap.size + 2]? = some (.cells #[.int .i64 (bias : Int)] 3 (0, 0)) := by
    have := heap_alloc_new ((wr.alloc (.cells #[.int .i32 (m : Int), .int .i64 (p : Int)] 169)).alloc (.cells #[.int .i64 (N : Int)] 3)) (.cells #[.int .i64 (bias : Int)] 3)
    rwa [World.size_alloc, World.size_alloc] at this
   have hsz3 : (((wr.alloc (.cells #[.int .i32 (m : Int), .int .i64 (p : Int)] 169)).alloc (.cells #[.int .i64 (N : Int)] 3)).alloc (.cells #[.int .i64 (bias : Int)] 3)).heap.size = wr.heap.size + 3 := by simp
   obtain ⟨W1, HW1⟩ : ∃ W1, Hid (W1 = (((wr.alloc (.cells #[.int .i32 (m : Int), .int .i64 (p : Int)] 169)).alloc (.cells #[.int .i64 (N : Int)] 3)).alloc (.cells #[.int .i64 (bias : Int)] 3))) := ⟨_, Lib.hid rfl⟩
   rw [← HW1.out] at hB1' hbo hbn hbb hsz3
   rw [← HW1.out]
   have hin0 : InSt w.heap.size Bo v0 W1 L [] W1 := by
    have hg : wr.grownBy W1 none := ⟨hB1'.os, hB1'.tape, hB1'.output, hB1'.size, fun k hk _ => hB1'.block k hk⟩
    exact inst_start _ _ _ _ _ (hv0.kept hg (by simp)) (hr0.kept hg (by cases e : v0.ownBlock with | none => exact .inl rfl | some q => exact .inr (fun e2 => by cases e2)))
   have HIn0 := Lib.hid hin0
   have HB1' := Lib.hid hB1'
   have HBo2 := Lib.hid hbo
   have HV0 := Lib.hid hv0
   clear hin0 hB1' hbo
   refine wpIn_rangeFunc_ownF (F := Fence.wide) (n := 9) rfl (by decide) (gf := 185) (lb := #[.pointer (some ⟨wr.heap.size + 1, 0, none⟩), .pointer (some ⟨wr.heap.size + 2, 0, none⟩)]) rfl trivial (enters_of Tryz.func185 (by kernel_rfl) rfl)
    (digits_stops 8 (by decide) (wr.heap.size + 1) (wr.heap.size + 2) N bias W1 (by omega) hbl hbn hbb) (fun h k => k.trans h) (fun W l o o' hl _ _ _ => World.putObj_heap_other (by omega)) (Below.refl _ _) (fun _ => rfl)
    (fun pre W => InSt w.heap.size Bo v0 W1 L pre W) (fun _ _ _ => False) (inst_own _ _ _ _ _) (fun _ _ _ _ _ hs _ _ => hs) HIn0.out
    (fun x => { tmps := #[u0, u1, u2, .pointer (some ⟨Bo, 0, none⟩), u4, .slice (some ⟨gt, 0, none⟩) (s.size + 1) (s.size + 1), .int .i64 (B : Int), .int .i64 (place : Int), .int .i32 (last : Int), .int .i64 (bias : Int), .int .i64 (i : Int), .pointer (some ⟨wr.heap.size, 0, none⟩), .int .i64 (T : Int), .int .i64 ((B : Int) + (i : Int) + 1), .int .i64 (N : Int), .int .u8 (x.toNat : Int), u16, u17, u18, u19, u20, u21, u22, u23, u24, u25, u26, u27, u28, .slice (some ⟨g, 0, none⟩) R.length tc, .int .i64 (R.length : Int), .int .i64 (i : Int), .bool true, .int .i64 (i : Int), .pointer (some ⟨g, i * 2, none⟩), .agg #[.int .i32 (m : Int), .int .i64 (p : Int)], .slice (some ⟨gt, 0, none⟩) (s.size + 1) (s.size + 1), .pointer (some ⟨wr.heap.size, 1, none⟩), .int .i64 (p : Int), .int .i64 (T : Int), .int .i64 (B : Int), .int .i64 (i : Int), .int .i64 ((B : Int) + (i : Int)), .int .i64 ((B : Int) + (i : Int) + 1), .pointer (some ⟨wr.heap.size, 0, none⟩), .int .i32 (m : Int), .int .i32 (last : Int), .int .i32 (d : Int), .int .i64 (d : Int), .int .i64 ((B : Int) + (i : Int) + 1), .int .i64 (q : Int), .int .i64 (T : Int), .int .i64 ((q : Int) + (T : Int)), .int .i64 (place : Int), .int .i64 (N : Int), .int .i64 (N : Int), .int .i64 (bias : Int), .func (.func 185) #[] #[.pointer (some ⟨wr.heap.size + 1, 0, none⟩), .pointer (some ⟨wr.heap.size + 2, 0, none⟩)], .int .u8 (x.toNat : Int), u59, u60, u61, u62, u63, u64, u65, u66, u67, u68, u69, u70, u71, u72, u73, u74, u75, u76, u77, u78], defers := [] }) ?assign ?body ?done ?stop
   case assign =>
    intro l x W K hK
    gi_wp2
    exact hK
   case stop =>
    rintro D c pre W _ _ h _
    exact h.elim
   case body =>
    rintro l pre x W hI hlt
    have hdl := digs_len bias 16 N N 36 (by have : (10 : Nat) ^ 16 = 10000000000000000 := by decide
                                            omega)
    obtain ⟨v, g', cap, w3, hc, hrun, hc2, hf2, hI2, hKO, hKp⟩ := inst_step _ _ _ _ _ _ x _ hI hord.2.1 (by omega) (fun q hq => by have := hov q hq; omega) (by rw [List.length_append]; omega)
    have HRun := Lib.hid hrun
    have HPost := Lib.hid (And.intro hKO (And.intro (hKp (wr.heap.size + 2) (by omega) (by omega) (fun e => by have := hov _ e; omega)) hI2))
    clear hrun hKO hKp hI2 hdl hI
    gi_wp2_with (gi_at_builtin; refine wpListIn_append_run _ rfl _ _ _ rfl _ _ rfl rfl _ _ HRun.out ?_)
    have hfin := HPost.out
    rw [List.length_append] at hfin
    exact hfin
   case done =>
    rintro D ys W hD rfl hIn hK2
    have hSt2 := st_inner HSt.out v0 HV0.out W1 W HB1'.out _ hIn D (by omega) hK2
    have hWo : W.heap[wr.heap.size]? = some (.cells #[.int .i32 (m : Int), .int .i64 (p : Int)] 169 (0, 0)) := by
     rw [hIn.2.block _ (by omega) (by omega) (fun e => by have := hov _ e; omega)]; exact HBo2.out
    have hco0 : W.cell? ⟨wr.heap.size, 0, none⟩ = some (.int .i32 (m : Int)) := by rw [cellOf W _ _ _ hWo]; rfl
    have hco1 : W.cell? ⟨wr.heap.size, 1, none⟩ = some (.int .i64 (p : Int)) := by rw [cellOf W _ _ _ hWo]; rfl
    obtain ⟨b0, HB0⟩ : ∃ b0, Hid (b0 = (i == 0)) := ⟨_, Lib.hid rfl⟩
    have hb0 : ((i : Int) == 0) = b0 := by rw [HB0.out, Bool.eq_iff_iff]; simp
    have HNb : Hid (∀ W, CallsIn Fence.wide 8 Tryz.prog 170 #[.int .i64 (N : Int), .int .i64 ((B : Int) + (i : Int) + 1), .bool b0] W fun e w' => e = .returned (.int .i64 (nb N (B + i + 1) b0)) ∧ W = w') := Lib.hid (fun W => callsIn_wide.2 (nextBias_any N (B + i + 1) b0 W (by omega) (by omega) (by omega)))
    have hadd := add_any gt (s.size + 1) p told W hSt2.fen (by omega) (by omega) (by have := HN.out.told_len; omega)
    have HAdd := Lib.hid (callsIn_wide (n := 8).2 hadd)
    have HSt2 := Lib.hid hSt2
    have HWo := Lib.hid hWo
    have hgne : wr.heap.size ≠ gt := fun e => by have := HSt.out.fen.lt; omega
    obtain ⟨nbv, HNbv⟩ : ∃ x, Hid (x = nb N (B + i + 1) b0) := ⟨_, Lib.hid rfl⟩
    rw [← HNbv.out] at HNb
    have hnbl : nbv ≤ 756 := by rw [HNbv.out]; exact nb_bd _ _ _
    clear hSt2 hWo hadd hIn hK2 hov hv1 hv2 hr0 hv0 hbn hbb
    gi_wp2_with fail
    refine ⟨trivial, ?_⟩
    refine (HNb.out _).mono ?_
    rintro e w3 ⟨rfl, rfl⟩
    gi_wp2_with fail
    refine ⟨trivial, ?_⟩
    refine HAdd.out.mono ?_
    rintro e w3 ⟨⟨v3, rfl⟩, hF3, hBut⟩
    have hSt3 := st_add HSt2.out p hF3 hBut
    have hW3 : w3.heap[wr.heap.size]? = some (.cells #[.int .i32 (m : Int), .int .i64 (p : Int)] 169 (0, 0)) := (hBut.block _ hgne).trans HWo.out
    have hco3 : w3.cell? ⟨wr.heap.size, 0, none⟩ = some (.int .i32 (m : Int)) := by rw [cellOf w3 _ _ _ hW3]; rfl
    have HSt3 := Lib.hid hSt3
    clear hSt3 hF3 hBut hW3 hco0 hco1
    gi_wp2
    gi_region
    all_goals
     gi_wp2
     refine Handed.intro (R.length - (i + 1)) (by omega) (hJ _ _ _ ?_)
     refine ⟨_, _, _, _, _, _, _, _, _, _, _, _, _, _, _, _, _, _, _, _, _, _, _, _, _, _, _, _, _, _, _, _, _, _, _, _, _, _, _, _, _, _, _, _, _, _, _, _, _, _, _, _, _, _, _, _, _, _, _, _, _, _, _, _, _, _, _, _, _, _, L ++ digsL N N 36 bias, p :: told, D :: ds, i + 1, T + 1, m, nbv, st_drew HSt3.out, ?_, rfl, rfl⟩
     rw [HNbv.out, HB0.out]
     exact HNm'.out
  ·obtain ⟨v, hb, hr, _, _⟩ := HSt.out.box
   have hcell := hb.cell
   have HLF : Hid (L = F) := Lib.hid (by
    have := HN.out.eq
    rw [List.drop_eq_nil_of_le (by omega), fewN, List.append_nil] at this
    exact this)
   have hcv := bytes_back _ _ _ _ hr
   gi_wp2
   have hSt := HSt.out
   refine leaves_marks w.heap.size ds wr hSt.nodup hSt.marks (fun W' hB' => ?_)
   exact ⟨_, results_tmp rfl _ _ _, R, HFin.out.2, HFin.out.1, by rw [HLF.out, HF.out]; rfl, hSt.bel.trans hB'⟩

theorem fewLetters_any (s : ByteArray) (w : World) (hs : s.size ≤ 1000000) :
  Calls Tryz.prog 143 #[.string s] w fun e w' => ∃ R, R.Perm (otL (sgn s s.size 0)) ∧ Srt R ∧ e = .returned (.string ⟨(fewL (sgn s s.size 0) R).toArray⟩) ∧ Below w.heap.size w w' :=
 (callsIn_wide (n := 9)).1 (few_in s w hs)

end Go.Proofs.YtcphokaamkalfaaGreatDoor
namespace Go.Proofs.YtcphokaamkalfaaGreatDoor

/-- The smallest sign from a sign on. -/
def minS (last : Nat) (l : List Nat) : Nat := l.foldl (fun m x => if last ≤ x ∧ x < m then x else m) 1114112
/-- One going through of the document's: what it tells, the number behind it, how many are told, the bias. -/
def docIn (plain m : Nat) : List Nat → Nat → Nat → Nat → List UInt8 × Nat × Nat × Nat
 | [], number, many, bias => ([], number, many, bias)
 | x :: l, number, many, bias =>
  if x < m then docIn plain m l (number + 1) many bias
  else if x = m then (digsL number number 36 bias ++ (docIn plain m l 0 (many + 1) (nb number (many + 1) (many == plain))).1, (docIn plain m l 0 (many + 1) (nb number (many + 1) (many == plain))).2)
  else docIn plain m l number many bias
/-- The document's numbers. -/
def docOut (plain : Nat) (l : List Nat) : Nat → Nat → Nat → Nat → Nat → List UInt8
 | 0, _, _, _, _ => []
 | f + 1, number, last, many, bias =>
  if many < l.length then
   (docIn plain (minS last l) l (number + (minS last l - last) * (many + 1)) many bias).1 ++
    docOut plain l f ((docIn plain (minS last l) l (number + (minS last l - last) * (many + 1)) many bias).2.1 + 1) (minS last l + 1)
     (docIn plain (minS last l) l (number + (minS last l - last) * (many + 1)) many bias).2.2.1 (docIn plain (minS last l) l (number + (minS last l - last) * (many + 1)) many bias).2.2.2
  else []

theorem minS_spec (last : Nat) : ∀ (l : List Nat) (m0 m : Nat), (∀ x ∈ l, last ≤ x → m ≤ x) → m ≤ m0 → (m = m0 ∨ (last ≤ m ∧ m ∈ l)) → l.foldl (fun m x => if last ≤ x ∧ x < m then x else m) m0 = m
 | [], m0, m, _, _, h => by
  rcases h with h | h
  ·exact h.symm
  ·simp at h
 | x :: l, m0, m, hle, hm, h => by
  rw [List.foldl_cons]
  have hx := hle x List.mem_cons_self
  by_cases hc : last ≤ x ∧ x < m0
  ·rw [if_pos hc]
   refine minS_spec last l x m (fun y hy => hle y (List.mem_cons_of_mem _ hy)) (hx hc.1) ?_
   rcases h with h | ⟨h1, h2⟩
   ·have := hx hc.1; omega
   ·rcases List.mem_cons.1 h2 with h3 | h3
    ·exact .inl h3
    ·exact .inr ⟨h1, h3⟩
  ·rw [if_neg hc]
   refine minS_spec last l m0 m (fun y hy => hle y (List.mem_cons_of_mem _ hy)) hm ?_
   rcases h with h | ⟨h1, h2⟩
   ·exact .inl h
   ·rcases List.mem_cons.1 h2 with h3 | h3
    ·subst h3; left; omega
    ·exact .inr ⟨h1, h3⟩

/-- How many of a list's pairs have a smaller sign; the sign itself; and stand ahead of a place. -/
def cS (SG : List Pr) (m : Nat) : Nat := SG.countP fun x => decide (x.1 < m)
def cE (D : List Pr) (m : Nat) : Nat := D.countP fun x => decide (x.1 = m)
def cL (D : List Pr) (m : Nat) : Nat := D.countP fun x => decide (x.1 ≤ m)
def cSp (SG : List Pr) (m p : Nat) : Nat := SG.countP fun x => decide (x.1 < m ∧ x.2 < p)
def cEp (D : List Pr) (m p : Nat) : Nat := D.countP fun x => decide (x.1 = m ∧ x.2 < p)

theorem cL_split (D : List Pr) (m : Nat) : cL D m = cS D m + cE D m := by
 induction D with
 | nil => rfl
 | cons x D ih =>
  unfold cL cS cE at *
  rw [List.countP_cons, List.countP_cons, List.countP_cons, ih]
  by_cases h1 : x.1 < m
  ·simp [h1, show x.1 ≤ m by omega, show x.1 ≠ m by omega]; omega
  ·by_cases h2 : x.1 = m
   ·simp [h2]; omega
   ·simp [h1, h2, show ¬ x.1 ≤ m by omega]
theorem cnt_le {SG D E : List Pr} (h : SG = D ++ E) (hr : Ris SG) (m p : Nat) (x : Pr) (hx : E.head? = some x) (hp : p = x.2) (hm : x.1 = m) : cSp SG m p + cEp D m p = cL D m := by
 subst h hp
 match E, hx with
 | y :: E, hx =>
  obtain rfl : y = x := by simpa using hx
  unfold Ris at hr
  rw [List.pairwise_append] at hr
  have hE : ∀ z ∈ y :: E, ¬ z.2 < y.2 := by
   intro z hz
   rcases List.mem_cons.1 hz with rfl | hz
   ·omega
   ·have := (List.pairwise_cons.1 hr.2.1).1 z hz; omega
  have hD : ∀ z ∈ D, z.2 < y.2 := fun z hz => hr.2.2 z hz y List.mem_cons_self
  have e1 : cSp (D ++ y :: E) m y.2 = cS D m := by
   unfold cSp cS
   rw [List.countP_append]
   have h0 : (y :: E).countP (fun x => decide (x.1 < m ∧ x.2 < y.2)) = 0 := by
    rw [List.countP_eq_zero]; intro z hz; simp; intro _; have := hE z hz; omega
   rw [h0, Nat.add_zero]
   exact List.countP_congr (fun z hz => by simp [hD z hz])
  have e2 : cEp D m y.2 = cE D m := by
   unfold cEp cE
   exact List.countP_congr (fun z hz => by simp [hD z hz])
  rw [e1, e2, cL_split]

/-- What links the two: told: the places that the program has told. -/
structure Lnk (SG D : List Pr) (B m number many place lastp i : Nat) (told : List Nat) : Prop where
 cnt : ∀ p, cntLt told p = cSp SG m p + cEp D m p
 man : many = cS SG m + cE D m
 idx : many = B + i
 num : number + place = (m - lastp) * (many + 1) + cL D m
 le : lastp ≤ m

theorem inner_eq (SG : List Pr) (hr : Ris SG) (B m : Nat) (Q' : List Pr) : ∀ (E D : List Pr) (number many bias place lastp i : Nat) (told : List Nat), SG = D ++ E → Lnk SG D B m number many place lastp i told →
  ∃ told' i' place' lastp', Lnk SG SG B m (docIn B m (E.map (·.1)) number many bias).2.1 (docIn B m (E.map (·.1)) number many bias).2.2.1 place' lastp' i' told' ∧ (lastp' = m ∨ (lastp' = lastp ∧ cE E m = 0)) ∧
   fewN B (E.filter (fun x => decide (x.1 = m)) ++ Q') told i place lastp bias = (docIn B m (E.map (·.1)) number many bias).1 ++ fewN B Q' told' i' place' lastp' (docIn B m (E.map (·.1)) number many bias).2.2.2
 | [], D, number, many, bias, place, lastp, i, told, hSG, h => by
  have hD : D = SG := by rw [hSG, List.append_nil]
  subst hD
  exact ⟨told, i, place, lastp, h, .inr ⟨rfl, rfl⟩, rfl⟩
 | x :: E, D, number, many, bias, place, lastp, i, told, hSG, h => by
  have hSG' : SG = (D ++ [x]) ++ E := by rw [hSG]; simp
  rw [List.map_cons]
  by_cases h1 : x.1 < m
  ·have hd : docIn B m (x.1 :: E.map (·.1)) number many bias = docIn B m (E.map (·.1)) (number + 1) many bias := by rw [docIn, if_pos h1]
   have hf : (x :: E).filter (fun x => decide (x.1 = m)) = E.filter (fun x => decide (x.1 = m)) := by simp [show x.1 ≠ m by omega]
   have hl : Lnk SG (D ++ [x]) B m (number + 1) many place lastp i told := by
    refine ⟨fun p => ?_, ?_, h.idx, ?_, h.le⟩
    ·rw [h.cnt p]; simp [cEp, List.countP_append, show x.1 ≠ m by omega]
    ·rw [h.man]; simp [cE, List.countP_append, show x.1 ≠ m by omega]
    ·have := h.num
     have e : cL (D ++ [x]) m = cL D m + 1 := by simp [cL, List.countP_append, show x.1 ≤ m by omega]
     omega
   obtain ⟨told', i', place', lastp', g1, g2, g3⟩ := inner_eq SG hr B m Q' E (D ++ [x]) (number + 1) many bias place lastp i told hSG' hl
   rw [hd, hf]
   refine ⟨told', i', place', lastp', g1, ?_, g3⟩
   rcases g2 with g2 | ⟨g2, g4⟩
   ·exact .inl g2
   ·exact .inr ⟨g2, by simpa [cE, show x.1 ≠ m by omega] using g4⟩
  ·by_cases h2 : x.1 = m
   ·have hd : docIn B m (x.1 :: E.map (·.1)) number many bias = (digsL number number 36 bias ++ (docIn B m (E.map (·.1)) 0 (many + 1) (nb number (many + 1) (many == B))).1, (docIn B m (E.map (·.1)) 0 (many + 1) (nb number (many + 1) (many == B))).2) := by
     rw [docIn, if_neg h1, if_pos h2]
    have hf : (x :: E).filter (fun x => decide (x.1 = m)) = x :: E.filter (fun x => decide (x.1 = m)) := by simp [h2]
    have hcl := cnt_le hSG hr m x.2 x rfl rfl h2
    have hct : cntLt told x.2 = cL D m := by rw [h.cnt, hcl]
    have hn : (x.1 - lastp) * (B + i + 1) + cntLt told x.2 - place = number := by
     rw [hct, h2, ← h.idx]
     have := h.num
     omega
    have hb : (many == B) = (i == 0) := by
     have := h.idx
     rw [Bool.eq_iff_iff]; simp; omega
    have hl : Lnk SG (D ++ [x]) B m 0 (many + 1) (cntLt told x.2 + 1) m (i + 1) (x.2 :: told) := by
     refine ⟨fun p => ?_, ?_, ?_, ?_, Nat.le_refl _⟩
     ·rw [cntLt_cons, h.cnt p]
      by_cases hp : x.2 < p <;> simp [cEp, List.countP_append, h2, hp]; omega
     ·rw [h.man]; simp [cE, List.countP_append, h2]; omega
     ·have := h.idx; omega
     ·have e : cL (D ++ [x]) m = cL D m + 1 := by simp [cL, List.countP_append, show x.1 ≤ m by omega]
      rw [hct, e]; simp
    obtain ⟨told', i', place', lastp', g1, g2, g3⟩ := inner_eq SG hr B m Q' E (D ++ [x]) 0 (many + 1) (nb number (many + 1) (many == B)) (cntLt told x.2 + 1) m (i + 1) (x.2 :: told) hSG' hl
    rw [hd, hf]
    refine ⟨told', i', place', lastp', g1, ?_, ?_⟩
    ·rcases g2 with g2 | ⟨g2, g4⟩
     ·exact .inl g2
     ·exact .inl g2
    ·rw [List.cons_append]
     show fewN B ((x.1, x.2) :: (E.filter (fun x => decide (x.1 = m)) ++ Q')) told i place lastp bias = _
     rw [fewN, hn, ← h.idx, ← hb, h2, g3]
     simp
   ·have hd : docIn B m (x.1 :: E.map (·.1)) number many bias = docIn B m (E.map (·.1)) number many bias := by rw [docIn, if_neg h1, if_neg h2]
    have hf : (x :: E).filter (fun x => decide (x.1 = m)) = E.filter (fun x => decide (x.1 = m)) := by simp [h2]
    have hl : Lnk SG (D ++ [x]) B m number many place lastp i told := by
     refine ⟨fun p => ?_, ?_, h.idx, ?_, h.le⟩
     ·rw [h.cnt p]; simp [cEp, List.countP_append, h2]
     ·rw [h.man]; simp [cE, List.countP_append, h2]
     ·have e : cL (D ++ [x]) m = cL D m := by simp [cL, List.countP_append, show ¬ x.1 ≤ m by omega]
      rw [e]; exact h.num
    obtain ⟨told', i', place', lastp', g1, g2, g3⟩ := inner_eq SG hr B m Q' E (D ++ [x]) number many bias place lastp i told hSG' hl
    rw [hd, hf]
    refine ⟨told', i', place', lastp', g1, ?_, g3⟩
    rcases g2 with g2 | ⟨g2, g4⟩
    ·exact .inl g2
    ·exact .inr ⟨g2, by simpa [cE, h2] using g4⟩

theorem outer_eq (SG : List Pr) (hr : Ris SG) (hs : ∀ x ∈ SG, x.1 ≤ 1114111) (B : Nat) : ∀ (f : Nat) (Q : List Pr) (number last many bias place lastp i : Nat) (told : List Nat), Q.length ≤ f → Srt Q → Q.Perm (SG.filter fun x => decide (last ≤ x.1)) →
  (∀ p, cntLt told p = cSp SG last p) → many = cS SG last → many = B + i → number + place = (last - lastp) * (many + 1) → lastp ≤ last →
  docOut B (SG.map (·.1)) f number last many bias = fewN B Q told i place lastp bias := by
 intro f
 induction f with
 | zero =>
  intro Q number last many bias place lastp i told hf _ _ _ _ _ _ _
  obtain rfl : Q = [] := List.eq_nil_of_length_eq_zero (by omega)
  rfl
 | succ f ih =>
  intro Q number last many bias place lastp i told hf hQ hperm hcnt hmany hidx hnum hle
  have hlen : Q.length + cS SG last = SG.length := by
   rw [hperm.length_eq, cS, ← List.countP_eq_length_filter]
   have := List.length_eq_countP_add_countP (fun x : Pr => decide (last ≤ x.1)) (l := SG)
   rw [this]
   congr 1
   exact List.countP_congr (fun x _ => by simp)
  match Q, hQ, hperm, hlen with
  | [], _, _, hlen =>
   rw [docOut, if_neg (by simp at hlen; rw [List.length_map]; omega)]; rfl
  | x :: Q1, hQ, hperm, hlen =>
   have hmem : ∀ y, y ∈ x :: Q1 ↔ y ∈ SG ∧ last ≤ y.1 := fun y => by rw [hperm.mem_iff]; simp
   have hx := (hmem x).1 List.mem_cons_self
   obtain ⟨m, hm⟩ : ∃ m, m = x.1 := ⟨_, rfl⟩
   have hmin : ∀ y ∈ x :: Q1, m ≤ y.1 := by
    intro y hy
    rcases List.mem_cons.1 hy with rfl | hy
    ·omega
    ·have := ltP_le ((List.pairwise_cons.1 hQ).1 y hy); omega
   have hmS : minS last (SG.map (·.1)) = m := by
    refine minS_spec last _ _ m ?_ (by have := hs x hx.1; omega) (.inr ⟨by omega, by rw [hm]; exact List.mem_map_of_mem hx.1⟩)
    intro y hy hly
    obtain ⟨z, hz, rfl⟩ := List.mem_map.1 hy
    exact hmin z ((hmem z).2 ⟨hz, hly⟩)
   have hno : ∀ z ∈ SG, z.1 < m → z.1 < last := fun z hz hzm => by
    rcases Nat.lt_or_ge z.1 last with h | h
    ·exact h
    ·have := hmin z ((hmem z).2 ⟨hz, h⟩); omega
   have hlm : last ≤ m := by omega
   have hcS : cS SG m = cS SG last := by
    unfold cS
    exact List.countP_congr (fun z hz => by have := hno z hz; simp; omega)
   have hcSp : ∀ p, cSp SG m p = cSp SG last p := fun p => by
    unfold cSp
    exact List.countP_congr (fun z hz => by have := hno z hz; simp; omega)
   -- the remaining pairs: those of the sign, then the greater ones
   have hsplit : x :: Q1 = (SG.filter fun z => decide (z.1 = m)) ++ ((x :: Q1).filter fun z => decide (m < z.1)) := by
    have h1 : ∀ l : List Pr, Srt l → (∀ y ∈ l, m ≤ y.1) → l = (l.filter fun z => decide (z.1 = m)) ++ (l.filter fun z => decide (m < z.1)) := by
     intro l
     induction l with
     | nil => intro _ _; rfl
     | cons y l ihl =>
      intro hsl hml
      have hy := hml y List.mem_cons_self
      have ih' := ihl (List.pairwise_cons.1 hsl).2 (fun z hz => hml z (List.mem_cons_of_mem _ hz))
      by_cases hym : y.1 = m
      ·simp only [List.filter_cons, hym, decide_true, if_true, Nat.lt_irrefl, decide_false, Bool.false_eq_true, if_false, List.cons_append]
       rw [← ih']
      ·have hgt : ∀ z ∈ y :: l, m < z.1 := by
        intro z hz
        rcases List.mem_cons.1 hz with rfl | hz
        ·omega
        ·have := ltP_le ((List.pairwise_cons.1 hsl).1 z hz); omega
       have e1 : (y :: l).filter (fun z => decide (z.1 = m)) = [] := by
        rw [List.filter_eq_nil_iff]; intro z hz; have := hgt z hz; simp; omega
       have e2 : (y :: l).filter (fun z => decide (m < z.1)) = y :: l := by
        rw [List.filter_eq_self]; intro z hz; simp [hgt z hz]
       rw [e1, e2]; rfl
    have h2 : (x :: Q1).filter (fun z => decide (z.1 = m)) = SG.filter fun z => decide (z.1 = m) := by
     have hp2 : ((x :: Q1).filter (fun z => decide (z.1 = m))).Perm (SG.filter fun z => decide (z.1 = m)) := by
      refine (hperm.filter _).trans ?_
      rw [List.filter_filter]
      refine List.Perm.of_eq (List.filter_congr (fun z _ => ?_))
      rw [Bool.eq_iff_iff]; simp; omega
     refine List.Perm.eq_of_pairwise (le := ltP) (fun a b _ _ h h' => absurd (ltP_trans h h') (ltP_irrefl a)) ((hQ.filter _)) ?_ hp2
     rw [List.pairwise_filter]
     refine hr.imp ?_
     intro a b hab h h'
     simp at h h'
     exact .inr ⟨by omega, hab⟩
    rw [← h2]
    exact h1 _ hQ hmin
   obtain ⟨n1, hn1⟩ : ∃ n1, n1 = number + (m - last) * (many + 1) := ⟨_, rfl⟩
   have hl : Lnk SG [] B m n1 many place lastp i told := by
    refine ⟨fun p => ?_, ?_, hidx, ?_, by omega⟩
    ·rw [hcnt p, ← hcSp p]; rfl
    ·rw [hcS]; exact hmany
    ·have e : (m - lastp) * (many + 1) = (m - last) * (many + 1) + (last - lastp) * (many + 1) := by rw [← Nat.add_mul]; congr 1; omega
     rw [hn1, e]
     show _ = _ + 0
     omega
   obtain ⟨told', i', place', lastp', g1, g2, g3⟩ := inner_eq SG hr B m ((x :: Q1).filter fun z => decide (m < z.1)) SG [] n1 many bias place lastp i told rfl hl
   have hce : 0 < cE SG m := by
    unfold cE
    rw [List.countP_pos_iff]
    exact ⟨x, hx.1, by simp [hm]⟩
   have hlp : lastp' = m := by
    rcases g2 with g2 | ⟨_, g4⟩
    ·exact g2
    ·omega
   subst hlp
   obtain ⟨r, hrr⟩ : ∃ r, r = docIn B lastp' (SG.map (·.1)) n1 many bias := ⟨_, rfl⟩
   rw [← hrr] at g1 g3
   have hmany2 : cS SG (lastp' + 1) = cS SG lastp' + cE SG lastp' := by
    rw [← cL_split]
    unfold cS cL
    exact List.countP_congr (fun z _ => by simp; omega)
   rw [docOut, if_pos (by rw [List.length_map]; simp at hlen; omega), hmS, ← hn1, ← hrr]
   rw [hsplit, g3]
   congr 1
   refine ih _ _ _ _ _ _ _ _ _ ?_ (hQ.filter _) ?_ ?_ ?_ g1.idx ?_ (by omega)
   ·have : ((x :: Q1).filter fun z => decide (lastp' < z.1)).length ≤ Q1.length := by
     have e : (x :: Q1).filter (fun z => decide (lastp' < z.1)) = Q1.filter fun z => decide (lastp' < z.1) := by simp [hm]
     rw [e]; exact List.length_filter_le _ _
    simp at hf; omega
   ·refine (hperm.filter _).trans ?_
    rw [List.filter_filter]
    refine List.Perm.of_eq (List.filter_congr (fun z _ => ?_))
    rw [Bool.eq_iff_iff]; simp; omega
   ·intro p
    rw [g1.cnt p]
    have : ∀ l : List Pr, cSp l lastp' p + cEp l lastp' p = cSp l (lastp' + 1) p := by
     intro l
     induction l with
     | nil => rfl
     | cons z l ihl =>
      unfold cSp cEp at *
      rw [List.countP_cons, List.countP_cons, List.countP_cons, ← ihl]
      by_cases a1 : z.1 < lastp'
      ·simp [a1, show z.1 ≠ lastp' by omega, show z.1 < lastp' + 1 by omega]; omega
      ·by_cases a2 : z.1 = lastp'
       ·simp [a2]; omega
       ·simp [a1, a2, show ¬ z.1 < lastp' + 1 by omega]
    exact this SG
   ·rw [hmany2]; exact g1.man
   ·have e1 := g1.num
    have e2 := g1.man
    have e3 := cL_split SG lastp'
    have e4 : lastp' + 1 - lastp' = 1 := by omega
    simp only [Nat.sub_self, Nat.zero_mul] at e1
    rw [e4]
    omega

end Go.Proofs.YtcphokaamkalfaaGreatDoor
namespace Go.Proofs.YtcphokaamkalfaaGreatDoor
open Go.RowKit

/-- The plain signs of a list, as bytes; and the document's few letters. -/
def plL (l : List Nat) : List UInt8 := (l.filter fun x => decide (x < 128)).map UInt8.ofNat
def docE (l : List Nat) : List UInt8 := plL l ++ (if plL l = [] then [] else [45]) ++ docOut (plL l).length l l.length 0 128 (plL l).length 72

end Go.Proofs.YtcphokaamkalfaaGreatDoor
namespace Go.Proofs.YtcphokaamkalfaaGreatDoor
open Go.RowKit

end Go.Proofs.YtcphokaamkalfaaGreatDoor
namespace Go.Proofs.YtcphokaamkalfaaGreatDoor
open Go.RowKit

/-- What the document's Encode answers. -/
def refEncT (s : ByteArray) : ByteArray × Int :=
 if 65536 < s.size then (⟨#[]⟩, 3) else match sgO s s.size 0 with | none => (⟨#[]⟩, 4) | some l => (⟨(docE l).toArray⟩, 0)
theorem refEncT_none {s : ByteArray} (h : ¬ 65536 < s.size) (hn : sgO s s.size 0 = none) : refEncT s = (⟨#[]⟩, 4) := by rw [refEncT, if_neg h, hn]
theorem refEncT_some {s : ByteArray} {l : List Nat} (h : ¬ 65536 < s.size) (hn : sgO s s.size 0 = some l) : refEncT s = (⟨(docE l).toArray⟩, 0) := by rw [refEncT, if_neg h, hn]


end Go.Proofs.YtcphokaamkalfaaGreatDoor
namespace Go.Proofs.YtcphokaamkalfaaGreatDoor
open Go.RowKit

theorem sgO_valid (s : ByteArray) : ∀ (f p : Nat), s.size ≤ p + f → sgO s f p = if Lib.validD (s.data.toList.drop p) then some ((sgn s f p).map (·.1)) else none
 | 0, p, h => by
  have hd : s.data.toList.drop p = [] := List.drop_eq_nil_of_le (by rw [dLen]; omega)
  rw [hd]; rfl
 | f + 1, p, h => by
  by_cases hp : p < s.size
  ·have hne : s.data.toList.drop p ≠ [] := by
    intro e
    have := congrArg List.length e
    rw [List.length_drop, dLen] at this; simp at this; omega
   have hw := width_pos s p
   rw [sgO, if_pos hp, sgn_on s f p hp, Lib.validD_step _ hne, Lib.decodeL_drop, List.drop_drop]
   by_cases hb : (Utf8.decode s p).1 = 65533 ∧ (Utf8.decode s p).2 = 1
   ·rw [if_pos hb, if_pos hb]; rfl
   ·rw [if_neg hb, if_neg hb, sgO_valid s f _ (by omega)]
    cases Lib.validD (s.data.toList.drop (p + (Utf8.decode s p).2)) <;> simp
  ·rw [sgO_end s _ p hp, sgn_end s _ p hp]
   have hd : s.data.toList.drop p = [] := List.drop_eq_nil_of_le (by rw [dLen]; omega)
   rw [hd]; rfl

theorem sgn_mem2 (s : ByteArray) : ∀ f p, ∀ x ∈ sgn s f p, x.1 = (Utf8.decode s x.2).1
 | 0, _, x, h => by simp [sgn] at h
 | f + 1, p, x, h => by
  rw [sgn] at h
  split at h
  ·rcases List.mem_cons.1 h with rfl | h
   ·rfl
   ·exact sgn_mem2 s f _ x h
  ·simp at h
theorem plL_map (SG : List Pr) : plL (SG.map (·.1)) = plB SG := by
 induction SG with
 | nil => rfl
 | cons x SG ih =>
  by_cases h : x.1 < 128
  ·have h1 : plL ((x :: SG).map (·.1)) = UInt8.ofNat x.1 :: plL (SG.map (·.1)) := by simp [plL, h]
   have h2 : plB (x :: SG) = UInt8.ofNat x.1 :: plB SG := by simp [plB, isPl, h]
   rw [h1, h2, ih]
  ·have h1 : plL ((x :: SG).map (·.1)) = plL (SG.map (·.1)) := by simp [plL, h]
   have h2 : plB (x :: SG) = plB SG := by simp [plB, isPl, h]
   rw [h1, h2, ih]

theorem few_doc (s : ByteArray) (R : List Pr) (hp : R.Perm (otL (sgn s s.size 0))) (hs : Srt R) : fewL (sgn s s.size 0) R = docE ((sgn s s.size 0).map (·.1)) := by
 obtain ⟨SG, hSG⟩ : ∃ SG, sgn s s.size 0 = SG := ⟨_, rfl⟩
 have hr : Ris SG := by rw [← hSG]; exact sgn_ris s _ _
 have hb : ∀ x ∈ SG, x.1 ≤ 1114111 := by
  intro x hx
  rw [← hSG] at hx
  rw [(sgn_mem2 s _ _ x hx)]
  exact rune_bd s x.2
 rw [hSG] at hp ⊢
 have hot : otL SG = SG.filter fun x => decide (128 ≤ x.1) := by
  unfold otL
  refine List.filter_congr (fun x _ => ?_)
  rw [Bool.eq_iff_iff]; simp [isPl]
 rw [hot] at hp
 have hcnt : ∀ p, cntLt (plA SG) p = cSp SG 128 p := by
  intro p
  have : ∀ l : List Pr, cntLt (plA l) p = cSp l 128 p := by
   intro l
   unfold cntLt plA cSp
   rw [List.countP_reverse, List.countP_map, List.countP_filter]
   refine List.countP_congr (fun x _ => ?_)
   simp [isPl]
   exact And.comm
  exact this SG
 have hmany : (plB SG).length = cS SG 128 := by
  unfold plB cS
  rw [List.length_map, ← List.countP_eq_length_filter]
  exact List.countP_congr (fun x _ => by simp [isPl])
 have h := outer_eq SG hr hb (plB SG).length SG.length R 0 128 (plB SG).length 72 0 128 0 (plA SG) (by
  rw [hp.length_eq]; exact List.length_filter_le _ _) hs hp hcnt hmany (by omega) (by omega) (by omega)
 unfold fewL docE
 rw [plL_map, List.length_map, h]

end Go.Proofs.YtcphokaamkalfaaGreatDoor
namespace Go.Proofs.YtcphokaamkalfaaGreatDoor
open Go.RowKit

theorem ret_enc {a b : ByteArray} {c d : Int} (h : a = b) (h' : c = d) : Ending.returned (.tuple #[.string a, .int .i64 c]) = .returned (.tuple #[.string b, .int .i64 d]) := by rw [h, h']

set_option maxRecDepth 100000 in
set_option maxHeartbeats 1000000 in
theorem Encode_of (s : ByteArray) (w : World) (hs : s.size ≤ maxLen) (hV : Calls Tryz.prog 140 #[.string s] w fun e w' => e = .returned (.bool (Lib.validD s.data.toList)) ∧ Below w.heap.size w w') :
  Calls Tryz.prog 173 #[.string s] w fun e w' => e = .returned (.tuple #[.string (refEncT s).1, .int .i64 (refEncT s).2]) ∧ Below w.heap.size w w' := by
 unfold maxLen at hs
 have HV := Lib.hid hV
 clear hV
 have hval := sgO_valid s s.size 0 (by omega)
 rw [List.drop_zero] at hval
 by_cases h : 65536 < s.size
 ·have HR : Hid (refEncT s = (⟨#[]⟩, 3)) := Lib.hid (by rw [refEncT, if_pos h])
  clear hval
  go_enter Tryz.func173, Tryz.ntmps173
  go_wp2
  go_ret2
  exact ⟨ret_enc (by rw [HR.out]) (by rw [HR.out]), Below.refl _ _⟩
 ·obtain ⟨b, HB⟩ : ∃ b, Hid (Lib.validD s.data.toList = b) := ⟨_, Lib.hid rfl⟩
  rw [HB.out] at HV hval
  cases b
  ·have HR : Hid (refEncT s = (⟨#[]⟩, 4)) := Lib.hid (refEncT_none h hval)
   clear hval
   go_enter Tryz.func173, Tryz.ntmps173
   go_wp2_with fail
   refine HV.out.mono ?_
   rintro e w1 ⟨rfl, b1⟩
   have B1 := Lib.hid b1; clear b1
   go_wp2
   go_ret2
   exact ⟨ret_enc (by rw [HR.out]) (by rw [HR.out]), B1.out⟩
  ·have HR : Hid (refEncT s = (⟨(docE ((sgn s s.size 0).map (·.1))).toArray⟩, 0)) := Lib.hid (refEncT_some h hval)
   clear hval
   go_enter Tryz.func173, Tryz.ntmps173
   go_wp2_with fail
   refine HV.out.mono ?_
   rintro e w1 ⟨rfl, b1⟩
   have B1 := Lib.hid b1; clear b1
   go_wp2_with fail
   refine (fewLetters_any s _ (by omega)).mono ?_
   rintro e w2 ⟨R, hp, hsr, rfl, b2⟩
   have HE := Lib.hid (few_doc s R hp hsr)
   have B2 := Lib.hid b2; clear b2 hp hsr
   go_wp2
   go_ret2
   exact ⟨ret_enc (by rw [HR.out, HE.out]) (by rw [HR.out]), B1.out.trans (B2.out.mono B1.out.size)⟩

end Go.Proofs.YtcphokaamkalfaaGreatDoor
