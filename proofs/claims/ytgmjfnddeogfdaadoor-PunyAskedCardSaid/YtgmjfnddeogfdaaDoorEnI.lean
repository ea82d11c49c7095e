/-
  What lies where while the numbers are told.
-/
import Derived.Test.YtgmjfnddeogfdaaDoorEnH
namespace Go.Proofs.YtgmjfnddeogfdaaDoor
open Go.RowKit Go.Shelf

/-- Between two numbers: out's box, the tree of sums, the other signs' row, the marks. -/
structure St (s : ByteArray) (w0 : World) (Bo gt : Nat) (ta : Option Addr) (tc : Nat) (R : List Pr) (L : List UInt8) (told ds : List Nat) (wr : World) : Prop where
  box : ∃ v, Boxed wr Bo 48 v ∧ wr.ownsRow w0.heap.size 5 1 v L.length (L.map bv) ∧ v.ownBlock ≠ some gt ∧ (∀ g, ta = some ⟨g, 0, none⟩ → R ≠ [] → v.ownBlock ≠ some g)
  fen : Fen wr gt (s.size + 1) (cntAt told)
  oth : R = [] ∨ ∃ g, ta = some ⟨g, 0, none⟩ ∧ Row2 wr g tc R ∧ w0.heap.size ≤ g ∧ g ≠ gt ∧ g ≠ Bo
  ord : w0.heap.size ≤ gt ∧ w0.heap.size ≤ Bo ∧ gt ≠ Bo
  nodup : ds.Nodup
  marks : ∀ D ∈ ds, w0.heap.size ≤ D ∧ wr.heap[D]? = some (.deferred (some []))
  bel : Below w0.heap.size w0 wr

theorem own_cells {w : World} {base : Nat} {e : TypeId} {size n : Nat} {v : Value} {xs : List Value} (h : w.ownsRow base e size v n xs) (q : Nat) (hq : v.ownBlock = some q) : ∃ cur, w.heap[q]? = some (.cells cur e (0, 0)) := by
  rcases h.2 with ⟨rfl, _⟩ | ⟨g, cap, cur, rfl, _, hg, _⟩
  · simp [Value.ownBlock] at hq
  · obtain rfl : g = q := by simpa [Value.ownBlock] using hq
    exact ⟨cur, hg⟩

theorem st_inner {s : ByteArray} {w0 : World} {Bo gt : Nat} {ta : Option Addr} {tc : Nat} {R : List Pr} {L : List UInt8} {told ds : List Nat} {wr : World} (h : St s w0 Bo gt ta tc R L told ds wr) (v0 : Value) (hv0 : Boxed wr Bo 48 v0)
    (W1 W' : World) (h1 : Below wr.heap.size wr W1) (pre : List UInt8) (hin : InSt w0.heap.size Bo v0 W1 L pre W') (D : Nat) (hD : W1.heap.size ≤ D) (hDk : W'.heap[D]? = some (.deferred (some []))) :
    St s w0 Bo gt ta tc R (L ++ pre) told (D :: ds) W' := by
  obtain ⟨⟨v, hb, hr, hv⟩, hk⟩ := hin
  obtain ⟨v1, hb1, hr1, hg1, hg2⟩ := h.box
  obtain rfl : v1 = v0 := by
    have := (show wr.heap[Bo]? = _ from hb1).symm.trans hv0
    simpa using this
  have hsz := h1.size
  have hb := hb
  have hold : ∀ q, q < wr.heap.size → q ≠ Bo → v1.ownBlock ≠ some q → W'.heap[q]? = wr.heap[q]? := fun q hq hne hvq => (hk.block q (by omega) hne hvq).trans (h1.block q hq)
  have hnew : ∀ q, q < wr.heap.size → v1.ownBlock ≠ some q → v.ownBlock ≠ some q := by
    intro q hq hvq e
    rcases hv with h2 | h2
    · exact hvq (h2 ▸ e)
    · have := h2 q e; omega
  have hgt := h.fen.lt
  refine ⟨⟨v, hb, hr, hnew gt hgt hg1, fun g hg hR => ?_⟩, h.fen.old (hold gt hgt h.ord.2.2 hg1), ?_, h.ord, ?_, ?_, ?_⟩
  · rcases h.oth with h2 | ⟨g', hg', hrow, _⟩
    · exact absurd h2 hR
    · have : g' = g := by rw [hg'] at hg; simpa using hg
      subst this
      exact hnew g' hrow.lt (hg2 g' hg hR)
  · rcases h.oth with h2 | ⟨g', hg', hrow, h3, h4, h5⟩
    · exact .inl h2
    · by_cases hR : R = []
      · exact .inl hR
      · exact .inr ⟨g', hg', hrow.old (hold g' hrow.lt h5 (hg2 g' hg' hR)), h3, h4, h5⟩
  · refine List.nodup_cons.2 ⟨fun hm => ?_, h.nodup⟩
    have := (Array.getElem?_eq_some_iff.1 (h.marks D hm).2).1
    omega
  · intro E hE
    rcases List.mem_cons.1 hE with rfl | hE
    · have := h.bel.size; exact ⟨by omega, hDk⟩
    · obtain ⟨m1, m2⟩ := h.marks E hE
      have hlt := (Array.getElem?_eq_some_iff.1 m2).1
      refine ⟨m1, (hold E hlt (fun e => ?_) (fun e => ?_)).trans m2⟩
      · rw [e, show wr.heap[Bo]? = _ from hb1] at m2; simp at m2
      · obtain ⟨cur, hc⟩ := own_cells hr1 E e
        rw [hc] at m2; simp at m2
  · have hbel := h.bel
    have hs0 := hbel.size
    refine ⟨hk.os.trans (h1.os.trans hbel.os), hk.tape.trans (h1.tape.trans hbel.tape), hk.output.trans (h1.output.trans hbel.output), by have := hk.size; omega, fun q hq => ?_⟩
    rw [hold q (by omega) (fun e => by have := h.ord.2.1; omega) (fun e => by have := (hr1.lt q e).1; omega)]
    exact hbel.block q hq

theorem st_add {s : ByteArray} {w0 : World} {Bo gt : Nat} {ta : Option Addr} {tc : Nat} {R : List Pr} {L : List UInt8} {told ds : List Nat} {wr W' : World} (h : St s w0 Bo gt ta tc R L told ds wr) (p : Nat) (hF : Fen W' gt (s.size + 1) (cntAt (p :: told))) (hB : But gt wr W') :
    St s w0 Bo gt ta tc R L (p :: told) ds W' := by
  obtain ⟨v1, hb1, hr1, hg1, hg2⟩ := h.box
  have hgr := hB.grown
  refine ⟨⟨v1, hb1.kept hgr (fun e => h.ord.2.2 (by simpa using e.symm)), hr1.kept hgr (.inr hg1), hg1, hg2⟩, hF, ?_, h.ord, h.nodup, fun D hD => ?_, hB.below h.bel h.ord.1⟩
  · rcases h.oth with h2 | ⟨g', hg', hrow, h3, h4, h5⟩
    · exact .inl h2
    · exact .inr ⟨g', hg', hrow.old (hB.block g' h4), h3, h4, h5⟩
  · obtain ⟨m1, m2⟩ := h.marks D hD
    refine ⟨m1, (hB.block D (fun e => ?_)).trans m2⟩
    obtain ⟨cs, hc, _⟩ := h.fen
    rw [e, hc] at m2; simp at m2

/-- What is told so far, and what is to come. -/
structure Nm (s : ByteArray) (F : List UInt8) (B : Nat) (R : List Pr) (L : List UInt8) (told : List Nat) (i place last bias : Nat) : Prop where
  i_le : i ≤ R.length
  eq : L ++ fewN B (R.drop i) told i place last bias = F
  told_len : told.length = B + i
  place_le : place ≤ told.length
  bias_le : bias ≤ 756
  len : L.length ≤ 1000001 + 17 * i
  last_le : last ≤ 1114111
  nxt : Nxt told place last (R.drop i)

/-- What holds of the other signs. -/
structure Oth (s : ByteArray) (R : List Pr) : Prop where
  srt : Srt R
  sign : ∀ x ∈ R, 128 ≤ x.1 ∧ x.1 ≤ 1114111
  at_lt : ∀ x ∈ R, x.2 < s.size

theorem nm_step {s : ByteArray} {F : List UInt8} {B : Nat} {R : List Pr} {L : List UInt8} {told : List Nat} {i place last bias : Nat} (h : Nm s F B R L told i place last bias) (ho : Oth s R) (hR : R.length ≤ 1000000) (hB : B ≤ 1000000) (hi : i < R.length) (m p : Nat) (hmp : R[i]? = some (m, p)) :
    ∃ d q N, d = m - last ∧ q = d * (B + i + 1) ∧ N = q + cntLt told p - place ∧ last ≤ m ∧ m ≤ 1114111 ∧ p < s.size ∧ cntLt told p ≤ 2000000 ∧ q ≤ 3000000000000 ∧ place ≤ q + cntLt told p ∧ N ≤ 4000000000000 ∧
      Nm s F B R (L ++ digsL N N 36 bias) (p :: told) (i + 1) (cntLt told p + 1) m (nb N (B + i + 1) (i == 0)) := by
  have hd : R.drop i = (m, p) :: R.drop (i + 1) := by
    rw [List.drop_eq_getElem_cons hi]
    have : R[i] = (m, p) := by
      rw [List.getElem?_eq_getElem hi] at hmp; simpa using hmp
    rw [this]
  have hmem : (m, p) ∈ R := List.mem_of_getElem? hmp
  have h1 := ho.sign _ hmem
  have h2 := ho.at_lt _ hmem
  have hn := h.nxt
  rw [hd] at hn
  obtain ⟨hlm, hpl⟩ := hn
  have htl := h.told_len
  have hcl := cntLt_le told p
  have hpp := h.place_le
  obtain ⟨d, hdd⟩ : ∃ d, d = m - last := ⟨_, rfl⟩
  obtain ⟨q, hqq⟩ : ∃ q, q = d * (B + i + 1) := ⟨_, rfl⟩
  obtain ⟨N, hNN⟩ : ∃ N, N = q + cntLt told p - place := ⟨_, rfl⟩
  have hq3 : q ≤ 3000000000000 := by
    rw [hqq]
    have : d * (B + i + 1) ≤ 1114111 * 2000001 := Nat.mul_le_mul (by simp at h1; omega) (by omega)
    omega
  have hpq : place ≤ q + cntLt told p := by
    by_cases e : last = m
    · have := hpl e; omega
    · have : 1 * (B + i + 1) ≤ d * (B + i + 1) := Nat.mul_le_mul_right _ (by omega)
      omega
  refine ⟨d, q, N, hdd, hqq, hNN, hlm, h1.2, h2, by omega, hq3, hpq, by omega, ?_⟩
  have hdl := digs_len bias 16 N N 36 (by have : (10 : Nat) ^ 16 = 10000000000000000 := by decide
                                          omega)
  refine ⟨by omega, ?_, by simp; omega, by simp; omega, nb_bd _ _ _, ?_, h1.2, ?_⟩
  · rw [← h.eq, hd, fewN, ← hdd, ← hqq, ← hNN]; simp
  · have := h.len
    rw [List.length_append]; omega
  · match hnx : R.drop (i + 1) with
    | [] => exact trivial
    | (m', p') :: r =>
      have hs := ho.srt
      have hsd : Srt (R.drop i) := List.Pairwise.sublist (List.drop_sublist i R) hs
      rw [hd, hnx] at hsd
      have hlt := (List.pairwise_cons.1 hsd).1 (m', p') List.mem_cons_self
      refine ⟨ltP_le hlt, fun e => ?_⟩
      have e2 : m = m' := e
      have : p < p' := by unfold ltP at hlt; simp at hlt; omega
      rw [cntLt_cons, if_pos this]
      have := cntLt_mono told (Nat.le_of_lt this)
      omega

end Go.Proofs.YtgmjfnddeogfdaaDoor
