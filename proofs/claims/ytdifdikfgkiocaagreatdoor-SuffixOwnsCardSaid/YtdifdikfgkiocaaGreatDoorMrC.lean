/-
  Plain words on the document's reading of sixteen bytes: four bytes, pieces, where nothing stands.
  Contract: the document's four bytes.
  Contract: the document's pieces.
  Contract: the document's Six.
-/
import Derived.Test.YtdifdikfgkiocaaGreatDoorMaA
import Derived.Test.YtdifdikfgkiocaaGreatDoorMrF
import Derived.Test.YtdifdikfgkiocaaGreatDoorMaC
import Derived.Deep.DeepCutAuto
import Derived.Test.YtdifdikfgkiocaaGreatDoorMaG
import Derived.Test.YtdifdikfgkiocaaGreatDoorMhB
namespace Go.Proofs.YtdifdikfgkiocaaGreatDoor
open Go.RowKit

theorem evs_none {f : List UInt8 → Option (List Nat)} : ∀ Q : List (List UInt8), (∃ q ∈ Q, f q = none) → evs f f Q = none
 | [], ⟨q, h, _⟩ => by cases h
 | [q], ⟨p, h, hp⟩ => by rw [List.mem_singleton.1 h] at hp; exact hp
 | q :: p :: Q, ⟨x, h, hx⟩ => by
  rw [evs_cons _ _ _ (by simp)]
  rcases List.mem_cons.1 h with rfl | h
  ·rw [hx]
  ·rw [evs_none (p :: Q) ⟨x, h, hx⟩]
   cases f q <;> rfl
theorem evs_each {f : List UInt8 → Option (List Nat)} : ∀ (Q : List (List UInt8)) (ns : List Nat), Q ≠ [] → Q.map f = ns.map (fun n => some [n]) → evs f f Q = some ns
 | [], _, h, _ => absurd rfl h
 | [q], ns, _, h => by
  match ns, h with
  | [n], h => have : f q = some [n] := by simpa using h
              exact this
  | [], h => simp at h
  | _ :: _ :: _, h => simp at h
 | q :: p :: Q, ns, _, h => by
  match ns, h with
  | n :: ns, h =>
   obtain ⟨e1, e2⟩ := List.cons.inj (show f q :: (p :: Q).map f = some [n] :: ns.map (fun n => some [n]) from h)
   rw [evs_cons _ _ _ (by simp), evs_each (p :: Q) ns (by simp) e2, e1]; rfl
  | [], h => simp at h
theorem evs_len1 {f : List UInt8 → Option (List Nat)} (hf : ∀ q ns, f q = some ns → ns.length = 1) : ∀ (Q : List (List UInt8)) (ns : List Nat), evs f f Q = some ns → ns.length = Q.length
 | [], ns, h => by cases h
 | [q], ns, h => hf q ns h
 | q :: p :: Q, ns, h => by
  rw [evs_cons _ _ _ (by simp)] at h
  cases h1 : f q with
  | none => rw [h1] at h; cases h
  | some a =>
   rw [h1] at h
   cases h2 : evs f f (p :: Q) with
   | none => rw [h2] at h; cases h
   | some b =>
    rw [h2] at h
    have h := Option.some.inj h
    rw [← h, List.length_append, hf q a h1, evs_len1 hf (p :: Q) b h2]; simp; omega
theorem sm1_is {q : List UInt8} {ns : List Nat} (h : sm1 q = some ns) : ∃ n, ns = [n] ∧ n ≤ 255 := by
 unfold sm1 at h
 split at h
 ·cases h
 ·split at h
  ·split at h
   ·cases h
   ·rename_i n _ hn
    injection h with h
    exact ⟨n, h.symm, by omega⟩
  ·cases h
theorem sm1_bad1 {q : List UInt8} (h : cnt 10 q = none) : sm1 q = none := by
 unfold sm1; rw [h]; split <;> rfl
theorem sm1_bad2 {q : List UInt8} (h : q = []) : sm1 q = none := by subst h; rfl
theorem sm1_bad3 {q : List UInt8} (h1 : 1 < q.length) (h2 : q.head? = some 48) : sm1 q = none := by
 unfold sm1; rw [if_pos (.inr ⟨h1, h2⟩)]
theorem sm1_bad4 {q : List UInt8} {n : Nat} (h1 : cnt 10 q = some n) (h2 : 255 < n) : sm1 q = none := by
 unfold sm1; rw [h1]; simp [h2]
theorem sm1_good {q : List UInt8} {n : Nat} (h0 : q ≠ []) (h1 : ¬ (1 < q.length ∧ q.head? = some 48)) (h2 : cnt 10 q = some n) (h3 : ¬ 255 < n) : sm1 q = some [n] := by
 unfold sm1
 rw [if_neg (by rintro (h | h); exact h0 h; exact h1 h), h2]; simp [h3]
theorem sm1_val {q : List UInt8} {ms : List Nat} (h : sm1 q = some ms) : ∃ n, cnt 10 q = some n ∧ ms = [n] ∧ n ≤ 255 := by
 unfold sm1 at h
 split at h
 ·cases h
 ·split at h
  ·split at h
   ·cases h
   ·rename_i n hn h3
    injection h with h
    exact ⟨n, hn, h.symm, by omega⟩
  ·cases h
/-- Four bytes with points. -/
def byt (q : List UInt8) : Option (List Nat) := match evs sm1 sm1 (pts 46 q) with
 | some ns => if ns.length = 4 then some ns else none
 | none => none
theorem four1_byt (q : List UInt8) : four1 q = match byt q with
  | some ns => two4 ns
  | none => none := by
 unfold four1 byt
 cases evs sm1 sm1 (pts 46 q) with
 | none => rfl
 | some ns =>
  simp only
  by_cases h : ns.length = 4
  ·rw [if_pos h]
  ·rw [if_neg h]
   match ns, h with
   | [], _ => rfl
   | [_], _ => rfl
   | [_, _], _ => rfl
   | [_, _, _], _ => rfl
   | [_, _, _, _], h => simp at h
   | _ :: _ :: _ :: _ :: _ :: _, _ => rfl
theorem byt_few {q : List UInt8} (h : (pts 46 q).length ≠ 4) : byt q = none := by
 unfold byt
 cases h2 : evs sm1 sm1 (pts 46 q) with
 | none => rfl
 | some ns =>
  simp only
  rw [if_neg]
  rw [evs_len1 (fun q ns h => by obtain ⟨n, rfl, _⟩ := sm1_is h; rfl) _ _ h2]; exact h
theorem byt_none {q : List UInt8} (h : ∃ p ∈ pts 46 q, sm1 p = none) : byt q = none := by
 unfold byt; rw [evs_none _ h]
theorem byt_some {q : List UInt8} {ns : List Nat} (h4 : ns.length = 4) (h : (pts 46 q).map sm1 = ns.map (fun n => some [n])) : byt q = some ns := by
 unfold byt
 rw [evs_each _ ns (by
  intro e
  rw [e] at h
  have := congrArg List.length h
  simp [h4] at this) h]
 simp [h4]

theorem pts_mem_len (a : UInt8) : ∀ (l p : List UInt8), p ∈ pts a l → p.length ≤ l.length := by
 intro l
 induction l with
 | nil => intro p hp; simp [pts] at hp; subst hp; simp
 | cons c l ih =>
  intro p hp
  rw [pts] at hp
  split at hp
  ·rcases List.mem_cons.1 hp with rfl | hp
   ·simp
   ·have := ih p hp; simp; omega
  ·cases h : pts a l with
   | nil => exact absurd h (pts_ne a l)
   | cons x y =>
    rw [h] at hp ih
    rcases List.mem_cons.1 hp with rfl | hp
    ·have := ih x List.mem_cons_self; simp; omega
    ·have := ih p (List.mem_cons_of_mem _ hp); simp; omega

/-- While pieces are read: k of them have told ns. -/
def PcS (f g : List UInt8 → Option (List Nat)) (Q : List (List UInt8)) (k : Nat) (ns : List Nat) : Prop :=
 (k < Q.length → evs f g Q = (evs f g (Q.drop k)).map (ns ++ ·)) ∧ (k = Q.length → evs f g Q = some ns)
theorem pcS_zero {f g : List UInt8 → Option (List Nat)} {Q : List (List UInt8)} (h : Q ≠ []) : PcS f g Q 0 [] :=
 ⟨fun _ => by rw [List.drop_zero]; cases evs f g Q <;> rfl, fun e => absurd (List.eq_nil_of_length_eq_zero e.symm) h⟩
theorem pcS_on {f g : List UInt8 → Option (List Nat)} {Q : List (List UInt8)} {k : Nat} {ns ms : List Nat} (h : PcS f g Q k ns) (hk : k < Q.length) (h1 : k + 1 < Q.length → f Q[k] = some ms) (h2 : k + 1 = Q.length → g Q[k] = some ms) : PcS f g Q (k + 1) (ns ++ ms) := by
 have h0 := h.1 hk
 rw [List.drop_eq_getElem_cons hk] at h0
 refine ⟨fun hl => ?_, fun he => ?_⟩
 ·rw [h0, evs_cons _ _ _ (by intro e; have := congrArg List.length e; simp at this; omega), h1 hl]
  cases evs f g (Q.drop (k + 1)) with
  | none => rfl
  | some x => simp
 ·rw [h0, List.drop_of_length_le (by omega)]
  show (g Q[k]).map _ = _
  rw [h2 he]; rfl
theorem pcS_no {f g : List UInt8 → Option (List Nat)} {Q : List (List UInt8)} {k : Nat} {ns : List Nat} (h : PcS f g Q k ns) (hk : k < Q.length) (h1 : k + 1 < Q.length → f Q[k] = none) (h2 : k + 1 = Q.length → g Q[k] = none) : evs f g Q = none := by
 have h0 := h.1 hk
 rw [List.drop_eq_getElem_cons hk] at h0
 rw [h0]
 by_cases hl : k + 1 < Q.length
 ·rw [evs_cons _ _ _ (by intro e; have := congrArg List.length e; simp at this; omega), h1 hl]; rfl
 ·rw [List.drop_of_length_le (by omega)]
  show (g Q[k]).map _ = _
  rw [h2 (by omega)]; rfl

/-- No two colons together up to k. -/
theorem cut2_clear : ∀ l : List UInt8, (∀ i, i + 1 < l.length → ¬ (l[i]? = some 58 ∧ l[i + 1]? = some 58)) → cut2 l = none
 | [], _ => rfl
 | c :: l, h => by
  rw [cut2, if_neg, cut2_clear l (fun i hi hc => h (i + 1) (by simp; omega) (by simpa using hc))]
  intro hp
  cases l with
  | nil => simp [List.isPrefixOf] at hp
  | cons d l =>
   simp [List.isPrefixOf] at hp
   exact h 0 (by simp) (by simp [hp.1.symm, hp.2.symm])
theorem cut2_at : ∀ (l : List UInt8) (k : Nat), k + 1 < l.length → l[k]? = some 58 → l[k + 1]? = some 58 → (∀ i, i < k → ¬ (l[i]? = some 58 ∧ l[i + 1]? = some 58)) → cut2 l = some (l.take k, l.drop (k + 2))
 | [], k, h, _, _, _ => by simp at h
 | c :: l, 0, h, h1, h2, _ => by
  rw [cut2, if_pos]
  ·rfl
  ·cases l with
   | nil => simp at h
   | cons d l =>
    simp at h1 h2
    subst h1; subst h2
    simp [List.isPrefixOf]
 | c :: l, k + 1, h, h1, h2, hn => by
  rw [cut2, if_neg, cut2_at l k (by simpa using h) (by simpa using h1) (by simpa using h2) (fun i hi hc => hn (i + 1) (by omega) (by simpa using hc))]
  ·simp
  ·intro hp
   cases l with
   | nil => simp [List.isPrefixOf] at hp
   | cons d l =>
    simp [List.isPrefixOf] at hp
    exact hn 0 (by omega) (by simp [hp.1.symm, hp.2.symm])

end Go.Proofs.YtdifdikfgkiocaaGreatDoor
namespace Go.Proofs.YtdifdikfgkiocaaGreatDoor
open Go.RowKit

theorem RfinfoB : (Tryz.prog.info? 5).map (fun i => (i.zero, i.size, i.bytes)) = some (some (.int .u8 0), 1, 1) := by kernel_rfl
/-- Bytes are put behind a row. -/
theorem appU8 (base q m c : Nat) (v : Value) (D news : List Value) (w : World) (hown : w.ownsRow base 5 1 v D.length D) (hl : news.length = m) (hnews : ∀ j (hj : j < news.length), w.cell? ⟨q, j, none⟩ = some news[j]) (h1 : ∀ u ∈ news, u.oneCell' = true) (hD : D.length + m ≤ 10000000) (hb : base ≤ w.heap.size) :
  ∃ v' w1, (Builtin.append_ #[34, 34] 34 #[v, .slice (some ⟨q, 0, none⟩) m c]).run Tryz.prog w = .ok v' w1 ∧ w1.ownsRow base 5 1 v' (D ++ news).length (D ++ news) ∧ ∀ w0 B, B ≤ base → Below B w0 w → Below B w0 w1 := by
 obtain ⟨i0, hi, hz0, hz1, hz2⟩ := info_parts RfinfoB
 have hn : ∀ j u, news[j]? = some u → w.cell? ((⟨q, 0, none⟩ : Addr).add j) = some u := by
  intro j u h
  obtain ⟨hj, rfl⟩ := List.getElem?_eq_some_iff.1 h
  rw [← hnews j hj, Addr.add_lit, Nat.zero_add]
 obtain ⟨v', w1, hrun, hown', hgrow, _⟩ := run_append_own (P := Tryz.prog) w base 34 34 5 i0 (.int .u8 0) 1 1 Tryz.underlying34 hi hz0 hz1 hz2 rfl (by decide)
  v D.length D hown ⟨q, 0, none⟩ m c news (by omega) hn h1 (by unfold maxLen; omega) (by omega) hb
 refine ⟨v', w1, hrun, ?_, fun w0 B hB0 hB => hB.grown hgrow (by omega) (fun q hq => by have := (hown.lt q hq).1; omega)⟩
 rw [List.length_append, hl]; exact hown'

theorem own_base {w : World} {base base' : Nat} {e : TypeId} {size : Nat} {v : Value} {n : Nat} {xs : List Value} (h : w.ownsRow base e size v n xs) (hb : base' ≤ base) : w.ownsRow base' e size v n xs := by
 obtain ⟨h1, h2⟩ := h
 refine ⟨h1, ?_⟩
 rcases h2 with h2 | ⟨g, cap, cur, rfl, hg, r⟩
 ·exact .inl h2
 ·exact .inr ⟨g, cap, cur, rfl, Nat.le_trans hb hg, r⟩

/-- What is answered of four bytes. -/
def BytPost (o : Option (List Nat)) (w : World) (e : Ending) (w' : World) : Prop :=
 Below w.heap.size w w' ∧ match o with
 | some ns => ∃ v, e = .returned (.tuple #[v, .bool true]) ∧ w'.ownsRow w.heap.size 5 1 v 4 (ns.map u8v)
 | none => e = .returned (.tuple #[.slice none 0 0, .bool false])
theorem BytPost.no {o : Option (List Nat)} {w w' : World} (h : o = none) (b : Below w.heap.size w w') : BytPost o w (.returned (.tuple #[.slice none 0 0, .bool false])) w' := by subst h; exact ⟨b, rfl⟩

set_option maxRecDepth 100000 in
set_option maxHeartbeats 1000000 in
theorem RfRefBytes_any (s : ByteArray) (w : World) (hs : s.size ≤ 1048600) :
  Calls Tryz.prog 141 #[.string s] w (BytPost (byt s.data.toList) w) := by
 have HPs : Hid (∀ w, Calls Tryz.prog 115 #[.string s, .int .u8 46] w fun e w' => ∃ (v : Value) (D : List ByteArray), e = .returned v ∧ D.map (·.data.toList) = pts 46 s.data.toList ∧ w'.ownsRow w.heap.size 9 1 v D.length (D.map Value.string) ∧ Below w.heap.size w w') := Lib.hid (fun w => RefParts_any s 46 w hs)
 go_enter Tryz.func141, Tryz.ntmps141
 go_wp2_with fail
 refine (HPs.out _).mono ?_
 rintro e w1 ⟨v, D, rfl, hD, own1, b1⟩
 have B1 := Lib.hid b1
 have HD := Lib.hid hD
 rcases own1.2 with ⟨_, h0⟩ | ⟨g, cap, cur, rfl, hg, hgb, hcap, _⟩
 ·exfalso
  have h1 := congrArg List.length hD
  rw [List.length_map] at h1
  have : 0 < (pts 46 s.data.toList).length := List.length_pos_iff.2 (pts_ne _ _)
  omega
 have HCs : Hid (∀ j, (hj : j < D.length) → w1.cell? ⟨g, j, none⟩ = some (.string D[j])) := Lib.hid (fun j hj => by
  rw [own1.cellAt j (by omega), List.getElem?_map, List.getElem?_eq_getElem hj]; rfl)
 have HGb := Lib.hid (lt_of_block hgb)
 have HSz : Hid (∀ q ∈ D, q.size ≤ 1048600) := Lib.hid (fun q hqD => by
  have h2 : q.data.toList ∈ pts 46 s.data.toList := by
   rw [← hD]
   exact List.mem_map_of_mem hqD
  have h3 := pts_mem_len _ _ _ h2
  rw [lenB, lenB] at h3; omega)
 clear own1 b1 hgb hD hcap
 by_cases h4 : D.length = 4
 ·have h4I : ((D.length : Int) != 4) = false := by rw [h4]; rfl
  have H4 := Lib.hid h4
  go_wp2
  clear h4 h4I
  go_loopw [5, 6, 7, 8] (fun v i _ _ wr => ∃ (k : Nat) (ns : List Nat), k ≤ 4 ∧ i = .int .i64 k ∧ ns.length = k ∧ Hid (((pts 46 s.data.toList).take k).map sm1 = ns.map (fun n => some [n])) ∧ Hid (wr.ownsRow w1.heap.size 5 1 v ns.length (ns.map u8v)) ∧ Hid (Below w1.heap.size w1 wr) ∧ Hid (Below w.heap.size w wr)) (fun _ i _ _ _ => 4 - (intOf i).toNat)
  case atStart => exact ⟨0, [], by omega, rfl, rfl, Lib.hid rfl, Lib.hid ⟨rfl, .inl ⟨rfl, rfl⟩⟩, Lib.hid (Below.refl _ _), B1⟩
  case round =>
   obtain ⟨k, ns, hk, rfl, hns, HM, HO, HB1, HB⟩ := hrel
   have hPl : (pts 46 s.data.toList).length = 4 := by rw [← HD.out, List.length_map]; exact H4.out
   by_cases hlt : k < 4
   ·have hkD : k < D.length := by have := H4.out; omega
    obtain ⟨p, HP⟩ : ∃ p, Hid (D[k] = p) := ⟨_, Lib.hid rfl⟩
    have hck : wr.cell? ⟨g, k, none⟩ = some (.string p) := by
     rw [HB1.out.cell (p := ⟨g, k, none⟩) HGb.out, HCs.out k hkD, HP.out]
    have hps : p.size ≤ 1048600 := HSz.out p (by rw [← HP.out]; exact List.getElem_mem hkD)
    have HPq : Hid ((pts 46 s.data.toList)[k]? = some p.data.toList) := Lib.hid (by
     rw [← HD.out, List.getElem?_map, List.getElem?_eq_getElem hkD, HP.out]; rfl)
    obtain ⟨N, HNv⟩ : ∃ N, Hid ((cnt 10 p.data.toList).getD 0 = N) := ⟨_, Lib.hid rfl⟩
    obtain ⟨K, HKv⟩ : ∃ K, Hid ((cnt 10 p.data.toList).isSome = K) := ⟨_, Lib.hid rfl⟩
    have HNk : Hid (∀ w, Calls Tryz.prog 140 #[.string p, .int .i64 10] w fun e w' => e = .returned (.tuple #[.int .i64 (N : Int), .bool K]) ∧ w = w') := Lib.hid (fun w => by
     have := RefCount_any p 10 w hps (by omega)
     rw [optV_two, HNv.out, HKv.out] at this; exact this)
    go_upto_region 9 with (first | (go_at_call 140; refine (HNk.out _).mono ?_; rintro e w' ⟨rfl, rfl⟩))
    obtain ⟨bd, HBd⟩ : ∃ bd, Hid ((sm1 p.data.toList).isNone = bd) := ⟨_, Lib.hid rfl⟩
    have HK1 : Hid (K = true → cnt 10 p.data.toList = some N) := Lib.hid (fun e => by
     have h1 := HKv.out
     have h2 := HNv.out
     rw [e] at h1
     cases h : cnt 10 p.data.toList with
     | none => rw [h] at h1; cases h1
     | some n => rw [h] at h2; rw [show n = N from h2])
    have HL := Lib.hid (lenB p)
    go_cut [55] (fun s55 wx => s55 = .bool bd ∧ wr = wx)
    case first =>
     cases K with
     | false =>
      have Hb : Hid (bd = true) := Lib.hid (by
       rw [← HBd.out, sm1_bad1]; rfl
       cases h : cnt 10 p.data.toList with
       | none => rfl
       | some n => have := HKv.out; rw [h] at this; cases this)
      go_wp2
      go_meet
      exact ⟨by rw [Hb.out], rfl⟩
     | true =>
      have HC := Lib.hid (HK1.out rfl)
      by_cases h0 : p.size = 0
      ·have h0I : ((p.size : Int) == 0) = true := by rw [h0]; rfl
       have Hb : Hid (bd = true) := Lib.hid (by
        rw [← HBd.out, sm1_bad2 (List.eq_nil_of_length_eq_zero (by rw [HL.out]; exact h0))]; rfl)
       clear h0
       go_wp2
       go_meet
       exact ⟨by rw [Hb.out], rfl⟩
      ·have h0I : ((p.size : Int) == 0) = false := beq_eq_false_iff_ne.2 (by omega)
       have g0 : 0 < p.size := by omega
       have hh : Hid (p.data.toList.head? = some (p[0]'g0)) := Lib.hid (by
        rw [List.head?_eq_getElem?, List.getElem?_eq_getElem (by rw [HL.out]; exact g0)]; rfl)
       have HNe : Hid (p.data.toList ≠ []) := Lib.hid (by intro e; have := HL.out; rw [e] at this; simp at this; omega)
       by_cases h1 : 1 < p.size
       ·have h1I : (1 : Int) < (p.size : Int) := by omega
        by_cases h48 : (p[0]'g0).toNat = 48
        ·have h48I : (((p[0]'g0).toNat : Int) == 48) = true := by rw [h48]; rfl
         have Hb : Hid (bd = true) := Lib.hid (by
          rw [← HBd.out, sm1_bad3 (by rw [HL.out]; exact h1) (by rw [hh.out]; exact congrArg some (UInt8.toNat_inj.1 h48))]; rfl)
         clear h0 h1 h48
         go_wp2
         go_meet
         exact ⟨by rw [Hb.out], rfl⟩
        ·have h48I : (((p[0]'g0).toNat : Int) == 48) = false := beq_eq_false_iff_ne.2 (by omega)
         have HH : Hid (¬ (1 < p.data.toList.length ∧ p.data.toList.head? = some 48)) := Lib.hid (fun ⟨_, e⟩ => by
          rw [hh.out] at e; injection e with e; exact h48 (by rw [e]; rfl))
         clear h0 h1 h48
         by_cases h255 : 255 < N
         ·have hI : (255 : Int) < (N : Int) := by omega
          have Hb : Hid (bd = true) := Lib.hid (by rw [← HBd.out, sm1_bad4 HC.out h255]; rfl)
          go_wp2
          go_meet
          exact ⟨by rw [Hb.out], rfl⟩
         ·have hI : ¬ (255 : Int) < (N : Int) := by omega
          have Hb : Hid (bd = false) := Lib.hid (by rw [← HBd.out, sm1_good HNe.out HH.out HC.out h255]; rfl)
          go_wp2
          go_meet
          exact ⟨by rw [Hb.out], rfl⟩
       ·have h1I : ¬ (1 : Int) < (p.size : Int) := by omega
        have HH : Hid (¬ (1 < p.data.toList.length ∧ p.data.toList.head? = some 48)) := Lib.hid (fun ⟨e, _⟩ => by
         rw [HL.out] at e; exact h1 e)
        clear h0 h1
        by_cases h255 : 255 < N
        ·have hI : (255 : Int) < (N : Int) := by omega
         have Hb : Hid (bd = true) := Lib.hid (by rw [← HBd.out, sm1_bad4 HC.out h255]; rfl)
         go_wp2
         go_meet
         exact ⟨by rw [Hb.out], rfl⟩
        ·have hI : ¬ (255 : Int) < (N : Int) := by omega
         have Hb : Hid (bd = false) := Lib.hid (by rw [← HBd.out, sm1_good HNe.out HH.out HC.out h255]; rfl)
         go_wp2
         go_meet
         exact ⟨by rw [Hb.out], rfl⟩
    case rest =>
    obtain ⟨rfl, rfl⟩ := hcut
    cases bd with
    | true =>
     have HN := Lib.hid (byt_none (q := s.data.toList) ⟨p.data.toList, List.mem_of_getElem? HPq.out, by
      have := HBd.out
      cases h : sm1 p.data.toList with
      | none => rfl
      | some ms => rw [h] at this; cases this⟩)
     go_wp2
     go_ret2
     exact BytPost.no HN.out HB.out
    | false =>
     obtain ⟨ms, hms⟩ : ∃ ms, sm1 p.data.toList = some ms := by
      have := HBd.out
      cases h : sm1 p.data.toList with
      | none => rw [h] at this; cases this
      | some ms => exact ⟨ms, rfl⟩
     obtain ⟨n, hn1, rfl, hn2⟩ := sm1_val hms
     obtain rfl : n = N := by have := HNv.out; rw [hn1] at this; exact this
     have HMs := Lib.hid hms
     clear hms hn1
     obtain ⟨v', w1', hrun, hown, hbel⟩ := appU8 w1.heap.size wr.heap.size 1 1 _ (ns.map u8v) [.int .u8 (n : Int)] (wr.alloc (.cells #[.int .u8 (n : Int)] 5)) (by rw [List.length_map]; exact HO.out.alloc _) rfl
      (fun j hj => by
       obtain rfl : j = 0 := by simp at hj; exact hj
       exact (Holds1.new wr _ _).cell) (by intro u hu; rw [List.mem_singleton.1 hu]; rfl) (by simp; omega) (by have := HB1.out.size; simp; omega)
     have HRun := Lib.hid hrun
     have HO1 : Hid (w1'.ownsRow w1.heap.size 5 1 v' (ns ++ [n]).length ((ns ++ [n]).map u8v)) := Lib.hid (by
      have e1 : ns.map u8v ++ [Value.int .u8 (n : Int)] = (ns ++ [n]).map u8v := by
       rw [List.map_append, List.map_cons, List.map_nil, u8v]
      rw [e1] at hown
      rw [List.length_map] at hown; exact hown)
     have hbW := hbel w w.heap.size B1.out.size (HB.out.alloc HB.out.size _)
     have HM1 : Hid (((pts 46 s.data.toList).take (k + 1)).map sm1 = (ns ++ [n]).map (fun n => some [n])) := Lib.hid (by
      have e : (pts 46 s.data.toList).take (k + 1) = (pts 46 s.data.toList).take k ++ [p.data.toList] := by
       rw [List.take_add_one, HPq.out]; rfl
      rw [e, List.map_append, HM.out, List.map_append, List.map_cons, HMs.out]; rfl)
     have HBW := Lib.hid hbW
     clear hrun hown hbW
     go_wp2_with (at_builtin; refine Lib.wpList_append_run _ rfl _ _ _ _ rfl _ _ rfl rfl _ _ HRun.out ?_)
     exact ⟨⟨k + 1, ns ++ [n], by omega, by go_num, by simp [hns], HM1, HO1, Lib.hid (hbel w1 w1.heap.size (Nat.le_refl _) (HB1.out.alloc HB1.out.size _)), HBW⟩, by simp [intOf]; omega⟩
   ·obtain rfl : k = 4 := by omega
    have HY := Lib.hid (byt_some (q := s.data.toList) (ns := ns) hns (by
     rw [← HM.out, List.take_of_length_le (by omega)]))
    go_wp2
    go_ret2
    refine ⟨HB.out, ?_⟩
    rw [HY.out]
    exact ⟨_, rfl, by have := own_base HO.out B1.out.size; rwa [hns] at this⟩
 ·have h4I : ((D.length : Int) != 4) = true := by simp; omega
  have HN := Lib.hid (byt_few (q := s.data.toList) (by rw [← HD.out, List.length_map]; exact h4))
  clear h4
  go_wp2
  go_ret2
  exact BytPost.no HN.out B1.out

end Go.Proofs.YtdifdikfgkiocaaGreatDoor
namespace Go.Proofs.YtdifdikfgkiocaaGreatDoor
open Go.RowKit

theorem evs_le {f : List UInt8 → Option (List Nat)} {B : Nat} (hf : ∀ q ns, f q = some ns → ∀ n ∈ ns, n ≤ B) : ∀ (Q : List (List UInt8)) (ns : List Nat), evs f f Q = some ns → ∀ n ∈ ns, n ≤ B
 | [], ns, h => by cases h
 | [q], ns, h => hf q ns h
 | q :: p :: Q, ns, h => by
  rw [evs_cons _ _ _ (by simp)] at h
  cases h1 : f q with
  | none => rw [h1] at h; cases h
  | some a =>
   rw [h1] at h
   cases h2 : evs f f (p :: Q) with
   | none => rw [h2] at h; cases h
   | some b =>
    rw [h2] at h
    have h := Option.some.inj h
    subst h
    intro n hn
    rcases List.mem_append.1 hn with hn | hn
    ·exact hf q a h1 n hn
    ·exact evs_le hf (p :: Q) b h2 n hn
theorem byt_is {q : List UInt8} {ns : List Nat} (h : byt q = some ns) : ∃ a b c d, ns = [a, b, c, d] ∧ a ≤ 255 ∧ b ≤ 255 ∧ c ≤ 255 ∧ d ≤ 255 := by
 unfold byt at h
 split at h
 ·rename_i ms hms
  split at h
  ·rename_i h4
   injection h with h; subst h
   have hle := evs_le (f := sm1) (B := 255) (fun q ns h => by obtain ⟨n, rfl, hn⟩ := sm1_is h; intro m hm; rw [List.mem_singleton.1 hm]; exact hn) _ _ hms
   match ms, h4 with
   | [a, b, c, d], _ => exact ⟨a, b, c, d, rfl, hle a (by simp), hle b (by simp), hle c (by simp), hle d (by simp)⟩
  ·cases h
 ·cases h
theorem pb_two {a b c d : Nat} (ha : a ≤ 255) (hb : b ≤ 255) (hc : c ≤ 255) (hd : d ≤ 255) : pb [256 * a + b, 256 * c + d] = [a, b, c, d] := by
 show [(256 * a + b) / 256 % 256, (256 * a + b) % 256, (256 * c + d) / 256 % 256, (256 * c + d) % 256] = _
 rw [show (256 * a + b) / 256 % 256 = a by omega, show (256 * a + b) % 256 = b by omega, show (256 * c + d) / 256 % 256 = c by omega, show (256 * c + d) % 256 = d by omega]
theorem pb_one (n : Nat) : pb [n] = [n / 256 % 256, n % 256] := rfl
theorem pc1_val {q : List UInt8} {ms : List Nat} (h : pc1 q = some ms) : ∃ n, cnt 16 q = some n ∧ ms = [n] := by
 unfold pc1 at h
 split at h
 ·split at h
  ·rename_i n hn; injection h with h; exact ⟨n, hn, h.symm⟩
  ·cases h
 ·cases h
theorem pc1_bad1 {q : List UInt8} (h : cnt 16 q = none) : pc1 q = none := by unfold pc1; rw [h]; split <;> rfl
theorem pc1_bad2 {q : List UInt8} (h : ¬ (1 ≤ q.length ∧ q.length ≤ 4)) : pc1 q = none := by unfold pc1; rw [if_neg h]
theorem pc1_good {q : List UInt8} {n : Nat} (h : 1 ≤ q.length ∧ q.length ≤ 4) (h2 : cnt 16 q = some n) : pc1 q = some [n] := by unfold pc1; rw [if_pos h, h2]
/-- The last piece. -/
def lastP (en : Bool) : List UInt8 → Option (List Nat) := if en then both1 else pc1
theorem lastP_pc {en : Bool} {q : List UInt8} {ms : List Nat} (h : pc1 q = some ms) : lastP en q = some ms := by
 cases en
 ·exact h
 ·show both1 q = _; unfold both1; rw [h]
theorem lastP_none {q : List UInt8} (h : pc1 q = none) (h2 : byt q = none) (en : Bool) : lastP en q = none := by
 cases en
 ·exact h
 ·show both1 q = _; unfold both1; rw [h, four1_byt, h2]
theorem lastP_four {q : List UInt8} {ns : List Nat} (h : pc1 q = none) (h2 : byt q = some ns) : lastP true q = two4 ns := by
 show both1 q = _; unfold both1; rw [h, four1_byt, h2]

/-- What is answered of pieces. -/
def PcsPost (o : Option (List Nat)) (w : World) (e : Ending) (w' : World) : Prop :=
 Below w.heap.size w w' ∧ match o with
 | some ns => ∃ v, e = .returned (.tuple #[v, .bool true]) ∧ w'.ownsRow w.heap.size 5 1 v (pb ns).length ((pb ns).map u8v)
 | none => e = .returned (.tuple #[.slice none 0 0, .bool false])
theorem PcsPost.no {o : Option (List Nat)} {w w' : World} (h : o = none) (b : Below w.heap.size w w') : PcsPost o w (.returned (.tuple #[.slice none 0 0, .bool false])) w' := by subst h; exact ⟨b, rfl⟩

set_option maxRecDepth 100000 in
set_option maxHeartbeats 1000000 in
theorem RefPieces_any (s : ByteArray) (en : Bool) (w : World) (hs : s.size ≤ 1048600) :
  Calls Tryz.prog 106 #[.string s, .bool en] w (PcsPost (piecesD en s.data.toList) w) := by
 have HPs : Hid (∀ w, Calls Tryz.prog 115 #[.string s, .int .u8 58] w fun e w' => ∃ (v : Value) (D : List ByteArray), e = .returned v ∧ D.map (·.data.toList) = pts 58 s.data.toList ∧ w'.ownsRow w.heap.size 9 1 v D.length (D.map Value.string) ∧ Below w.heap.size w w') := Lib.hid (fun w => RefParts_any s 58 w hs)
 by_cases hz : s.data.toList = []
 ·have hem : s.toList.isEmpty = true := by rw [ByteArray.toList_eq, hz]; rfl
  have HP : Hid (piecesD en s.data.toList = some []) := Lib.hid (by rw [hz]; rfl)
  clear hz
  go_enter Tryz.func106, Tryz.ntmps106
  go_wp2
  go_ret2
  refine ⟨Below.refl _ _, ?_⟩
  rw [HP.out]
  exact ⟨_, rfl, ⟨rfl, .inl ⟨rfl, rfl⟩⟩⟩
 have hem : s.toList.isEmpty = false := by rw [ByteArray.toList_eq, List.isEmpty_eq_false_iff]; exact hz
 obtain ⟨Q, HQ⟩ : ∃ Q, Hid (pts 58 s.data.toList = Q) := ⟨_, Lib.hid rfl⟩
 have HPD : Hid (piecesD en s.data.toList = evs pc1 (lastP en) Q) := Lib.hid (by rw [piecesD, if_neg hz, HQ.out]; rfl)
 obtain ⟨O, HO0⟩ : ∃ O, Hid (piecesD en s.data.toList = O) := ⟨_, Lib.hid rfl⟩
 rw [HO0.out] at HPD
 rw [HO0.out]
 clear hz
 go_enter Tryz.func106, Tryz.ntmps106
 go_wp2_with fail
 refine (HPs.out _).mono ?_
 rintro e w1 ⟨v, D, rfl, hD, own1, b1⟩
 have B1 := Lib.hid b1
 rw [HQ.out] at hD
 have HD := Lib.hid hD
 have hQne : Q ≠ [] := by rw [← HQ.out]; exact pts_ne _ _
 rcases own1.2 with ⟨_, h0⟩ | ⟨g, cap, cur, rfl, hg, hgb, hcap, _⟩
 ·exfalso
  have h1 := congrArg List.length hD
  rw [List.length_map] at h1
  have : 0 < Q.length := List.length_pos_iff.2 hQne
  omega
 have HCs : Hid (∀ j, (hj : j < D.length) → w1.cell? ⟨g, j, none⟩ = some (.string D[j])) := Lib.hid (fun j hj => by
  rw [own1.cellAt j (by omega), List.getElem?_map, List.getElem?_eq_getElem hj]; rfl)
 have HGb := Lib.hid (lt_of_block hgb)
 have hDl : D.length ≤ 1048601 := by
  have h1 := pts_len 58 s.data.toList
  rw [HQ.out, ← hD, List.length_map, lenB] at h1; omega
 have HSz : Hid (∀ q ∈ D, q.size ≤ 1048600) := Lib.hid (fun q hqD => by
  have h2 : q.data.toList ∈ pts 58 s.data.toList := by
   rw [HQ.out, ← hD]
   exact List.mem_map_of_mem hqD
  have h3 := pts_mem_len _ _ _ h2
  rw [lenB, lenB] at h3; omega)
 have HQl : Hid (Q.length = D.length) := Lib.hid (by rw [← hD, List.length_map])
 have HS0 := Lib.hid (pcS_zero (f := pc1) (g := lastP en) hQne)
 clear own1 b1 hgb hD hcap hQne
 go_wp2
 go_loopw [7, 8, 9, 10, 11] (fun v i _ _ _ wr => ∃ (k : Nat) (ns : List Nat), k ≤ D.length ∧ i = .int .i64 k ∧ (pb ns).length ≤ 4 * k ∧ Hid (PcS pc1 (lastP en) Q k ns) ∧ Hid (wr.ownsRow w1.heap.size 5 1 v (pb ns).length ((pb ns).map u8v)) ∧ Hid (Below w1.heap.size w1 wr) ∧ Hid (Below w.heap.size w wr)) (fun _ i _ _ _ _ => D.length - (intOf i).toNat)
 case atStart => exact ⟨0, [], by omega, rfl, Nat.le_refl _, HS0, Lib.hid ⟨rfl, .inl ⟨rfl, rfl⟩⟩, Lib.hid (Below.refl _ _), B1⟩
 case round =>
  obtain ⟨k, ns, hk, rfl, hnl, HS, HO, HB1, HB⟩ := hrel
  by_cases hlt : k < D.length
  ·obtain ⟨p, HP⟩ : ∃ p, Hid (D[k] = p) := ⟨_, Lib.hid rfl⟩
   have hck : wr.cell? ⟨g, k, none⟩ = some (.string p) := by
    rw [HB1.out.cell (p := ⟨g, k, none⟩) HGb.out, HCs.out k hlt, HP.out]
   have hps : p.size ≤ 1048600 := HSz.out p (by rw [← HP.out]; exact List.getElem_mem hlt)
   have HkQ : Hid (k < Q.length) := Lib.hid (by have := HQl.out; omega)
   have HPq : Hid (∀ h : k < Q.length, Q[k] = p.data.toList) := Lib.hid (fun h => by
    have : Q[k]? = some p.data.toList := by
     rw [← HD.out, List.getElem?_map, List.getElem?_eq_getElem hlt, HP.out]; rfl
    rw [List.getElem?_eq_getElem h] at this
    exact Option.some.inj this)
   obtain ⟨N, HNv⟩ : ∃ N, Hid ((cnt 16 p.data.toList).getD 0 = N) := ⟨_, Lib.hid rfl⟩
   obtain ⟨K, HKv⟩ : ∃ K, Hid ((cnt 16 p.data.toList).isSome = K) := ⟨_, Lib.hid rfl⟩
   have HNk : Hid (∀ w, Calls Tryz.prog 140 #[.string p, .int .i64 16] w fun e w' => e = .returned (.tuple #[.int .i64 (N : Int), .bool K]) ∧ w = w') := Lib.hid (fun w => by
    have := RefCount_any p 16 w hps (by omega)
    rw [optV_two, HNv.out, HKv.out] at this; exact this)
   go_upto_region 9 with (first | (go_at_call 140; refine (HNk.out _).mono ?_; rintro e w' ⟨rfl, rfl⟩))
   obtain ⟨pk, HPk⟩ : ∃ pk, Hid ((pc1 p.data.toList).isSome = pk) := ⟨_, Lib.hid rfl⟩
   have HK1 : Hid (K = true → cnt 16 p.data.toList = some N) := Lib.hid (fun e => by
    have h1 := HKv.out
    have h2 := HNv.out
    rw [e] at h1
    cases h : cnt 16 p.data.toList with
    | none => rw [h] at h1; cases h1
    | some n => rw [h] at h2; rw [show n = N from h2])
   have HL := Lib.hid (lenB p)
   go_cut [46] (fun s46 wx => s46 = .bool pk ∧ wr = wx)
   case first =>
    cases K with
    | false =>
     have Hb : Hid (pk = false) := Lib.hid (by
      rw [← HPk.out, pc1_bad1]; rfl
      cases h : cnt 16 p.data.toList with
      | none => rfl
      | some n => have := HKv.out; rw [h] at this; cases this)
     go_wp2
     go_meet
     exact ⟨by rw [Hb.out], rfl⟩
    | true =>
     have HC := Lib.hid (HK1.out rfl)
     by_cases h0 : 1 ≤ p.size
     ·have h0I : (1 : Int) ≤ (p.size : Int) := by omega
      by_cases h4 : p.size ≤ 4
      ·have h4I : (p.size : Int) ≤ 4 := by omega
       have Hb : Hid (pk = true) := Lib.hid (by rw [← HPk.out, pc1_good (by rw [HL.out]; exact ⟨h0, h4⟩) HC.out]; rfl)
       clear h0 h4
       go_wp2
       go_meet
       exact ⟨by rw [Hb.out], rfl⟩
      ·have h4I : ¬ (p.size : Int) ≤ 4 := by omega
       have Hb : Hid (pk = false) := Lib.hid (by rw [← HPk.out, pc1_bad2 (by rw [HL.out]; exact fun h => h4 h.2)]; rfl)
       clear h0 h4
       go_wp2
       go_meet
       exact ⟨by rw [Hb.out], rfl⟩
     ·have h0I : ¬ (1 : Int) ≤ (p.size : Int) := by omega
      have Hb : Hid (pk = false) := Lib.hid (by rw [← HPk.out, pc1_bad2 (by rw [HL.out]; exact fun h => h0 h.1)]; rfl)
      clear h0
      go_wp2
      go_meet
      exact ⟨by rw [Hb.out], rfl⟩
   case rest =>
   obtain ⟨rfl, rfl⟩ := hcut
   cases pk with
   | true =>
    obtain ⟨ms, hms⟩ : ∃ ms, pc1 p.data.toList = some ms := by
     have := HPk.out
     cases h : pc1 p.data.toList with
     | none => rw [h] at this; cases this
     | some ms => exact ⟨ms, rfl⟩
    obtain ⟨n, hn1, rfl⟩ := pc1_val hms
    obtain rfl : n = N := by have := HNv.out; rw [hn1] at this; exact this
    have hnB : n ≤ 4294967296 := by
     have h := hn1
     unfold cnt at h
     split at h
     ·injection h with h; rw [← h]; exact fol_le _ _
     ·cases h
    have HS1 : Hid (PcS pc1 (lastP en) Q (k + 1) (ns ++ [n])) := Lib.hid (pcS_on HS.out HkQ.out (fun _ => by rw [HPq.out HkQ.out]; exact hms) (fun _ => by rw [HPq.out HkQ.out]; exact lastP_pc hms))
    clear hms hn1
    obtain ⟨v', w1', hrun, hown, hbel⟩ := appU8 w1.heap.size wr.heap.size 2 2 _ ((pb ns).map u8v) [.int .u8 ((n : Int) / 256 % 256), .int .u8 ((n : Int) % 256)] (wr.alloc (.cells #[.int .u8 ((n : Int) / 256 % 256), .int .u8 ((n : Int) % 256)] 5)) (by rw [List.length_map]; exact HO.out.alloc _) rfl
     (fun j hj => by
      have hb := heap_alloc_new wr (.cells #[.int .u8 ((n : Int) / 256 % 256), .int .u8 ((n : Int) % 256)] 5)
      obtain rfl | rfl : j = 0 ∨ j = 1 := by simp at hj; omega
      ·rw [World.cell?, hb]; rfl
      ·rw [World.cell?, hb]; rfl) (by intro u hu; simp at hu; rcases hu with rfl | rfl <;> rfl) (by rw [List.length_map]; omega) (by have := HB1.out.size; simp; omega)
    have HRun := Lib.hid hrun
    have hpl : (pb (ns ++ [n])).length = (pb ns).length + 2 := by rw [pb_append, List.length_append]; rfl
    have HO1 : Hid (w1'.ownsRow w1.heap.size 5 1 v' (pb (ns ++ [n])).length ((pb (ns ++ [n])).map u8v)) := Lib.hid (by
     have e1 : (pb ns).map u8v ++ [Value.int .u8 ((n : Int) / 256 % 256), .int .u8 ((n : Int) % 256)] = (pb (ns ++ [n])).map u8v := by
      rw [pb_append, List.map_append, pb_one]; rfl
     rw [e1, List.length_map] at hown; exact hown)
    have HBW := Lib.hid (hbel w w.heap.size B1.out.size (HB.out.alloc HB.out.size _))
    have HBX := Lib.hid (hbel w1 w1.heap.size (Nat.le_refl _) (HB1.out.alloc HB1.out.size _))
    clear hrun hown hbel
    go_wp2_with (at_builtin; refine Lib.wpList_append_run _ rfl _ _ _ _ rfl _ _ rfl rfl _ _ HRun.out ?_)
    exact ⟨⟨k + 1, ns ++ [n], by omega, by go_num, by omega, HS1, HO1, HBX, HBW⟩, by simp [intOf]; omega⟩
   | false =>
    have HNn : Hid (pc1 p.data.toList = none) := Lib.hid (by
     have := HPk.out
     cases h : pc1 p.data.toList with
     | none => rfl
     | some ms => rw [h] at this; cases this)
    obtain ⟨o, HOo⟩ : ∃ o, Hid (byt p.data.toList = o) := ⟨_, Lib.hid rfl⟩
    have HBt : Hid (Calls Tryz.prog 141 #[.string p] wr (BytPost o wr)) := Lib.hid (by
     have := RfRefBytes_any p wr hps
     rwa [HOo.out] at this)
    go_wp2_with fail
    refine HBt.out.mono ?_
    rintro e w2 ⟨b2, h2⟩
    have HB2 : Hid (Below w.heap.size w w2) := Lib.hid (HB.out.trans (b2.mono HB.out.size))
    cases o with
    | none =>
     obtain rfl := h2
     have HNo : Hid (O = none) := Lib.hid (by
      rw [HPD.out]
      exact pcS_no HS.out HkQ.out (fun _ => by rw [HPq.out HkQ.out]; exact HNn.out) (fun _ => by rw [HPq.out HkQ.out]; exact lastP_none HNn.out HOo.out en))
     clear b2
     go_wp2
     go_ret2
     exact PcsPost.no HNo.out HB2.out
    | some ns4 =>
     obtain ⟨v4, rfl, own4⟩ := h2
     obtain ⟨a, b, c, d, rfl, ha, hb, hc, hd⟩ := byt_is HOo.out
     rcases own4.2 with ⟨_, h0⟩ | ⟨g4, cap4, cur4, rfl, hg4, hgb4, _⟩
     ·simp at h0
     have HG4 := Lib.hid own4
     by_cases hlast : en = true ∧ k + 1 = D.length
     ·obtain ⟨rfl, hl⟩ := hlast
      have hkI : ¬ (k : Int) < (D.length : Int) - 1 := by omega
      have HS1 : Hid (PcS pc1 (lastP true) Q (k + 1) (ns ++ [256 * a + b, 256 * c + d])) := Lib.hid (pcS_on HS.out HkQ.out (fun h => by have := HQl.out; omega) (fun _ => by rw [HPq.out HkQ.out, lastP_four HNn.out HOo.out]; rfl))
      obtain ⟨v', w1', hrun, hown, hbel⟩ := appU8 w1.heap.size g4 4 cap4 _ ((pb ns).map u8v) ([a, b, c, d].map u8v) w2 (by rw [List.length_map]; exact own_kept HO.out (Kp.of_below (X := fun _ => False) b2) (fun _ _ => id)) rfl
       (fun j hj => by
        have := HG4.out.cellAt j (by simpa using hj)
        rw [this, List.getElem?_eq_getElem hj]) (by intro u hu; obtain ⟨x, _, rfl⟩ := List.mem_map.1 hu; rfl) (by rw [List.length_map]; omega) (by have := HB1.out.size; have := b2.size; omega)
      have HRun := Lib.hid hrun
      have hpl : (pb (ns ++ [256 * a + b, 256 * c + d])).length = (pb ns).length + 4 := by rw [pb_append, List.length_append]; rfl
      have HO1 : Hid (w1'.ownsRow w1.heap.size 5 1 v' (pb (ns ++ [256 * a + b, 256 * c + d])).length ((pb (ns ++ [256 * a + b, 256 * c + d])).map u8v)) := Lib.hid (by
       have e1 : (pb ns).map u8v ++ [a, b, c, d].map u8v = (pb (ns ++ [256 * a + b, 256 * c + d])).map u8v := by
        rw [pb_append, List.map_append, pb_two ha hb hc hd]
       rw [e1, List.length_map] at hown; exact hown)
      have HBW := Lib.hid (hbel w w.heap.size B1.out.size HB2.out)
      have HBX := Lib.hid (hbel w1 w1.heap.size (Nat.le_refl _) (HB1.out.trans (b2.mono HB1.out.size)))
      clear hrun hown hbel own4 hgb4 b2
      go_wp2_with (at_builtin; refine Lib.wpList_append_run _ rfl _ _ _ _ rfl _ _ rfl rfl _ _ HRun.out ?_)
      exact ⟨⟨k + 1, ns ++ [256 * a + b, 256 * c + d], by omega, by go_num, by omega, HS1, HO1, HBX, HBW⟩, by simp [intOf]; omega⟩
     ·have HNo : Hid (O = none) := Lib.hid (by
       rw [HPD.out]
       exact pcS_no HS.out HkQ.out (fun _ => by rw [HPq.out HkQ.out]; exact HNn.out) (fun h => by
        rw [HPq.out HkQ.out]
        cases en with
        | false => exact HNn.out
        | true => exact absurd ⟨rfl, by have := HQl.out; omega⟩ hlast))
      clear own4 hgb4 b2
      cases en with
      | false =>
       go_wp2
       go_ret2
       exact PcsPost.no HNo.out HB2.out
      | true =>
       have hkI : (k : Int) < (D.length : Int) - 1 := by
        have : ¬ (k + 1 = D.length) := fun e => hlast ⟨rfl, e⟩
        omega
       clear hlast
       go_wp2
       go_ret2
       exact PcsPost.no HNo.out HB2.out
  ·obtain rfl : k = D.length := by omega
   have HY : Hid (O = some ns) := Lib.hid (by rw [HPD.out]; exact HS.out.2 HQl.out.symm)
   go_wp2
   go_ret2
   refine ⟨HB.out, ?_⟩
   rw [HY.out]
   exact ⟨_, rfl, own_base HO.out B1.out.size⟩

end Go.Proofs.YtdifdikfgkiocaaGreatDoor
namespace Go.Proofs.YtdifdikfgkiocaaGreatDoor
open Go.RowKit

theorem cellsA_set (six : Bool) (L : List Nat) (k x : Nat) : (cellsA six L).setIfInBounds (1 + k) (u8v x) = cellsA six (L.set k x) := by
 unfold cellsA
 rw [List.setIfInBounds_toArray, Nat.add_comm 1 k, List.set_cons_succ, List.map_set]
theorem set_row (A Q : List Nat) (k r : Nat) (h : k < Q.length) : (A ++ Q.take k ++ List.replicate (r + 1) 0).set (A.length + k) Q[k] = A ++ Q.take (k + 1) ++ List.replicate r 0 := by
 have hl : (A ++ Q.take k).length = A.length + k := by rw [List.length_append, List.length_take]; omega
 rw [List.set_append, if_neg (by omega), hl, Nat.sub_self, List.replicate_succ, List.set_cons_zero, List.take_succ_eq_append_getElem h]
 simp only [List.append_assoc, List.cons_append, List.nil_append]
theorem step_row {Q : List Nat} {m : Nat} (h : m < Q.length) (h16 : Q.length ≤ 16) : (Q.take m ++ List.replicate (16 - m) 0).set m Q[m] = Q.take (m + 1) ++ List.replicate (16 - (m + 1)) 0 := by
 have := set_row [] Q m (15 - m) h
 rw [List.nil_append, List.nil_append, List.length_nil, Nat.zero_add] at this
 rw [show 16 - m = (15 - m) + 1 by omega, show 16 - (m + 1) = 15 - m by omega]
 exact this
theorem evs_len_le {f g : List UInt8 → Option (List Nat)} (hf : ∀ q ns, f q = some ns → ns.length ≤ 1) (hg : ∀ q ns, g q = some ns → ns.length ≤ 2) : ∀ (Q : List (List UInt8)) (ns : List Nat), evs f g Q = some ns → ns.length ≤ Q.length + 1
 | [], ns, h => by cases h
 | [q], ns, h => hg q ns h
 | q :: p :: Q, ns, h => by
  rw [evs_cons _ _ _ (by simp)] at h
  cases h1 : f q with
  | none => rw [h1] at h; cases h
  | some a =>
   rw [h1] at h
   cases h2 : evs f g (p :: Q) with
   | none => rw [h2] at h; cases h
   | some b =>
    rw [h2] at h
    have h := Option.some.inj h
    have e1 := hf q a h1
    have e2 := evs_len_le hf hg (p :: Q) b h2
    rw [← h, List.length_append]
    simp only [List.length_cons] at e2 ⊢
    omega
theorem lastP_len {en : Bool} {q : List UInt8} {ns : List Nat} (h : lastP en q = some ns) : ns.length ≤ 2 := by
 have h1 : ∀ ns, pc1 q = some ns → ns.length ≤ 2 := fun ns h => by obtain ⟨n, _, rfl⟩ := pc1_val h; simp
 cases en
 ·exact h1 ns h
 ·have h : both1 q = some ns := h
  unfold both1 at h
  split at h
  ·rename_i m hm; injection h with h; subst h; exact h1 _ hm
  ·unfold four1 at h
   split at h
   ·unfold two4 at h
    split at h
    ·injection h with h; subst h; simp
    ·cases h
   ·cases h
theorem piecesD_len {en : Bool} {l : List UInt8} {ns : List Nat} (h : piecesD en l = some ns) : ns.length ≤ l.length + 2 := by
 unfold piecesD at h
 split at h
 ·injection h with h; subst h; simp
 ·have h : evs pc1 (lastP en) (pts 58 l) = some ns := h
  have := evs_len_le (fun q ns h => by obtain ⟨n, _, rfl⟩ := pc1_val h; simp) (fun q ns h => lastP_len h) _ _ h
  have := pts_len 58 l
  omega
/-- Two colons together. -/
def Pair (l : List UInt8) (i : Nat) : Prop := l[i]? = some 58 ∧ l[i + 1]? = some 58
theorem pair_at {s : ByteArray} {i : Nat} (h : i + 1 < s.size) : Pair s.data.toList i ↔ (s[i]'(by omega)).toNat = 58 ∧ (s[i + 1]'h).toNat = 58 := by
 have hl := lenB s
 have e1 : s.data.toList[i]? = some (s[i]'(by omega)) := by rw [List.getElem?_eq_getElem (by omega)]; rfl
 have e2 : s.data.toList[i + 1]? = some (s[i + 1]'h) := by rw [List.getElem?_eq_getElem (by omega)]; rfl
 unfold Pair
 rw [e1, e2]
 constructor
 ·rintro ⟨h1, h2⟩
  injection h1 with h1; injection h2 with h2
  rw [h1, h2]; exact ⟨rfl, rfl⟩
 ·rintro ⟨h1, h2⟩
  exact ⟨congrArg some (UInt8.toNat_inj.1 h1), congrArg some (UInt8.toNat_inj.1 h2)⟩
/-- While two colons are looked for. -/
def LookS (s : ByteArray) (k : Nat) (a : Int) : Prop := (a = -1 ∧ ∀ i, i < k → ¬ Pair s.data.toList i) ∨ (∃ j : Nat, k = j + 1 ∧ a = (j : Int) ∧ j + 1 < s.size ∧ Pair s.data.toList j ∧ ∀ i, i < j → ¬ Pair s.data.toList i)

set_option maxRecDepth 100000 in
set_option maxHeartbeats 2000000 in
theorem RefSix_any (s : ByteArray) (w : World) (hs : s.size ≤ 1048600) :
  Calls Tryz.prog 71 #[.string s] w fun e w' => e = .returned (sixV (sixD s.data.toList)) ∧ Below w.heap.size w w' := by
 obtain ⟨hz, hi⟩ := zero_of_info infoA
 have HI := Lib.hid hi; clear hi
 have HIz : Hid ((Tryz.prog.info? 50).map (·.size) = some zeroA.size) := Lib.hid (by rw [HI.out, zeroA_size])
 have hzs := zeroA_size
 obtain ⟨V, HV⟩ : ∃ V, Hid (sixV (sixD s.data.toList) = V) := ⟨_, Lib.hid rfl⟩
 rw [HV.out]
 have HL := Lib.hid (lenB s)
 obtain ⟨T, HT⟩ : ∃ T, Hid (zeroA.setIfInBounds 0 (.bool true) = T) := ⟨_, Lib.hid rfl⟩
 have HTe : Hid (T = cellsA true (List.replicate 16 0)) := Lib.hid (by rw [← HT.out]; rfl)
 have HTz : Hid (T.size = 17) := Lib.hid (by rw [HTe.out, cellsA_size]; rfl)
 have HTo : Hid (T.all (·.oneCell') = true) := Lib.hid (by rw [HTe.out]; exact cellsA_one _ _)
 have HTi : Hid ((Tryz.prog.info? 50).map (·.size) = some T.size) := Lib.hid (by rw [HI.out, HTz.out])
 have HTZ : Hid (zeroA.size = T.size) := Lib.hid (by rw [HTz.out, zeroA_size])
 have hT : zeroA.setIfInBounds 0 (.bool true) = T := HT.out
 go_enter Tryz.func71, Tryz.ntmps71
 go_wp2
 have HG0 : Hid (((((w.alloc (.cells zeroA 50)).alloc (.cells zeroA 50))).setRow (w.heap.size + 1) T).heap[w.heap.size + 1]? = some (.cells T 50 (0, 0))) := Lib.hid (setRow_heap _ _ zeroA T _ _ (heap_two w _ _))
 have HB0 : Hid (Below w.heap.size w ((((w.alloc (.cells zeroA 50)).alloc (.cells zeroA 50))).setRow (w.heap.size + 1) T)) := Lib.hid (below_setRow (((Below.refl _ _).alloc (Nat.le_refl _) _).alloc (by simp) _) (by omega) _)
 have HR0 : Hid (((((w.alloc (.cells zeroA 50)).alloc (.cells zeroA 50))).setRow (w.heap.size + 1) T).heap[w.heap.size]? = some (.cells zeroA 50 (0, 0))) := Lib.hid (by
  rw [setRow_other _ _ _ _ (by omega), Below.heap_alloc _ _ _ (by simp)]; exact heap_alloc_new w _)
 have HW2 : Hid ((((w.alloc (.cells zeroA 50)).alloc (.cells zeroA 50)).setRow (w.heap.size + 1) T).heap.size = w.heap.size + 2) := Lib.hid (by simp [World.setRow])
 go_loop [4, 5] (fun a i => ∃ (k : Nat) (x : Int), k ≤ s.size ∧ i = .int .i64 k ∧ a = .int .i64 x ∧ Hid (LookS s k x)) (fun _ i => s.size - (intOf i).toNat)
 case atStart => exact ⟨0, -1, by omega, rfl, rfl, Lib.hid (.inl ⟨rfl, fun i h => absurd h (Nat.not_lt_zero _)⟩)⟩
 case round =>
  obtain ⟨k, x, hk, rfl, rfl, HS⟩ := hrel
  rcases HS.out with ⟨rfl, hno⟩ | ⟨j, rfl, rfl, hj, hpj, hno⟩
  ·have HNo := Lib.hid hno
   clear hno
   by_cases hlt : k + 1 < s.size
   ·have hltI : (k : Int) + 1 < (s.size : Int) := by omega
    have HPa := Lib.hid (pair_at hlt)
    by_cases h1 : (s[k]'(by omega)).toNat = 58
    ·have h1I : (((s[k]'(by omega)).toNat : Int) == 58) = true := by rw [h1]; rfl
     by_cases h2 : (s[k + 1]'hlt).toNat = 58
     ·have h2I : (((s[k + 1]'hlt).toNat : Int) == 58) = true := by rw [h2]; rfl
      have HS1 : Hid (LookS s (k + 1) (k : Int)) := Lib.hid (.inr ⟨k, rfl, rfl, hlt, HPa.out.2 ⟨h1, h2⟩, HNo.out⟩)
      clear h1 h2
      go_wp2
      exact ⟨⟨k + 1, (k : Int), by omega, by go_num, rfl, HS1⟩, by simp [intOf]; omega⟩
     ·have h2I : (((s[k + 1]'hlt).toNat : Int) == 58) = false := beq_eq_false_iff_ne.2 (by omega)
      have HS1 : Hid (LookS s (k + 1) (-1)) := Lib.hid (.inl ⟨rfl, fun i hi => by
       by_cases e : i = k
       ·subst e; exact fun hp => h2 (HPa.out.1 hp).2
       ·exact HNo.out i (by omega)⟩)
      clear h1 h2
      go_wp2
      exact ⟨⟨k + 1, -1, by omega, by go_num, rfl, HS1⟩, by simp [intOf]; omega⟩
    ·have h1I : (((s[k]'(by omega)).toNat : Int) == 58) = false := beq_eq_false_iff_ne.2 (by omega)
     have HS1 : Hid (LookS s (k + 1) (-1)) := Lib.hid (.inl ⟨rfl, fun i hi => by
      by_cases e : i = k
      ·subst e; exact fun hp => h1 (HPa.out.1 hp).1
      ·exact HNo.out i (by omega)⟩)
     clear h1
     go_wp2
     exact ⟨⟨k + 1, -1, by omega, by go_num, rfl, HS1⟩, by simp [intOf]; omega⟩
   ·have hltI : ¬ (k : Int) + 1 < (s.size : Int) := by omega
    have HC : Hid (cut2 s.data.toList = none) := Lib.hid (cut2_clear _ (fun i hi => HNo.out i (by rw [HL.out] at hi; omega)))
    go_wp2_with (refine wpL_store_row rfl _ _ _ rfl (w.heap.size + 1) T rfl rfl _ zeroA (heap_two w _ _) HTi.out HTZ.out HTo.out ?_)
    refine (RefPieces_any s true _ hs).mono ?_
    rintro e w3 ⟨b3, h3⟩
    have HG3 : Hid (w3.heap[w.heap.size + 1]? = some (.cells T 50 (0, 0))) := Lib.hid ((b3.block _ (lt_of_block HG0.out)).trans HG0.out)
    have HR3 : Hid (w3.heap[w.heap.size]? = some (.cells zeroA 50 (0, 0))) := Lib.hid ((b3.block _ (lt_of_block HR0.out)).trans HR0.out)
    have HB3 : Hid (Below w.heap.size w w3) := Lib.hid (HB0.out.trans (b3.mono HB0.out.size))
    have HGs := HG0
    clear b3
    cases ho : piecesD true s.data.toList with
    | none =>
     rw [ho] at h3
     obtain rfl := h3
     have HVn : Hid (V = .tuple #[.agg zeroA, .int .i64 5]) := Lib.hid (by rw [← HV.out, sixD, HC.out]; simp only; rw [ho]; rfl)
     clear ho
     go_wp2_with (refine wpL_store_row rfl _ _ _ rfl w.heap.size zeroA rfl rfl _ zeroA HR3.out HIz.out rfl zeroA_one ?_)
     refine bodyPost_ret (v := .tuple #[.agg zeroA, .int .i64 5]) (results_row2 Tryz.results71 _ _ w.heap.size _ zeroA (0, 0) _ rfl (setRow_heap _ _ zeroA zeroA _ _ HR3.out) Tryz.underlying50 rfl HIz.out) rfl ⟨by rw [HVn.out], ?_⟩
     exact below_setRow HB3.out (Nat.le_refl _) _
    | some ps =>
     rw [ho] at h3
     obtain ⟨v, rfl, own⟩ := h3
     obtain ⟨a, cap, rfl, _⟩ := slice_own own
     have HOwn := Lib.hid own
     have hpl := pb_len ps
     obtain ⟨X, hX⟩ : ∃ X, (pb ps).length = X := ⟨_, rfl⟩
     rw [hX] at HOwn hpl
     rw [hX]
     by_cases h8 : ps.length = 8
     ·have hX16 : X = 16 := by omega
      subst hX16
      have HXl := Lib.hid hX
      clear hpl hX
      have HVn : Hid (V = .tuple #[.agg (cellsA true (pb ps)), .int .i64 0]) := Lib.hid (by rw [← HV.out, sixD, HC.out]; simp only; rw [ho]; simp only; rw [if_pos h8]; rfl)
      clear ho own h8
      go_wp2_with fail
      go_loopw [9] (fun i wr => ∃ (m : Nat) (C : Array Value), m ≤ 16 ∧ i = .int .i64 m ∧ Hid (C = cellsA true ((pb ps).take m ++ List.replicate (16 - m) 0)) ∧ Hid (wr.heap[w.heap.size + 1]? = some (.cells C 50 (0, 0))) ∧ Hid (wr.heap[w.heap.size]? = some (.cells zeroA 50 (0, 0))) ∧ Hid (Kp (Only (w.heap.size + 1)) w3 wr) ∧ Hid (Below w.heap.size w wr)) (fun i _ => 16 - (intOf i).toNat)
      case atStart => exact ⟨0, T, by omega, rfl, Lib.hid (by rw [HTe.out]; rfl), HG3, HR3, Lib.hid (Kp.refl _ _), HB3⟩
      case round =>
       obtain ⟨m, C, hm, rfl, HCe, HG, HR, HK, HB⟩ := hrel
       by_cases hlt : m < 16
       ·have hmX : m < (pb ps).length := by rw [HXl.out]; exact hlt
        obtain ⟨x, HX⟩ : ∃ x, Hid ((pb ps)[m] = x) := ⟨_, Lib.hid rfl⟩
        have HCz : Hid (C.size = 17) := Lib.hid (by rw [HCe.out, cellsA_size, List.length_append, List.length_take, List.length_replicate, HXl.out]; omega)
        have HOw := HOwn.out
        rcases HOw.2 with ⟨e1, h0⟩ | ⟨ga, cap', cur, e1, e2, e3, _⟩
        ·omega
        injection e1 with e1 _ e6
        subst e1; subst e6
        have hgan : w.heap.size + 2 ≤ ga := by have := e2; rw [HW2.out] at this; exact this
        have hcell : wr.cell? ⟨ga, m, none⟩ = some (.int .u8 (x : Int)) := by
         refine HK.out.cell (p := ⟨ga, m, none⟩) ?_ (by unfold Only; show ga ≠ _; omega)
         rw [HOw.cellAt m (by omega), List.getElem?_map, List.getElem?_eq_getElem hmX, HX.out]; rfl
        obtain ⟨v0, hv0⟩ : ∃ v, C[1 + m]? = some v := ⟨_, Array.getElem?_eq_getElem (by rw [HCz.out]; omega)⟩
        have hcl : wr.cell? ⟨w.heap.size + 1, 1 + m, none⟩ = some v0 := (cell_of_row wr _ _ C _ _ HG.out).trans hv0
        have hfr := frozen_of_row wr (w.heap.size + 1) (1 + m) C _ HG.out
        have HG1 := Lib.hid (heap_setCell_same wr (w.heap.size + 1) (1 + m) C _ (.int .u8 (x : Int)) HG.out)
        have HK1 := Lib.hid (HK.out.setCell (X := Only (w.heap.size + 1)) (p := ⟨w.heap.size + 1, 1 + m, none⟩) rfl (.int .u8 (x : Int)))
        have HR1 : Hid ((wr.setCell ⟨w.heap.size + 1, 1 + m, none⟩ (.int .u8 (x : Int))).heap[w.heap.size]? = some (.cells zeroA 50 (0, 0))) := Lib.hid (by rw [Below.heap_setCell _ _ _ _ (by show w.heap.size ≠ w.heap.size + 1; omega)]; exact HR.out)
        have HB1 := Lib.hid (HB3.out.trans (HK1.out.below HB3.out.size (fun q hq => by rw [show q = _ from hq]; omega)))
        have HC1 : Hid (C.setIfInBounds (1 + m) (.int .u8 (x : Int)) = cellsA true ((pb ps).take (m + 1) ++ List.replicate (16 - (m + 1)) 0)) := Lib.hid (by
         rw [HCe.out, ← step_row hmX (by rw [HXl.out]; omega), HX.out]
         exact cellsA_set true _ m x)
        clear hv0 HOw e2 e3
        go_wp2
        exact ⟨⟨m + 1, _, by omega, by go_num, HC1, HG1, HR1, HK1, HB1⟩, by simp [intOf]; omega⟩
       ·obtain rfl : m = 16 := by omega
        have HEnd : Hid (cellsA true (pb ps) = C) := Lib.hid (by rw [HCe.out, List.take_of_length_le (by rw [HXl.out]; omega)]; simp)
        have HEl := HXl
        have HDz : Hid ((C).size = 17) := Lib.hid (by rw [← HEnd.out, cellsA_size, HEl.out])
        have HOne : Hid ((C).all (·.oneCell') = true) := Lib.hid (by rw [← HEnd.out]; exact cellsA_one _ _)
        have HIV : Hid ((Tryz.prog.info? 50).map (·.size) = some (C).size) := Lib.hid (by rw [HI.out, HDz.out])
        have HZD : Hid (zeroA.size = (C).size) := Lib.hid (by rw [HDz.out, zeroA_size])
        go_wp2_with (first | refine wpList_load_row rfl 50 _ rfl (w.heap.size + 1) rfl 50 C (0, 0) _ HG.out Tryz.underlying50 rfl HIV.out ?_ | refine wpL_store_row rfl _ _ _ rfl w.heap.size C rfl rfl _ zeroA HR.out HIV.out HZD.out HOne.out ?_)
        refine bodyPost_ret (v := .tuple #[.agg C, .int .i64 0]) (results_row2 Tryz.results71 _ _ w.heap.size _ C (0, 0) _ rfl (setRow_heap _ _ zeroA C _ _ HR.out) Tryz.underlying50 rfl HIV.out) rfl ⟨by rw [HVn.out, HEnd.out], ?_⟩
        exact below_setRow HB.out (Nat.le_refl _) _
     ·have hI : ((X : Int) != 16) = true := by simp; omega
      have HVn : Hid (V = .tuple #[.agg zeroA, .int .i64 5]) := Lib.hid (by rw [← HV.out, sixD, HC.out]; simp only; rw [ho]; simp only; rw [if_neg h8]; rfl)
      clear ho own h8
      go_wp2_with (refine wpL_store_row rfl _ _ _ rfl w.heap.size zeroA rfl rfl _ zeroA HR3.out HIz.out rfl zeroA_one ?_)
      refine bodyPost_ret (v := .tuple #[.agg zeroA, .int .i64 5]) (results_row2 Tryz.results71 _ _ w.heap.size _ zeroA (0, 0) _ rfl (setRow_heap _ _ zeroA zeroA _ _ HR3.out) Tryz.underlying50 rfl HIz.out) rfl ⟨by rw [HVn.out], ?_⟩
      exact below_setRow HB3.out (Nat.le_refl _) _
  ·have HC : Hid (cut2 s.data.toList = some (s.data.toList.take j, s.data.toList.drop (j + 2))) := Lib.hid (cut2_at _ j (by rw [HL.out]; exact hj) hpj.1 hpj.2 hno)
   clear hpj hno
   go_upto_region 3 with (fail)
   go_cut [24] (fun s24 wx => s24 = .bool false ∧ w.alloc (.cells zeroA 50) = wx)
   case first =>
    by_cases h2 : j + 1 + 1 < s.size
    ·have hI : (j : Int) + 1 + 1 < (s.size : Int) := by omega
     go_wp2
     go_meet
     exact ⟨rfl, rfl⟩
    ·have hI : ¬ (j : Int) + 1 + 1 < (s.size : Int) := by omega
     go_wp2
     go_meet
     exact ⟨rfl, rfl⟩
   case rest =>
   obtain ⟨rfl, rfl⟩ := hcut
   have HXl : Hid ((s.extract 0 j).data.toList = s.data.toList.take j) := Lib.hid (by rw [ext_mid s 0 j (by omega)]; simp)
   have HYl : Hid ((s.extract (j + 2) s.size).data.toList = s.data.toList.drop (j + 2)) := Lib.hid (by rw [ext_asB]; rfl)
   have HXs : Hid ((s.extract 0 j).size ≤ 1048600) := Lib.hid (by simp; omega)
   have HYs : Hid ((s.extract (j + 2) s.size).size ≤ 1048600) := Lib.hid (by simp; omega)
   go_wp2_with (refine wpL_store_row rfl _ _ _ rfl (w.heap.size + 1) T rfl rfl _ zeroA (heap_two w _ _) HTi.out HTZ.out HTo.out ?_)
   refine (RefPieces_any (s.extract 0 j) false _ HXs.out).mono ?_
   rintro e w3 ⟨b3, h3⟩
   have HG3 : Hid (w3.heap[w.heap.size + 1]? = some (.cells T 50 (0, 0))) := Lib.hid ((b3.block _ (lt_of_block HG0.out)).trans HG0.out)
   have HR3 : Hid (w3.heap[w.heap.size]? = some (.cells zeroA 50 (0, 0))) := Lib.hid ((b3.block _ (lt_of_block HR0.out)).trans HR0.out)
   have HB3 : Hid (Below w.heap.size w w3) := Lib.hid (HB0.out.trans (b3.mono HB0.out.size))
   clear b3
   rw [HXl.out] at h3
   cases hx : piecesD false (s.data.toList.take j) with
   | none =>
    rw [hx] at h3
    obtain rfl := h3
    have HVn : Hid (V = .tuple #[.agg zeroA, .int .i64 5]) := Lib.hid (by rw [← HV.out, sixD, HC.out]; simp only; rw [hx]; rfl)
    clear hx
    go_wp2_with fail
    refine (RefPieces_any (s.extract (j + 2) s.size) true _ HYs.out).mono ?_
    rintro e w4 ⟨b4, h4⟩
    have HR4 : Hid (w4.heap[w.heap.size]? = some (.cells zeroA 50 (0, 0))) := Lib.hid ((b4.block _ (lt_of_block HR3.out)).trans HR3.out)
    have HB4 : Hid (Below w.heap.size w w4) := Lib.hid (HB3.out.trans (b4.mono HB3.out.size))
    clear b4
    cases hy : piecesD true (s.extract (j + 2) s.size).data.toList with
    | none =>
     rw [hy] at h4
     obtain rfl := h4
     clear hy
     go_wp2_with (refine wpL_store_row rfl _ _ _ rfl w.heap.size zeroA rfl rfl _ zeroA HR4.out HIz.out rfl zeroA_one ?_)
     refine bodyPost_ret (v := .tuple #[.agg zeroA, .int .i64 5]) (results_row2 Tryz.results71 _ _ w.heap.size _ zeroA (0, 0) _ rfl (setRow_heap _ _ zeroA zeroA _ _ HR4.out) Tryz.underlying50 rfl HIz.out) rfl ⟨by rw [HVn.out], ?_⟩
     exact below_setRow HB4.out (Nat.le_refl _) _
    | some y =>
     rw [hy] at h4
     obtain ⟨v, rfl, own⟩ := h4
     obtain ⟨a, cap, rfl, _⟩ := slice_own own
     clear hy own
     go_wp2_with (refine wpL_store_row rfl _ _ _ rfl w.heap.size zeroA rfl rfl _ zeroA HR4.out HIz.out rfl zeroA_one ?_)
     refine bodyPost_ret (v := .tuple #[.agg zeroA, .int .i64 5]) (results_row2 Tryz.results71 _ _ w.heap.size _ zeroA (0, 0) _ rfl (setRow_heap _ _ zeroA zeroA _ _ HR4.out) Tryz.underlying50 rfl HIz.out) rfl ⟨by rw [HVn.out], ?_⟩
     exact below_setRow HB4.out (Nat.le_refl _) _
   | some x =>
    rw [hx] at h3
    obtain ⟨v, rfl, own⟩ := h3
    obtain ⟨a, cap, rfl, _⟩ := slice_own own
    have HOwn := Lib.hid own
    clear own
    go_wp2_with fail
    refine (RefPieces_any (s.extract (j + 2) s.size) true _ HYs.out).mono ?_
    rintro e w4 ⟨b4, h4⟩
    have HG4 : Hid (w4.heap[w.heap.size + 1]? = some (.cells T 50 (0, 0))) := Lib.hid ((b4.block _ (lt_of_block HG3.out)).trans HG3.out)
    have HR4 : Hid (w4.heap[w.heap.size]? = some (.cells zeroA 50 (0, 0))) := Lib.hid ((b4.block _ (lt_of_block HR3.out)).trans HR3.out)
    have HB4 : Hid (Below w.heap.size w w4) := Lib.hid (HB3.out.trans (b4.mono HB3.out.size))
    have HOwn4 := Lib.hid (own_kept HOwn.out (Kp.of_below (X := fun _ => False) b4) (fun _ _ => id))
    have HS34 := Lib.hid HB3.out.size
    rw [HYl.out] at h4
    clear b4
    cases hy : piecesD true (s.data.toList.drop (j + 2)) with
    | none =>
     rw [hy] at h4
     obtain rfl := h4
     have HVn : Hid (V = .tuple #[.agg zeroA, .int .i64 5]) := Lib.hid (by rw [← HV.out, sixD, HC.out]; simp only; rw [hx]; simp only; rw [hy]; rfl)
     clear hx hy
     go_wp2_with (refine wpL_store_row rfl _ _ _ rfl w.heap.size zeroA rfl rfl _ zeroA HR4.out HIz.out rfl zeroA_one ?_)
     refine bodyPost_ret (v := .tuple #[.agg zeroA, .int .i64 5]) (results_row2 Tryz.results71 _ _ w.heap.size _ zeroA (0, 0) _ rfl (setRow_heap _ _ zeroA zeroA _ _ HR4.out) Tryz.underlying50 rfl HIz.out) rfl ⟨by rw [HVn.out], ?_⟩
     exact below_setRow HB4.out (Nat.le_refl _) _
    | some y =>
     rw [hy] at h4
     obtain ⟨v2, rfl, own2⟩ := h4
     obtain ⟨a2, cap2, rfl, _⟩ := slice_own own2
     have HOwn2 := Lib.hid own2
     have hpx := pb_len x
     have hpy := pb_len y
     obtain ⟨X, hX⟩ : ∃ X, (pb x).length = X := ⟨_, rfl⟩
     obtain ⟨Y, hY⟩ : ∃ Y, (pb y).length = Y := ⟨_, rfl⟩
     rw [hX] at HOwn4 hpx
     rw [hY] at HOwn2 hpy
     rw [hX, hY]
     have HXl := Lib.hid hX
     have HYl := Lib.hid hY
     have hXb : X ≤ 2097300 := by
      have := piecesD_len hx
      rw [List.length_take, HL.out] at this; omega
     have hYb : Y ≤ 2097300 := by
      have := piecesD_len hy
      rw [List.length_drop, HL.out] at this; omega
     by_cases h7 : x.length + y.length ≤ 7
     ·have hI : ¬ (14 : Int) < (X : Int) + (Y : Int) := by omega
      have hXY : X + Y ≤ 14 := by omega
      have HVn : Hid (V = .tuple #[.agg (cellsA true (pb (x ++ List.replicate (8 - x.length - y.length) 0 ++ y))), .int .i64 0]) := Lib.hid (by rw [← HV.out, sixD, HC.out]; simp only; rw [hx]; simp only; rw [hy]; simp only; rw [if_pos h7]; rfl)
      have HVl : Hid (pb (x ++ List.replicate (8 - x.length - y.length) 0 ++ y) = pb x ++ List.replicate (16 - X - Y) 0 ++ pb y) := Lib.hid (by
       rw [pb_append, pb_append, pb_zero, show 2 * (8 - x.length - y.length) = 16 - X - Y by omega])
      clear hx hy own2 hX hY hpx hpy h7
      go_wp2_with fail
      go_loopw [14] (fun i wr => ∃ (m : Nat) (C : Array Value), m ≤ X ∧ i = .int .i64 m ∧ Hid (C = cellsA true ((pb x).take m ++ List.replicate (16 - m) 0)) ∧ Hid (wr.heap[w.heap.size + 1]? = some (.cells C 50 (0, 0))) ∧ Hid (wr.heap[w.heap.size]? = some (.cells zeroA 50 (0, 0))) ∧ Hid (Kp (Only (w.heap.size + 1)) w4 wr) ∧ Hid (Below w.heap.size w wr)) (fun i _ => X - (intOf i).toNat)
      case atStart => exact ⟨0, T, by omega, rfl, Lib.hid (by rw [HTe.out]; rfl), HG4, HR4, Lib.hid (Kp.refl _ _), HB4⟩
      case round =>
       obtain ⟨m, C, hm, rfl, HCe, HG, HR, HK, HB⟩ := hrel
       by_cases hlt : m < X
       ·have hmX : m < (pb x).length := by rw [HXl.out]; exact hlt
        obtain ⟨u, HX⟩ : ∃ u, Hid ((pb x)[m] = u) := ⟨_, Lib.hid rfl⟩
        have HCz : Hid (C.size = 17) := Lib.hid (by rw [HCe.out, cellsA_size, List.length_append, List.length_take, List.length_replicate, HXl.out]; omega)
        have HOw := HOwn4.out
        rcases HOw.2 with ⟨e1, h0⟩ | ⟨ga, cap', cur, e1, e2, e3, _⟩
        ·omega
        injection e1 with e1 _ e6
        subst e1; subst e6
        have hgan : w.heap.size + 2 ≤ ga := by have := e2; rw [HW2.out] at this; exact this
        have hcell : wr.cell? ⟨ga, m, none⟩ = some (.int .u8 (u : Int)) := by
         refine HK.out.cell (p := ⟨ga, m, none⟩) ?_ (by unfold Only; show ga ≠ _; omega)
         rw [HOw.cellAt m (by omega), List.getElem?_map, List.getElem?_eq_getElem hmX, HX.out]; rfl
        obtain ⟨v0, hv0⟩ : ∃ v, C[1 + m]? = some v := ⟨_, Array.getElem?_eq_getElem (by rw [HCz.out]; omega)⟩
        have hcl : wr.cell? ⟨w.heap.size + 1, 1 + m, none⟩ = some v0 := (cell_of_row wr _ _ C _ _ HG.out).trans hv0
        have hfr := frozen_of_row wr (w.heap.size + 1) (1 + m) C _ HG.out
        have HG1 := Lib.hid (heap_setCell_same wr (w.heap.size + 1) (1 + m) C _ (.int .u8 (u : Int)) HG.out)
        have HK1 := Lib.hid (HK.out.setCell (X := Only (w.heap.size + 1)) (p := ⟨w.heap.size + 1, 1 + m, none⟩) rfl (.int .u8 (u : Int)))
        have HR1 : Hid ((wr.setCell ⟨w.heap.size + 1, 1 + m, none⟩ (.int .u8 (u : Int))).heap[w.heap.size]? = some (.cells zeroA 50 (0, 0))) := Lib.hid (by rw [Below.heap_setCell _ _ _ _ (by show w.heap.size ≠ w.heap.size + 1; omega)]; exact HR.out)
        have HB1 := Lib.hid (HB4.out.trans (HK1.out.below HB4.out.size (fun q hq => by rw [show q = _ from hq]; omega)))
        have HC1 : Hid (C.setIfInBounds (1 + m) (.int .u8 (u : Int)) = cellsA true ((pb x).take (m + 1) ++ List.replicate (16 - (m + 1)) 0)) := Lib.hid (by
         rw [HCe.out, ← step_row hmX (by rw [HXl.out]; omega), HX.out]
         exact cellsA_set true _ m u)
        clear hv0 HOw e2 e3
        go_wp2
        exact ⟨⟨m + 1, _, by omega, by go_num, HC1, HG1, HR1, HK1, HB1⟩, by simp [intOf]; omega⟩
       ·obtain rfl : m = X := by omega
        obtain ⟨q, hq⟩ : ∃ q : Nat, (16 : Int) - (Y : Int) = (q : Int) := ⟨16 - Y, by omega⟩
        have HC2 : Hid (C = cellsA true (pb x ++ List.replicate (16 - m - Y) 0 ++ (pb y).take 0 ++ List.replicate (Y - 0) 0)) := Lib.hid (by
         rw [HCe.out, List.take_of_length_le (by rw [HXl.out]; omega), List.take_zero, List.append_nil, List.append_assoc, List.replicate_append_replicate, show 16 - m - Y + (Y - 0) = 16 - m by omega])
        clear HCe
        clear hlt
        go_wp2_with fail
        obtain ⟨wo, rfl⟩ : ∃ wo, wo = wr := ⟨_, rfl⟩
        go_loopw [15] (fun i wr => ∃ (n : Nat) (C : Array Value), n ≤ Y ∧ i = .int .i64 n ∧ Hid (C = cellsA true (pb x ++ List.replicate (16 - m - Y) 0 ++ (pb y).take n ++ List.replicate (Y - n) 0)) ∧ Hid (wr.heap[w.heap.size + 1]? = some (.cells C 50 (0, 0))) ∧ Hid (wr.heap[w.heap.size]? = some (.cells zeroA 50 (0, 0))) ∧ Hid (Kp (Only (w.heap.size + 1)) w4 wr) ∧ Hid (Below w.heap.size w wr)) (fun i _ => Y - (intOf i).toNat)
        case atStart => exact ⟨0, C, by omega, rfl, HC2, HG, HR, HK, HB⟩
        case round =>
         clear HC2 HG HR HK HB
         obtain ⟨n, C, hn, rfl, HCe, HG, HR, HK, HB⟩ := hrel
         have HCl : Hid ((pb x ++ List.replicate (16 - m - Y) 0 ++ (pb y).take n ++ List.replicate (Y - n) 0).length = 16) := Lib.hid (by
          rw [List.length_append, List.length_append, List.length_append, List.length_take, List.length_replicate, List.length_replicate, HXl.out, HYl.out]; omega)
         by_cases hlt : n < Y
         ·have hmY : n < (pb y).length := by rw [HYl.out]; exact hlt
          obtain ⟨u, HX⟩ : ∃ u, Hid ((pb y)[n] = u) := ⟨_, Lib.hid rfl⟩
          have HCz : Hid (C.size = 17) := Lib.hid (by rw [HCe.out, cellsA_size, HCl.out])
          have HOw := HOwn2.out
          rcases HOw.2 with ⟨e1, h0⟩ | ⟨ga, cap', cur, e1, e2, e3, _⟩
          ·omega
          injection e1 with e1 _ e6
          subst e1; subst e6
          have hgan : w.heap.size + 2 ≤ ga := by have := e2; have := lt_of_block HG3.out; omega
          have hcell : wr.cell? ⟨ga, n, none⟩ = some (.int .u8 (u : Int)) := by
           refine HK.out.cell (p := ⟨ga, n, none⟩) ?_ (by unfold Only; show ga ≠ _; omega)
           rw [HOw.cellAt n (by omega), List.getElem?_map, List.getElem?_eq_getElem hmY, HX.out]; rfl
          have hqn : q = 16 - Y := by omega
          have hqb : q + n < 16 := by omega
          obtain ⟨v0, hv0⟩ : ∃ v, C[1 + (q + n)]? = some v := ⟨_, Array.getElem?_eq_getElem (by rw [HCz.out]; omega)⟩
          have hcl : wr.cell? ⟨w.heap.size + 1, 1 + (q + n), none⟩ = some v0 := (cell_of_row wr _ _ C _ _ HG.out).trans hv0
          have hfr := frozen_of_row wr (w.heap.size + 1) (1 + (q + n)) C _ HG.out
          have HG1 := Lib.hid (heap_setCell_same wr (w.heap.size + 1) (1 + (q + n)) C _ (.int .u8 (u : Int)) HG.out)
          have HK1 := Lib.hid (HK.out.setCell (X := Only (w.heap.size + 1)) (p := ⟨w.heap.size + 1, 1 + (q + n), none⟩) rfl (.int .u8 (u : Int)))
          have HR1 : Hid ((wr.setCell ⟨w.heap.size + 1, 1 + (q + n), none⟩ (.int .u8 (u : Int))).heap[w.heap.size]? = some (.cells zeroA 50 (0, 0))) := Lib.hid (by rw [Below.heap_setCell _ _ _ _ (by show w.heap.size ≠ w.heap.size + 1; omega)]; exact HR.out)
          have HB1 := Lib.hid (HB4.out.trans (HK1.out.below HB4.out.size (fun q hq => by rw [show q = _ from hq]; omega)))
          have HC1 : Hid (C.setIfInBounds (1 + (q + n)) (.int .u8 (u : Int)) = cellsA true (pb x ++ List.replicate (16 - m - Y) 0 ++ (pb y).take (n + 1) ++ List.replicate (Y - (n + 1)) 0)) := Lib.hid (by
           have hA : (pb x ++ List.replicate (16 - m - Y) 0).length = q := by rw [List.length_append, List.length_replicate, HXl.out]; omega
           have hs := set_row (pb x ++ List.replicate (16 - m - Y) 0) (pb y) n (Y - (n + 1)) hmY
           rw [hA, HX.out] at hs
           rw [HCe.out, ← hs, show Y - n = Y - (n + 1) + 1 by omega]
           exact cellsA_set true _ (q + n) u)
          clear hv0 HOw e2 e3 hqn
          go_wp2
          exact ⟨⟨n + 1, _, by omega, by go_num, HC1, HG1, HR1, HK1, HB1⟩, by simp [intOf]; omega⟩
         ·obtain rfl : n = Y := by omega
          have HEnd : Hid (cellsA true (pb (x ++ List.replicate (8 - x.length - y.length) 0 ++ y)) = C) := Lib.hid (by
           rw [HCe.out, HVl.out, List.take_of_length_le (by rw [HYl.out]; omega), Nat.sub_self, List.replicate_zero, List.append_nil])
          have HEl : Hid ((pb (x ++ List.replicate (8 - x.length - y.length) 0 ++ y)).length = 16) := Lib.hid (by
           rw [HVl.out, List.length_append, List.length_append, List.length_replicate, HXl.out, HYl.out]; omega)
          have HDz : Hid ((C).size = 17) := Lib.hid (by rw [← HEnd.out, cellsA_size, HEl.out])
          have HOne : Hid ((C).all (·.oneCell') = true) := Lib.hid (by rw [← HEnd.out]; exact cellsA_one _ _)
          have HIV : Hid ((Tryz.prog.info? 50).map (·.size) = some (C).size) := Lib.hid (by rw [HI.out, HDz.out])
          have HZD : Hid (zeroA.size = (C).size) := Lib.hid (by rw [HDz.out, zeroA_size])
          go_wp2_with (first | refine wpList_load_row rfl 50 _ rfl (w.heap.size + 1) rfl 50 C (0, 0) _ HG.out Tryz.underlying50 rfl HIV.out ?_ | refine wpL_store_row rfl _ _ _ rfl w.heap.size C rfl rfl _ zeroA HR.out HIV.out HZD.out HOne.out ?_)
          refine bodyPost_ret (v := .tuple #[.agg C, .int .i64 0]) (results_row2 Tryz.results71 _ _ w.heap.size _ C (0, 0) _ rfl (setRow_heap _ _ zeroA C _ _ HR.out) Tryz.underlying50 rfl HIV.out) rfl ⟨by rw [HVn.out, HEnd.out], ?_⟩
          exact below_setRow HB.out (Nat.le_refl _) _
     ·have hI : (14 : Int) < (X : Int) + (Y : Int) := by omega
      have HVn : Hid (V = .tuple #[.agg zeroA, .int .i64 5]) := Lib.hid (by rw [← HV.out, sixD, HC.out]; simp only; rw [hx]; simp only; rw [hy]; simp only; rw [if_neg h7]; rfl)
      clear hx hy own2 hX hY hpx hpy h7
      go_wp2_with (refine wpL_store_row rfl _ _ _ rfl w.heap.size zeroA rfl rfl _ zeroA HR4.out HIz.out rfl zeroA_one ?_)
      refine bodyPost_ret (v := .tuple #[.agg zeroA, .int .i64 5]) (results_row2 Tryz.results71 _ _ w.heap.size _ zeroA (0, 0) _ rfl (setRow_heap _ _ zeroA zeroA _ _ HR4.out) Tryz.underlying50 rfl HIz.out) rfl ⟨by rw [HVn.out], ?_⟩
      exact below_setRow HB4.out (Nat.le_refl _) _

end Go.Proofs.YtdifdikfgkiocaaGreatDoor
