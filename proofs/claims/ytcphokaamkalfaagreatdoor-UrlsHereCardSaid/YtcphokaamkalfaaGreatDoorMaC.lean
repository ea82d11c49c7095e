/-
  Contract: the reader's part.
  Function values that read; the reader's row over any of them.
  Ways to read: part, decimal, piece, small as function values; contract: the reader's four.
  Addresses as values: their cells, what is answered.
-/
import Derived.Test.YtcphokaamkalfaaGreatDoorMaB
import Derived.Laws.Bits64b
import Derived.Shelf.Abstract
import Derived.Test.YtcphokaamkalfaaGreatDoorMaA
import Derived.Laws.ResultCell
import Derived.Laws.Rows
import Derived.Laws.Tables
namespace Go.Proofs.YtcphokaamkalfaaGreatDoor
open Go.RowKit

theorem cut_yes (b : Nat) (t p : ByteArray) (w : World) (h : Rd w b t) (hp : p.data.toList.isPrefixOf t.data.toList = true) :
  Calls Tryz.prog 98 #[.pointer (some ⟨b, 0, none⟩), .string p] w fun e w' => e = .returned (.bool true) ∧ Rd w' b (asB (t.data.toList.drop p.size)) ∧ Kp (Only b) w w' := by
 refine (cut_any b t p w h).mono fun e w' ⟨he, hr, hk⟩ => ⟨?_, ?_, hk⟩
 ·rw [he]; exact ret_bool hp
 ·have : Lib.trimPrefix t.data.toList p.data.toList = t.data.toList.drop p.size := by
   unfold Lib.trimPrefix Lib.hasPrefix
   rw [if_pos hp, lenB]
  rwa [this] at hr
theorem cut_no (b : Nat) (t p : ByteArray) (w : World) (h : Rd w b t) (hp : p.data.toList.isPrefixOf t.data.toList = false) :
  Calls Tryz.prog 98 #[.pointer (some ⟨b, 0, none⟩), .string p] w fun e w' => e = .returned (.bool false) ∧ Rd w' b t ∧ Kp (Only b) w w' := by
 refine (cut_any b t p w h).mono fun e w' ⟨he, hr, hk⟩ => ⟨?_, ?_, hk⟩
 ·rw [he]; exact ret_bool hp
 ·have : Lib.trimPrefix t.data.toList p.data.toList = t.data.toList := by
   unfold Lib.trimPrefix Lib.hasPrefix
   rw [hp]; rfl
  rw [this, asB_back] at hr; exact hr
theorem Reads1.from {b : Nat} {o : Option (List Nat × List UInt8)} {w w1 w' : World} {e : Ending} (k : Kp (Only b) w w1) (h : Reads1 b o w1 e w') : Reads1 b o w e w' := by
 obtain ⟨v, r, h1, h2, h3, h4⟩ := h
 refine ⟨v, r, h1, k.trans h2, fun ns u ho => ?_, h4⟩
 obtain ⟨a1, ⟨g, g1, g2, g3⟩, a3⟩ := h3 ns u ho
 exact ⟨a1, ⟨g, Nat.le_trans k.size g1, g2, g3⟩, a3⟩

set_option maxHeartbeats 1000000 in
theorem part_any (b : Nat) (t : ByteArray) (w : World) (h : Rd w b t) (hs : t.size ≤ 1048600) (hsm : Sml t.data.toList) :
  Calls Tryz.prog 147 #[.pointer (some ⟨b, 0, none⟩)] w (Reads1 b (rpart t.data.toList) w) := by
 have hl := lenB t
 have HSm := Lib.hid hsm
 have Hh := Lib.hid h
 clear hsm h
 cases h1 : ([48, 120] : List UInt8).isPrefixOf t.data.toList
 ·cases h2 : ([48] : List UInt8).isPrefixOf t.data.toList
  ·have HR : Hid (rpart t.data.toList = rdec t.data.toList) := Lib.hid (by rw [rpart, h1, h2]; rfl)
   obtain ⟨o, HO⟩ : ∃ o, Hid (rdec t.data.toList = o) := ⟨_, Lib.hid rfl⟩
   rw [HR.out, HO.out]
   have H1 := Lib.hid h1
   have H2 := Lib.hid h2
   clear h1 h2 hl
   go_enter Tryz.func147, Tryz.ntmps147
   go_wp2_with fail
   refine (cut_no b t _ _ Hh.out H1.out).mono ?_
   rintro e w1 ⟨rfl, r1, k1⟩
   have R1 := Lib.hid r1; have K1 := Lib.hid k1; clear r1 k1
   go_wp2_with fail
   refine (cut_no b t _ _ R1.out H2.out).mono ?_
   rintro e w2 ⟨rfl, r2, k2⟩
   have R2 := Lib.hid r2; have K2 := Lib.hid k2; clear r2 k2
   go_wp2_with fail
   refine (decimal_any b t _ R2.out hs HSm.out).mono ?_
   rw [HO.out]
   rintro e w3 h3
   obtain ⟨v, r, a1, a2, a3, a4⟩ := Reads1.from (K1.out.trans K2.out) h3
   have A1 := Lib.hid a1; have A2 := Lib.hid a2; have A3 := Lib.hid a3; have A4 := Lib.hid a4
   clear a1 a2 a3 a4 h3
   cases o with
   | none =>
    obtain rfl := A4.out rfl
    go_wp2
    go_ret2
    exact Reads1.no v r A1.out A2.out rfl
   | some x =>
    obtain ⟨ns, u⟩ := x
    obtain ⟨rfl, hn, hr⟩ := A3.out ns u rfl
    have HN := Lib.hid hn; have HRR := Lib.hid hr
    clear hn hr
    go_wp2
    go_ret2
    exact Reads1.yes v (by rw [← HRR.out]; exact A1.out) A2.out HN.out rfl
  ·have HR : Hid (rpart t.data.toList = some ([fol 8 (dgs 8 (t.data.toList.drop 1))], (t.data.toList.drop 1).dropWhile (dig 8))) := Lib.hid (by rw [rpart, h1, h2]; rfl)
   rw [HR.out]
   have H1 := Lib.hid h1
   have H2 := Lib.hid h2
   have hz : (asB (t.data.toList.drop 1)).size ≤ 1048600 := by rw [asB_size, List.length_drop]; omega
   obtain ⟨T, HT⟩ : ∃ T, Hid (asB (t.data.toList.drop 1) = T) := ⟨_, Lib.hid rfl⟩
   have HTs : Hid (Sml T.data.toList) := Lib.hid (by rw [← HT.out]; exact HSm.out.drop 1)
   have HTe : Hid (t.data.toList.drop 1 = T.data.toList) := Lib.hid (by rw [← HT.out]; rfl)
   rw [HT.out] at hz
   rw [HTe.out]
   clear h1 h2 hl
   go_enter Tryz.func147, Tryz.ntmps147
   go_wp2_with fail
   refine (cut_no b t _ _ Hh.out H1.out).mono ?_
   rintro e w1 ⟨rfl, r1, k1⟩
   have R1 := Lib.hid r1; have K1 := Lib.hid k1; clear r1 k1
   go_wp2_with fail
   refine (cut_yes b t ⟨#[48]⟩ _ R1.out H2.out).mono ?_
   rw [show asB (t.data.toList.drop (⟨#[48]⟩ : ByteArray).size) = T from HT.out]
   rintro e w2 ⟨rfl, r2, k2⟩
   have R2 := Lib.hid r2; have K2 := Lib.hid k2; clear r2 k2
   go_wp2_with fail
   refine (rd_digits_any b 8 T _ R2.out hz (by omega) HTs.out).mono ?_
   rintro e w3 ⟨rfl, r3, k3⟩
   have R3 := Lib.hid r3; have K3 := Lib.hid k3; clear r3 k3
   go_wp2
   go_ret2
   have K := (K1.out.trans K2.out).trans K3.out
   exact Reads1.yes _ (R3.out.alloc _) (K.alloc _) (nums_one w w3 _ b K) rfl
 ·have HR : Hid (rpart t.data.toList = some ([fol 16 (dgs 16 (t.data.toList.drop 2))], (t.data.toList.drop 2).dropWhile (dig 16))) := Lib.hid (by rw [rpart, h1]; rfl)
  rw [HR.out]
  have H1 := Lib.hid h1
  have hz : (asB (t.data.toList.drop 2)).size ≤ 1048600 := by rw [asB_size, List.length_drop]; omega
  obtain ⟨T, HT⟩ : ∃ T, Hid (asB (t.data.toList.drop 2) = T) := ⟨_, Lib.hid rfl⟩
  have HTs : Hid (Sml T.data.toList) := Lib.hid (by rw [← HT.out]; exact HSm.out.drop 2)
  have HTe : Hid (t.data.toList.drop 2 = T.data.toList) := Lib.hid (by rw [← HT.out]; rfl)
  rw [HT.out] at hz
  rw [HTe.out]
  clear h1 hl
  go_enter Tryz.func147, Tryz.ntmps147
  go_wp2_with fail
  refine (cut_yes b t ⟨#[48, 120]⟩ _ Hh.out H1.out).mono ?_
  rw [show asB (t.data.toList.drop (⟨#[48, 120]⟩ : ByteArray).size) = T from HT.out]
  rintro e w2 ⟨rfl, r2, k2⟩
  have R2 := Lib.hid r2; have K2 := Lib.hid k2; clear r2 k2
  go_wp2_with fail
  refine (rd_digits_any b 16 T _ R2.out hz (by omega) HTs.out).mono ?_
  rintro e w3 ⟨rfl, r3, k3⟩
  have R3 := Lib.hid r3; have K3 := Lib.hid k3; clear r3 k3
  go_wp2
  go_ret2
  have K := K2.out.trans K3.out
  exact Reads1.yes _ (R3.out.alloc _) (K.alloc _) (nums_one w w3 _ b K) rfl

end Go.Proofs.YtcphokaamkalfaaGreatDoor
namespace Go.Proofs.YtcphokaamkalfaaGreatDoor
open Go.RowKit

/-- What is known of a function value that reads, from a world on. -/
structure Way (b : Nat) (F : FuncId) (first caps : Array Value) (o : List UInt8 → Option (List Nat × List UInt8)) (W0 : World) : Prop where
 ent : ∀ args w, (callFunc F args).run Tryz.prog w = .ok (.enter F args) w
 go : ∀ w t, Kp (Only b) W0 w → Rd w b t → t.size ≤ 1048600 → Sml t.data.toList → Calls Tryz.prog F (first ++ caps) w (Reads1 b (o t.data.toList) w)
 suf : ∀ l ns u, o l = some (ns, u) → ∃ p, l = p ++ u ∧ p ≠ []
 num : ∀ l ns u, o l = some (ns, u) → 1 ≤ ns.length ∧ ns.length ≤ 2

theorem row_end {o : List UInt8 → Option (List Nat × List UInt8)} {sep : UInt8} {most f : Nat} {out : List Nat} {l : List UInt8} (h : out ≠ []) (hl : ([sep] : List UInt8).isPrefixOf l = false) (hf : 0 < f) : rowG o sep most f out l = (out, l) := by
 obtain ⟨f, rfl⟩ : ∃ g, f = g + 1 := ⟨f - 1, by omega⟩
 have h2 : l.head? ≠ some sep := by
  cases l with
  | nil => simp
  | cons c l =>
   intro e
   have : c = sep := by simpa using e
   subst this; simp [List.isPrefixOf] at hl
 rw [rowG, if_pos ⟨h, h2⟩]
theorem row_on {o : List UInt8 → Option (List Nat × List UInt8)} {sep : UInt8} {most f : Nat} {out : List Nat} {l m : List UInt8} (h : (out = [] ∧ m = l) ∨ (out ≠ [] ∧ ([sep] : List UInt8).isPrefixOf l = true ∧ m = l.drop 1)) : rowG o sep most (f + 1) out l = match o m with
   | none => (out, l)
   | some (ns, r) => if most < out.length + ns.length then (out, l) else rowG o sep most f (out ++ ns) r := by
 rcases h with ⟨rfl, rfl⟩ | ⟨h, hp, rfl⟩
 ·rw [rowG, if_neg (by simp), if_pos rfl]; rfl
 ·have h2 : ¬ (out ≠ [] ∧ l.head? ≠ some sep) := by
   rintro ⟨_, h2⟩
   cases l with
   | nil => simp [List.isPrefixOf] at hp
   | cons c l =>
    simp [List.isPrefixOf] at hp
    subst hp; exact h2 rfl
  rw [rowG, if_neg h2, if_neg h]; rfl
theorem own_set1 {w : World} {base : Nat} {e : TypeId} {size : Nat} {v : Value} {n : Nat} {xs : List Value} (h : w.ownsRow base e size v n xs) {p : Addr} (hp : ∀ q, v.ownBlock = some q → q ≠ p.block) (u : Value) : (w.setCell p u).ownsRow base e size v n xs := by
 obtain ⟨h1, h2⟩ := h
 refine ⟨h1, ?_⟩
 rcases h2 with h2 | ⟨g, cap, cur, rfl, hg, hh, r⟩
 ·exact .inl h2
 ·exact .inr ⟨g, cap, cur, rfl, hg, by rw [Below.heap_setCell _ _ _ _ (hp g rfl)]; exact hh, r⟩
theorem slice_own {w : World} {base : Nat} {e : TypeId} {v : Value} {n : Nat} {xs : List Value} (h : w.ownsRow base e 1 v n xs) : ∃ a cap, v = .slice a n cap ∧ ∀ q, v.ownBlock = some q → base ≤ q := by
 rcases h.2 with ⟨rfl, rfl⟩ | ⟨g, cap, cur, rfl, hg, _⟩
 ·exact ⟨none, 0, rfl, fun q hq => by cases hq⟩
 ·exact ⟨some ⟨g, 0, none⟩, cap, rfl, fun q hq => by injection hq with hq; rw [← hq]; exact hg⟩

/-- What the row leaves. -/
def RowPost (b : Nat) (R : List Nat × List UInt8) (w : World) (e : Ending) (w' : World) : Prop :=
 ∃ v, e = .returned v ∧ w'.ownsRow w.heap.size 3 1 v R.1.length (R.1.map k_iv) ∧ Rd w' b (asB R.2) ∧ Kp (Only b) w w'

set_option maxRecDepth 100000 in
set_option maxHeartbeats 2000000 in
theorem row_any (b : Nat) (F : FuncId) (first caps : Array Value) (o : List UInt8 → Option (List Nat × List UInt8)) (sep : UInt8) (most : Nat) (t : ByteArray) (w : World) (hW : Way b F first caps o w) (h : Rd w b t) (hs : t.size ≤ 1048600) (hsm : Sml t.data.toList) (hm : most ≤ 8) :
  Calls Tryz.prog 96 #[.pointer (some ⟨b, 0, none⟩), .func (.func F) first caps, .string ⟨#[sep]⟩, .int .i64 (most : Int)] w (RowPost b (rowG o sep most (t.size + 2) [] t.data.toList) w) := by
 obtain ⟨R, HR⟩ : ∃ R, Hid (rowG o sep most (t.size + 2) [] t.data.toList = R) := ⟨_, Lib.hid rfl⟩
 rw [HR.out]
 have HWay := Lib.hid hW
 have hent := hW.ent
 have Hh := Lib.hid h
 have HSm := Lib.hid hsm
 have hlt0 := h.lt
 clear hW h hsm
 go_enter Tryz.func96, Tryz.ntmps96
 go_wp2
 go_loopw [9, 10, 11, 12] (fun x _ _ _ wr => ∃ (out : List Nat) (u : ByteArray) (f : Nat), Hid (rowG o sep most f out u.data.toList = R) ∧ u.size + 2 ≤ f ∧ u.size ≤ t.size ∧ Hid (Sml u.data.toList) ∧ out.length ≤ 8 ∧ Hid (wr.ownsRow w.heap.size 3 1 x out.length (out.map k_iv)) ∧ Hid (Rd wr b u) ∧ Hid (Kp (Only b) w wr)) (fun _ _ _ _ wr => match wr.cell? ⟨b, 0, none⟩ with | some (.string u) => u.size | _ => 0)
 case atStart => exact ⟨[], t, t.size + 2, HR, Nat.le_refl _, Nat.le_refl _, HSm, by simp, Lib.hid ⟨rfl, .inl ⟨rfl, rfl⟩⟩, Hh, Lib.hid (Kp.refl _ _)⟩
 case round =>
  obtain ⟨out, u, f, HF, hf, hut, HSu, hol, HO, HU, HK⟩ := hrel
  obtain ⟨a, cap, rfl, hob⟩ := slice_own HO.out
  have HOb := Lib.hid hob
  clear hob
  have hcu := HU.out.cell
  have hub : (Value.slice a out.length cap).ownBlock ≠ some b := fun e => by have := HOb.out b e; omega
  have HUb := Lib.hid hub
  clear hub
  obtain ⟨f, rfl⟩ : ∃ g, f = g + 1 := ⟨f - 1, by omega⟩
  by_cases ho : out = []
  ·have HON := Lib.hid (row_on (.inl ⟨ho, rfl⟩ : (out = [] ∧ u.data.toList = u.data.toList) ∨ (out ≠ [] ∧ ([sep] : List UInt8).isPrefixOf u.data.toList = true ∧ u.data.toList = u.data.toList.drop 1)) (o := o) (most := most) (f := f))
   rw [HF.out] at HON
   obtain ⟨oo, HOO⟩ : ∃ oo, Hid (o u.data.toList = oo) := ⟨_, Lib.hid rfl⟩
   rw [HOO.out] at HON
   have HK0 := HK
   have HO0 := HO
   have h0 : out.length ≤ 0 := by rw [ho]; exact Nat.le_refl _
   clear ho
   go_wp2_with fail
   refine (HWay.out.go _ u HK.out HU.out (by omega) HSu.out).mono ?_
   rw [HOO.out]
   rintro e w1 h1
   obtain ⟨v, r, a1, a2, a3, a4⟩ := h1
   have A1 := Lib.hid a1; have A3 := Lib.hid a3; have A4 := Lib.hid a4
   have hc1 := a1.cell
   have hf1 := a1.free
   have HK1 : Hid (Kp (Only b) w w1) := Lib.hid (HK0.out.trans a2)
   have HO1 : Hid (w1.ownsRow w.heap.size 3 1 (.slice a out.length cap) out.length (out.map k_iv)) := Lib.hid (own_kept HO0.out a2 (fun q hq e => by rw [show q = b from e] at hq; omega))
   clear a1 a2 a3 a4
   have HSuf : Hid (∀ ns x, oo = some (ns, x) → ∃ p, u.data.toList = p ++ x ∧ p ≠ []) := Lib.hid (fun ns x e => by
    obtain ⟨p, h1, h2⟩ := HWay.out.suf _ ns x (by rw [HOO.out, e])
    exact ⟨p, h1, h2⟩)
   have HNum : Hid (∀ ns x, oo = some (ns, x) → 1 ≤ ns.length ∧ ns.length ≤ 2) := Lib.hid (fun ns x e => HWay.out.num _ ns x (by rw [HOO.out, e]))
   cases oo with
   | none =>
    obtain rfl := A4.out rfl
    go_wp2
    all_goals
     go_ret
     exact ⟨_, rfl, by rw [HON.out]; exact own_set1 HO1.out (fun q hq e => HUb.out (by rw [hq]; exact congrArg some e)) _, by rw [HON.out]; exact A1.out.set _, HK1.out.setCell (X := Only b) (p := ⟨b, 0, none⟩) rfl _⟩
   | some x =>
    obtain ⟨ns, x⟩ := x
    obtain ⟨rfl, ⟨g, hg1, rfl, hg2⟩, hr⟩ := A3.out ns x rfl
    have hn := HNum.out ns x rfl
    obtain ⟨hn1, hn2⟩ := hn
    have hsx : x.length < u.size := by
     obtain ⟨p, hp, hne⟩ := HSuf.out ns x rfl
     have := congrArg List.length hp
     rw [lenB, List.length_append] at this
     have : 0 < p.length := List.length_pos_iff.2 hne
     omega
    have HG2 := Lib.hid hg2
    have HRr := Lib.hid hr
    have HSx : Hid (Sml x) := Lib.hid (by
     obtain ⟨p, hp, hne⟩ := HSuf.out ns x rfl
     exact HSu.out.suf hp)
    clear hg2 hr
    by_cases hov : most < out.length + ns.length
    ·have HRR : Hid (R = (out, u.data.toList)) := Lib.hid (by rw [HON.out]; simp only; rw [if_pos hov])
     have hovI : (most : Int) < (out.length : Int) + (ns.length : Int) := by omega
     clear hov
     go_wp2
     all_goals
      go_ret
      exact ⟨_, rfl, by rw [HRR.out]; exact own_set1 HO1.out (fun q hq e => HUb.out (by rw [hq]; exact congrArg some e)) _, by rw [HRR.out]; exact A1.out.set _, HK1.out.setCell (X := Only b) (p := ⟨b, 0, none⟩) rfl _⟩
    ·have HRR : Hid (rowG o sep most f (out ++ ns) x = R) := Lib.hid (by rw [HON.out]; simp only; rw [if_neg hov])
     have hovI : ¬ (most : Int) < (out.length : Int) + (ns.length : Int) := by omega
     have hov' : out.length + ns.length ≤ most := by omega
     clear hov
     have hsz : (out.map k_iv).length + (ns.map k_iv).toArray.size ≤ 10000000 := by rw [List.length_map, List.size_toArray, List.length_map]; omega
     obtain ⟨v', w2, hrun, hown, hgrow⟩ := k_appI w.heap.size g (.slice a out.length cap) (out.map k_iv) (ns.map k_iv).toArray w1 (by rw [List.length_map]; exact HO1.out) HG2.out hsz (by intro z hz; simp at hz; obtain ⟨n, _, rfl⟩ := hz; rfl) HK1.out.size
     rw [show (ns.map k_iv).toArray.size = ns.length by simp] at hrun
     have HRun := Lib.hid hrun
     have HOwn : Hid (w2.ownsRow w.heap.size 3 1 v' (out ++ ns).length ((out ++ ns).map k_iv)) := Lib.hid (by
      have : (out ++ ns).map k_iv = out.map k_iv ++ (ns.map k_iv).toArray.toList := by simp
      rw [this]
      have e2 : (out ++ ns).length = (out.map k_iv ++ (ns.map k_iv).toArray.toList).length := by simp
      rw [e2]; exact hown)
     have HRd2 : Hid (Rd w2 b r) := Lib.hid (A1.out.grown hgrow HUb.out)
     have HK2 : Hid (Kp (Only b) w w2) := Lib.hid (HK1.out.grown hgrow (fun q hq => HOb.out q hq))
     clear hrun hown hgrow hsz
     go_wp2_with (at_builtin; refine Lib.wpList_append_run _ rfl _ _ _ _ rfl _ _ rfl rfl _ _ HRun.out ?_)
     refine ⟨⟨out ++ ns, r, f, ?_, ?_, ?_, ?_, by simp; omega, HOwn, HRd2, HK2⟩, ?_⟩
     ·rw [HRr.out]; exact HRR
     ·rw [HRr.out, asB_size]; omega
     ·rw [HRr.out, asB_size]; omega
     ·rw [HRr.out]; exact HSx
     ·simp only [hcu, HRd2.out.cell]
      rw [HRr.out, asB_size]; exact hsx
  ·have h0 : 0 < out.length := List.length_pos_iff.2 ho
   cases hp : ([sep] : List UInt8).isPrefixOf u.data.toList
   ·have HRR : Hid (R = (out, u.data.toList)) := Lib.hid (by rw [← HF.out]; exact row_end ho hp (by omega))
    have HP := Lib.hid hp
    clear hp ho
    go_wp2_with fail
    refine (cut_no b u _ _ HU.out HP.out).mono ?_
    rintro e w0 ⟨rfl, r0, k0⟩
    have R0 := Lib.hid r0; have K0 := Lib.hid k0; clear r0 k0
    go_wp2
    go_ret
    exact ⟨_, rfl, by rw [HRR.out]; exact own_kept HO.out K0.out (fun q hq e => by rw [show q = b from e] at hq; omega), by rw [HRR.out]; exact R0.out, HK.out.trans K0.out⟩
   have HON := Lib.hid (row_on (.inr ⟨ho, hp, rfl⟩ : (out = [] ∧ u.data.toList.drop 1 = u.data.toList) ∨ (out ≠ [] ∧ ([sep] : List UInt8).isPrefixOf u.data.toList = true ∧ u.data.toList.drop 1 = u.data.toList.drop 1)) (o := o) (most := most) (f := f))
   rw [HF.out] at HON
   obtain ⟨oo, HOO⟩ : ∃ oo, Hid (o (u.data.toList.drop 1) = oo) := ⟨_, Lib.hid rfl⟩
   rw [HOO.out] at HON
   have HP := Lib.hid hp
   have hz1 : (asB (u.data.toList.drop 1)).size ≤ 1048600 := by rw [asB_size, List.length_drop, lenB]; omega
   clear hp ho
   go_wp2_with fail
   refine (cut_yes b u ⟨#[sep]⟩ _ HU.out HP.out).mono ?_
   rintro e w0 ⟨rfl, r0, k0⟩
   have R0 := Lib.hid r0
   have HK0 : Hid (Kp (Only b) w w0) := Lib.hid (HK.out.trans k0)
   have HO0 : Hid (w0.ownsRow w.heap.size 3 1 (.slice a out.length cap) out.length (out.map k_iv)) := Lib.hid (own_kept HO.out k0 (fun q hq e => by rw [show q = b from e] at hq; omega))
   clear r0 k0
   go_wp2_with fail
   refine (HWay.out.go _ (asB (u.data.toList.drop 1)) HK0.out R0.out hz1 (HSu.out.drop 1)).mono ?_
   rw [asB_data, HOO.out]
   rintro e w1 h1
   obtain ⟨v, r, a1, a2, a3, a4⟩ := h1
   have A1 := Lib.hid a1; have A3 := Lib.hid a3; have A4 := Lib.hid a4
   have hc1 := a1.cell
   have hf1 := a1.free
   have HK1 : Hid (Kp (Only b) w w1) := Lib.hid (HK0.out.trans a2)
   have HO1 : Hid (w1.ownsRow w.heap.size 3 1 (.slice a out.length cap) out.length (out.map k_iv)) := Lib.hid (own_kept HO0.out a2 (fun q hq e => by rw [show q = b from e] at hq; omega))
   clear a1 a2 a3 a4
   have HSuf : Hid (∀ ns x, oo = some (ns, x) → ∃ p, u.data.toList = p ++ x ∧ p ≠ []) := Lib.hid (fun ns x e => by
    obtain ⟨p, h1, h2⟩ := HWay.out.suf _ ns x (by rw [HOO.out, e])
    exact ⟨u.data.toList.take 1 ++ p, by rw [List.append_assoc, ← h1, List.take_append_drop], by simp [h2]⟩)
   have HNum : Hid (∀ ns x, oo = some (ns, x) → 1 ≤ ns.length ∧ ns.length ≤ 2) := Lib.hid (fun ns x e => HWay.out.num _ ns x (by rw [HOO.out, e]))
   cases oo with
   | none =>
    obtain rfl := A4.out rfl
    go_wp2
    all_goals
     go_ret
     exact ⟨_, rfl, by rw [HON.out]; exact own_set1 HO1.out (fun q hq e => HUb.out (by rw [hq]; exact congrArg some e)) _, by rw [HON.out]; exact A1.out.set _, HK1.out.setCell (X := Only b) (p := ⟨b, 0, none⟩) rfl _⟩
   | some x =>
    obtain ⟨ns, x⟩ := x
    obtain ⟨rfl, ⟨g, hg1, rfl, hg2⟩, hr⟩ := A3.out ns x rfl
    have hn := HNum.out ns x rfl
    obtain ⟨hn1, hn2⟩ := hn
    have hsx : x.length < u.size := by
     obtain ⟨p, hp, hne⟩ := HSuf.out ns x rfl
     have := congrArg List.length hp
     rw [lenB, List.length_append] at this
     have : 0 < p.length := List.length_pos_iff.2 hne
     omega
    have HG2 := Lib.hid hg2
    have HRr := Lib.hid hr
    have HSx : Hid (Sml x) := Lib.hid (by
     obtain ⟨p, hp, hne⟩ := HSuf.out ns x rfl
     exact HSu.out.suf hp)
    clear hg2 hr
    by_cases hov : most < out.length + ns.length
    ·have HRR : Hid (R = (out, u.data.toList)) := Lib.hid (by rw [HON.out]; simp only; rw [if_pos hov])
     have hovI : (most : Int) < (out.length : Int) + (ns.length : Int) := by omega
     clear hov
     go_wp2
     all_goals
      go_ret
      exact ⟨_, rfl, by rw [HRR.out]; exact own_set1 HO1.out (fun q hq e => HUb.out (by rw [hq]; exact congrArg some e)) _, by rw [HRR.out]; exact A1.out.set _, HK1.out.setCell (X := Only b) (p := ⟨b, 0, none⟩) rfl _⟩
    ·have HRR : Hid (rowG o sep most f (out ++ ns) x = R) := Lib.hid (by rw [HON.out]; simp only; rw [if_neg hov])
     have hovI : ¬ (most : Int) < (out.length : Int) + (ns.length : Int) := by omega
     have hov' : out.length + ns.length ≤ most := by omega
     clear hov
     have hsz : (out.map k_iv).length + (ns.map k_iv).toArray.size ≤ 10000000 := by rw [List.length_map, List.size_toArray, List.length_map]; omega
     obtain ⟨v', w2, hrun, hown, hgrow⟩ := k_appI w.heap.size g (.slice a out.length cap) (out.map k_iv) (ns.map k_iv).toArray w1 (by rw [List.length_map]; exact HO1.out) HG2.out hsz (by intro z hz; simp at hz; obtain ⟨n, _, rfl⟩ := hz; rfl) HK1.out.size
     rw [show (ns.map k_iv).toArray.size = ns.length by simp] at hrun
     have HRun := Lib.hid hrun
     have HOwn : Hid (w2.ownsRow w.heap.size 3 1 v' (out ++ ns).length ((out ++ ns).map k_iv)) := Lib.hid (by
      have : (out ++ ns).map k_iv = out.map k_iv ++ (ns.map k_iv).toArray.toList := by simp
      rw [this]
      have e2 : (out ++ ns).length = (out.map k_iv ++ (ns.map k_iv).toArray.toList).length := by simp
      rw [e2]; exact hown)
     have HRd2 : Hid (Rd w2 b r) := Lib.hid (A1.out.grown hgrow HUb.out)
     have HK2 : Hid (Kp (Only b) w w2) := Lib.hid (HK1.out.grown hgrow (fun q hq => HOb.out q hq))
     clear hrun hown hgrow hsz
     go_wp2_with (at_builtin; refine Lib.wpList_append_run _ rfl _ _ _ _ rfl _ _ rfl rfl _ _ HRun.out ?_)
     refine ⟨⟨out ++ ns, r, f, ?_, ?_, ?_, ?_, by simp; omega, HOwn, HRd2, HK2⟩, ?_⟩
     ·rw [HRr.out]; exact HRR
     ·rw [HRr.out, asB_size]; omega
     ·rw [HRr.out, asB_size]; omega
     ·rw [HRr.out]; exact HSx
     ·simp only [hcu, HRd2.out.cell]
      rw [HRr.out, asB_size]; exact hsx

end Go.Proofs.YtcphokaamkalfaaGreatDoor
namespace Go.Proofs.YtcphokaamkalfaaGreatDoor
open Go.RowKit

theorem dgs_split (b : Nat) (l : List UInt8) : l = dgs b l ++ l.dropWhile (dig b) := (List.takeWhile_append_dropWhile (p := dig b) (l := l)).symm
theorem rdec_suf {l : List UInt8} {ns : List Nat} {u : List UInt8} (h : rdec l = some (ns, u)) : (∃ p, l = p ++ u ∧ p ≠ []) ∧ ns.length = 1 := by
 unfold rdec at h
 split at h
 ·cases h
 ·rename_i hne
  injection h with h; injection h with h1 h2
  subst h1; subst h2
  exact ⟨⟨_, dgs_split 10 l, hne⟩, rfl⟩
theorem rpiece_suf {l : List UInt8} {ns : List Nat} {u : List UInt8} (h : rpiece l = some (ns, u)) : (∃ p, l = p ++ u ∧ p ≠ []) ∧ ns.length = 1 := by
 unfold rpiece at h
 split at h
 ·rename_i hl
  injection h with h; injection h with h1 h2
  subst h1; subst h2
  exact ⟨⟨_, dgs_split 16 l, by intro h0; rw [h0] at hl; simp at hl⟩, rfl⟩
 ·cases h
theorem rsmall_suf {l : List UInt8} {ns : List Nat} {u : List UInt8} (h : rsmall l = some (ns, u)) : (∃ p, l = p ++ u ∧ p ≠ []) ∧ ns.length = 1 ∧ ∀ n ∈ ns, n ≤ 255 := by
 unfold rsmall at h
 split at h
 ·cases h
 ·rename_i h3
  split at h
  ·cases h
  ·rename_i hne
   injection h with h; injection h with h1 h2
   subst h1; subst h2
   refine ⟨⟨_, dgs_split 10 l, hne⟩, rfl, fun n hn => ?_⟩
   rw [List.mem_singleton.1 hn]
   exact Nat.le_of_not_lt fun h => h3 (.inr h)
theorem rpart_suf {l : List UInt8} {ns : List Nat} {u : List UInt8} (h : rpart l = some (ns, u)) : (∃ p, l = p ++ u ∧ p ≠ []) ∧ ns.length = 1 := by
 unfold rpart at h
 split at h
 ·rename_i hp
  obtain ⟨r, rfl⟩ := List.isPrefixOf_iff_prefix.1 hp
  injection h with h; injection h with h1 h2
  subst h1; subst h2
  refine ⟨⟨[48, 120] ++ dgs 16 r, ?_, by simp⟩, rfl⟩
  show [48, 120] ++ r = [48, 120] ++ dgs 16 r ++ r.dropWhile (dig 16)
  rw [List.append_assoc, ← dgs_split]
 ·split at h
  ·rename_i hp
   obtain ⟨r, rfl⟩ := List.isPrefixOf_iff_prefix.1 hp
   injection h with h; injection h with h1 h2
   subst h1; subst h2
   refine ⟨⟨[48] ++ dgs 8 r, ?_, by simp⟩, rfl⟩
   show [48] ++ r = [48] ++ dgs 8 r ++ r.dropWhile (dig 8)
   rw [List.append_assoc, ← dgs_split]
  ·exact rdec_suf h

theorem Way.later {b : Nat} {F : FuncId} {first caps : Array Value} {o : List UInt8 → Option (List Nat × List UInt8)} {W0 W1 : World} (h : Way b F first caps o W0) (k : Kp (Only b) W0 W1) : Way b F first caps o W1 :=
 ⟨h.ent, fun w t hk => h.go w t (k.trans hk), h.suf, h.num⟩
theorem way_part (b : Nat) (W : World) : Way b 147 #[.pointer (some ⟨b, 0, none⟩)] #[] rpart W :=
 ⟨enters_of Tryz.func147 (by kernel_rfl) rfl, fun w t _ h hs hsm => part_any b t w h hs hsm, fun l ns u h => (rpart_suf h).1, fun l ns u h => by rw [(rpart_suf h).2]; exact ⟨Nat.le_refl _, by omega⟩⟩
theorem way_decimal (b : Nat) (W : World) : Way b 175 #[.pointer (some ⟨b, 0, none⟩)] #[] rdec W :=
 ⟨enters_of Tryz.func175 (by kernel_rfl) rfl, fun w t _ h hs hsm => decimal_any b t w h hs hsm, fun l ns u h => (rdec_suf h).1, fun l ns u h => by rw [(rdec_suf h).2]; exact ⟨Nat.le_refl _, by omega⟩⟩
theorem way_piece (b : Nat) (W : World) : Way b 95 #[.pointer (some ⟨b, 0, none⟩)] #[] rpiece W :=
 ⟨enters_of Tryz.func95 (by kernel_rfl) rfl, fun w t _ h hs hsm => piece_any b t w h hs hsm, fun l ns u h => (rpiece_suf h).1, fun l ns u h => by rw [(rpiece_suf h).2]; exact ⟨Nat.le_refl _, by omega⟩⟩
theorem way_small (b : Nat) (W : World) : Way b 135 #[.pointer (some ⟨b, 0, none⟩)] #[] rsmall W :=
 ⟨enters_of Tryz.func135 (by kernel_rfl) rfl, fun w t _ h hs hsm => small_any b t w h hs hsm, fun l ns u h => (rsmall_suf h).1, fun l ns u h => by rw [(rsmall_suf h).2.1]; exact ⟨Nat.le_refl _, by omega⟩⟩

theorem row_small_le (most : Nat) : ∀ (f : Nat) (out : List Nat) (l : List UInt8), (∀ n ∈ out, n ≤ 255) → ∀ n ∈ (rowG rsmall 46 most f out l).1, n ≤ 255
 | 0, out, l, h => h
 | f + 1, out, l, h => by
  rw [rowG]
  split
  ·exact h
  ·split
   ·exact h
   ·rename_i ns r h2
    split
    ·exact h
    ·exact row_small_le most f _ r fun n hn => by
      rcases List.mem_append.1 hn with hn | hn
      ·exact h n hn
      ·exact (rsmall_suf h2).2.2 n hn
theorem or_byte (a b : Nat) (ha : a < 1099511627776) (hb : b < 256) : bits .or .i64 ((a : Int) * 256) (b : Int) = ((256 * a + b : Nat) : Int) := by
 have h0 : a * 256 ||| b = a * 256 + b := by
  have := Nat.two_pow_add_eq_or_of_lt (i := 8) (b := b) (by omega) a
  rw [Nat.mul_comm a 256]; exact this.symm
 have h1 : (BitVec.ofInt 64 ((a : Int) * 256)).toNat = a * 256 := by
  rw [show (a : Int) * 256 = ((a * 256 : Nat) : Int) by simp, BitVec.ofInt_natCast, BitVec.toNat_ofNat]; exact Nat.mod_eq_of_lt (by omega)
 have h2 : (BitVec.ofInt 64 (b : Int)).toNat = b := by
  rw [BitVec.ofInt_natCast, BitVec.toNat_ofNat]; exact Nat.mod_eq_of_lt (by omega)
 show IntKind.i64.wrap ((BitVec.ofInt 64 ((a : Int) * 256) ||| BitVec.ofInt 64 (b : Int)).toNat : Int) = _
 rw [BitVec.toNat_or, h1, h2, h0]
 rw [show ((256 * a + b : Nat) : Int) = ((a * 256 + b : Nat) : Int) by rw [Nat.mul_comm]]
 exact IntWalk.i64_in _ (by omega)

set_option maxRecDepth 100000 in
set_option maxHeartbeats 2000000 in
theorem four_any (b : Nat) (t : ByteArray) (w : World) (h : Rd w b t) (hs : t.size ≤ 1048600) (hsm : Sml t.data.toList) :
  Calls Tryz.prog 94 #[.pointer (some ⟨b, 0, none⟩)] w (Reads1 b (rfour t.data.toList) w) := by
 obtain ⟨R, HR⟩ : ∃ R, Hid (rowG rsmall 46 4 (t.size + 2) [] t.data.toList = R) := ⟨_, Lib.hid rfl⟩
 have HC : Hid (Calls Tryz.prog 96 #[.pointer (some ⟨b, 0, none⟩), .func (.func 135) #[.pointer (some ⟨b, 0, none⟩)] #[], .string ⟨#[46]⟩, .int .i64 4] w (RowPost b R w)) := Lib.hid (by
  have := row_any b _ _ _ rsmall 46 4 t w (way_small b w) h hs hsm (by omega)
  rw [HR.out] at this; exact this)
 have HF : Hid (rfour t.data.toList = if R.2 = [] then match two4 R.1 with | some ns => some (ns, []) | none => none else none) := Lib.hid (by rw [rfour, lenB, HR.out]; rfl)
 have HLe : Hid (∀ n ∈ R.1, n ≤ 255) := Lib.hid (by rw [← HR.out]; exact row_small_le 4 _ _ _ (by simp))
 have hmf := mkfK
 have Hh := Lib.hid h
 rw [HF.out]
 obtain ⟨A, B⟩ := R
 clear HR h hsm
 by_cases h4 : A.length = 4
 ·obtain ⟨n0, n1, n2, n3, rfl⟩ : ∃ n0 n1 n2 n3, A = [n0, n1, n2, n3] := by
   match A, h4 with
   | [a, b, c, d], _ => exact ⟨a, b, c, d, rfl⟩
  clear h4
  have l0 : n0 ≤ 255 := HLe.out _ (by simp)
  have l1 : n1 ≤ 255 := HLe.out _ (by simp)
  have l2 : n2 ≤ 255 := HLe.out _ (by simp)
  have l3 : n3 ≤ 255 := HLe.out _ (by simp)
  cases B with
  | cons x B =>
   rw [if_neg (by simp)]
   have hem : (asB (x :: B)).toList.isEmpty = false := by rw [ByteArray.toList_eq]; rfl
   go_enter Tryz.func94, Tryz.ntmps94
   go_wp2_with fail
   refine HC.out.mono ?_
   rintro e w1 ⟨v, rfl, own1, r1, k1⟩
   obtain ⟨a, cap, rfl, hob⟩ := slice_own own1
   have hc1 := r1.cell
   have R1 := Lib.hid r1; have K1 := Lib.hid k1
   clear own1 hob r1 k1
   go_wp2
   go_ret2
   exact Reads1.no _ _ R1.out K1.out rfl
  | nil =>
   rw [if_pos rfl]
   change Calls _ _ _ _ (Reads1 b (some ([256 * n0 + n1, 256 * n2 + n3], [])) w)
   have o1 := Lib.hid (or_byte n0 n1 (by omega) (by omega))
   have o2 := Lib.hid (or_byte n2 n3 (by omega) (by omega))
   have hem : (asB []).toList.isEmpty = true := by rw [ByteArray.toList_eq]; rfl
   go_enter Tryz.func94, Tryz.ntmps94
   go_wp2_with fail
   refine HC.out.mono ?_
   rintro e w1 ⟨v, rfl, own1, r1, k1⟩
   have hc1 := r1.cell
   have R1 := Lib.hid r1; have K1 := Lib.hid k1
   clear r1 k1
   rcases own1.2 with ⟨_, h0⟩ | ⟨g, cap, cur, rfl, hg, hrest⟩
   ·simp at h0
   have hcs := own1.cellAt
   have c0 : w1.cell? ⟨g, 0, none⟩ = some (.int .i64 n0) := hcs 0 (by simp)
   have c1 : w1.cell? ⟨g, 1, none⟩ = some (.int .i64 n1) := hcs 1 (by simp)
   have c2 : w1.cell? ⟨g, 2, none⟩ = some (.int .i64 n2) := hcs 2 (by simp)
   have c3 : w1.cell? ⟨g, 3, none⟩ = some (.int .i64 n3) := hcs 3 (by simp)
   clear hcs own1 hrest
   go_wp2
   go_region
   all_goals
    go_wp2
    go_ret2
    refine Reads1.yes _ ?_ ?_ ⟨_, K1.out.size, rfl, ?_⟩ rfl
    ·exact R1.out.alloc _
    ·exact (K1.out.alloc _).drew
    ·show _ = some (Obj.cells #[.int .i64 ((256 * n0 + n1 : Nat) : Int), .int .i64 ((256 * n2 + n3 : Nat) : Int)] 3 (0, 0))
     rw [← o1.out, ← o2.out]
     exact heap_alloc_new w1 _
 ·have hn : two4 A = none := by
   match A, h4 with
   | [], _ => rfl
   | [_], _ => rfl
   | [_, _], _ => rfl
   | [_, _, _], _ => rfl
   | [_, _, _, _], h4 => simp at h4
   | _ :: _ :: _ :: _ :: _ :: _, _ => rfl
  have HN : Hid ((if (A, B).2 = [] then match two4 (A, B).1 with | some ns => some (ns, []) | none => none else none) = (none : Option (List Nat × List UInt8))) := Lib.hid (by
   simp only [hn]; split <;> rfl)
  rw [HN.out]
  obtain ⟨m, HM⟩ : ∃ m, Hid (m = A.length) := ⟨_, Lib.hid rfl⟩
  have h4I : ((m : Int) == 4) = false := beq_eq_false_iff_ne.2 (by rw [HM.out]; omega)
  have h4J : ((m : Int) != 4) = true := by simp [bne, h4I]
  clear hn h4
  go_enter Tryz.func94, Tryz.ntmps94
  go_wp2_with fail
  refine HC.out.mono ?_
  rintro e w1 ⟨v, rfl, own1, r1, k1⟩
  obtain ⟨a, cap, rfl, hob⟩ := slice_own own1
  have hc1 := r1.cell
  have R1 := Lib.hid r1; have K1 := Lib.hid k1
  clear own1 hob r1 k1
  simp only
  rw [← HM.out]
  go_wp2
  all_goals
   go_ret2
   exact Reads1.no _ _ R1.out K1.out rfl

end Go.Proofs.YtcphokaamkalfaaGreatDoor
namespace Go.Proofs.YtcphokaamkalfaaGreatDoor
open Go.RowKit

/-- A number's byte, counted from its end. -/
def byteN (n j : Nat) : Value := .int .u8 ((n / 256 ^ j % 256 : Nat) : Int)

def u8v (n : Nat) : Value := .int .u8 (n : Int)
/-- An address, as its cells. -/
def cellsA (six : Bool) (l : List Nat) : Array Value := (Value.bool six :: l.map u8v).toArray
theorem cellsA_size (six : Bool) (l : List Nat) : (cellsA six l).size = l.length + 1 := by simp [cellsA]
theorem cellsA_zero (six : Bool) (l : List Nat) : (cellsA six l)[0]? = some (.bool six) := rfl
theorem cellsA_at (six : Bool) (l : List Nat) (j : Nat) : (cellsA six l)[j + 1]? = l[j]?.map u8v := by simp [cellsA]
theorem cells_ext {D : Array Value} {l : List Nat} {six : Bool} (hs : D.size = l.length + 1) (h0 : D[0]? = some (.bool six)) (h : ∀ j, j < l.length → D[j + 1]? = l[j]?.map u8v) : D = cellsA six l := by
 apply Array.ext_getElem?
 intro i
 cases i with
 | zero => rw [h0]; rfl
 | succ i =>
  rw [cellsA_at]
  by_cases hi : i < l.length
  ·exact h i hi
  ·rw [Array.getElem?_eq_none (by omega), List.getElem?_eq_none (by omega)]; rfl
theorem be_at : ∀ (k n j : Nat), j < k → (be k n)[k - 1 - j]? = some (n / 256 ^ j % 256)
 | 0, _, _, h => absurd h (Nat.not_lt_zero _)
 | k + 1, n, j, h => by
  rw [be]
  cases j with
  | zero =>
   rw [List.getElem?_append_right (by rw [be_len]; omega), be_len]
   simp
  | succ j =>
   rw [List.getElem?_append_left (by rw [be_len]; omega)]
   have := be_at k (n / 256) j (by omega)
   rw [show k + 1 - 1 - (j + 1) = k - 1 - j by omega, this, Nat.div_div_eq_div_mul, Nat.pow_succ, Nat.mul_comm 256]
/-- No address. -/
def zeroA : Array Value := cellsA false (List.replicate 16 0)
theorem zeroA_size : zeroA.size = 17 := by simp [zeroA, cellsA_size]
theorem infoA : (Tryz.prog.info? 54).map (fun i => (i.zero, i.size)) = some (some (.agg zeroA), 17) := by kernel_rfl

/-- Bytes that were put among an address's cells. -/
theorem put_cells {six : Bool} {A : List Nat} {k len n : Nat} {D : Array Value} (hk : k + len ≤ A.length) (hs : D.size = (cellsA six A).size) (h1 : ∀ j, ¬ (1 + k ≤ j ∧ j < 1 + k + len) → D[j]? = (cellsA six A)[j]?) (h2 : ∀ j, j < len → D[1 + k + len - 1 - j]? = some (byteN n j)) :
  D = cellsA six (A.take k ++ be len n ++ A.drop (k + len)) := by
 have hl : (A.take k ++ be len n ++ A.drop (k + len)).length = A.length := by
  rw [List.length_append, List.length_append, List.length_take, be_len, List.length_drop]; omega
 refine cells_ext (by rw [hs, cellsA_size, hl]) (by rw [h1 0 (by omega)]; rfl) (fun j hj => ?_)
 rw [hl] at hj
 by_cases hin : k ≤ j ∧ j < k + len
 ·have h := h2 (k + len - 1 - j) (by omega)
  rw [show 1 + k + len - 1 - (k + len - 1 - j) = j + 1 by omega] at h
  rw [h, List.getElem?_append_left (by rw [List.length_append, List.length_take, be_len]; omega), List.getElem?_append_right (by rw [List.length_take]; omega), List.length_take]
  have := be_at len n (k + len - 1 - j) (by omega)
  rw [show len - 1 - (k + len - 1 - j) = j - k by omega] at this
  rw [show j - min k A.length = j - k by omega, this]; rfl
 ·rw [h1 (j + 1) (by omega), cellsA_at]
  congr 1
  by_cases hlo : j < k
  ·rw [List.getElem?_append_left (by rw [List.length_append, List.length_take]; omega), List.getElem?_append_left (by rw [List.length_take]; omega), List.getElem?_take_of_lt hlo]
  ·rw [List.getElem?_append_right (by rw [List.length_append, List.length_take, be_len]; omega), List.length_append, List.length_take, be_len, List.getElem?_drop]
   congr 1; omega
theorem cellsA_one (six : Bool) (l : List Nat) : (cellsA six l).all (·.oneCell') = true := by
 have h : ∀ x ∈ (cellsA six l).toList, x.oneCell' = true := by
  intro x hx
  simp only [cellsA] at hx
  rcases List.mem_cons.1 hx with rfl | hx
  ·rfl
  ·obtain ⟨n, _, rfl⟩ := List.mem_map.1 hx; rfl
 rw [Array.all_eq_true]
 intro i hi
 exact h _ (by rw [Array.mem_toList_iff]; exact Array.getElem_mem hi)
theorem zeroA_one : zeroA.all (·.oneCell') = true := cellsA_one _ _
theorem results_row2 {P : Program} {fn : Func} {p u : Tmp} {ty : TypeId} (h : fn.results = #[.cell p ty, .tmp u]) (tmps : Array Value) (w : World) (g : Nat) (t : TypeId) (cs : Array Value) (fr : Nat × Nat) (d : TypeDesc)
  (hp : tmps.getD p undef = .pointer (some ⟨g, 0, none⟩)) (hg : w.heap[g]? = some (.cells cs t fr))
  (hu : P.underlying ty = some d) (hd : (match d with | .struct _ | .array _ _ => true | _ => false) = true) (hi : (P.info? ty).map (·.size) = some cs.size) :
  (results fn tmps).run P w = .ok (.tuple #[.agg cs, tmps.getD u undef]) w := by
 rw [results_cell_tmp h, hp]
 simp [asAddr, run_loadVar_row w g t ty cs fr d hg hu hd hi, Result.andThen]

/-- What is answered of a text as four bytes. -/
def fourV (o : Bool × Option (List Nat)) : Value := match o with
 | (false, _) => .tuple #[.agg zeroA, .bool false, .int .i64 0]
 | (true, none) => .tuple #[.agg zeroA, .bool true, .int .i64 5]
 | (true, some bs) => .tuple #[.agg (cellsA false (bs ++ List.replicate 12 0)), .bool true, .int .i64 0]

theorem results_row3 {P : Program} {fn : Func} {p u v : Tmp} {ty : TypeId} (h : fn.results = #[.cell p ty, .tmp u, .tmp v]) (tmps : Array Value) (w : World) (g : Nat) (t : TypeId) (cs : Array Value) (fr : Nat × Nat) (d : TypeDesc)
  (hp : tmps.getD p undef = .pointer (some ⟨g, 0, none⟩)) (hg : w.heap[g]? = some (.cells cs t fr))
  (hu : P.underlying ty = some d) (hd : (match d with | .struct _ | .array _ _ => true | _ => false) = true) (hi : (P.info? ty).map (·.size) = some cs.size) :
  (results fn tmps).run P w = .ok (.tuple #[.agg cs, tmps.getD u undef, tmps.getD v undef]) w := by
 have hp' : tmps[p]?.getD undef = .pointer (some ⟨g, 0, none⟩) := by simpa using hp
 simp [results, h, hp', asAddr, run_loadVar_row w g t ty cs fr d hg hu hd hi]

theorem lay4_pre : ∀ (pre : List Nat) (r m : Nat), (∀ x ∈ pre, x < 256) → lay4 r (pre ++ [m]) = if m < 256 ^ (r - pre.length) then some (pre ++ be (r - pre.length) m) else none
 | [], r, m, _ => by simp [lay4]
 | [x], r, m, h => by
  have hx : x < 256 := h x (by simp)
  show lay4 r (x :: m :: []) = _
  rw [lay4, if_pos hx, lay4]
  simp only [List.length_singleton]
  by_cases hm : m < 256 ^ (r - 1)
  ·rw [if_pos hm, if_pos hm]; rfl
  ·rw [if_neg hm, if_neg hm]
 | x :: y :: pre, r, m, h => by
  have hx : x < 256 := h x (by simp)
  have ih := lay4_pre (y :: pre) (r - 1) m (fun z hz => h z (List.mem_cons_of_mem _ hz))
  show lay4 r (x :: y :: (pre ++ [m])) = _
  rw [lay4, if_pos hx]
  rw [show (y :: (pre ++ [m])) = (y :: pre) ++ [m] from rfl, ih]
  have e : r - 1 - (y :: pre).length = r - (x :: y :: pre).length := by simp; omega
  rw [e]
  by_cases hm : m < 256 ^ (r - (x :: y :: pre).length)
  ·rw [if_pos hm, if_pos hm]; rfl
  ·rw [if_neg hm, if_neg hm]
theorem lay4_bad : ∀ (pre : List Nat) (r x y : Nat) (rest : List Nat), (∀ x ∈ pre, x < 256) → 256 ≤ x → lay4 r (pre ++ x :: y :: rest) = none
 | [], r, x, y, rest, _, hx => by
  show lay4 r (x :: y :: rest) = none
  rw [lay4, if_neg (by omega)]
 | z :: pre, r, x, y, rest, h, hx => by
  have ih := lay4_bad pre (r - 1) x y rest (fun w hw => h w (List.mem_cons_of_mem _ hw)) hx
  have hz : z < 256 := h z (by simp)
  cases pre with
  | nil =>
   show lay4 r (z :: x :: y :: rest) = none
   rw [lay4, if_pos hz]
   rw [show lay4 (r - 1) (x :: y :: rest) = none from ih]
  | cons w pre =>
   show lay4 r (z :: w :: (pre ++ x :: y :: rest)) = none
   rw [lay4, if_pos hz]
   rw [show lay4 (r - 1) (w :: (pre ++ x :: y :: rest)) = none from ih]

end Go.Proofs.YtcphokaamkalfaaGreatDoor
