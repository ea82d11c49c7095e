/-
  Package sts: a directive's value; a directive.
-/
import Derived.Test.YthffgnlebljkcaaDoorTsC
namespace Go.Proofs.YthffgnlebljkcaaDoor
open Go.RowKit

set_option maxRecDepth 100000 in
set_option maxHeartbeats 2000000 in
theorem value_any (b m : Nat) (l : List UInt8) (w : World) (h : RsAt w b m l) (hl : l.length ≤ 65536) :
    Calls Tryd.prog 47 #[.pointer (some ⟨b, 0, none⟩)] w (StepT w b m (valD l)) := by
  have HT : Hid (Calls Tryd.prog 56 #[.string (asB l), .string ⟨#[32, 9]⟩] w fun e w' => e = .returned (.string (asB (cutL l))) ∧ Below w.heap.size w w') := Lib.hid (Tryd.strings_TrimLeft_laid (asB l) ⟨#[32, 9]⟩ w (by decide) (ascii_of_all (by decide)))
  have HR := Lib.hid h
  have c1 := h.c0
  have hcl := cutL_le l
  have HV : Hid (valD l = if (cutL l).head? = some 34 then quoD ((cutL l).drop 1) [] else if tokS (trimL (upT en1 (cutL l))) then some (trimL (upT en1 (cutL l)), frT en1 (cutL l)) else none) := Lib.hid rfl
  obtain ⟨O, HO⟩ : ∃ O, Hid (valD l = O) := ⟨_, Lib.hid rfl⟩
  rw [HO.out] at HV ⊢
  obtain ⟨c, Hc⟩ : ∃ c, Hid (cutL l = c) := ⟨_, Lib.hid rfl⟩
  rw [Hc.out] at HV HT hcl
  have HC : Hid (∀ w1, RsAt w1 b m c → Calls Tryd.prog 34 #[.pointer (some ⟨b, 0, none⟩), .string ⟨#[34]⟩] w1 fun e w' => e = .returned (.bool (decide (c.head? = some 34))) ∧ RsAt w' b m (if c.head? = some 34 then c.drop 1 else c) ∧ Kp (Only b) w1 w') := Lib.hid fun w1 h1 => cut_any b m c 34 w1 h1
  have HCl : Hid (c.length ≤ 65536) := Lib.hid (by omega)
  clear h hl hcl
  by_cases h34 : c.head? = some 34
  · rw [if_pos h34, decide_eq_true h34] at HC
    rw [if_pos h34] at HV
    have HQ : Hid (∀ w1, RsAt w1 b m (c.drop 1) → Calls Tryd.prog 57 #[.pointer (some ⟨b, 0, none⟩)] w1 (StepT w1 b m O)) := Lib.hid fun w1 h1 => by
      rw [HV.out]
      exact quoted_any b m _ w1 h1 (by have := HCl.out; rw [List.length_drop]; omega)
    clear h34
    go_enter Tryd.func47, Tryd.ntmps47
    go_wp2_with fail
    refine HT.out.mono ?_
    rintro e w1 ⟨rfl, hb⟩
    have HR1 := Lib.hid (HR.out.below hb)
    have HK1 : Hid (Kp (Only b) w w1) := Lib.hid (Kp.of_below hb)
    have f1 := HR1.out.f0
    have c2 := HR1.out.c0
    clear hb
    go_wp2_with fail
    refine (HC.out _ (HR1.out.set c)).mono ?_
    rintro e w2 ⟨rfl, hr, hk⟩
    have HR2 := Lib.hid hr
    have HK2 := Lib.hid ((HK1.out.one 0 _).trans hk)
    clear hr hk f1 c2
    go_wp2_with fail
    refine (HQ.out w2 HR2.out).mono ?_
    rintro e w3 ⟨h1, hk⟩
    have HK3 := Lib.hid (HK2.out.trans hk)
    clear hk
    cases O with
    | none =>
      have h1 : e = stsP := h1
      subst h1
      exact sts_panic ⟨rfl, HK3.out⟩
    | some x =>
      obtain ⟨h1, h2⟩ := h1
      subst h1
      have HR3 := Lib.hid h2
      clear h2
      go_wp2
      go_ret
      exact ⟨⟨rfl, HR3.out⟩, HK3.out⟩
  · rw [if_neg h34, decide_eq_false h34] at HC
    rw [if_neg h34] at HV
    have HU : Hid (∀ w1, RsAt w1 b m c → Calls Tryd.prog 46 #[.pointer (some ⟨b, 0, none⟩), .string ⟨#[59]⟩] w1 fun e w' => e = .returned (.string (asB (trimL (upT en1 c)))) ∧ RsAt w' b m (frT en1 c) ∧ Kp (Only b) w1 w') := Lib.hid fun w1 h1 => until1_any b m c w1 h1 HCl.out
    have HTk : Hid (∀ w1, Calls Tryd.prog 18 #[.string (asB (trimL (upT en1 c)))] w1 fun e w' => e = .returned (.bool (tokS (trimL (upT en1 c)))) ∧ Below w1.heap.size w1 w') := Lib.hid fun w1 => Token_any _ w1 (by
      rw [asB_size]
      have h1 := trimL_le (upT en1 c)
      have h2 := upT_le en1 c
      have h3 := HCl.out
      unfold maxLen; omega)
    obtain ⟨N, HN⟩ : ∃ N, Hid (trimL (upT en1 c) = N) := ⟨_, Lib.hid rfl⟩
    obtain ⟨F, HF⟩ : ∃ F, Hid (frT en1 c = F) := ⟨_, Lib.hid rfl⟩
    rw [HN.out, HF.out] at HV HU
    rw [HN.out] at HTk
    clear h34
    go_enter Tryd.func47, Tryd.ntmps47
    go_wp2_with fail
    refine HT.out.mono ?_
    rintro e w1 ⟨rfl, hb⟩
    have HR1 := Lib.hid (HR.out.below hb)
    have HK1 : Hid (Kp (Only b) w w1) := Lib.hid (Kp.of_below hb)
    have f1 := HR1.out.f0
    have c2 := HR1.out.c0
    clear hb
    go_wp2_with fail
    refine (HC.out _ (HR1.out.set c)).mono ?_
    rintro e w2 ⟨rfl, hr, hk⟩
    have HR2 := Lib.hid hr
    have HK2 := Lib.hid ((HK1.out.one 0 _).trans hk)
    clear hr hk f1 c2
    go_wp2_with fail
    refine (HU.out w2 HR2.out).mono ?_
    rintro e w3 ⟨rfl, hr, hk⟩
    have HR3 := Lib.hid hr
    have HK3 := Lib.hid (HK2.out.trans hk)
    clear hr hk
    go_wp2_with fail
    refine (HTk.out w3).mono ?_
    rintro e w4 ⟨rfl, hb⟩
    have HR4 := Lib.hid (HR3.out.below hb)
    have HK4 := Lib.hid (HK3.out.trans (Kp.of_below hb))
    clear hb
    cases ht : tokS N with
    | false =>
      have HN := Lib.hid (need_no w4)
      have HV2 : Hid (O = none) := Lib.hid (by rw [HV.out, ht]; rfl)
      clear ht
      go_wp2_with fail
      refine HN.out.mono ?_
      rintro e w5 ⟨rfl, rfl⟩
      refine sts_panic ?_
      rw [HV2.out]
      exact ⟨rfl, HK4.out⟩
    | true =>
      have HY := Lib.hid (need_yes w4)
      have HV2 : Hid (O = some (N, F)) := Lib.hid (by rw [HV.out, ht]; rfl)
      clear ht
      go_wp2_with fail
      refine HY.out.mono ?_
      rintro e w5 ⟨rfl, rfl⟩
      go_wp2
      go_ret
      rw [HV2.out]
      exact ⟨⟨rfl, HR4.out⟩, HK4.out⟩

def TwoB (b m : Nat) : Nat → Prop := fun k => k = b ∨ k = m
theorem MapAt.kp {b m : Nat} {w w' : World} {T : List TsE} (h : MapAt w m T) (hbm : b ≠ m) (k : Kp (Only b) w w') : MapAt w' m T := h.of (k.block m h.lt fun e => hbm (Eq.symm e))
theorem MapAt.put {w : World} {m : Nat} {T : List TsE} (h : MapAt w m T) {n : List UInt8} (v : Bool × List UInt8) (hs : sayT n T = none) :
    ∃ w2, (Instr.mapUpdate 42 (.map (some m)) (.string (asB n)) (sayV v)).run Tryd.prog w = .ok () w2 ∧ MapAt w2 m (T ++ [(n, v)]) ∧ Kp (Only m) w w2 := by
  have hlt := h.lt
  obtain ⟨es, c, hb, hk⟩ := h
  refine ⟨_, run_put_new (sayV v) Tryd.underlying42 Tryd.underlying9 hb (fun x hx => ?_), ⟨es.push { key := .string (asB n), val := sayV v, born := c }, c + 1, ?_, ?_⟩, ⟨rfl, rfl, rfl, ?_, fun k _ hk' => ?_⟩⟩
  · obtain ⟨y, hy, e, _⟩ := kv_of hk hx
    exact ⟨_, e, fun e' => say_none hs y hy (asB_inj e')⟩
  · show (w.heap.setIfInBounds m _)[m]? = _
    rw [Array.getElem?_setIfInBounds_self_of_lt hlt]
  · rw [Array.toList_push, List.map_append, List.map_append, hk]; rfl
  · show w.heap.size ≤ (w.heap.setIfInBounds m _).size
    rw [Array.size_setIfInBounds]; exact Nat.le_refl _
  · show (w.heap.setIfInBounds m _)[k]? = _
    rw [Array.getElem?_setIfInBounds_ne (fun e => hk' (Eq.symm e))]
def duD (i : Nat) : Nat := 35 + i
def duV (b m : Nat) (s K X : ByteArray) (f : Bool) (i : Nat) : Value :=
  [.pointer (some ⟨b, 0, none⟩), .pointer (some ⟨b, 0, none⟩), .pointer (some ⟨b, 1, none⟩), .map (some m), .string s, .string K, .agg #[.string X, .bool f]].getD i undef
structure AtU (w0 : World) (Pf : World → Prop) (b m g : Nat) (s K X : ByteArray) (f : Bool) (L : Nat → Bool) (t : Nat → Value) (w : World) : Prop where
  bel : L 7 = false → Below w0.heap.size w0 w
  k0 : t 0 = .pointer (some ⟨b, 0, none⟩)
  k2 : t 2 = .string s
  k6 : t 6 = .pointer (some ⟨g, 0, none⟩)
  vs : ∀ i, i < 7 → L i = true → t (duD i) = duV b m s K X f i
  fin : L 7 = true → Pf w
  dep : L 7 = true → ∀ i, i < 7 → L i = true
section
variable {w0 w w' : World} {Pf : World → Prop} {b m g : Nat} {s K X : ByteArray} {f : Bool} {L : Nat → Bool} {t : Nat → Value}
theorem AtU.pure (h : AtU w0 Pf b m g s K X f L t w) (i : Nat) (hi : i < 7) (hf : L i = false) : AtU w0 Pf b m g s K X f (tuL L i) (tuT t (duD i) (duV b m s K X f i)) w := by
  have h7 : L 7 = false := by
    cases hc : L 7 with
    | false => rfl
    | true => rw [h.dep hc i hi] at hf; cases hf
  have e7 : tuL L i 7 = false := by rw [tuL_ne _ (by omega)]; exact h7
  have hd : duD i = 35 + i := rfl
  refine ⟨fun _ => h.bel h7, by rw [tuT_ne _ _ (by omega)]; exact h.k0, by rw [tuT_ne _ _ (by omega)]; exact h.k2, by rw [tuT_ne _ _ (by omega)]; exact h.k6, fun j hj hl => ?_, fun hl => ?_, fun hl => ?_⟩
  · by_cases e : j = i
    · subst e; exact tuT_at _ _ _
    · rw [tuL_ne _ e] at hl
      rw [tuT_ne _ _ (by unfold duD; omega)]
      exact h.vs j hj hl
  · rw [e7] at hl; cases hl
  · rw [e7] at hl; cases hl
theorem AtU.grow (h : AtU w0 Pf b m g s K X f L t w) (hb : Below w.heap.size w w') (h7 : L 7 = false) : AtU w0 Pf b m g s K X f L t w' :=
  ⟨fun _ => (h.bel h7).trans (hb.mono (h.bel h7).size), h.k0, h.k2, h.k6, h.vs, fun hl => by rw [h7] at hl; (cases hl), fun hl => by rw [h7] at hl; (cases hl)⟩
theorem AtU.put (h : AtU w0 Pf b m g s K X f L t w) (hp : Pf w') (ha : ∀ i, i < 7 → L i = true) : AtU w0 Pf b m g s K X f (tuL L 7) t w' := by
  refine ⟨fun hl => ?_, h.k0, h.k2, h.k6, fun j hj hl => ?_, fun _ => hp, fun _ i hi => ?_⟩
  · rw [tuL_at] at hl; cases hl
  · exact h.vs j hj (ha j hj)
  · rw [tuL_ne _ (by omega)]; exact ha i hi
theorem AtU.not7 (h : AtU w0 Pf b m g s K X f L t w) {i : Nat} (hi : i < 7) (hf : L i = false) : L 7 = false := by
  cases hc : L 7 with
  | false => rfl
  | true => rw [h.dep hc i hi] at hf; cases hf
end
def frU (t : Nat → Value) : Act := ⟨#[t 0, t 1, t 2, t 3, t 4, t 5, t 6, t 7, t 8, t 9, t 10, t 11, t 12, t 13, t 14, t 15, t 16, t 17, t 18, t 19, t 20, t 21, t 22, t 23, t 24, t 25, t 26, t 27, t 28, t 29, t 30, t 31, t 32, t 33, t 34, t 35, t 36, t 37, t 38, t 39, t 40, t 41], []⟩
theorem list42 (l : List Value) (h : l.length = 42) : l = (List.range 42).map fun k => l.getD k undef := by
  refine List.ext_getElem (by simp [h]) fun i h1 h2 => ?_
  rw [List.getElem_map, List.getElem_range, List.getD_eq_getElem?_getD, List.getElem?_eq_getElem h1]
  rfl
theorem ts_skip {P : Program} {Q : Exit → Act → World → Prop} {K : Act → World → Prop} {a : Act} {w w' : World} {o : Oper} (hr : (execOp a.eval o).run P w = .ok .skip w') (h : K (a.put o.dst undef) w') : o.wp P a w K Q := by
  unfold Oper.wp
  rw [hr]
  exact h
theorem frU_of (a : Act) (h1 : a.tmps.size = 42) (h2 : a.defers = []) : a = frU fun k => a.tmps.toList.getD k undef := by
  obtain ⟨tm, df⟩ := a
  obtain rfl : df = [] := h2
  have h := list42 tm.toList h1
  unfold frU
  congr 1
  apply Array.toList_inj.1
  rw [h]
  rfl
/-- What a directive leaves. -/
def DirP (w : World) (b m : Nat) (o : Option (List UInt8 × List TsE)) (e : Ending) (w' : World) : Prop :=
  (match o with
    | none => e = stsP
    | some x => e = .returned (.tuple #[]) ∧ RsAt w' b m x.1 ∧ MapAt w' m x.2) ∧ Kp (TwoB b m) w w'
theorem kp_two {b m : Nat} {w w' : World} (h : Kp (Only b) w w') : Kp (TwoB b m) w w' := h.mono fun _ e => .inl e
theorem kp_two' {b m : Nat} {w w' : World} (h : Kp (Only m) w w') : Kp (TwoB b m) w w' := h.mono fun _ e => .inr e
theorem setRow_new {b g : Nat} {w0 w : World} (h : Kp (Only b) w0 w) (hg : w0.heap.size ≤ g) (cs : Array Value) : Kp (Only b) w0 (w.setRow g cs) :=
  ⟨by show w.os = _; exact h.os, by show w.tape = _; exact h.tape, by show w.output = _; exact h.output, by have := h.size; simpa [World.setRow] using this, fun k hk hx => by rw [setRow_other w g k cs (by omega)]; exact h.block k hk hx⟩

set_option maxRecDepth 100000 in
set_option maxHeartbeats 4000000 in
theorem directive_any (b m : Nat) (l : List UInt8) (T : List TsE) (w : World) (h : RsAt w b m l) (hm : MapAt w m T) (hu : UniqT T) (hbm : b ≠ m) (hl : l.length ≤ 65536) :
    Calls Tryd.prog 33 #[.pointer (some ⟨b, 0, none⟩)] w (DirP w b m (dirD l T)) := by
  have HM := Lib.hid hm
  have HU := Lib.hid (until2_any b m l w h hl)
  have HF := Lib.hid (frT_le en2 l)
  have HLen := Lib.hid hl
  have HDD : Hid (dirD l T = if (frT en2 l).head? = some 61 then
    if tokS (trimL (upT en2 l)) = false ∨ twiceB ((trimL (upT en2 l)).map low) T = true then none
    else match valD ((frT en2 l).drop 1) with
      | none => none
      | some (t, r) => some (r, T ++ [((trimL (upT en2 l)).map low, true, t)])
  else if trimL (upT en2 l) = [] then some (frT en2 l, T)
  else if tokS (trimL (upT en2 l)) = false ∨ twiceB ((trimL (upT en2 l)).map low) T = true then none
  else some (frT en2 l, T ++ [((trimL (upT en2 l)).map low, false, [])])) := Lib.hid rfl
  have hnl : (trimL (upT en2 l)).length ≤ 65536 := by
    have h1 := trimL_le (upT en2 l)
    have h2 := upT_le en2 l
    omega
  obtain ⟨n, Hn⟩ : ∃ n, Hid (trimL (upT en2 l) = n) := ⟨_, Lib.hid rfl⟩
  obtain ⟨R, HR⟩ : ∃ R, Hid (frT en2 l = R) := ⟨_, Lib.hid rfl⟩
  obtain ⟨O, HO⟩ : ∃ O, Hid (dirD l T = O) := ⟨_, Lib.hid rfl⟩
  rw [Hn.out, HR.out, HO.out] at HDD
  rw [Hn.out, HR.out] at HU
  rw [Hn.out] at hnl
  rw [HR.out] at HF
  rw [HO.out]
  have hN := asB_nil n
  have HTk : Hid (∀ w1, Calls Tryd.prog 18 #[.string (asB n)] w1 fun e w' => e = .returned (.bool (tokS n)) ∧ Below w1.heap.size w1 w') := Lib.hid fun w1 => Token_any _ w1 (by rw [asB_size]; unfold maxLen; omega)
  have HSd : Hid (∀ w1 l1, RsAt w1 b m l1 → MapAt w1 m T → Calls Tryd.prog 35 #[.pointer (some ⟨b, 0, none⟩), .string (asB n)] w1 fun e w' => e = .returned (.tuple #[sayV ((sayT (n.map low) T).getD (false, [])), .bool (sayT (n.map low) T).isSome]) ∧ Below w1.heap.size w1 w') := Lib.hid fun w1 l1 h1 h2 => said_any b m l1 T (asB n) w1 h1 h2 hu (by rw [asB_size]; unfold maxLen; omega)
  have HLw : Hid (∀ w1, Calls Tryd.prog 17 #[.string (asB n)] w1 fun e w' => e = .returned (.string (asB (n.map low))) ∧ Below w1.heap.size w1 w') := Lib.hid fun w1 => Lower_any (asB n) w1 (by rw [asB_size]; unfold maxLen; omega)
  have HPt : Hid (∀ w1 (v : Bool × List UInt8), MapAt w1 m T → sayT (n.map low) T = none → ∃ w2, (Instr.mapUpdate 42 (.map (some m)) (.string (asB (n.map low))) (sayV v)).run Tryd.prog w1 = .ok () w2 ∧ MapAt w2 m (T ++ [(n.map low, v)]) ∧ Kp (Only m) w1 w2) := Lib.hid fun w1 v h hs => h.put v hs
  obtain ⟨x5, f5, HV5⟩ : ∃ x5 f5, Hid (sayV ((sayT (n.map low) T).getD (false, [])) = .agg #[.string x5, .bool f5]) := ⟨_, _, Lib.hid rfl⟩
  rw [HV5.out] at HSd
  have HTw := Lib.hid (twice_say (n.map low) T)
  obtain ⟨N, HN⟩ : ∃ N, Hid (asB n = N) := ⟨_, Lib.hid rfl⟩
  rw [HN.out] at HU HTk HSd HLw hN
  obtain ⟨nl, Hnl⟩ : ∃ nl, Hid (n.map low = nl) := ⟨_, Lib.hid rfl⟩
  rw [Hnl.out] at HDD HSd HLw HPt HTw
  clear h hm hl hu hnl
  have HC : Hid (∀ w1, RsAt w1 b m R → Calls Tryd.prog 34 #[.pointer (some ⟨b, 0, none⟩), .string ⟨#[61]⟩] w1 fun e w' => e = .returned (.bool (decide (R.head? = some 61))) ∧ RsAt w' b m (if R.head? = some 61 then R.drop 1 else R) ∧ Kp (Only b) w1 w') := Lib.hid fun w1 h1 => cut_any b m R 61 w1 h1
  obtain ⟨R2, HR2⟩ : ∃ R2, Hid ((if R.head? = some 61 then R.drop 1 else R) = R2) := ⟨_, Lib.hid rfl⟩
  rw [HR2.out] at HC
  by_cases hh : R.head? = some 61
  · have HDD : Hid (O = _) := Lib.hid (HDD.out.trans (if_pos hh))
    have HR2' : Hid (R.drop 1 = R2) := Lib.hid (by rw [← HR2.out, if_pos hh])
    rw [HR2'.out] at HDD
    rw [decide_eq_true hh] at HC
    clear hh
    by_cases hn : n = []
    · rw [decide_eq_true hn] at hN
      have htk : tokS n = false := by rw [hn]; rfl
      have HOn : Hid (O = none) := Lib.hid (by rw [HDD.out, if_pos (.inl htk)])
      rw [htk] at HTk
      clear hn htk
      go_enter Tryd.func33, Tryd.ntmps33
      go_wp2_with fail
      refine HU.out.mono ?_
      rintro e w1 ⟨rfl, hr, hk⟩
      have HR1 := Lib.hid hr
      have HK1 := Lib.hid hk
      clear hr hk
      go_wp2_with fail
      refine (HC.out w1 HR1.out).mono ?_
      rintro e w2 ⟨rfl, hr, hk⟩
      have HRs2 := Lib.hid hr
      have HK2 := Lib.hid (HK1.out.trans hk)
      have HM2 := Lib.hid (HM.out.kp hbm HK2.out)
      clear hr hk
      go_wp2_with fail
      refine (HTk.out w2).mono ?_
      rintro e w3 ⟨rfl, hb⟩
      have HR3 := Lib.hid (HRs2.out.below hb)
      have HM3 := Lib.hid (HM2.out.below hb)
      have HK3 := Lib.hid (HK2.out.trans (Kp.of_below hb))
      clear hb
      have HN3 := Lib.hid (need_no w3)
      go_wp2_with fail
      refine HN3.out.mono ?_
      rintro e w4 ⟨rfl, rfl⟩
      refine sts_panic ?_
      rw [HOn.out]
      exact ⟨rfl, kp_two HK3.out⟩
    · rw [decide_eq_false hn] at hN
      clear hn
      cases htk : tokS n with
      | false =>
        have HOn : Hid (O = none) := Lib.hid (by rw [HDD.out, if_pos (.inl htk)])
        rw [htk] at HTk
        clear htk
        go_enter Tryd.func33, Tryd.ntmps33
        go_wp2_with fail
        refine HU.out.mono ?_
        rintro e w1 ⟨rfl, hr, hk⟩
        have HR1 := Lib.hid hr
        have HK1 := Lib.hid hk
        clear hr hk
        go_wp2_with fail
        refine (HC.out w1 HR1.out).mono ?_
        rintro e w2 ⟨rfl, hr, hk⟩
        have HRs2 := Lib.hid hr
        have HK2 := Lib.hid (HK1.out.trans hk)
        have HM2 := Lib.hid (HM.out.kp hbm HK2.out)
        clear hr hk
        go_wp2_with fail
        refine (HTk.out w2).mono ?_
        rintro e w3 ⟨rfl, hb⟩
        have HR3 := Lib.hid (HRs2.out.below hb)
        have HM3 := Lib.hid (HM2.out.below hb)
        have HK3 := Lib.hid (HK2.out.trans (Kp.of_below hb))
        clear hb
        have HN3 := Lib.hid (need_no w3)
        go_wp2_with fail
        refine HN3.out.mono ?_
        rintro e w4 ⟨rfl, rfl⟩
        refine sts_panic ?_
        rw [HOn.out]
        exact ⟨rfl, kp_two HK3.out⟩
      | true =>
        rw [htk] at HTk
        cases hs : (sayT nl T).isSome with
        | true =>
          have HOn : Hid (O = none) := Lib.hid (by rw [HDD.out, if_pos (.inr (by rw [HTw.out, hs]))])
          rw [hs] at HSd
          clear htk hs
          go_enter Tryd.func33, Tryd.ntmps33
          go_wp2_with fail
          refine HU.out.mono ?_
          rintro e w1 ⟨rfl, hr, hk⟩
          have HR1 := Lib.hid hr
          have HK1 := Lib.hid hk
          clear hr hk
          go_wp2_with fail
          refine (HC.out w1 HR1.out).mono ?_
          rintro e w2 ⟨rfl, hr, hk⟩
          have HRs2 := Lib.hid hr
          have HK2 := Lib.hid (HK1.out.trans hk)
          have HM2 := Lib.hid (HM.out.kp hbm HK2.out)
          clear hr hk
          go_wp2_with fail
          refine (HTk.out w2).mono ?_
          rintro e w3 ⟨rfl, hb⟩
          have HR3 := Lib.hid (HRs2.out.below hb)
          have HM3 := Lib.hid (HM2.out.below hb)
          have HK3 := Lib.hid (HK2.out.trans (Kp.of_below hb))
          clear hb
          have HN3 := Lib.hid (need_yes w3)
          go_wp2_with fail
          refine HN3.out.mono ?_
          rintro e w4 ⟨rfl, rfl⟩
          go_wp2_with fail
          refine (HSd.out w3 R2 HR3.out HM3.out).mono ?_
          rintro e w5 ⟨rfl, hb⟩
          have HR5 := Lib.hid (HR3.out.below hb)
          have HM5 := Lib.hid (HM3.out.below hb)
          have HK5 := Lib.hid (HK3.out.trans (Kp.of_below hb))
          clear hb
          obtain ⟨W5, HW5⟩ : ∃ W, Hid (w5.alloc (.cells #[.string ⟨#[]⟩, .bool false] 62) = W) := ⟨_, Lib.hid rfl⟩
          have HZ5 : Hid (W5.heap[w5.heap.size]? = some (.cells #[.string ⟨#[]⟩, .bool false] 62 (0, 0))) := Lib.hid (by rw [← HW5.out]; exact heap_alloc_new w5 _)
          have HB5 : Hid (Kp (Only b) w5 W5) := Lib.hid (by rw [← HW5.out]; exact Kp.of_below ((Below.refl _ _).alloc (Nat.le_refl _) _))
          obtain ⟨W6, HW6⟩ : ∃ W, Hid (W5.setRow w5.heap.size #[.string x5, .bool f5] = W) := ⟨_, Lib.hid rfl⟩
          have HK56 : Hid (Kp (fun _ => False) w5 W6) := Lib.hid (by
            rw [← HW6.out]
            have h : Kp (fun _ => False) w5 W5 := by rw [← HW5.out]; exact Kp.of_below ((Below.refl _ _).alloc (Nat.le_refl _) _)
            exact ⟨by show W5.os = _; exact h.os, by show W5.tape = _; exact h.tape, by show W5.output = _; exact h.output, by have := h.size; simpa [World.setRow] using this, fun k hk hx => by rw [setRow_other W5 _ k _ (by omega)]; exact h.block k hk hx⟩)
          have HR6 : Hid (RsAt W6 b m R2) := Lib.hid (HK56.out.at HR5.out id)
          have HM6 : Hid (MapAt W6 m T) := Lib.hid (HM5.out.of (HK56.out.block m HM5.out.lt id))
          have HK6 : Hid (Kp (Only b) w W6) := Lib.hid (HK5.out.trans (HK56.out.mono fun _ h => h.elim))
          have HI := Lib.hid infoSay
          have HN6 := Lib.hid (need_no W6)
          go_wp2_with (first
            | (rw [HW5.out]; refine wpL_store_row rfl 62 _ _ rfl w5.heap.size #[.string x5, .bool f5] ?_ ?_ 62 #[.string ⟨#[]⟩, .bool false] ?_ ?_ ?_ ?_ ?_; exact rfl; exact rfl; exact HZ5.out; exact HI.out; exact rfl; (simp [Value.oneCell']); rw [HW6.out]))
          refine HN6.out.mono ?_
          rintro e w7 ⟨rfl, rfl⟩
          refine sts_panic ?_
          rw [HOn.out]
          exact ⟨rfl, kp_two HK6.out⟩
        | false =>
          have HDD : Hid (O = _) := Lib.hid (HDD.out.trans (if_neg (by rw [htk, HTw.out, hs]; simp)))
          rw [hs] at HSd
          have HNo : Hid (sayT nl T = none) := Lib.hid (by cases hq : sayT nl T with | none => rfl | some _ => rw [hq] at hs; cases hs)
          clear htk hs
          go_enter Tryd.func33, Tryd.ntmps33
          go_wp2_with fail
          refine HU.out.mono ?_
          rintro e w1 ⟨rfl, hr, hk⟩
          have HR1 := Lib.hid hr
          have HK1 := Lib.hid hk
          clear hr hk
          go_wp2_with fail
          refine (HC.out w1 HR1.out).mono ?_
          rintro e w2 ⟨rfl, hr, hk⟩
          have HRs2 := Lib.hid hr
          have HK2 := Lib.hid (HK1.out.trans hk)
          have HM2 := Lib.hid (HM.out.kp hbm HK2.out)
          clear hr hk
          go_wp2_with fail
          refine (HTk.out w2).mono ?_
          rintro e w3 ⟨rfl, hb⟩
          have HR3 := Lib.hid (HRs2.out.below hb)
          have HM3 := Lib.hid (HM2.out.below hb)
          have HK3 := Lib.hid (HK2.out.trans (Kp.of_below hb))
          clear hb
          have HN3 := Lib.hid (need_yes w3)
          go_wp2_with fail
          refine HN3.out.mono ?_
          rintro e w4 ⟨rfl, rfl⟩
          go_wp2_with fail
          refine (HSd.out w3 R2 HR3.out HM3.out).mono ?_
          rintro e w5 ⟨rfl, hb⟩
          have HR5 := Lib.hid (HR3.out.below hb)
          have HM5 := Lib.hid (HM3.out.below hb)
          have HK5 := Lib.hid (HK3.out.trans (Kp.of_below hb))
          clear hb
          obtain ⟨W5, HW5⟩ : ∃ W, Hid (w5.alloc (.cells #[.string ⟨#[]⟩, .bool false] 62) = W) := ⟨_, Lib.hid rfl⟩
          have HZ5 : Hid (W5.heap[w5.heap.size]? = some (.cells #[.string ⟨#[]⟩, .bool false] 62 (0, 0))) := Lib.hid (by rw [← HW5.out]; exact heap_alloc_new w5 _)
          have HB5 : Hid (Kp (Only b) w5 W5) := Lib.hid (by rw [← HW5.out]; exact Kp.of_below ((Below.refl _ _).alloc (Nat.le_refl _) _))
          obtain ⟨W6, HW6⟩ : ∃ W, Hid (W5.setRow w5.heap.size #[.string x5, .bool f5] = W) := ⟨_, Lib.hid rfl⟩
          have HK56 : Hid (Kp (fun _ => False) w5 W6) := Lib.hid (by
            rw [← HW6.out]
            have h : Kp (fun _ => False) w5 W5 := by rw [← HW5.out]; exact Kp.of_below ((Below.refl _ _).alloc (Nat.le_refl _) _)
            exact ⟨by show W5.os = _; exact h.os, by show W5.tape = _; exact h.tape, by show W5.output = _; exact h.output, by have := h.size; simpa [World.setRow] using this, fun k hk hx => by rw [setRow_other W5 _ k _ (by omega)]; exact h.block k hk hx⟩)
          have HR6 : Hid (RsAt W6 b m R2) := Lib.hid (HK56.out.at HR5.out id)
          have HM6 : Hid (MapAt W6 m T) := Lib.hid (HM5.out.of (HK56.out.block m HM5.out.lt id))
          have HK6 : Hid (Kp (Only b) w W6) := Lib.hid (HK5.out.trans (HK56.out.mono fun _ h => h.elim))
          have HI := Lib.hid infoSay
          have HN6 := Lib.hid (need_yes W6)
          go_wp2_with (first
            | (rw [HW5.out]; refine wpL_store_row rfl 62 _ _ rfl w5.heap.size #[.string x5, .bool f5] ?_ ?_ 62 #[.string ⟨#[]⟩, .bool false] ?_ ?_ ?_ ?_ ?_; exact rfl; exact rfl; exact HZ5.out; exact HI.out; exact rfl; (simp [Value.oneCell']); rw [HW6.out]))
          refine HN6.out.mono ?_
          rintro e w7 ⟨rfl, rfl⟩
          obtain ⟨W7, HW7⟩ : ∃ W, Hid (W6.alloc (.cells #[.string ⟨#[]⟩, .bool true] 62) = W) := ⟨_, Lib.hid rfl⟩
          have HK67 : Hid (Below W6.heap.size W6 W7) := Lib.hid (by rw [← HW7.out]; exact (Below.refl _ _).alloc (Nat.le_refl _) _)
          have HS7 : Hid (W7.heap[W6.heap.size]? = some (.cells #[.string ⟨#[]⟩, .bool true] 62 (0, 0))) := Lib.hid (by rw [← HW7.out]; exact heap_alloc_new W6 _)
          have HR7 : Hid (RsAt W7 b m R2) := Lib.hid (HR6.out.below HK67.out)
          have HM7 : Hid (MapAt W7 m T) := Lib.hid (HM6.out.below HK67.out)
          have HK7 : Hid (Kp (Only b) w W7) := Lib.hid (HK6.out.trans (Kp.of_below HK67.out))
          have HbG : Hid (b ≠ W6.heap.size) := Lib.hid (by have := HR6.out.lt; omega)
          have HVa := Lib.hid (value_any b m R2 W7 HR7.out (by have := HF.out; have h2 := HR2'.out; rw [← h2, List.length_drop]; have := HLen.out; omega))
          go_wp2_with (first
            | (rw [HW7.out]; refine wpL_store_row rfl 62 _ _ rfl W6.heap.size #[.string ⟨#[]⟩, .bool true] ?_ ?_ 62 #[.string ⟨#[]⟩, .bool false] ?_ ?_ ?_ ?_ ?_; exact rfl; exact rfl; exact rfl; exact HI.out; exact rfl; (simp [Value.oneCell'])))
          rw [HW7.out]
          refine HVa.out.mono ?_
          rintro e w8 ⟨h1, hk⟩
          have HK8 := Lib.hid (HK7.out.trans hk)
          have HM8a : Hid (MapAt w8 m T) := Lib.hid (HM7.out.kp hbm hk)
          have hs8 : w8.heap[W6.heap.size]? = some (.cells #[.string ⟨#[]⟩, .bool true] 62 (0, 0)) := hk.at HS7.out (fun e => HbG.out (Eq.symm e))
          have HS8a := Lib.hid hs8
          have c8 : w8.cell? ⟨W6.heap.size, 0, none⟩ = some (.string ⟨#[]⟩) := by rw [cell_of_row w8 _ 0 _ _ _ hs8]; rfl
          have f8' : w8.frozen? ⟨W6.heap.size, 0, none⟩ = false := frozen_of_row w8 _ 0 _ _ hs8
          clear hk hs8
          cases hv : valD R2 with
          | none =>
            rw [hv] at h1
            have h1 : e = stsP := h1
            subst h1
            refine sts_panic ?_
            rw [HDD.out, hv]
            exact ⟨rfl, kp_two HK8.out⟩
          | some y =>
            obtain ⟨t8, r8⟩ := y
            rw [hv] at h1
            obtain ⟨h1, h2⟩ := h1
            subst h1
            obtain ⟨X8, HX8⟩ : ∃ X, Hid (asB t8 = X) := ⟨_, Lib.hid rfl⟩
            have HOs : Hid (O = some (r8, T ++ [(nl, true, t8)])) := Lib.hid (by rw [HDD.out, hv])
            obtain ⟨W8, HW8⟩ : ∃ W, Hid (w8.setCell ⟨W6.heap.size, 0, none⟩ (.string X8) = W) := ⟨_, Lib.hid rfl⟩
            have HK88 : Hid (Kp (Only W6.heap.size) w8 W8) := Lib.hid (by rw [← HW8.out]; exact (Kp.refl _ _).one _ _)
            have HR8 : Hid (RsAt W8 b m r8) := Lib.hid (HK88.out.at h2 HbG.out)
            have HmG : Hid (m ≠ W6.heap.size) := Lib.hid (by have := HM6.out.lt; omega)
            have HM8 : Hid (MapAt W8 m T) := Lib.hid (HM8a.out.of (HK88.out.block m HM8a.out.lt HmG.out))
            have HS8 : Hid (W8.heap[W6.heap.size]? = some (.cells #[.string X8, .bool true] 62 (0, 0))) := Lib.hid (by rw [← HW8.out, heap_setCell_same _ _ _ _ _ _ HS8a.out]; rfl)
            have HKw : Hid (Kp (Only b) w W8) := Lib.hid (by
              have h := HK8.out
              have h6 := HK6.out.size
              exact ⟨HK88.out.os.trans h.os, HK88.out.tape.trans h.tape, HK88.out.output.trans h.output, Nat.le_trans h.size HK88.out.size, fun k hk hx => (HK88.out.block k (Nat.lt_of_lt_of_le hk h.size) (fun e => by have e : k = W6.heap.size := e; omega)).trans (h.block k hk hx)⟩)
            obtain ⟨K8, HK8'⟩ : ∃ K, Hid (asB nl = K) := ⟨_, Lib.hid rfl⟩
            have HL := Lib.hid HLw.out
            rw [HK8'.out] at HL
            have HPut : Hid (∀ w', Below W8.heap.size W8 w' → ∃ w2, (Instr.mapUpdate 42 (.map (some m)) (.string K8) (.agg #[.string X8, .bool true])).run Tryd.prog w' = .ok () w2 ∧ RsAt w2 b m r8 ∧ MapAt w2 m (T ++ [(nl, true, t8)]) ∧ Kp (TwoB b m) w w2) := Lib.hid fun w' hb => by
              obtain ⟨w2, q1, q2, q3⟩ := HPt.out w' (true, t8) (HM8.out.below hb) HNo.out
              refine ⟨w2, ?_, q3.at (HR8.out.below hb) hbm, q2, (kp_two (HKw.out.trans (Kp.of_below hb))).trans (kp_two' q3)⟩
              rw [← HK8'.out, ← HX8.out]; exact q1
            clear h2 hv HVa
            go_wp2_with fail
            rw [HX8.out, HW8.out]
            refine wp_region_inv2 (by kernel_rfl) (fun listed a w' => ∃ t : Nat → Value, a = frU t ∧ AtU W8 (fun w2 => RsAt w2 b m r8 ∧ MapAt w2 m (T ++ [(nl, true, t8)]) ∧ Kp (TwoB b m) w w2) b m W6.heap.size N K8 X8 true (fun k => listed.getD k false) t w') (tsLex_spec (by kernel_rfl)) ?_ ?_ ?_
            · refine ⟨_, frU_of _ rfl rfl, fun _ => (Below.refl _ _).drew, rfl, rfl, rfl, fun i _ h => ?_, fun h => ?_, fun h => ?_⟩
              all_goals simp only [Array.getD_eq_getD_getElem?, Array.getElem?_replicate] at h
              all_goals (split at h <;> simp at h)
            · intro listed a w' i hsz hI hi
              obtain ⟨t, rfl, hA⟩ := hI
              obtain ⟨hlt, hf, o, ho, haft⟩ := ready_iff.1 hi
              have hlt' : i < 8 := hlt
              have hs' : listed.size = 8 := hsz
              have hup := tget_up listed i (by omega)
              have hf' : listed.getD i false = false := by
                rw [Array.getD_eq_getD_getElem?, Array.getElem?_eq_getElem (by omega)] at hf ⊢
                exact hf
              rcases (show i = 0 ∨ i = 1 ∨ i = 2 ∨ i = 3 ∨ i = 4 ∨ i = 5 ∨ i = 6 ∨ i = 7 by omega) with rfl | rfl | rfl | rfl | rfl | rfl | rfl | rfl
              all_goals (obtain rfl := Option.some.inj ho)
              · refine tsOp_of rfl rfl (ts_run (w' := w') (.pointer (some ⟨b, 0, none⟩)) ?_ ⟨tuT t 35 _, rfl, ?_⟩)
                · simp [execOp, frU, Act.eval, hA.k0]
                · rw [hup]; exact hA.pure 0 (by decide) hf'
              · have h0 : t 35 = .pointer (some ⟨b, 0, none⟩) := hA.vs 0 (by decide) (haft ⟨0, .data⟩ (by simp) rfl)
                refine tsOp_of rfl rfl (ts_run (w' := w') (.pointer (some ⟨b, 0, none⟩)) ?_ ⟨tuT t 36 _, rfl, ?_⟩)
                · simp [execOp, frU, Act.eval, h0]
                · rw [hup]; exact hA.pure 1 (by decide) hf'
              · have h1 : t 36 = .pointer (some ⟨b, 0, none⟩) := hA.vs 1 (by decide) (haft ⟨1, .data⟩ (by simp) rfl)
                refine tsOp_of rfl rfl (ts_run (w' := w') (.pointer (some ⟨b, 1, none⟩)) ?_ ⟨tuT t 37 _, rfl, ?_⟩)
                · simp [execOp, frU, Act.eval, h1, field_told]
                · rw [hup]; exact hA.pure 2 (by decide) hf'
              · have h2 : t 37 = .pointer (some ⟨b, 1, none⟩) := hA.vs 2 (by decide) (haft ⟨2, .data⟩ (by simp) rfl)
                refine tsOp_of rfl rfl (ts_run (w' := w') (.map (some m)) ?_ ⟨tuT t 38 _, rfl, ?_⟩)
                · simp [execOp, frU, Act.eval, h2, load_told w' b 1 _ (HR8.out.below (hA.bel (hA.not7 (i := 3) (by decide) hf'))).c1]
                · rw [hup]; exact hA.pure 3 (by decide) hf'
              · refine tsOp_of rfl rfl (ts_run (w' := w') (.string N) ?_ ⟨tuT t 39 _, rfl, ?_⟩)
                · simp [execOp, frU, Act.eval, hA.k2]
                · rw [hup]; exact hA.pure 4 (by decide) hf'
              · have h4 : t 39 = .string N := hA.vs 4 (by decide) (haft ⟨4, .data⟩ (by simp) rfl)
                refine tsOp_of rfl rfl (ts_call rfl h4 (by kernel_rfl) ((HL.out w').mono ?_))
                rintro e w2 ⟨rfl, hb⟩
                refine ⟨_, rfl, tuT t 40 _, rfl, ?_⟩
                rw [hup]; exact (hA.grow hb (hA.not7 (i := 5) (by decide) hf')).pure 5 (by decide) hf'
              · have hg6 := (hA.bel (hA.not7 (i := 6) (by decide) hf')).block _ (lt_of_block HS8.out) |>.trans HS8.out
                refine tsOp_of rfl rfl (ts_run (w' := w') (.agg #[.string X8, .bool true]) ?_ ⟨tuT t 41 _, rfl, ?_⟩)
                · simp [execOp, frU, Act.eval, hA.k6, Instr.loadAt, Instr.sureAddr, run_loadVar_row w' _ 62 62 #[.string X8, .bool true] (0, 0) _ hg6 Tryd.underlying62 rfl infoSay]
                · rw [hup]; exact hA.pure 6 (by decide) hf'
              · have h3 : t 38 = .map (some m) := hA.vs 3 (by decide) (haft ⟨3, .data⟩ (by simp) rfl)
                have h5 : t 40 = .string K8 := hA.vs 5 (by decide) (haft ⟨5, .data⟩ (by simp) rfl)
                have h6 : t 41 = .agg #[.string X8, .bool true] := hA.vs 6 (by decide) (haft ⟨6, .data⟩ (by simp) rfl)
                obtain ⟨w2, hrun, hw2⟩ := HPut.out w' (hA.bel hf')
                refine tsOp_of rfl rfl (ts_skip (w' := w2) ?_ ⟨t, rfl, ?_⟩)
                · simp [execOp, frU, Act.eval, h3, h5, h6, hrun]
                · rw [hup]; exact hA.put hw2 (fun i hi => by rcases (show i = 0 ∨ i = 1 ∨ i = 2 ∨ i = 3 ∨ i = 4 ∨ i = 5 ∨ i = 6 by omega) with rfl | rfl | rfl | rfl | rfl | rfl | rfl <;> exact haft ⟨_, .phase⟩ (by simp) rfl)
            · intro listed a w' hall hI
              obtain ⟨t, rfl, hA⟩ := hI
              obtain ⟨q1, q2, q3⟩ := hA.fin (hall 7 (by decide))
              have HQ1 := Lib.hid q1
              have HQ2 := Lib.hid q2
              have HQ3 := Lib.hid q3
              clear hall hA q1 q2 q3
              unfold frU
              go_wp2
              go_end0
              rw [HOs.out]
              exact ⟨⟨rfl, HQ1.out, HQ2.out⟩, HQ3.out⟩
  · have HDD : Hid (O = _) := Lib.hid (HDD.out.trans (if_neg hh))
    have HR2' : Hid (R = R2) := Lib.hid (by rw [← HR2.out, if_neg hh])
    rw [HR2'.out] at HDD
    rw [decide_eq_false hh] at HC
    clear hh
    by_cases hn : n = []
    · rw [decide_eq_true hn] at hN
      have HOn : Hid (O = some (R2, T)) := Lib.hid (by rw [HDD.out, if_pos hn])
      clear hn
      go_enter Tryd.func33, Tryd.ntmps33
      go_wp2_with fail
      refine HU.out.mono ?_
      rintro e w1 ⟨rfl, hr, hk⟩
      have HR1 := Lib.hid hr
      have HK1 := Lib.hid hk
      clear hr hk
      go_wp2_with fail
      refine (HC.out w1 HR1.out).mono ?_
      rintro e w2 ⟨rfl, hr, hk⟩
      have HRs2 := Lib.hid hr
      have HK2 := Lib.hid (HK1.out.trans hk)
      have HM2 := Lib.hid (HM.out.kp hbm HK2.out)
      clear hr hk
      go_wp2
      go_end0
      rw [HOn.out]
      exact ⟨⟨rfl, HRs2.out, HM2.out⟩, kp_two HK2.out⟩
    · rw [decide_eq_false hn] at hN
      have HDD : Hid (O = _) := Lib.hid (HDD.out.trans (if_neg hn))
      clear hn
      cases htk : tokS n with
      | false =>
        have HOn : Hid (O = none) := Lib.hid (by rw [HDD.out, if_pos (.inl htk)])
        rw [htk] at HTk
        clear htk
        go_enter Tryd.func33, Tryd.ntmps33
        go_wp2_with fail
        refine HU.out.mono ?_
        rintro e w1 ⟨rfl, hr, hk⟩
        have HR1 := Lib.hid hr
        have HK1 := Lib.hid hk
        clear hr hk
        go_wp2_with fail
        refine (HC.out w1 HR1.out).mono ?_
        rintro e w2 ⟨rfl, hr, hk⟩
        have HRs2 := Lib.hid hr
        have HK2 := Lib.hid (HK1.out.trans hk)
        have HM2 := Lib.hid (HM.out.kp hbm HK2.out)
        clear hr hk
        go_wp2_with fail
        refine (HTk.out w2).mono ?_
        rintro e w3 ⟨rfl, hb⟩
        have HR3 := Lib.hid (HRs2.out.below hb)
        have HM3 := Lib.hid (HM2.out.below hb)
        have HK3 := Lib.hid (HK2.out.trans (Kp.of_below hb))
        clear hb
        have HN3 := Lib.hid (need_no w3)
        go_wp2_with fail
        refine HN3.out.mono ?_
        rintro e w4 ⟨rfl, rfl⟩
        refine sts_panic ?_
        rw [HOn.out]
        exact ⟨rfl, kp_two HK3.out⟩
      | true =>
        rw [htk] at HTk
        cases hs : (sayT nl T).isSome with
        | true =>
          have HOn : Hid (O = none) := Lib.hid (by rw [HDD.out, if_pos (.inr (by rw [HTw.out, hs]))])
          rw [hs] at HSd
          clear htk hs
          go_enter Tryd.func33, Tryd.ntmps33
          go_wp2_with fail
          refine HU.out.mono ?_
          rintro e w1 ⟨rfl, hr, hk⟩
          have HR1 := Lib.hid hr
          have HK1 := Lib.hid hk
          clear hr hk
          go_wp2_with fail
          refine (HC.out w1 HR1.out).mono ?_
          rintro e w2 ⟨rfl, hr, hk⟩
          have HRs2 := Lib.hid hr
          have HK2 := Lib.hid (HK1.out.trans hk)
          have HM2 := Lib.hid (HM.out.kp hbm HK2.out)
          clear hr hk
          go_wp2_with fail
          refine (HTk.out w2).mono ?_
          rintro e w3 ⟨rfl, hb⟩
          have HR3 := Lib.hid (HRs2.out.below hb)
          have HM3 := Lib.hid (HM2.out.below hb)
          have HK3 := Lib.hid (HK2.out.trans (Kp.of_below hb))
          clear hb
          have HN3 := Lib.hid (need_yes w3)
          go_wp2_with fail
          refine HN3.out.mono ?_
          rintro e w4 ⟨rfl, rfl⟩
          go_wp2_with fail
          refine (HSd.out w3 R2 HR3.out HM3.out).mono ?_
          rintro e w5 ⟨rfl, hb⟩
          have HR5 := Lib.hid (HR3.out.below hb)
          have HM5 := Lib.hid (HM3.out.below hb)
          have HK5 := Lib.hid (HK3.out.trans (Kp.of_below hb))
          clear hb
          obtain ⟨W5, HW5⟩ : ∃ W, Hid (w5.alloc (.cells #[.string ⟨#[]⟩, .bool false] 62) = W) := ⟨_, Lib.hid rfl⟩
          have HZ5 : Hid (W5.heap[w5.heap.size]? = some (.cells #[.string ⟨#[]⟩, .bool false] 62 (0, 0))) := Lib.hid (by rw [← HW5.out]; exact heap_alloc_new w5 _)
          have HB5 : Hid (Kp (Only b) w5 W5) := Lib.hid (by rw [← HW5.out]; exact Kp.of_below ((Below.refl _ _).alloc (Nat.le_refl _) _))
          obtain ⟨W6, HW6⟩ : ∃ W, Hid (W5.setRow w5.heap.size #[.string x5, .bool f5] = W) := ⟨_, Lib.hid rfl⟩
          have HK56 : Hid (Kp (fun _ => False) w5 W6) := Lib.hid (by
            rw [← HW6.out]
            have h : Kp (fun _ => False) w5 W5 := by rw [← HW5.out]; exact Kp.of_below ((Below.refl _ _).alloc (Nat.le_refl _) _)
            exact ⟨by show W5.os = _; exact h.os, by show W5.tape = _; exact h.tape, by show W5.output = _; exact h.output, by have := h.size; simpa [World.setRow] using this, fun k hk hx => by rw [setRow_other W5 _ k _ (by omega)]; exact h.block k hk hx⟩)
          have HR6 : Hid (RsAt W6 b m R2) := Lib.hid (HK56.out.at HR5.out id)
          have HM6 : Hid (MapAt W6 m T) := Lib.hid (HM5.out.of (HK56.out.block m HM5.out.lt id))
          have HK6 : Hid (Kp (Only b) w W6) := Lib.hid (HK5.out.trans (HK56.out.mono fun _ h => h.elim))
          have HI := Lib.hid infoSay
          have HN6 := Lib.hid (need_no W6)
          go_wp2_with (first
            | (rw [HW5.out]; refine wpL_store_row rfl 62 _ _ rfl w5.heap.size #[.string x5, .bool f5] ?_ ?_ 62 #[.string ⟨#[]⟩, .bool false] ?_ ?_ ?_ ?_ ?_; exact rfl; exact rfl; exact HZ5.out; exact HI.out; exact rfl; (simp [Value.oneCell']); rw [HW6.out]))
          refine HN6.out.mono ?_
          rintro e w7 ⟨rfl, rfl⟩
          refine sts_panic ?_
          rw [HOn.out]
          exact ⟨rfl, kp_two HK6.out⟩
        | false =>
          have HDD : Hid (O = _) := Lib.hid (HDD.out.trans (if_neg (by rw [htk, HTw.out, hs]; simp)))
          rw [hs] at HSd
          have HNo : Hid (sayT nl T = none) := Lib.hid (by cases hq : sayT nl T with | none => rfl | some _ => rw [hq] at hs; cases hs)
          clear htk hs
          go_enter Tryd.func33, Tryd.ntmps33
          go_wp2_with fail
          refine HU.out.mono ?_
          rintro e w1 ⟨rfl, hr, hk⟩
          have HR1 := Lib.hid hr
          have HK1 := Lib.hid hk
          clear hr hk
          go_wp2_with fail
          refine (HC.out w1 HR1.out).mono ?_
          rintro e w2 ⟨rfl, hr, hk⟩
          have HRs2 := Lib.hid hr
          have HK2 := Lib.hid (HK1.out.trans hk)
          have HM2 := Lib.hid (HM.out.kp hbm HK2.out)
          clear hr hk
          go_wp2_with fail
          refine (HTk.out w2).mono ?_
          rintro e w3 ⟨rfl, hb⟩
          have HR3 := Lib.hid (HRs2.out.below hb)
          have HM3 := Lib.hid (HM2.out.below hb)
          have HK3 := Lib.hid (HK2.out.trans (Kp.of_below hb))
          clear hb
          have HN3 := Lib.hid (need_yes w3)
          go_wp2_with fail
          refine HN3.out.mono ?_
          rintro e w4 ⟨rfl, rfl⟩
          go_wp2_with fail
          refine (HSd.out w3 R2 HR3.out HM3.out).mono ?_
          rintro e w5 ⟨rfl, hb⟩
          have HR5 := Lib.hid (HR3.out.below hb)
          have HM5 := Lib.hid (HM3.out.below hb)
          have HK5 := Lib.hid (HK3.out.trans (Kp.of_below hb))
          clear hb
          obtain ⟨W5, HW5⟩ : ∃ W, Hid (w5.alloc (.cells #[.string ⟨#[]⟩, .bool false] 62) = W) := ⟨_, Lib.hid rfl⟩
          have HZ5 : Hid (W5.heap[w5.heap.size]? = some (.cells #[.string ⟨#[]⟩, .bool false] 62 (0, 0))) := Lib.hid (by rw [← HW5.out]; exact heap_alloc_new w5 _)
          have HB5 : Hid (Kp (Only b) w5 W5) := Lib.hid (by rw [← HW5.out]; exact Kp.of_below ((Below.refl _ _).alloc (Nat.le_refl _) _))
          obtain ⟨W6, HW6⟩ : ∃ W, Hid (W5.setRow w5.heap.size #[.string x5, .bool f5] = W) := ⟨_, Lib.hid rfl⟩
          have HK56 : Hid (Kp (fun _ => False) w5 W6) := Lib.hid (by
            rw [← HW6.out]
            have h : Kp (fun _ => False) w5 W5 := by rw [← HW5.out]; exact Kp.of_below ((Below.refl _ _).alloc (Nat.le_refl _) _)
            exact ⟨by show W5.os = _; exact h.os, by show W5.tape = _; exact h.tape, by show W5.output = _; exact h.output, by have := h.size; simpa [World.setRow] using this, fun k hk hx => by rw [setRow_other W5 _ k _ (by omega)]; exact h.block k hk hx⟩)
          have HR6 : Hid (RsAt W6 b m R2) := Lib.hid (HK56.out.at HR5.out id)
          have HM6 : Hid (MapAt W6 m T) := Lib.hid (HM5.out.of (HK56.out.block m HM5.out.lt id))
          have HK6 : Hid (Kp (Only b) w W6) := Lib.hid (HK5.out.trans (HK56.out.mono fun _ h => h.elim))
          have HI := Lib.hid infoSay
          have HN6 := Lib.hid (need_yes W6)
          go_wp2_with (first
            | (rw [HW5.out]; refine wpL_store_row rfl 62 _ _ rfl w5.heap.size #[.string x5, .bool f5] ?_ ?_ 62 #[.string ⟨#[]⟩, .bool false] ?_ ?_ ?_ ?_ ?_; exact rfl; exact rfl; exact HZ5.out; exact HI.out; exact rfl; (simp [Value.oneCell']); rw [HW6.out]))
          refine HN6.out.mono ?_
          rintro e w7 ⟨rfl, rfl⟩
          obtain ⟨W7, HW7⟩ : ∃ W, Hid (W6.alloc (.cells #[.string ⟨#[]⟩, .bool false] 62) = W) := ⟨_, Lib.hid rfl⟩
          have HK67 : Hid (Below W6.heap.size W6 W7) := Lib.hid (by rw [← HW7.out]; exact (Below.refl _ _).alloc (Nat.le_refl _) _)
          have HS7 : Hid (W7.heap[W6.heap.size]? = some (.cells #[.string ⟨#[]⟩, .bool false] 62 (0, 0))) := Lib.hid (by rw [← HW7.out]; exact heap_alloc_new W6 _)
          have HR7 : Hid (RsAt W7 b m R2) := Lib.hid (HR6.out.below HK67.out)
          have HM7 : Hid (MapAt W7 m T) := Lib.hid (HM6.out.below HK67.out)
          have HK7 : Hid (Kp (Only b) w W7) := Lib.hid (HK6.out.trans (Kp.of_below HK67.out))
          have HbG : Hid (b ≠ W6.heap.size) := Lib.hid (by have := HR6.out.lt; omega)
          have HOs : Hid (O = some (R2, T ++ [(nl, false, [])])) := Lib.hid HDD.out
          have HR8 := HR7
          have HS8 := HS7
          obtain ⟨K8, HK8'⟩ : ∃ K, Hid (asB nl = K) := ⟨_, Lib.hid rfl⟩
          have HL := Lib.hid HLw.out
          rw [HK8'.out] at HL
          have HPut : Hid (∀ w', Below W7.heap.size W7 w' → ∃ w2, (Instr.mapUpdate 42 (.map (some m)) (.string K8) (.agg #[.string ⟨#[]⟩, .bool false])).run Tryd.prog w' = .ok () w2 ∧ RsAt w2 b m R2 ∧ MapAt w2 m (T ++ [(nl, false, [])]) ∧ Kp (TwoB b m) w w2) := Lib.hid fun w' hb => by
            obtain ⟨w2, q1, q2, q3⟩ := HPt.out w' (false, []) (HM7.out.below hb) HNo.out
            refine ⟨w2, ?_, q3.at (HR8.out.below hb) hbm, q2, (kp_two (HK7.out.trans (Kp.of_below hb))).trans (kp_two' q3)⟩
            rw [← HK8'.out]; exact q1
          go_wp2_with fail
          rw [HW7.out]
          refine wp_region_inv2 (by kernel_rfl) (fun listed a w' => ∃ t : Nat → Value, a = frU t ∧ AtU W7 (fun w2 => RsAt w2 b m R2 ∧ MapAt w2 m (T ++ [(nl, false, [])]) ∧ Kp (TwoB b m) w w2) b m W6.heap.size N K8 ⟨#[]⟩ false (fun k => listed.getD k false) t w') (tsLex_spec (by kernel_rfl)) ?_ ?_ ?_
          · refine ⟨_, frU_of _ rfl rfl, fun _ => (Below.refl _ _).drew, rfl, rfl, rfl, fun i _ h => ?_, fun h => ?_, fun h => ?_⟩
            all_goals simp only [Array.getD_eq_getD_getElem?, Array.getElem?_replicate] at h
            all_goals (split at h <;> simp at h)
          · intro listed a w' i hsz hI hi
            obtain ⟨t, rfl, hA⟩ := hI
            obtain ⟨hlt, hf, o, ho, haft⟩ := ready_iff.1 hi
            have hlt' : i < 8 := hlt
            have hs' : listed.size = 8 := hsz
            have hup := tget_up listed i (by omega)
            have hf' : listed.getD i false = false := by
              rw [Array.getD_eq_getD_getElem?, Array.getElem?_eq_getElem (by omega)] at hf ⊢
              exact hf
            rcases (show i = 0 ∨ i = 1 ∨ i = 2 ∨ i = 3 ∨ i = 4 ∨ i = 5 ∨ i = 6 ∨ i = 7 by omega) with rfl | rfl | rfl | rfl | rfl | rfl | rfl | rfl
            all_goals (obtain rfl := Option.some.inj ho)
            · refine tsOp_of rfl rfl (ts_run (w' := w') (.pointer (some ⟨b, 0, none⟩)) ?_ ⟨tuT t 35 _, rfl, ?_⟩)
              · simp [execOp, frU, Act.eval, hA.k0]
              · rw [hup]; exact hA.pure 0 (by decide) hf'
            · have h0 : t 35 = .pointer (some ⟨b, 0, none⟩) := hA.vs 0 (by decide) (haft ⟨0, .data⟩ (by simp) rfl)
              refine tsOp_of rfl rfl (ts_run (w' := w') (.pointer (some ⟨b, 0, none⟩)) ?_ ⟨tuT t 36 _, rfl, ?_⟩)
              · simp [execOp, frU, Act.eval, h0]
              · rw [hup]; exact hA.pure 1 (by decide) hf'
            · have h1 : t 36 = .pointer (some ⟨b, 0, none⟩) := hA.vs 1 (by decide) (haft ⟨1, .data⟩ (by simp) rfl)
              refine tsOp_of rfl rfl (ts_run (w' := w') (.pointer (some ⟨b, 1, none⟩)) ?_ ⟨tuT t 37 _, rfl, ?_⟩)
              · simp [execOp, frU, Act.eval, h1, field_told]
              · rw [hup]; exact hA.pure 2 (by decide) hf'
            · have h2 : t 37 = .pointer (some ⟨b, 1, none⟩) := hA.vs 2 (by decide) (haft ⟨2, .data⟩ (by simp) rfl)
              refine tsOp_of rfl rfl (ts_run (w' := w') (.map (some m)) ?_ ⟨tuT t 38 _, rfl, ?_⟩)
              · simp [execOp, frU, Act.eval, h2, load_told w' b 1 _ (HR8.out.below (hA.bel (hA.not7 (i := 3) (by decide) hf'))).c1]
              · rw [hup]; exact hA.pure 3 (by decide) hf'
            · refine tsOp_of rfl rfl (ts_run (w' := w') (.string N) ?_ ⟨tuT t 39 _, rfl, ?_⟩)
              · simp [execOp, frU, Act.eval, hA.k2]
              · rw [hup]; exact hA.pure 4 (by decide) hf'
            · have h4 : t 39 = .string N := hA.vs 4 (by decide) (haft ⟨4, .data⟩ (by simp) rfl)
              refine tsOp_of rfl rfl (ts_call rfl h4 (by kernel_rfl) ((HL.out w').mono ?_))
              rintro e w2 ⟨rfl, hb⟩
              refine ⟨_, rfl, tuT t 40 _, rfl, ?_⟩
              rw [hup]; exact (hA.grow hb (hA.not7 (i := 5) (by decide) hf')).pure 5 (by decide) hf'
            · have hg6 := (hA.bel (hA.not7 (i := 6) (by decide) hf')).block _ (lt_of_block HS8.out) |>.trans HS8.out
              refine tsOp_of rfl rfl (ts_run (w' := w') (.agg #[.string ⟨#[]⟩, .bool false]) ?_ ⟨tuT t 41 _, rfl, ?_⟩)
              · simp [execOp, frU, Act.eval, hA.k6, Instr.loadAt, Instr.sureAddr, run_loadVar_row w' _ 62 62 #[.string ⟨#[]⟩, .bool false] (0, 0) _ hg6 Tryd.underlying62 rfl infoSay]
              · rw [hup]; exact hA.pure 6 (by decide) hf'
            · have h3 : t 38 = .map (some m) := hA.vs 3 (by decide) (haft ⟨3, .data⟩ (by simp) rfl)
              have h5 : t 40 = .string K8 := hA.vs 5 (by decide) (haft ⟨5, .data⟩ (by simp) rfl)
              have h6 : t 41 = .agg #[.string ⟨#[]⟩, .bool false] := hA.vs 6 (by decide) (haft ⟨6, .data⟩ (by simp) rfl)
              obtain ⟨w2, hrun, hw2⟩ := HPut.out w' (hA.bel hf')
              refine tsOp_of rfl rfl (ts_skip (w' := w2) ?_ ⟨t, rfl, ?_⟩)
              · simp [execOp, frU, Act.eval, h3, h5, h6, hrun]
              · rw [hup]; exact hA.put hw2 (fun i hi => by rcases (show i = 0 ∨ i = 1 ∨ i = 2 ∨ i = 3 ∨ i = 4 ∨ i = 5 ∨ i = 6 by omega) with rfl | rfl | rfl | rfl | rfl | rfl | rfl <;> exact haft ⟨_, .phase⟩ (by simp) rfl)
          · intro listed a w' hall hI
            obtain ⟨t, rfl, hA⟩ := hI
            obtain ⟨q1, q2, q3⟩ := hA.fin (hall 7 (by decide))
            have HQ1 := Lib.hid q1
            have HQ2 := Lib.hid q2
            have HQ3 := Lib.hid q3
            clear hall hA q1 q2 q3
            unfold frU
            go_wp2
            go_end0
            rw [HOs.out]
            exact ⟨⟨rfl, HQ1.out, HQ2.out⟩, HQ3.out⟩

end Go.Proofs.YthffgnlebljkcaaDoor
