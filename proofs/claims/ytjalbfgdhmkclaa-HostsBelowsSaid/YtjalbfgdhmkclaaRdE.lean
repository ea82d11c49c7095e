/-
  Function values that read; the reader's row over any of them.
-/
import Derived.Test.YtjalbfgdhmkclaaRdD
namespace Go.Proofs.Ytjalbfgdhmkclaa
open Go.RowKit

/-- What is known of a function value that reads, from a world on. -/
structure Way (b : Nat) (F : FuncId) (first caps : Array Value) (o : List UInt8 → Option (List Nat × List UInt8)) (W0 : World) : Prop where
  ent : ∀ args w, (callFunc F args).run Try.prog w = .ok (.enter F args) w
  go : ∀ w t, Kp (Only b) W0 w → Rd w b t → t.size ≤ 1048600 → Sml t.data.toList → Calls Try.prog F (first ++ caps) w (Reads1 b (o t.data.toList) w)
  suf : ∀ l ns u, o l = some (ns, u) → ∃ p, l = p ++ u ∧ p ≠ []
  num : ∀ l ns u, o l = some (ns, u) → 1 ≤ ns.length ∧ ns.length ≤ 2

theorem row_end {o : List UInt8 → Option (List Nat × List UInt8)} {sep : UInt8} {most f : Nat} {out : List Nat} {l : List UInt8} (h : out ≠ []) (hl : ([sep] : List UInt8).isPrefixOf l = false) (hf : 0 < f) : rowG o sep most f out l = (out, l) := by
  obtain ⟨f, rfl⟩ : ∃ g, f = g + 1 := ⟨f - 1, by omega⟩
  have h2 : l.head? ≠ some sep := by
    cases l with
    | nil => simp
    | cons c l =>
      intro e
      have : c = sep := by simpa using e
      subst this; simp [List.isPrefixOf] at hl
  rw [rowG, if_pos ⟨h, h2⟩]
theorem row_on {o : List UInt8 → Option (List Nat × List UInt8)} {sep : UInt8} {most f : Nat} {out : List Nat} {l m : List UInt8} (h : (out = [] ∧ m = l) ∨ (out ≠ [] ∧ ([sep] : List UInt8).isPrefixOf l = true ∧ m = l.drop 1)) : rowG o sep most (f + 1) out l = match o m with
      | none => (out, l)
      | some (ns, r) => if most < out.length + ns.length then (out, l) else rowG o sep most f (out ++ ns) r := by
  rcases h with ⟨rfl, rfl⟩ | ⟨h, hp, rfl⟩
  · rw [rowG, if_neg (by simp), if_pos rfl]; rfl
  · have h2 : ¬ (out ≠ [] ∧ l.head? ≠ some sep) := by
      rintro ⟨_, h2⟩
      cases l with
      | nil => simp [List.isPrefixOf] at hp
      | cons c l =>
        simp [List.isPrefixOf] at hp
        subst hp; exact h2 rfl
    rw [rowG, if_neg h2, if_neg h]; rfl
theorem own_set1 {w : World} {base : Nat} {e : TypeId} {size : Nat} {v : Value} {n : Nat} {xs : List Value} (h : w.ownsRow base e size v n xs) {p : Addr} (hp : ∀ q, v.ownBlock = some q → q ≠ p.block) (u : Value) : (w.setCell p u).ownsRow base e size v n xs := by
  obtain ⟨h1, h2⟩ := h
  refine ⟨h1, ?_⟩
  rcases h2 with h2 | ⟨g, cap, cur, rfl, hg, hh, r⟩
  · exact .inl h2
  · exact .inr ⟨g, cap, cur, rfl, hg, by rw [Below.heap_setCell _ _ _ _ (hp g rfl)]; exact hh, r⟩
theorem slice_own {w : World} {base : Nat} {e : TypeId} {v : Value} {n : Nat} {xs : List Value} (h : w.ownsRow base e 1 v n xs) : ∃ a cap, v = .slice a n cap ∧ ∀ q, v.ownBlock = some q → base ≤ q := by
  rcases h.2 with ⟨rfl, rfl⟩ | ⟨g, cap, cur, rfl, hg, _⟩
  · exact ⟨none, 0, rfl, fun q hq => by cases hq⟩
  · exact ⟨some ⟨g, 0, none⟩, cap, rfl, fun q hq => by injection hq with hq; rw [← hq]; exact hg⟩

/-- What the row leaves. -/
def RowPost (b : Nat) (R : List Nat × List UInt8) (w : World) (e : Ending) (w' : World) : Prop :=
  ∃ v, e = .returned v ∧ w'.ownsRow w.heap.size 3 1 v R.1.length (R.1.map k_iv) ∧ Rd w' b (asB R.2) ∧ Kp (Only b) w w'

set_option maxRecDepth 100000 in
set_option maxHeartbeats 2000000 in
theorem row_any (b : Nat) (F : FuncId) (first caps : Array Value) (o : List UInt8 → Option (List Nat × List UInt8)) (sep : UInt8) (most : Nat) (t : ByteArray) (w : World) (hW : Way b F first caps o w) (h : Rd w b t) (hs : t.size ≤ 1048600) (hsm : Sml t.data.toList) (hm : most ≤ 8) :
    Calls Try.prog 17 #[.pointer (some ⟨b, 0, none⟩), .func (.func F) first caps, .string ⟨#[sep]⟩, .int .i64 (most : Int)] w (RowPost b (rowG o sep most (t.size + 2) [] t.data.toList) w) := by
  obtain ⟨R, HR⟩ : ∃ R, Hid (rowG o sep most (t.size + 2) [] t.data.toList = R) := ⟨_, Lib.hid rfl⟩
  rw [HR.out]
  have HWay := Lib.hid hW
  have hent := hW.ent
  have Hh := Lib.hid h
  have HSm := Lib.hid hsm
  have hlt0 := h.lt
  clear hW h hsm
  go_enter Try.func17, Try.ntmps17
  go_wp2
  go_loopw [9, 10, 11, 12] (fun x _ _ _ wr => ∃ (out : List Nat) (u : ByteArray) (f : Nat), Hid (rowG o sep most f out u.data.toList = R) ∧ u.size + 2 ≤ f ∧ u.size ≤ t.size ∧ Hid (Sml u.data.toList) ∧ out.length ≤ 8 ∧ Hid (wr.ownsRow w.heap.size 3 1 x out.length (out.map k_iv)) ∧ Hid (Rd wr b u) ∧ Hid (Kp (Only b) w wr)) (fun _ _ _ _ wr => match wr.cell? ⟨b, 0, none⟩ with | some (.string u) => u.size | _ => 0)
  case atStart => exact ⟨[], t, t.size + 2, HR, Nat.le_refl _, Nat.le_refl _, HSm, by simp, Lib.hid ⟨rfl, .inl ⟨rfl, rfl⟩⟩, Hh, Lib.hid (Kp.refl _ _)⟩
  case round =>
    obtain ⟨out, u, f, HF, hf, hut, HSu, hol, HO, HU, HK⟩ := hrel
    obtain ⟨a, cap, rfl, hob⟩ := slice_own HO.out
    have HOb := Lib.hid hob
    clear hob
    have hcu := HU.out.cell
    have hub : (Value.slice a out.length cap).ownBlock ≠ some b := fun e => by have := HOb.out b e; omega
    have HUb := Lib.hid hub
    clear hub
    obtain ⟨f, rfl⟩ : ∃ g, f = g + 1 := ⟨f - 1, by omega⟩
    by_cases ho : out = []
    · have HON := Lib.hid (row_on (.inl ⟨ho, rfl⟩ : (out = [] ∧ u.data.toList = u.data.toList) ∨ (out ≠ [] ∧ ([sep] : List UInt8).isPrefixOf u.data.toList = true ∧ u.data.toList = u.data.toList.drop 1)) (o := o) (most := most) (f := f))
      rw [HF.out] at HON
      obtain ⟨oo, HOO⟩ : ∃ oo, Hid (o u.data.toList = oo) := ⟨_, Lib.hid rfl⟩
      rw [HOO.out] at HON
      have HK0 := HK
      have HO0 := HO
      have h0 : out.length ≤ 0 := by rw [ho]; exact Nat.le_refl _
      clear ho
      go_wp2_with fail
      refine (HWay.out.go _ u HK.out HU.out (by omega) HSu.out).mono ?_
      rw [HOO.out]
      rintro e w1 h1
      obtain ⟨v, r, a1, a2, a3, a4⟩ := h1
      have A1 := Lib.hid a1; have A3 := Lib.hid a3; have A4 := Lib.hid a4
      have hc1 := a1.cell
      have hf1 := a1.free
      have HK1 : Hid (Kp (Only b) w w1) := Lib.hid (HK0.out.trans a2)
      have HO1 : Hid (w1.ownsRow w.heap.size 3 1 (.slice a out.length cap) out.length (out.map k_iv)) := Lib.hid (own_kept HO0.out a2 (fun q hq e => by rw [show q = b from e] at hq; omega))
      clear a1 a2 a3 a4
      have HSuf : Hid (∀ ns x, oo = some (ns, x) → ∃ p, u.data.toList = p ++ x ∧ p ≠ []) := Lib.hid (fun ns x e => by
        obtain ⟨p, h1, h2⟩ := HWay.out.suf _ ns x (by rw [HOO.out, e])
        exact ⟨p, h1, h2⟩)
      have HNum : Hid (∀ ns x, oo = some (ns, x) → 1 ≤ ns.length ∧ ns.length ≤ 2) := Lib.hid (fun ns x e => HWay.out.num _ ns x (by rw [HOO.out, e]))
      cases oo with
      | none =>
        obtain rfl := A4.out rfl
        go_wp2
        all_goals
          go_ret
          exact ⟨_, rfl, by rw [HON.out]; exact own_set1 HO1.out (fun q hq e => HUb.out (by rw [hq]; exact congrArg some e)) _, by rw [HON.out]; exact A1.out.set _, HK1.out.setCell (X := Only b) (p := ⟨b, 0, none⟩) rfl _⟩
      | some x =>
        obtain ⟨ns, x⟩ := x
        obtain ⟨rfl, ⟨g, hg1, rfl, hg2⟩, hr⟩ := A3.out ns x rfl
        have hn := HNum.out ns x rfl
        obtain ⟨hn1, hn2⟩ := hn
        have hsx : x.length < u.size := by
          obtain ⟨p, hp, hne⟩ := HSuf.out ns x rfl
          have := congrArg List.length hp
          rw [lenB, List.length_append] at this
          have : 0 < p.length := List.length_pos_iff.2 hne
          omega
        have HG2 := Lib.hid hg2
        have HRr := Lib.hid hr
        have HSx : Hid (Sml x) := Lib.hid (by
          obtain ⟨p, hp, hne⟩ := HSuf.out ns x rfl
          exact HSu.out.suf hp)
        clear hg2 hr
        by_cases hov : most < out.length + ns.length
        · have HRR : Hid (R = (out, u.data.toList)) := Lib.hid (by rw [HON.out]; simp only; rw [if_pos hov])
          have hovI : (most : Int) < (out.length : Int) + (ns.length : Int) := by omega
          clear hov
          go_wp2
          all_goals
            go_ret
            exact ⟨_, rfl, by rw [HRR.out]; exact own_set1 HO1.out (fun q hq e => HUb.out (by rw [hq]; exact congrArg some e)) _, by rw [HRR.out]; exact A1.out.set _, HK1.out.setCell (X := Only b) (p := ⟨b, 0, none⟩) rfl _⟩
        · have HRR : Hid (rowG o sep most f (out ++ ns) x = R) := Lib.hid (by rw [HON.out]; simp only; rw [if_neg hov])
          have hovI : ¬ (most : Int) < (out.length : Int) + (ns.length : Int) := by omega
          have hov' : out.length + ns.length ≤ most := by omega
          clear hov
          have hsz : (out.map k_iv).length + (ns.map k_iv).toArray.size ≤ 10000000 := by rw [List.length_map, List.size_toArray, List.length_map]; omega
          obtain ⟨v', w2, hrun, hown, hgrow⟩ := k_appI w.heap.size g (.slice a out.length cap) (out.map k_iv) (ns.map k_iv).toArray w1 (by rw [List.length_map]; exact HO1.out) HG2.out hsz (by intro z hz; simp at hz; obtain ⟨n, _, rfl⟩ := hz; rfl) HK1.out.size
          rw [show (ns.map k_iv).toArray.size = ns.length by simp] at hrun
          have HRun := Lib.hid hrun
          have HOwn : Hid (w2.ownsRow w.heap.size 3 1 v' (out ++ ns).length ((out ++ ns).map k_iv)) := Lib.hid (by
            have : (out ++ ns).map k_iv = out.map k_iv ++ (ns.map k_iv).toArray.toList := by simp
            rw [this]
            have e2 : (out ++ ns).length = (out.map k_iv ++ (ns.map k_iv).toArray.toList).length := by simp
            rw [e2]; exact hown)
          have HRd2 : Hid (Rd w2 b r) := Lib.hid (A1.out.grown hgrow HUb.out)
          have HK2 : Hid (Kp (Only b) w w2) := Lib.hid (HK1.out.grown hgrow (fun q hq => HOb.out q hq))
          clear hrun hown hgrow hsz
          go_wp2_with (at_builtin; refine Lib.wpList_append_run _ rfl _ _ _ _ rfl _ _ rfl rfl _ _ HRun.out ?_)
          refine ⟨⟨out ++ ns, r, f, ?_, ?_, ?_, ?_, by simp; omega, HOwn, HRd2, HK2⟩, ?_⟩
          · rw [HRr.out]; exact HRR
          · rw [HRr.out, asB_size]; omega
          · rw [HRr.out, asB_size]; omega
          · rw [HRr.out]; exact HSx
          · simp only [hcu, HRd2.out.cell]
            rw [HRr.out, asB_size]; exact hsx
    · have h0 : 0 < out.length := List.length_pos_iff.2 ho
      cases hp : ([sep] : List UInt8).isPrefixOf u.data.toList
      · have HRR : Hid (R = (out, u.data.toList)) := Lib.hid (by rw [← HF.out]; exact row_end ho hp (by omega))
        have HP := Lib.hid hp
        clear hp ho
        go_wp2_with fail
        refine (cut_no b u _ _ HU.out HP.out).mono ?_
        rintro e w0 ⟨rfl, r0, k0⟩
        have R0 := Lib.hid r0; have K0 := Lib.hid k0; clear r0 k0
        go_wp2
        go_ret
        exact ⟨_, rfl, by rw [HRR.out]; exact own_kept HO.out K0.out (fun q hq e => by rw [show q = b from e] at hq; omega), by rw [HRR.out]; exact R0.out, HK.out.trans K0.out⟩
      have HON := Lib.hid (row_on (.inr ⟨ho, hp, rfl⟩ : (out = [] ∧ u.data.toList.drop 1 = u.data.toList) ∨ (out ≠ [] ∧ ([sep] : List UInt8).isPrefixOf u.data.toList = true ∧ u.data.toList.drop 1 = u.data.toList.drop 1)) (o := o) (most := most) (f := f))
      rw [HF.out] at HON
      obtain ⟨oo, HOO⟩ : ∃ oo, Hid (o (u.data.toList.drop 1) = oo) := ⟨_, Lib.hid rfl⟩
      rw [HOO.out] at HON
      have HP := Lib.hid hp
      have hz1 : (asB (u.data.toList.drop 1)).size ≤ 1048600 := by rw [asB_size, List.length_drop, lenB]; omega
      clear hp ho
      go_wp2_with fail
      refine (cut_yes b u ⟨#[sep]⟩ _ HU.out HP.out).mono ?_
      rintro e w0 ⟨rfl, r0, k0⟩
      have R0 := Lib.hid r0
      have HK0 : Hid (Kp (Only b) w w0) := Lib.hid (HK.out.trans k0)
      have HO0 : Hid (w0.ownsRow w.heap.size 3 1 (.slice a out.length cap) out.length (out.map k_iv)) := Lib.hid (own_kept HO.out k0 (fun q hq e => by rw [show q = b from e] at hq; omega))
      clear r0 k0
      go_wp2_with fail
      refine (HWay.out.go _ (asB (u.data.toList.drop 1)) HK0.out R0.out hz1 (HSu.out.drop 1)).mono ?_
      rw [asB_data, HOO.out]
      rintro e w1 h1
      obtain ⟨v, r, a1, a2, a3, a4⟩ := h1
      have A1 := Lib.hid a1; have A3 := Lib.hid a3; have A4 := Lib.hid a4
      have hc1 := a1.cell
      have hf1 := a1.free
      have HK1 : Hid (Kp (Only b) w w1) := Lib.hid (HK0.out.trans a2)
      have HO1 : Hid (w1.ownsRow w.heap.size 3 1 (.slice a out.length cap) out.length (out.map k_iv)) := Lib.hid (own_kept HO0.out a2 (fun q hq e => by rw [show q = b from e] at hq; omega))
      clear a1 a2 a3 a4
      have HSuf : Hid (∀ ns x, oo = some (ns, x) → ∃ p, u.data.toList = p ++ x ∧ p ≠ []) := Lib.hid (fun ns x e => by
        obtain ⟨p, h1, h2⟩ := HWay.out.suf _ ns x (by rw [HOO.out, e])
        exact ⟨u.data.toList.take 1 ++ p, by rw [List.append_assoc, ← h1, List.take_append_drop], by simp [h2]⟩)
      have HNum : Hid (∀ ns x, oo = some (ns, x) → 1 ≤ ns.length ∧ ns.length ≤ 2) := Lib.hid (fun ns x e => HWay.out.num _ ns x (by rw [HOO.out, e]))
      cases oo with
      | none =>
        obtain rfl := A4.out rfl
        go_wp2
        all_goals
          go_ret
          exact ⟨_, rfl, by rw [HON.out]; exact own_set1 HO1.out (fun q hq e => HUb.out (by rw [hq]; exact congrArg some e)) _, by rw [HON.out]; exact A1.out.set _, HK1.out.setCell (X := Only b) (p := ⟨b, 0, none⟩) rfl _⟩
      | some x =>
        obtain ⟨ns, x⟩ := x
        obtain ⟨rfl, ⟨g, hg1, rfl, hg2⟩, hr⟩ := A3.out ns x rfl
        have hn := HNum.out ns x rfl
        obtain ⟨hn1, hn2⟩ := hn
        have hsx : x.length < u.size := by
          obtain ⟨p, hp, hne⟩ := HSuf.out ns x rfl
          have := congrArg List.length hp
          rw [lenB, List.length_append] at this
          have : 0 < p.length := List.length_pos_iff.2 hne
          omega
        have HG2 := Lib.hid hg2
        have HRr := Lib.hid hr
        have HSx : Hid (Sml x) := Lib.hid (by
          obtain ⟨p, hp, hne⟩ := HSuf.out ns x rfl
          exact HSu.out.suf hp)
        clear hg2 hr
        by_cases hov : most < out.length + ns.length
        · have HRR : Hid (R = (out, u.data.toList)) := Lib.hid (by rw [HON.out]; simp only; rw [if_pos hov])
          have hovI : (most : Int) < (out.length : Int) + (ns.length : Int) := by omega
          clear hov
          go_wp2
          all_goals
            go_ret
            exact ⟨_, rfl, by rw [HRR.out]; exact own_set1 HO1.out (fun q hq e => HUb.out (by rw [hq]; exact congrArg some e)) _, by rw [HRR.out]; exact A1.out.set _, HK1.out.setCell (X := Only b) (p := ⟨b, 0, none⟩) rfl _⟩
        · have HRR : Hid (rowG o sep most f (out ++ ns) x = R) := Lib.hid (by rw [HON.out]; simp only; rw [if_neg hov])
          have hovI : ¬ (most : Int) < (out.length : Int) + (ns.length : Int) := by omega
          have hov' : out.length + ns.length ≤ most := by omega
          clear hov
          have hsz : (out.map k_iv).length + (ns.map k_iv).toArray.size ≤ 10000000 := by rw [List.length_map, List.size_toArray, List.length_map]; omega
          obtain ⟨v', w2, hrun, hown, hgrow⟩ := k_appI w.heap.size g (.slice a out.length cap) (out.map k_iv) (ns.map k_iv).toArray w1 (by rw [List.length_map]; exact HO1.out) HG2.out hsz (by intro z hz; simp at hz; obtain ⟨n, _, rfl⟩ := hz; rfl) HK1.out.size
          rw [show (ns.map k_iv).toArray.size = ns.length by simp] at hrun
          have HRun := Lib.hid hrun
          have HOwn : Hid (w2.ownsRow w.heap.size 3 1 v' (out ++ ns).length ((out ++ ns).map k_iv)) := Lib.hid (by
            have : (out ++ ns).map k_iv = out.map k_iv ++ (ns.map k_iv).toArray.toList := by simp
            rw [this]
            have e2 : (out ++ ns).length = (out.map k_iv ++ (ns.map k_iv).toArray.toList).length := by simp
            rw [e2]; exact hown)
          have HRd2 : Hid (Rd w2 b r) := Lib.hid (A1.out.grown hgrow HUb.out)
          have HK2 : Hid (Kp (Only b) w w2) := Lib.hid (HK1.out.grown hgrow (fun q hq => HOb.out q hq))
          clear hrun hown hgrow hsz
          go_wp2_with (at_builtin; refine Lib.wpList_append_run _ rfl _ _ _ _ rfl _ _ rfl rfl _ _ HRun.out ?_)
          refine ⟨⟨out ++ ns, r, f, ?_, ?_, ?_, ?_, by simp; omega, HOwn, HRd2, HK2⟩, ?_⟩
          · rw [HRr.out]; exact HRR
          · rw [HRr.out, asB_size]; omega
          · rw [HRr.out, asB_size]; omega
          · rw [HRr.out]; exact HSx
          · simp only [hcu, HRd2.out.cell]
            rw [HRr.out, asB_size]; exact hsx

end Go.Proofs.Ytjalbfgdhmkclaa
