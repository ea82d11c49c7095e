/-
  Package sts: a text in quotes; a directive's value.
-/
import Derived.Test.YthffgnlebljkcaaDoorTsA
import Derived.Test.YthffgnlebljkcaaDoorBase
namespace Go.Proofs.YthffgnlebljkcaaDoor
open Go.RowKit

theorem quoD_step {l a : List UInt8} (h : l.head? ≠ some 34) : quoD l a = match (if l.head? = some 92 then l.drop 1 else l) with
    | [] => none
    | d :: t => if okQ d then quoD t (a ++ [d]) else none := by
  cases l with
  | nil => rfl
  | cons c l =>
    have hc : c ≠ 34 := fun e => h (by rw [e]; rfl)
    by_cases h2 : c = 92
    · subst h2
      cases l with
      | nil => rfl
      | cons d t => conv => { lhs; unfold quoD }; rw [if_neg hc, if_pos rfl]; rfl
    · have : ¬ (c :: l).head? = some 92 := by rw [List.head?_cons]; intro e; injection e with e; exact h2 e
      rw [if_neg this]
      cases l with
      | nil => conv => { lhs; unfold quoD }; rw [if_neg hc, if_neg h2]
      | cons d t => conv => { lhs; unfold quoD }; rw [if_neg hc, if_neg h2]
theorem quoD_mark (t a : List UInt8) : quoD (34 :: t) a = if trimL (upT en1 t) = [] then some (a, frT en1 t) else none := by
  unfold quoD; rw [if_pos rfl]
def restSz (w : World) (b : Nat) : Nat := match w.heap[b]? with
  | some (Obj.cells cs _ _) => (match cs[0]? with | some (Value.string s) => s.size | _ => 0)
  | _ => 0
theorem restSz_of {w : World} {b m : Nat} {l : List UInt8} (h : RsAt w b m l) : restSz w b = l.length := by
  unfold restSz
  rw [h]; rfl
theorem asB_nil (l : List UInt8) : ((asB l).toList == []) = decide (l = []) := by
  rw [Lib.toList_data, asB_data]
  cases l <;> simp
/-- What a step leaves: the text it says and the rest, or it gives up. -/
def StepT (w : World) (b m : Nat) (o : Option (List UInt8 × List UInt8)) (e : Ending) (w' : World) : Prop :=
  (match o with
    | none => e = stsP
    | some x => e = .returned (.string (asB x.1)) ∧ RsAt w' b m x.2) ∧ Kp (Only b) w w'
set_option maxRecDepth 100000 in
set_option maxHeartbeats 4000000 in
theorem quoted_any (b m : Nat) (l : List UInt8) (w : World) (h : RsAt w b m l) (hl : l.length ≤ 65536) :
    Calls Tryd.prog 57 #[.pointer (some ⟨b, 0, none⟩)] w (StepT w b m (quoD l [])) := by
  have HR := Lib.hid h
  have HL := Lib.hid hl
  have HBl := Lib.hid h.lt
  obtain ⟨O, HO⟩ : ∃ O, Hid (quoD l [] = O) := ⟨_, Lib.hid rfl⟩
  rw [HO.out]
  clear h hl
  go_enter Tryd.func57, Tryd.ntmps57
  go_wp2
  go_loopw [3] (fun v wr => ∃ l' a : List UInt8, Hid (wr.ownsRow w.heap.size 5 1 v a.length (a.map pc_bv)) ∧ Hid (RsAt wr b m l') ∧ Hid (quoD l' a = O) ∧ Hid (Kp (Only b) w wr) ∧ Hid (a.length + l'.length ≤ 65536)) (fun _ wr => restSz wr b)
  case atStart => exact ⟨l, [], Lib.hid (World.ownsRow_nil ..), HR, HO, Lib.hid (Kp.refl _ _), Lib.hid (by simpa using HL.out)⟩
  case round =>
    obtain ⟨l', a, H1, H2, H3, H4, H5⟩ := hrel
    have hbs : b < w.heap.size := HBl.out
    by_cases h34 : l'.head? = some 34
    · obtain ⟨t, rfl⟩ : ∃ t, l' = 34 :: t := by
        cases l' with
        | nil => cases h34
        | cons c t => injection h34 with h34; exact ⟨t, by rw [h34]⟩
      have HC : Hid (Calls Tryd.prog 34 #[.pointer (some ⟨b, 0, none⟩), .string ⟨#[34]⟩] wr fun e w' => e = .returned (.bool true) ∧ RsAt w' b m t ∧ Kp (Only b) wr w') := Lib.hid (cut_any b m (34 :: t) 34 wr H2.out)
      have h5 := H5.out
      rw [List.length_cons] at h5
      have HU := Lib.hid fun (w1 : World) (h : RsAt w1 b m t) => until1_any b m t w1 h (by omega)
      have HM : Hid (O = if trimL (upT en1 t) = [] then some (a, frT en1 t) else none) := Lib.hid (by rw [← H3.out, quoD_mark])
      have hZ := asB_nil (trimL (upT en1 t))
      obtain ⟨Z, HZ⟩ : ∃ Z, Hid (asB (trimL (upT en1 t)) = Z) := ⟨_, Lib.hid rfl⟩
      rw [HZ.out] at HU hZ
      obtain ⟨F, HF⟩ : ∃ F, Hid (frT en1 t = F) := ⟨_, Lib.hid rfl⟩
      rw [HF.out] at HU HM
      clear h34 h5 H3
      go_wp2_with fail
      refine HC.out.mono ?_
      rintro e w1 ⟨rfl, hr, hk⟩
      have HK1 := Lib.hid (H4.out.trans hk)
      have HW1 : Hid (w1.ownsRow w.heap.size 5 1 u3 a.length (a.map pc_bv)) := Lib.hid (own_kept H1.out hk (fun q hq e => by have e : q = b := e; omega))
      have HR1 := Lib.hid hr
      clear hr hk
      go_wp2_with fail
      refine (HU.out w1 HR1.out).mono ?_
      rintro e w2 ⟨rfl, hr, hk⟩
      have HK2 := Lib.hid (HK1.out.trans hk)
      have HW2 : Hid (w2.ownsRow w.heap.size 5 1 u3 a.length (a.map pc_bv)) := Lib.hid (own_kept HW1.out hk (fun q hq e => by have e : q = b := e; omega))
      have HR2 := Lib.hid hr
      clear hr hk hbs
      by_cases hz : trimL (upT en1 t) = []
      · rw [hz] at hZ
        have HM2 : Hid (O = some (a, F)) := Lib.hid (by rw [HM.out, if_pos hz])
        have HY := Lib.hid (need_yes w2)
        have hcv := pc_bytes_back _ _ _ _ HW2.out
        have hZ : (Z.toList == []) = true := hZ
        clear hz
        go_wp2_with fail
        refine HY.out.mono ?_
        rintro e w3 ⟨rfl, rfl⟩
        go_wp2
        go_ret
        rw [HM2.out]
        exact ⟨⟨rfl, HR2.out⟩, HK2.out⟩
      · rw [decide_eq_false hz] at hZ
        have HM2 : Hid (O = none) := Lib.hid (by rw [HM.out, if_neg hz])
        have HN := Lib.hid (need_no w2)
        clear hz
        go_wp2_with fail
        refine HN.out.mono ?_
        rintro e w3 ⟨rfl, rfl⟩
        refine sts_panic (P := Tryd.prog) (f := Tryd.f57) ?_
        rw [HM2.out]
        exact ⟨rfl, HK2.out⟩
    · have HC : Hid (Calls Tryd.prog 34 #[.pointer (some ⟨b, 0, none⟩), .string ⟨#[34]⟩] wr fun e w' => e = .returned (.bool false) ∧ RsAt w' b m l' ∧ Kp (Only b) wr w') := Lib.hid (by
        have := cut_any b m l' 34 wr H2.out
        rw [if_neg h34, decide_eq_false h34] at this
        exact this)
      have HM := Lib.hid (H3.out.symm.trans (quoD_step h34))
      obtain ⟨L1, HL1⟩ : ∃ L1, Hid ((if l'.head? = some 92 then l'.drop 1 else l') = L1) := ⟨_, Lib.hid rfl⟩
      have HL2 : Hid (L1.length ≤ l'.length) := Lib.hid (by
        rw [← HL1.out]
        split
        · rw [List.length_drop]; omega
        · exact Nat.le_refl _)
      have HC2 : Hid (∀ w1, RsAt w1 b m l' → Calls Tryd.prog 34 #[.pointer (some ⟨b, 0, none⟩), .string ⟨#[92]⟩] w1 fun e w' => ∃ d, e = .returned (.bool d) ∧ RsAt w' b m L1 ∧ Kp (Only b) w1 w') := Lib.hid fun w1 h1 => (cut_any b m l' 92 w1 h1).mono fun e w' ⟨h1, h2, h3⟩ => ⟨_, h1, by rw [← HL1.out]; exact h2, h3⟩
      rw [HL1.out] at HM
      clear h34
      go_wp2_with fail
      refine HC.out.mono ?_
      rintro e w1 ⟨rfl, hr, hk⟩
      have HK1 := Lib.hid (H4.out.trans hk)
      have HW1 : Hid (w1.ownsRow w.heap.size 5 1 u3 a.length (a.map pc_bv)) := Lib.hid (own_kept H1.out hk (fun q hq e => by have e : q = b := e; omega))
      have HR1 := Lib.hid hr
      clear hr hk
      go_wp2_with fail
      refine (HC2.out w1 HR1.out).mono ?_
      rintro e w2 ⟨d, rfl, hr, hk⟩
      have HK2 := Lib.hid (HK1.out.trans hk)
      have HW2 : Hid (w2.ownsRow w.heap.size 5 1 u3 a.length (a.map pc_bv)) := Lib.hid (own_kept HW1.out hk (fun q hq e => by have e : q = b := e; omega))
      have HR2 := Lib.hid hr
      clear hr hk
      cases L1 with
      | nil =>
        have HN := Lib.hid (sign_none b m w2 HR2.out)
        go_wp2_with fail
        refine HN.out.mono ?_
        rintro e w3 ⟨rfl, hk⟩
        refine sts_panic (P := Tryd.prog) (f := Tryd.f57) ?_
        rw [HM.out]
        exact ⟨rfl, HK2.out.trans hk⟩
      | cons c t =>
        cases hq : okQ c with
        | false =>
          have HN := Lib.hid (sign_bad b m c t w2 HR2.out hq)
          have HM2 : Hid (O = none) := Lib.hid (by rw [HM.out]; simp only [hq]; rfl)
          clear hq
          go_wp2_with fail
          refine HN.out.mono ?_
          rintro e w3 ⟨rfl, hk⟩
          refine sts_panic (P := Tryd.prog) (f := Tryd.f57) ?_
          rw [HM2.out]
          exact ⟨rfl, HK2.out.trans hk⟩
        | true =>
          have HN := Lib.hid (sign_good b m c t w2 HR2.out hq)
          have HM2 : Hid (O = quoD t (a ++ [c])) := Lib.hid (by rw [HM.out]; simp only [hq]; rfl)
          clear hq
          go_wp2_with fail
          refine HN.out.mono ?_
          rintro e w3 ⟨rfl, hr, hk⟩
          have HK3 := Lib.hid (HK2.out.trans hk)
          have HW3 : Hid (w3.ownsRow w.heap.size 5 1 u3 a.length (a.map pc_bv)) := Lib.hid (own_kept HW2.out hk (fun q hq e => by have e : q = b := e; omega))
          have HR3 := Lib.hid hr
          clear hr hk
          have hA : Hid (∃ v' w4, (Builtin.append_ #[39, 39] 39 #[u3, .slice (some ⟨w3.heap.size, 0, none⟩) 1 1]).run Tryd.prog (w3.alloc (.cells #[.int .u8 (c.toNat : Int)] 5)) = .ok v' w4 ∧ w4.ownsRow w.heap.size 5 1 v' (a ++ [c]).length ((a ++ [c]).map pc_bv) ∧ RsAt w4 b m t ∧ Kp (Only b) w w4) := Lib.hid (by
            have h5 := H5.out
            obtain ⟨v', w4, r1, r2, r3⟩ := pc_appB w.heap.size u3 (a.map pc_bv) #[.int .u8 (c.toNat : Int)] w3 w3 (by rw [List.length_map]; exact HW3.out) (by rw [List.length_map]; show a.length + 1 ≤ _; omega) (by intro u hu; simp at hu; rw [hu]; rfl) HK3.out.size (Below.refl _ _)
            refine ⟨v', w4, r1, ?_, (r3.block b hbs).trans HR3.out, ?_⟩
            · rw [List.map_append, List.length_append]
              rw [List.length_append, List.length_map] at r2
              exact r2
            · exact ⟨r3.os.trans HK3.out.os, r3.tape.trans HK3.out.tape, r3.output.trans HK3.out.output, Nat.le_trans HK3.out.size r3.size, fun k hk hx => (r3.block k hk).trans (HK3.out.block k hk hx)⟩)
          obtain ⟨v', w4, hrun, h1, h2, h3⟩ := hA.out
          have HRun := Lib.hid hrun
          have HO4 := Lib.hid h1
          have HR4 := Lib.hid h2
          have HK4 := Lib.hid h3
          clear hA hrun h1 h2 h3
          go_wp2_with (at_builtin; refine Lib.wpList_append_run _ rfl _ _ _ _ rfl _ _ rfl rfl _ _ HRun.out ?_)
          go_roundw
          case rel =>
            refine ⟨t, a ++ [c], HO4, HR4, Lib.hid HM2.out.symm, HK4, Lib.hid ?_⟩
            have h5 := H5.out
            have h6 := HL2.out
            simp only [List.length_append, List.length_cons, List.length_nil] at h6 ⊢
            omega
          case measure =>
            rw [restSz_of HR4.out, restSz_of H2.out]
            have h6 := HL2.out
            rw [List.length_cons] at h6
            omega

end Go.Proofs.YthffgnlebljkcaaDoor
