/-
  Package sts: what all directives wish.
-/
import Derived.Test.YthffgnlebljkcaaDoorTsE
namespace Go.Proofs.YthffgnlebljkcaaDoor
open Go.RowKit

theorem quoD_len : ∀ (l a t r : List UInt8), quoD l a = some (t, r) → t.length ≤ a.length + l.length
  | [], a, t, r, h => by simp [quoD] at h
  | [c], a, t, r, h => by
    unfold quoD at h
    split at h
    · split at h
      · simp only [Option.some.injEq, Prod.mk.injEq] at h
        rw [← h.1]; omega
      · cases h
    · split at h
      · simp at h
      · split at h
        · simp [quoD] at h
        · cases h
  | c :: d :: l, a, t, r, h => by
    unfold quoD at h
    split at h
    · split at h
      · simp only [Option.some.injEq, Prod.mk.injEq] at h
        rw [← h.1]; omega
      · cases h
    · split at h
      · simp only at h
        split at h
        · have := quoD_len _ _ _ _ h
          simp only [List.length_append, List.length_cons, List.length_nil] at this ⊢; omega
        · cases h
      · split at h
        · have := quoD_len _ _ _ _ h
          simp only [List.length_append, List.length_cons, List.length_nil] at this ⊢; omega
        · cases h
theorem valD_len {l t r : List UInt8} (h : valD l = some (t, r)) : t.length ≤ l.length := by
  unfold valD at h
  have h0 := cutL_le l
  split at h
  · have := quoD_len _ _ _ _ h
    rw [List.length_drop] at this
    simp only [List.length_nil] at this
    omega
  · split at h
    · simp only [Option.some.injEq, Prod.mk.injEq] at h
      have h1 := trimL_le (upT en1 (cutL l))
      have h2 := upT_le en1 (cutL l)
      rw [← h.1]; omega
    · cases h
/-- What is known of all that is told. -/
structure Gd11 (T : List TsE) : Prop where
  u : UniqT T
  n : ∀ x ∈ T, x.2.2.length ≤ 65536
theorem Gd11.nil : Gd11 [] := ⟨fun x h => (by cases h), fun x h => (by cases h)⟩
theorem Gd11.dir {l : List UInt8} {T : List TsE} {r : List UInt8} {T' : List TsE} (h : Gd11 T) (hl : l.length ≤ 65536) (hd : dirD l T = some (r, T')) : Gd11 T' := by
  have one : ∀ x : TsE, twiceB x.1 T = false → x.2.2.length ≤ 65536 → Gd11 (T ++ [x]) := fun x h1 h2 => ⟨h.u.add h1, fun y hy => by
    rcases List.mem_append.1 hy with hy | hy
    · exact h.n y hy
    · rw [List.mem_singleton.1 hy]; exact h2⟩
  have h0 := frT_le en2 l
  unfold dirD at hd
  split at hd
  · split at hd
    · cases hd
    · rename_i hn
      split at hd
      · cases hd
      · rename_i t _ hv
        simp only [Option.some.injEq, Prod.mk.injEq] at hd
        rw [← hd.2]
        have h1 := valD_len hv
        rw [List.length_drop] at h1
        refine one _ ?_ (by show t.length ≤ _; omega)
        cases hx : twiceB ((trimL (upT en2 l)).map low) T with
        | false => rfl
        | true => exact absurd (.inr hx) hn
  · split at hd
    · simp only [Option.some.injEq, Prod.mk.injEq] at hd
      rw [← hd.2]; exact h
    · split at hd
      · cases hd
      · rename_i hn
        simp only [Option.some.injEq, Prod.mk.injEq] at hd
        rw [← hd.2]
        refine one _ ?_ (by show 0 ≤ _; omega)
        cases hx : twiceB ((trimL (upT en2 l)).map low) T with
        | false => rfl
        | true => exact absurd (.inr hx) hn
theorem say_len {T : List TsE} (h : Gd11 T) (n : List UInt8) : ((sayT n T).getD (false, [])).2.length ≤ 65536 := by
  cases hs : sayT n T with
  | none => show 0 ≤ _; omega
  | some v => exact h.n _ (say_mem hs)
/-- What a wish leaves. -/
def WishP (w : World) (b m : Nat) (o : Option (Int × Bool)) (e : Ending) (w' : World) : Prop :=
  (match o with
    | none => e = stsP
    | some x => e = .returned (.agg #[.int .i64 x.1, .bool x.2])) ∧ Kp (TwoB b m) w w'
theorem infoWish : (Tryd.prog.info? 24).map (·.size) = some 2 := by kernel_rfl
theorem kp_fresh {X : Nat → Prop} {w0 w : World} {g : Nat} (h : Kp X w0 w) (hg : w0.heap.size ≤ g) (cs : Array Value) : Kp X w0 (w.setRow g cs) :=
  ⟨by show w.os = _; exact h.os, by show w.tape = _; exact h.tape, by show w.output = _; exact h.output, by have := h.size; simpa [World.setRow] using this, fun k hk hx => by rw [setRow_other w g k cs (by omega)]; exact h.block k hk hx⟩
theorem row_keep {w : World} {g k : Nat} {cs : Array Value} {o : Obj} (h : w.heap[k]? = some o) (hg : g ≠ k) : (w.setRow g cs).heap[k]? = some o := by
  rw [setRow_other w g k cs (fun e => hg (Eq.symm e))]; exact h
set_option maxRecDepth 100000 in
set_option maxHeartbeats 4000000 in
theorem wish_any (b m : Nat) (l : List UInt8) (w : World) (h : RsAt w b m l) (hm : MapAt w m []) (hbm : b ≠ m) (hl : l.length ≤ 65536) :
    Calls Tryd.prog 21 #[.pointer (some ⟨b, 0, none⟩)] w (WishP w b m ((runT l []).bind wishT)) := by
  obtain ⟨O, HO⟩ : ∃ O, Hid ((runT l []).bind wishT = O) := ⟨_, Lib.hid rfl⟩
  rw [HO.out]
  have HI := Lib.hid infoSay
  have HIw := Lib.hid infoWish
  obtain ⟨W0, HW0⟩ : ∃ W, Hid (w.alloc (.cells #[.int .i64 0, .bool false] 24) = W) := ⟨_, Lib.hid rfl⟩
  have HB0 : Hid (Below w.heap.size w W0) := Lib.hid (by rw [← HW0.out]; exact (Below.refl _ _).alloc (Nat.le_refl _) _)
  have HR0 : Hid (RsAt W0 b m l) := Lib.hid (h.below HB0.out)
  have HM0 : Hid (MapAt W0 m []) := Lib.hid (hm.below HB0.out)
  have HZ0 : Hid (W0.heap[w.heap.size]? = some (.cells #[.int .i64 0, .bool false] 24 (0, 0))) := Lib.hid (by rw [← HW0.out]; exact heap_alloc_new w _)
  have HbW : Hid (¬ TwoB b m w.heap.size) := Lib.hid (by
    have h1 := h.lt
    have h2 := hm.lt
    rintro (e | e) <;> omega)
  have HK0 : Hid (Kp (TwoB b m) w W0) := Lib.hid (Kp.of_below HB0.out)
  have HD := Lib.hid fun (l : List UInt8) (T : List TsE) (w : World) (h1 : RsAt w b m l) (h2 : MapAt w m T) (h3 : Gd11 T) (h4 : l.length ≤ 65536) => directive_any b m l T w h1 h2 h3.u hbm h4
  have HD0 := Lib.hid (HD.out l [] W0 HR0.out HM0.out Gd11.nil hl)
  have HL := Lib.hid hl
  have HE : Hid (O = match dirD l [] with
    | none => none
    | some (r, T') => (if r.head? = some 59 then runT (r.drop 1) T' else some T').bind wishT) := Lib.hid (by
    rw [← HO.out, runT_eq]
    cases dirD l [] with
    | none => rfl
    | some x => rfl)
  clear h hm hl
  go_enter Tryd.func21, Tryd.ntmps21
  go_wp2_with fail
  rw [HW0.out]
  refine HD0.out.mono ?_
  rintro e w1 ⟨h1, hk⟩
  have HK1 := Lib.hid (HK0.out.trans hk)
  have HZ1 : Hid (w1.heap[w.heap.size]? = some (.cells #[.int .i64 0, .bool false] 24 (0, 0))) := Lib.hid (hk.at HZ0.out HbW.out)
  clear hk
  cases hd : dirD l [] with
  | none =>
    rw [hd] at h1 HE
    have h1 : e = stsP := h1
    subst h1
    refine sts_panic ?_
    rw [HE.out]
    exact ⟨rfl, HK1.out⟩
  | some x =>
    obtain ⟨r, T1⟩ := x
    rw [hd] at h1 HE
    obtain ⟨h1, h2, h3⟩ := h1
    subst h1
    have HG1 := Lib.hid (Gd11.nil.dir HL.out hd)
    have HR1 := Lib.hid h2
    have HM1 := Lib.hid h3
    have HLr : Hid (r.length ≤ 65536) := Lib.hid (by have := dirD_le hd; have := HL.out; omega)
    have HE1 : Hid (O = (if r.head? = some 59 then runT (r.drop 1) T1 else some T1).bind wishT) := Lib.hid HE.out
    clear h2 h3 hd HE
    go_wp2
    go_loopw [10] (fun _ wr => ∃ (r : List UInt8) (T : List TsE), Hid (RsAt wr b m r) ∧ Hid (MapAt wr m T) ∧ Hid (Gd11 T) ∧ Hid (r.length ≤ 65536) ∧ Hid (O = (if r.head? = some 59 then runT (r.drop 1) T else some T).bind wishT) ∧ Hid (Kp (TwoB b m) w wr) ∧ Hid (wr.heap[w.heap.size]? = some (.cells #[.int .i64 0, .bool false] 24 (0, 0)))) (fun _ wr => restSz wr b)
    case atStart => exact ⟨r, T1, HR1, HM1, HG1, HLr, HE1, HK1, HZ1⟩
    case round =>
      clear HR1 HM1 HG1 HLr HE1 HK1 HZ1 HD0 HL HR0 HM0
      clear r T1
      obtain ⟨r, T, HR, HM, HG, HLr, HE, HK, HZ⟩ := hrel
      have HC := Lib.hid (cut_any b m r 59 wr HR.out)
      by_cases hh : r.head? = some 59
      · rw [decide_eq_true hh, if_pos hh] at HC
        have HE2 : Hid (O = (runT (r.drop 1) T).bind wishT) := Lib.hid (by rw [HE.out, if_pos hh])
        have hsz : (r.drop 1).length + 1 = r.length := head_drop hh
        have HSz := Lib.hid hsz
        clear hh hsz
        go_wp2_with fail
        refine HC.out.mono ?_
        rintro e w2 ⟨rfl, hr, hk⟩
        have HR2 := Lib.hid hr
        have HM2 := Lib.hid (HM.out.kp hbm hk)
        have HK2 := Lib.hid (HK.out.trans (kp_two hk))
        have HZ2 : Hid (w2.heap[w.heap.size]? = some (.cells #[.int .i64 0, .bool false] 24 (0, 0))) := Lib.hid (hk.at HZ.out fun e => HbW.out (.inl e))
        have HD2 := Lib.hid (HD.out (r.drop 1) T w2 hr HM2.out HG.out (by have := HSz.out; have := HLr.out; omega))
        clear hr hk
        go_wp2_with fail
        refine HD2.out.mono ?_
        rintro e w3 ⟨h1, hk⟩
        have HK3 := Lib.hid (HK2.out.trans hk)
        have HZ3 : Hid (w3.heap[w.heap.size]? = some (.cells #[.int .i64 0, .bool false] 24 (0, 0))) := Lib.hid (hk.at HZ2.out HbW.out)
        have HE3 : Hid (O = (match dirD (r.drop 1) T with
          | none => none
          | some (r, T') => if r.head? = some 59 then runT (r.drop 1) T' else some T').bind wishT) := Lib.hid (by
          rw [HE2.out, runT_eq]
          cases dirD (r.drop 1) T with
          | none => rfl
          | some x => rfl)
        clear hk
        cases hd : dirD (r.drop 1) T with
        | none =>
          rw [hd] at h1 HE3
          have h1 : e = stsP := h1
          subst h1
          refine sts_panic (P := Tryd.prog) (f := Tryd.f21) ?_
          have hO : O = none := HE3.out
          rw [hO]
          exact ⟨rfl, HK3.out⟩
        | some x =>
          obtain ⟨r3, T3⟩ := x
          rw [hd] at h1 HE3
          obtain ⟨h1, h2, h3⟩ := h1
          subst h1
          have HR3 := Lib.hid h2
          have HM3 := Lib.hid h3
          have HG3 := Lib.hid (HG.out.dir (by have := HSz.out; have := HLr.out; omega) hd)
          have HL3 : Hid (r3.length < r.length) := Lib.hid (by have := dirD_le hd; have := HSz.out; omega)
          clear h2 h3 hd
          go_wp2
          go_roundw
          case rel => exact ⟨r3, T3, HR3, HM3, HG3, Lib.hid (by have := HL3.out; have := HLr.out; omega), HE3, HK3, HZ3⟩
          case measure =>
            rw [restSz_of HR3.out, restSz_of HR.out]
            exact HL3.out
      · rw [decide_eq_false hh, if_neg hh] at HC
        have HE2 : Hid (O = wishT T) := Lib.hid (by rw [HE.out, if_neg hh]; rfl)
        have HS1 : Hid (∀ w, RsAt w b m r → MapAt w m T → Calls Tryd.prog 35 #[.pointer (some ⟨b, 0, none⟩), .string ⟨#[105, 110, 99, 108, 117, 100, 101, 83, 117, 98, 68, 111, 109, 97, 105, 110, 115]⟩] w fun e w' => e = .returned (.tuple #[.agg #[.string (asB ((sayT nSub T).getD (false, [])).2), .bool ((sayT nSub T).getD (false, [])).1], .bool (sayT nSub T).isSome]) ∧ Below w.heap.size w w') := Lib.hid fun w h1 h2 => by
          have := said_any b m r T ⟨#[105, 110, 99, 108, 117, 100, 101, 83, 117, 98, 68, 111, 109, 97, 105, 110, 115]⟩ w h1 h2 HG.out.u (by decide)
          rw [show ((⟨#[105, 110, 99, 108, 117, 100, 101, 83, 117, 98, 68, 111, 109, 97, 105, 110, 115]⟩ : ByteArray).data.toList.map low) = nSub from by decide] at this
          exact this
        have HS2 : Hid (∀ w, RsAt w b m r → MapAt w m T → Calls Tryd.prog 35 #[.pointer (some ⟨b, 0, none⟩), .string ⟨#[109, 97, 120, 45, 97, 103, 101]⟩] w fun e w' => e = .returned (.tuple #[.agg #[.string (asB ((sayT nAge T).getD (false, [])).2), .bool ((sayT nAge T).getD (false, [])).1], .bool (sayT nAge T).isSome]) ∧ Below w.heap.size w w') := Lib.hid fun w h1 h2 => by
          have := said_any b m r T ⟨#[109, 97, 120, 45, 97, 103, 101]⟩ w h1 h2 HG.out.u (by decide)
          rw [show ((⟨#[109, 97, 120, 45, 97, 103, 101]⟩ : ByteArray).data.toList.map low) = nAge from by decide] at this
          exact this
        have HAg := Lib.hid (say_len HG.out nAge)
        have HWi : Hid (wishT T = if ((sayT nSub T).getD (false, [])).1 = true then none
          else match ageD ((sayT nAge T).getD (false, [])).2 with
            | none => none
            | some a => some (a, (sayT nSub T).isSome)) := Lib.hid rfl
        rw [← HE2.out] at HWi
        obtain ⟨f1, Hf1⟩ : ∃ f, Hid (((sayT nSub T).getD (false, [])).1 = f) := ⟨_, Lib.hid rfl⟩
        obtain ⟨x1, Hx1⟩ : ∃ f, Hid (asB ((sayT nSub T).getD (false, [])).2 = f) := ⟨_, Lib.hid rfl⟩
        obtain ⟨d1, Hd1⟩ : ∃ f, Hid ((sayT nSub T).isSome = f) := ⟨_, Lib.hid rfl⟩
        obtain ⟨f2, Hf2⟩ : ∃ f, Hid (((sayT nAge T).getD (false, [])).1 = f) := ⟨_, Lib.hid rfl⟩
        obtain ⟨l2, Hl2⟩ : ∃ f, Hid (((sayT nAge T).getD (false, [])).2 = f) := ⟨_, Lib.hid rfl⟩
        obtain ⟨d2, Hd2⟩ : ∃ f, Hid ((sayT nAge T).isSome = f) := ⟨_, Lib.hid rfl⟩
        rw [Hf1.out, Hx1.out, Hd1.out] at HS1
        rw [Hf2.out, Hl2.out, Hd2.out] at HS2
        rw [Hf1.out, Hl2.out, Hd1.out] at HWi
        rw [Hl2.out] at HAg
        have HA2 := Lib.hid fun w => ageOf_any l2 w HAg.out
        obtain ⟨x2, Hx2⟩ : ∃ f, Hid (asB l2 = f) := ⟨_, Lib.hid rfl⟩
        rw [Hx2.out] at HS2 HA2
        clear hh
        go_wp2_with fail
        refine HC.out.mono ?_
        rintro e w2 ⟨rfl, hr, hk⟩
        have HR2 := Lib.hid hr
        have HM2 := Lib.hid (HM.out.kp hbm hk)
        have HK2 := Lib.hid (HK.out.trans (kp_two hk))
        have HZ2 : Hid (w2.heap[w.heap.size]? = some (.cells #[.int .i64 0, .bool false] 24 (0, 0))) := Lib.hid (hk.at HZ.out fun e => HbW.out (.inl e))
        clear hr hk
        go_wp2_with fail
        refine (HS1.out w2 HR2.out HM2.out).mono ?_
        rintro e w3 ⟨rfl, hb⟩
        have HK3 := Lib.hid (HK2.out.trans (Kp.of_below hb))
        have HR3 := Lib.hid (HR2.out.below hb)
        have HM3 := Lib.hid (HM2.out.below hb)
        have HZ3 : Hid (w3.heap[w.heap.size]? = some (.cells #[.int .i64 0, .bool false] 24 (0, 0))) := Lib.hid ((hb.block _ (lt_of_block HZ2.out)).trans HZ2.out)
        clear hb
        obtain ⟨V3, HV3⟩ : ∃ W, Hid (w3.alloc (.cells #[.string ⟨#[]⟩, .bool false] 62) = W) := ⟨_, Lib.hid rfl⟩
        have HN3 : Hid (V3.heap[w3.heap.size]? = some (.cells #[.string ⟨#[]⟩, .bool false] 62 (0, 0))) := Lib.hid (by rw [← HV3.out]; exact heap_alloc_new w3 _)
        have HB3 : Hid (Below w3.heap.size w3 V3) := Lib.hid (by rw [← HV3.out]; exact (Below.refl _ _).alloc (Nat.le_refl _) _)
        obtain ⟨W4, HW4⟩ : ∃ W, Hid (V3.setRow w3.heap.size #[.string x1, .bool f1] = W) := ⟨_, Lib.hid rfl⟩
        have HB4 : Hid (Kp (fun _ => False) w3 W4) := Lib.hid (by rw [← HW4.out]; exact kp_fresh (Kp.of_below HB3.out) (Nat.le_refl _) _)
        have hN4 : W4.heap[w3.heap.size]? = some (.cells #[.string x1, .bool f1] 62 (0, 0)) := by rw [← HW4.out]; exact setRow_heap V3 _ _ _ _ _ HN3.out
        have HN4 := Lib.hid hN4
        have HR4 : Hid (RsAt W4 b m r) := Lib.hid (HB4.out.at HR3.out id)
        have HM4 : Hid (MapAt W4 m T) := Lib.hid (HM3.out.of (HB4.out.block m HM3.out.lt id))
        have HZ4 : Hid (W4.heap[w.heap.size]? = some (.cells #[.int .i64 0, .bool false] 24 (0, 0))) := Lib.hid (HB4.out.at HZ3.out id)
        have HK4 : Hid (Kp (TwoB b m) w W4) := Lib.hid (HK3.out.trans (HB4.out.mono fun _ h => h.elim))
        have c41 : W4.cell? ⟨w3.heap.size, 1, none⟩ = some (.bool f1) := by rw [cell_of_row W4 _ 1 _ _ _ hN4]; rfl
        clear hN4
        cases f1 with
        | true =>
          have HNo := Lib.hid (need_no W4)
          have hO : Hid (O = none) := Lib.hid (by rw [HWi.out]; rfl)
          go_wp2_with (first
            | (rw [HV3.out]; refine wpL_store_row rfl 62 _ _ rfl w3.heap.size #[.string x1, .bool true] ?_ ?_ 62 #[.string ⟨#[]⟩, .bool false] ?_ ?_ ?_ ?_ ?_; exact rfl; exact rfl; exact HN3.out; exact HI.out; exact rfl; (simp [Value.oneCell']); rw [HW4.out]))
          refine HNo.out.mono ?_
          rintro e w5 ⟨rfl, rfl⟩
          refine sts_panic (P := Tryd.prog) (f := Tryd.f21) ?_
          rw [hO.out]
          exact ⟨rfl, HK4.out⟩
        | false =>
          have HYe := Lib.hid (need_yes W4)
          have HWi2 : Hid (O = match ageD l2 with
            | none => none
            | some a => some (a, d1)) := Lib.hid (by rw [HWi.out]; rfl)
          go_wp2_with (first
            | (rw [HV3.out]; refine wpL_store_row rfl 62 _ _ rfl w3.heap.size #[.string x1, .bool false] ?_ ?_ 62 #[.string ⟨#[]⟩, .bool false] ?_ ?_ ?_ ?_ ?_; exact rfl; exact rfl; exact HN3.out; exact HI.out; exact rfl; (simp [Value.oneCell']); rw [HW4.out]))
          refine HYe.out.mono ?_
          rintro e w5 ⟨rfl, rfl⟩
          go_wp2_with fail
          refine (HS2.out W4 HR4.out HM4.out).mono ?_
          rintro e w5 ⟨rfl, hb⟩
          have HK5 := Lib.hid (HK4.out.trans (Kp.of_below hb))
          have HZ5 : Hid (w5.heap[w.heap.size]? = some (.cells #[.int .i64 0, .bool false] 24 (0, 0))) := Lib.hid ((hb.block _ (lt_of_block HZ4.out)).trans HZ4.out)
          clear hb
          obtain ⟨V5, HV5⟩ : ∃ W, Hid (w5.alloc (.cells #[.string ⟨#[]⟩, .bool false] 62) = W) := ⟨_, Lib.hid rfl⟩
          have HN5 : Hid (V5.heap[w5.heap.size]? = some (.cells #[.string ⟨#[]⟩, .bool false] 62 (0, 0))) := Lib.hid (by rw [← HV5.out]; exact heap_alloc_new w5 _)
          have HB5 : Hid (Below w5.heap.size w5 V5) := Lib.hid (by rw [← HV5.out]; exact (Below.refl _ _).alloc (Nat.le_refl _) _)
          obtain ⟨W6, HW6⟩ : ∃ W, Hid (V5.setRow w5.heap.size #[.string x2, .bool f2] = W) := ⟨_, Lib.hid rfl⟩
          have HB6 : Hid (Kp (fun _ => False) w5 W6) := Lib.hid (by rw [← HW6.out]; exact kp_fresh (Kp.of_below HB5.out) (Nat.le_refl _) _)
          have hN6 : W6.heap[w5.heap.size]? = some (.cells #[.string x2, .bool f2] 62 (0, 0)) := by rw [← HW6.out]; exact setRow_heap V5 _ _ _ _ _ HN5.out
          have HZ6 : Hid (W6.heap[w.heap.size]? = some (.cells #[.int .i64 0, .bool false] 24 (0, 0))) := Lib.hid (HB6.out.at HZ5.out id)
          have HK6 : Hid (Kp (TwoB b m) w W6) := Lib.hid (HK5.out.trans (HB6.out.mono fun _ h => h.elim))
          have c60 : W6.cell? ⟨w5.heap.size, 0, none⟩ = some (.string x2) := by rw [cell_of_row W6 _ 0 _ _ _ hN6]; rfl
          clear hN6
          have HA6 := Lib.hid (HA2.out W6)
          go_wp2_with (first
            | (rw [HV5.out]; refine wpL_store_row rfl 62 _ _ rfl w5.heap.size #[.string x2, .bool f2] ?_ ?_ 62 #[.string ⟨#[]⟩, .bool false] ?_ ?_ ?_ ?_ ?_; exact rfl; exact rfl; exact HN5.out; exact HI.out; exact rfl; (simp [Value.oneCell']); rw [HW6.out]))
          refine HA6.out.mono ?_
          rintro e w7 ⟨h1, hb⟩
          have HK7 := Lib.hid (HK6.out.trans (Kp.of_below hb))
          have HZ7 : Hid (w7.heap[w.heap.size]? = some (.cells #[.int .i64 0, .bool false] 24 (0, 0))) := Lib.hid ((hb.block _ (lt_of_block HZ6.out)).trans HZ6.out)
          clear hb
          cases ha : ageD l2 with
          | none =>
            rw [ha] at h1 HWi2
            have h1 : e = stsP := h1
            subst h1
            refine sts_panic (P := Tryd.prog) (f := Tryd.f21) ?_
            rw [HWi2.out]
            exact ⟨rfl, HK7.out⟩
          | some a =>
            rw [ha] at h1 HWi2
            have h1 : e = .returned (.int .i64 a) := h1
            subst h1
            have HO2 : Hid (O = some (a, d1)) := HWi2
            clear ha
            obtain ⟨W8, HW8⟩ : ∃ W, Hid (w7.setRow w.heap.size #[.int .i64 a, .bool d1] = W) := ⟨_, Lib.hid rfl⟩
            have HZ8 : Hid (W8.heap[w.heap.size]? = some (.cells #[.int .i64 a, .bool d1] 24 (0, 0))) := Lib.hid (by rw [← HW8.out]; exact setRow_heap w7 _ _ _ _ _ HZ7.out)
            have HK8 : Hid (Kp (TwoB b m) w W8) := Lib.hid (by rw [← HW8.out]; exact kp_fresh HK7.out (Nat.le_refl _) _)
            go_wp2_with (first
              | (refine wpL_store_row rfl 24 _ _ rfl w.heap.size #[.int .i64 a, .bool d1] ?_ ?_ 24 #[.int .i64 0, .bool false] ?_ ?_ ?_ ?_ ?_; exact rfl; exact rfl; exact HZ7.out; exact HIw.out; exact rfl; (simp [Value.oneCell']); rw [HW8.out]))
            refine bodyPost_ret (P := Tryd.prog) (fn := Tryd.f21) (v := .agg #[.int .i64 a, .bool d1]) (results_cell_row (P := Tryd.prog) Tryd.results21 _ _ w.heap.size _ _ (0, 0) _ rfl HZ8.out Tryd.underlying24 rfl infoWish) rfl ?_
            rw [HO2.out]
            exact ⟨rfl, HK8.out⟩

end Go.Proofs.YthffgnlebljkcaaDoor
