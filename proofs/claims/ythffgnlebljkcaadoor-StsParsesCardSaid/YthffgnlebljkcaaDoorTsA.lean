/-
  Package sts: the reader's block; need, cut, until, sign.
-/
import Derived.Test.YthffgnlebljkcaaDoorTsI
import Derived.Test.YthffgnlebljkcaaDoorTsP
import Derived.Test.YthffgnlebljkcaaDoorAdB
import Derived.Test.YthffgnlebljkcaaDoorKp
import Derived.Test.YthffgnlebljkcaaDoorShelfN
import Derived.Recover
namespace Go.Proofs.YthffgnlebljkcaaDoor
open Go.RowKit

/-- The reader: what is left, and where the map stands. -/
def RsAt (w : World) (b m : Nat) (l : List UInt8) : Prop := w.heap[b]? = some (.cells #[.string (asB l), .map (some m)] 44 (0, 0))
theorem RsAt.c0 {w : World} {b m : Nat} {l : List UInt8} (h : RsAt w b m l) : w.cell? ⟨b, 0, none⟩ = some (.string (asB l)) := by rw [cell_of_row w b 0 _ _ _ h]; rfl
theorem RsAt.c1 {w : World} {b m : Nat} {l : List UInt8} (h : RsAt w b m l) : w.cell? ⟨b, 1, none⟩ = some (.map (some m)) := by rw [cell_of_row w b 1 _ _ _ h]; rfl
theorem RsAt.f0 {w : World} {b m : Nat} {l : List UInt8} (h : RsAt w b m l) : w.frozen? ⟨b, 0, none⟩ = false := frozen_of_row w b 0 _ _ h
theorem RsAt.lt {w : World} {b m : Nat} {l : List UInt8} (h : RsAt w b m l) : b < w.heap.size := lt_of_block h
theorem RsAt.set {w : World} {b m : Nat} {l : List UInt8} (h : RsAt w b m l) (l' : List UInt8) : RsAt (w.setCell ⟨b, 0, none⟩ (.string (asB l'))) b m l' := by
  unfold RsAt at *
  rw [heap_setCell_same _ _ _ _ _ _ h]; rfl
theorem RsAt.below {w w' : World} {b m : Nat} {l : List UInt8} (h : RsAt w b m l) (hb : Below w.heap.size w w') : RsAt w' b m l := (hb.block b h.lt).trans h
theorem Kp.one {b : Nat} {a w : World} (h : Kp (Only b) a w) (k : Nat) (v : Value) : Kp (Only b) a (w.setCell ⟨b, k, none⟩ v) := h.setCell (p := ⟨b, k, none⟩) rfl v
/-- How a step gives up. -/
def stsP : Ending := .panicked [{ v := .iface 25 (.int .i64 4), recovered := false }]
theorem sts_panic {P : Program} {f : Func} {Q : Ending → World → Prop} {c : List PanicEntry} {tm : Array Value} {w : World} (h : Q (.panicked c) w) : bodyPost P f Q (.panic c) { tmps := tm, defers := [] } w := ⟨rfl, h⟩
set_option maxHeartbeats 400000 in
theorem need_yes (w : World) : Calls Tryd.prog 36 #[.bool true] w fun e w' => e = .returned (.tuple #[]) ∧ w = w' := by
  go_enter Tryd.func36, Tryd.ntmps36
  go_wp2
  go_end0
  exact ⟨rfl, rfl⟩
set_option maxHeartbeats 400000 in
theorem need_no (w : World) : Calls Tryd.prog 36 #[.bool false] w fun e w' => e = stsP ∧ w = w' := by
  go_enter Tryd.func36, Tryd.ntmps36
  go_wp2
  exact sts_panic ⟨rfl, rfl⟩
theorem ts_pre (a : UInt8) (l : List UInt8) : Lib.hasPrefix l [a] = decide (l.head? = some a) := by
  cases l with
  | nil => rfl
  | cons c l =>
    show ((a == c) && ([] : List UInt8).isPrefixOf l) = _
    rw [List.isPrefixOf_nil_left, Bool.and_true]
    by_cases h : a = c
    · subst h; simp
    · simp [h, Ne.symm h]
theorem ts_cut (a : UInt8) (l : List UInt8) : Lib.trimPrefix l [a] = if l.head? = some a then l.drop 1 else l := by
  unfold Lib.trimPrefix
  rw [ts_pre]
  by_cases h : l.head? = some a <;> simp [h]
set_option maxRecDepth 100000 in
set_option maxHeartbeats 1000000 in
theorem cut_any (b m : Nat) (l : List UInt8) (c : UInt8) (w : World) (h : RsAt w b m l) :
    Calls Tryd.prog 34 #[.pointer (some ⟨b, 0, none⟩), .string ⟨#[c]⟩] w fun e w' =>
      e = .returned (.bool (decide (l.head? = some c))) ∧ RsAt w' b m (if l.head? = some c then l.drop 1 else l) ∧ Kp (Only b) w w' := by
  have HC : Hid (Calls Tryd.prog 48 #[.string (asB l), .string ⟨#[c]⟩] w fun e w' => e = .returned (.tuple #[.string (asB (if l.head? = some c then l.drop 1 else l)), .bool (decide (l.head? = some c))]) ∧ w = w') := Lib.hid (by
    refine (Tryd.strings_CutPrefix (asB l) ⟨#[c]⟩ w).mono ?_
    rintro e w' ⟨rfl, rfl⟩
    have e1 := ts_pre c l
    have e2 := ts_cut c l
    refine ⟨?_, rfl⟩
    show Ending.returned (.tuple #[.string ⟨(Lib.trimPrefix l [c]).toArray⟩, .bool (Lib.hasPrefix l [c])]) = _
    rw [e1, e2]; rfl)
  have HR := Lib.hid h
  have c1 := h.c0
  have f1 := h.f0
  obtain ⟨r, Hr⟩ : ∃ r, Hid ((if l.head? = some c then l.drop 1 else l) = r) := ⟨_, Lib.hid rfl⟩
  obtain ⟨d, Hd⟩ : ∃ d, Hid (decide (l.head? = some c) = d) := ⟨_, Lib.hid rfl⟩
  rw [Hr.out, Hd.out] at HC ⊢
  clear h
  go_enter Tryd.func34, Tryd.ntmps34
  go_wp2_with fail
  refine HC.out.mono ?_
  rintro e w1 ⟨rfl, rfl⟩
  go_wp2
  go_ret
  exact ⟨rfl, HR.out.set r, (Kp.refl _ _).one _ _⟩
theorem asB_ext (l : List UInt8) (k : Nat) : (asB l).extract 0 k = asB (l.take k) := by
  apply ByteArray.ext
  apply Array.toList_inj.1
  rw [ByteArray.data_extract, Array.toList_extract, List.extract_eq_take_drop]
  rfl
theorem asB_drop (l : List UInt8) (k : Nat) : (asB l).extract k (asB l).size = asB (l.drop k) := ext_asB (asB l) k
theorem upT_take (e l : List UInt8) : l.take (upT e l).length = upT e l ∧ l.drop (upT e l).length = frT e l := by
  have h := upT_frT e l
  have h1 : (upT e l ++ frT e l).take (upT e l).length = upT e l := List.take_left' rfl
  have h2 : (upT e l ++ frT e l).drop (upT e l).length = frT e l := List.drop_left' rfl
  rw [h] at h1 h2
  exact ⟨h1, h2⟩
set_option maxRecDepth 100000 in
set_option maxHeartbeats 2000000 in
theorem until_of (b m : Nat) (l en : List UInt8) (w : World) (h : RsAt w b m l) (hl : l.length ≤ 65536)
    (HI : Hid (Calls Tryd.prog 54 #[.string (asB l), .string (asB en)] w fun e w' => e = .returned (.int .i64 (idxE en l)) ∧ Below w.heap.size w w')) :
    Calls Tryd.prog 46 #[.pointer (some ⟨b, 0, none⟩), .string (asB en)] w fun e w' =>
      e = .returned (.string (asB (trimL (upT en l)))) ∧ RsAt w' b m (frT en l) ∧ Kp (Only b) w w' := by
  have HR := Lib.hid h
  have c1 := h.c0
  have hub := upT_le en l
  obtain ⟨n, hn⟩ : ∃ n, (upT en l).length = n := ⟨_, rfl⟩
  rw [hn] at hub
  have hT := (upT_take en l).1
  have hD := (upT_take en l).2
  rw [hn] at hT hD
  have HT : Hid (∀ w, Calls Tryd.prog 55 #[.string ((asB l).extract 0 n)] w fun e w' => e = .returned (.string (asB (trimL (upT en l)))) ∧ Below w.heap.size w w') := Lib.hid fun w => by
    have := Trim_any ((asB l).extract 0 n) w (by rw [asB_ext, hT, asB_size, hn]; unfold maxLen; omega)
    rw [asB_ext, hT] at this
    rw [asB_ext, hT]
    exact this
  have HD : Hid ((asB l).extract n (asB l).size = asB (frT en l)) := Lib.hid (by rw [asB_drop, hD])
  have hsz : ((asB l).size : Int) = (l.length : Int) := by rw [asB_size]
  have hn0 : (0 : Int) ≤ (n : Int) := by omega
  have hnl : (n : Int) ≤ (l.length : Int) := by omega
  have hlb : (l.length : Int) ≤ 65536 := by omega
  obtain ⟨R, HRR⟩ : ∃ R, Hid (trimL (upT en l) = R) := ⟨_, Lib.hid rfl⟩
  rw [HRR.out] at HT ⊢
  obtain ⟨F, HF⟩ : ∃ F, Hid (frT en l = F) := ⟨_, Lib.hid rfl⟩
  rw [HF.out] at HD ⊢
  have HE : Hid (∀ w1 : World, RsAt w1 b m l → Kp (Only b) w w1 → RsAt (w1.setCell ⟨b, 0, none⟩ (.string ((asB l).extract n (asB l).size))) b m F ∧ Kp (Only b) w (w1.setCell ⟨b, 0, none⟩ (.string ((asB l).extract n (asB l).size)))) := Lib.hid fun w1 h1 k1 => by
    rw [HD.out]
    exact ⟨h1.set F, k1.one _ _⟩
  by_cases hx : frT en l = []
  · have hi : idxE en l = -1 := if_pos hx
    have hnn : n = l.length := by
      have := upT_frT en l
      rw [hx, List.append_nil] at this
      rw [← hn, this]
    rw [hi] at HI
    rw [hnn] at HT HE
    clear hT hD hub hn hi hx h hnn HD
    go_enter Tryd.func46, Tryd.ntmps46
    go_wp2_with fail
    refine HI.out.mono ?_
    rintro e w1 ⟨rfl, hb⟩
    have HR1 := Lib.hid (HR.out.below hb)
    have c1 := HR1.out.c0
    have f1 := HR1.out.f0
    have HB := Lib.hid hb
    clear hb
    go_wp2_with fail
    refine (HT.out _).mono ?_
    rintro e w2 ⟨rfl, hb⟩
    obtain ⟨h1, h2⟩ := HE.out w1 HR1.out (Kp.of_below HB.out)
    have HR2 := Lib.hid (h1.below hb)
    have HK2 := Lib.hid (h2.trans (Kp.of_below hb))
    clear hb h1 h2
    go_wp2
    go_ret
    exact ⟨rfl, HR2.out, HK2.out⟩
  · have hi : idxE en l = (n : Int) := by rw [idxE, if_neg hx, hn]
    rw [hi] at HI
    clear hT hD hub hn hi hx h HD
    go_enter Tryd.func46, Tryd.ntmps46
    go_wp2_with fail
    refine HI.out.mono ?_
    rintro e w1 ⟨rfl, hb⟩
    have HR1 := Lib.hid (HR.out.below hb)
    have c1 := HR1.out.c0
    have f1 := HR1.out.f0
    have HB := Lib.hid hb
    clear hb
    go_wp2_with fail
    refine (HT.out _).mono ?_
    rintro e w2 ⟨rfl, hb⟩
    obtain ⟨h1, h2⟩ := HE.out w1 HR1.out (Kp.of_below HB.out)
    have HR2 := Lib.hid (h1.below hb)
    have HK2 := Lib.hid (h2.trans (Kp.of_below hb))
    clear hb h1 h2
    go_wp2
    go_ret
    exact ⟨rfl, HR2.out, HK2.out⟩
theorem until1_any (b m : Nat) (l : List UInt8) (w : World) (h : RsAt w b m l) (hl : l.length ≤ 65536) :
    Calls Tryd.prog 46 #[.pointer (some ⟨b, 0, none⟩), .string ⟨#[59]⟩] w fun e w' =>
      e = .returned (.string (asB (trimL (upT en1 l)))) ∧ RsAt w' b m (frT en1 l) ∧ Kp (Only b) w w' :=
  until_of b m l en1 w h hl (Lib.hid (IndexAny_one (asB l) w))
theorem until2_any (b m : Nat) (l : List UInt8) (w : World) (h : RsAt w b m l) (hl : l.length ≤ 65536) :
    Calls Tryd.prog 46 #[.pointer (some ⟨b, 0, none⟩), .string ⟨#[61, 59]⟩] w fun e w' =>
      e = .returned (.string (asB (trimL (upT en2 l)))) ∧ RsAt w' b m (frT en2 l) ∧ Kp (Only b) w w' :=
  until_of b m l en2 w h hl (Lib.hid (IndexAny_two (asB l) (by rw [asB_size]; omega) w))

/-- One byte of a text in quotes. -/
theorem sign_none (b m : Nat) (w : World) (h : RsAt w b m []) :
    Calls Tryd.prog 71 #[.pointer (some ⟨b, 0, none⟩)] w fun e w' => e = stsP ∧ Kp (Only b) w w' := by
  have c1 : w.cell? ⟨b, 0, none⟩ = some (.string ⟨#[]⟩) := h.c0
  have HN := Lib.hid (need_no w)
  clear h
  go_enter Tryd.func71, Tryd.ntmps71
  go_wp2_with fail
  refine HN.out.mono ?_
  rintro e w1 ⟨rfl, rfl⟩
  exact sts_panic ⟨rfl, Kp.refl _ _⟩
theorem okQ_yes {c : UInt8} (h : okQ c = true) : c.toNat = 9 ∨ (32 ≤ c.toNat ∧ c.toNat ≠ 127) := by
  simpa [okQ] using h
theorem okQ_no {c : UInt8} (h : okQ c = false) : c.toNat ≠ 9 ∧ (c.toNat < 32 ∨ c.toNat = 127) := by
  simp [okQ] at h
  omega
set_option maxRecDepth 100000 in
set_option maxHeartbeats 2000000 in
theorem sign_bad (b m : Nat) (c : UInt8) (l : List UInt8) (w : World) (h : RsAt w b m (c :: l)) (hc : okQ c = false) :
    Calls Tryd.prog 71 #[.pointer (some ⟨b, 0, none⟩)] w fun e w' => e = stsP ∧ Kp (Only b) w w' := by
  obtain ⟨S, HS⟩ : ∃ S, Hid (asB (c :: l) = S) := ⟨_, Lib.hid rfl⟩
  have hn0 : 0 < S.size := by rw [← HS.out, asB_size, List.length_cons]; omega
  have hx : S[0]'hn0 = c := by have := HS.out; subst this; rfl
  have c1 := h.c0
  rw [HS.out] at c1
  have hne : (S.toList == []) = false := by rw [← HS.out, Lib.toList_data]; rfl
  have hsz : (0 : Int) < (S.size : Int) := by omega
  have HN := Lib.hid (need_no w)
  have HY := Lib.hid (need_yes w)
  obtain ⟨h9, hc⟩ := okQ_no hc
  have e9 : ((c.toNat : Int) == 9) = false := beq_eq_false_iff_ne.2 (by omega)
  clear h
  rcases hc with hc | hc
  · have e1 : decide ((32 : Int) ≤ (c.toNat : Int)) = false := decide_eq_false (by omega)
    have e2 : ¬ (32 : Int) ≤ (c.toNat : Int) := by omega
    clear hc h9
    go_enter Tryd.func71, Tryd.ntmps71
    go_wp2_with fail
    refine HY.out.mono ?_
    rintro e w1 ⟨rfl, rfl⟩
    go_wp2_with fail
    refine HN.out.mono ?_
    rintro e w1 ⟨rfl, rfl⟩
    exact sts_panic ⟨rfl, Kp.refl _ _⟩
  · have e1 : decide ((32 : Int) ≤ (c.toNat : Int)) = true := decide_eq_true (by omega)
    have e2 : (32 : Int) ≤ (c.toNat : Int) := by omega
    have e3 : ((c.toNat : Int) != 127) = false := by rw [hc]; rfl
    clear hc h9
    go_enter Tryd.func71, Tryd.ntmps71
    go_wp2_with fail
    refine HY.out.mono ?_
    rintro e w1 ⟨rfl, rfl⟩
    go_wp2_with fail
    refine HN.out.mono ?_
    rintro e w1 ⟨rfl, rfl⟩
    exact sts_panic ⟨rfl, Kp.refl _ _⟩
set_option maxRecDepth 100000 in
set_option maxHeartbeats 2000000 in
theorem sign_good (b m : Nat) (c : UInt8) (l : List UInt8) (w : World) (h : RsAt w b m (c :: l)) (hc : okQ c = true) :
    Calls Tryd.prog 71 #[.pointer (some ⟨b, 0, none⟩)] w fun e w' => e = .returned (.int .u8 (c.toNat : Int)) ∧ RsAt w' b m l ∧ Kp (Only b) w w' := by
  obtain ⟨S, HS⟩ : ∃ S, Hid (asB (c :: l) = S) := ⟨_, Lib.hid rfl⟩
  have hn0 : 0 < S.size := by rw [← HS.out, asB_size, List.length_cons]; omega
  have hx : S[0]'hn0 = c := by have := HS.out; subst this; rfl
  have HR := Lib.hid h
  have c1 := h.c0
  have f1 := h.f0
  rw [HS.out] at c1
  have hne : (S.toList == []) = false := by rw [← HS.out, Lib.toList_data]; rfl
  have hsz : (0 : Int) < (S.size : Int) := by omega
  have hs1 : (1 : Int) ≤ (S.size : Int) := by omega
  have HD : Hid (S.extract 1 S.size = asB l) := Lib.hid (by rw [← HS.out, asB_drop]; rfl)
  have HY := Lib.hid (need_yes w)
  have hc := okQ_yes hc
  clear h
  by_cases h9 : c.toNat = 9
  · have e9 : ((c.toNat : Int) == 9) = true := by rw [h9]; rfl
    have H9 : Hid ((c.toNat : Int) = 9) := Lib.hid (by omega)
    clear hc
    go_enter Tryd.func71, Tryd.ntmps71
    go_wp2_with fail
    refine HY.out.mono ?_
    rintro e w1 ⟨rfl, rfl⟩
    go_wp2_with fail
    refine HY.out.mono ?_
    rintro e w1 ⟨rfl, rfl⟩
    go_wp2
    go_ret
    exact ⟨by rw [H9.out]; rfl, by rw [HD.out]; exact HR.out.set l, (Kp.refl _ _).one _ _⟩
  · have e9 : ((c.toNat : Int) == 9) = false := beq_eq_false_iff_ne.2 (by omega)
    have e1 : decide ((32 : Int) ≤ (c.toNat : Int)) = true := decide_eq_true (by omega)
    have e2 : (32 : Int) ≤ (c.toNat : Int) := by omega
    have e3 : ((c.toNat : Int) != 127) = true := bne_iff_ne.2 (by omega)
    clear hc h9
    go_enter Tryd.func71, Tryd.ntmps71
    go_wp2_with fail
    refine HY.out.mono ?_
    rintro e w1 ⟨rfl, rfl⟩
    go_wp2_with fail
    refine HY.out.mono ?_
    rintro e w1 ⟨rfl, rfl⟩
    go_wp2
    go_ret
    exact ⟨rfl, by rw [HD.out]; exact HR.out.set l, (Kp.refl _ _).one _ _⟩

end Go.Proofs.YthffgnlebljkcaaDoor
