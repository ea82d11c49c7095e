/-
  Contracts: puny.tellsOthers, puny.Label, puny.Show; how long few letters are.
  Contract: puny.Label.
  Contracts: puny.Show, is; constants.
  alive: some answers that the document fixes, of few letters; all of them hold.
  A region that draws its order, whose operations only read, and whose callees leave all that was there as it was: one walk serves every order.
-/
import Derived.Test.YtgmjfnddeogfdaaDoorEnVX
import Derived.Test.YtgmjfnddeogfdaaDoorPnC
import Derived.Test.YtgmjfnddeogfdaaDoorLowC
import Derived.Test.YtgmjfnddeogfdaaDoorShelfP
namespace Go.Proofs.YtgmjfnddeogfdaaDoor
open Go.RowKit

/- How long few letters are. -/
theorem digsL_len : ∀ (f n k b j : Nat), n < 10 ^ j → (digsL f n k b).length ≤ j + 1
  | 0, n, k, b, j, _ => by simp [digsL]
  | f + 1, n, k, b, j, h => by
    by_cases ht : n < stepN k b
    · rw [digsL_end ht]; simp
    · rw [digsL_on ht, List.length_cons]
      have hs := stepN_bd k b
      cases j with
      | zero => simp at h; omega
      | succ j =>
        have := digsL_len f ((n - stepN k b) / (36 - stepN k b)) (k + 36) b j (by
          rw [Nat.div_lt_iff_lt_mul (by omega)]
          have h1 : 10 ^ j * 10 ≤ 10 ^ j * (36 - stepN k b) := Nat.mul_le_mul_left _ (by omega)
          rw [Nat.pow_succ] at h
          omega)
        omega
theorem fewN_len (begun : Nat) : ∀ (R : List Pr) (told : List Nat) (i place last bias : Nat), (∀ x ∈ R, x.1 ≤ 1114111) → begun + i + R.length ≤ 2000000 → told.length ≤ 2000000 - R.length → (fewN begun R told i place last bias).length ≤ 15 * R.length
  | [], _, _, _, _, _, _, _, _ => by simp [fewN]
  | (m, p) :: R, told, i, place, last, bias, hb, hl, ht => by
    have hm := hb (m, p) (by simp)
    simp only [List.length_cons] at hl ht
    rw [fewN, List.length_append, List.length_cons]
    have ih := fewN_len begun R (p :: told) (i + 1) (cntLt told p + 1) m (nb ((m - last) * (begun + i + 1) + cntLt told p - place) (begun + i + 1) (i == 0)) (fun x hx => hb x (List.mem_cons_of_mem _ hx)) (by omega) (by rw [List.length_cons]; omega)
    have hc : cntLt told p ≤ told.length := cntLt_le told p
    have hN : (m - last) * (begun + i + 1) + cntLt told p - place < 10 ^ 13 := by
      have h1 : (m - last) * (begun + i + 1) ≤ 1114111 * 2000001 := Nat.mul_le_mul (by simp only at hm; omega) (by omega)
      omega
    have := digsL_len ((m - last) * (begun + i + 1) + cntLt told p - place) ((m - last) * (begun + i + 1) + cntLt told p - place) 36 bias 13 hN
    omega
theorem few_len (s : ByteArray) (hs : s.size ≤ 1000) (R : List Pr) (hR : R.Perm (otL (sgn s s.size 0))) : (fewL (sgn s s.size 0) R).length ≤ 20000 := by
  rw [fewL]
  have hl : (sgn s s.size 0).length ≤ s.size := by have := sgn_len s s.size 0; simpa using this
  have hB : (plB (sgn s s.size 0)).length ≤ (sgn s s.size 0).length := by simp [plB]; exact List.length_filter_le _ _
  have hRl : R.length ≤ (sgn s s.size 0).length := by
    rw [hR.length_eq]; exact List.length_filter_le _ _
  have hb : ∀ x ∈ R, x.1 ≤ 1114111 := fun x hx => by
    have h1 : x ∈ otL (sgn s s.size 0) := hR.mem_iff.1 hx
    have h2 : x ∈ sgn s s.size 0 := (List.mem_filter.1 h1).1
    rw [sgn_mem2 s _ _ x h2]; exact rune_bd s x.2
  have hA : (plA (sgn s s.size 0)).length ≤ (sgn s s.size 0).length := by simp [plA]; exact List.length_filter_le _ _
  have := fewN_len (plB (sgn s s.size 0)).length R (plA (sgn s s.size 0)) 0 0 128 72 hb (by omega) (by omega)
  simp only [List.length_append]
  have h3 : (if plB (sgn s s.size 0) = [] then [] else ([45] : List UInt8)).length ≤ 1 := by split <;> simp
  omega
/- How long a text is that few letters say. -/
theorem decL_size : ∀ (f : Nat) (l : List Nat) (r : List UInt8) (place sign bias : Nat) (first : Bool) (L : List Nat), decL f l r place sign bias first = some L → L.length ≤ l.length + f
  | 0, l, r, place, sign, bias, first, L, h => by
    rw [decL] at h; split at h
    · injection h with h; rw [← h]; omega
    · cases h
  | f + 1, l, r, place, sign, bias, first, L, h => by
    rw [decL] at h
    split at h
    · injection h with h; rw [← h]; omega
    · split at h
      · cases h
      · split at h
        · cases h
        · have := decL_size f _ _ _ _ _ _ _ h
          have hl : ∀ (l : List Nat) i x, (insN l i x).length = l.length + 1 := fun l i x => by
            rw [insN, List.length_append, List.length_cons, List.length_take, List.length_drop]; omega
          rw [hl] at this; omega
theorem decT_size (s : ByteArray) : (decT s).1.size ≤ 4 * s.size := by
  unfold decT
  split
  · exact Nat.zero_le _
  · split
    · exact Nat.zero_le _
    · cases h : decO s with
      | none => exact Nat.zero_le _
      | some L =>
        have h1 := decL_size _ _ _ _ _ _ _ _ h
        have h2 := p_sizes s
        have h3 := utf_len L
        simp only [decW]
        have h4 : (utf L).size = (utf L).data.toList.length := by simp
        simp at h1
        omega

theorem beqB (a b : ByteArray) : (a.toList == b.toList) = decide (a = b) := by
  rw [Bool.eq_iff_iff, beq_iff_eq, decide_eq_true_eq, ByteArray.toList_eq, ByteArray.toList_eq]
  exact ⟨fun h => ByteArray.ext (Array.toList_inj.1 h), fun h => by rw [h]⟩
/-- utf8.ValidString answers, in every later world. -/
def Vld (w : World) : Prop := ∀ w', Below w.heap.size w w' → ∀ s : ByteArray, s.size ≤ 9223372036854775807 → Calls Tryd.prog 17 #[.string s] w' fun e w'' => e = .returned (.bool (Lib.validD s.data.toList)) ∧ Below w'.heap.size w' w''
theorem Vld.here {w : World} (h : Vld w) (s : ByteArray) (hs : s.size ≤ 9223372036854775807) : Calls Tryd.prog 17 #[.string s] w fun e w'' => e = .returned (.bool (Lib.validD s.data.toList)) ∧ Below w.heap.size w w'' := h w (Below.refl _ _) s hs
theorem Vld.later {w w1 : World} (h : Vld w) (hb : Below w.heap.size w w1) : Vld w1 := fun w' hb' s hs => h w' (hb.trans (hb'.mono hb.size)) s hs

/-- Does few letters' text tell others? -/
def tellsB (few : ByteArray) : Bool := if (decT few).2 = 0 then if plainL (decT few).1.data.toList then false else if (refEncT (decT few).1).2 = 0 then decide ((refEncT (decT few).1).1 = few) else false else false
theorem sec_dec (s : ByteArray) : (decT s).2 = 0 ∨ (decT s).2 = 3 ∨ (decT s).2 = 4 := by
  unfold decT
  split
  · simp
  · split
    · simp
    · cases decO s <;> simp [decW]
theorem sec_enc (s : ByteArray) : (refEncT s).2 = 0 ∨ (refEncT s).2 = 3 ∨ (refEncT s).2 = 4 := by
  unfold refEncT
  split
  · simp
  · split <;> simp
set_option maxRecDepth 100000 in
set_option maxHeartbeats 1000000 in
theorem tells_any (s : ByteArray) (w : World) (hs : s.size ≤ 1000) (hV : Vld w) :
    Calls Tryd.prog 22 #[.string s] w fun e w' => e = .returned (.bool (tellsB s)) ∧ Below w.heap.size w w' := by
  have HV := Lib.hid hV; clear hV
  obtain ⟨D, HD⟩ : ∃ D, Hid ((decT s).1 = D) := ⟨_, Lib.hid rfl⟩
  obtain ⟨c, Hc⟩ : ∃ c, Hid ((decT s).2 = c) := ⟨_, Lib.hid rfl⟩
  have hDs : D.size ≤ 4000 := by have := decT_size s; rw [HD.out] at this; omega
  have C1 : Hid (∀ w, Calls Tryd.prog 15 #[.string s] w fun e w' => e = .returned (.tuple #[.string D, .int .i64 c]) ∧ Below w.heap.size w w') := Lib.hid (fun w => by
    have := Decode_any s w (by unfold maxLen; omega)
    rwa [HD.out, Hc.out] at this)
  by_cases hc : c = 0
  · subst hc
    cases hp : plainL D.data.toList with
    | true =>
      have HT : Hid (tellsB s = false) := Lib.hid (by rw [tellsB, if_pos Hc.out, HD.out, hp]; rfl)
      have HP := Lib.hid hp; clear hp
      rw [HT.out]
      go_enter Tryd.func22, Tryd.ntmps22
      go_wp2_with fail
      refine (C1.out _).mono ?_
      rintro e w1 ⟨rfl, b1⟩
      have B1 := Lib.hid b1; clear b1
      go_wp2_with fail
      refine (plain_any D _).mono ?_
      rw [HP.out]
      rintro e w2 ⟨rfl, pos, rfl⟩
      go_wp2
      go_ret
      exact ⟨rfl, B1.out.trans ((iter_below _ _ _).mono B1.out.size)⟩
    | false =>
      obtain ⟨E, HE⟩ : ∃ E, Hid ((refEncT D).1 = E) := ⟨_, Lib.hid rfl⟩
      obtain ⟨d, Hd⟩ : ∃ d, Hid ((refEncT D).2 = d) := ⟨_, Lib.hid rfl⟩
      have HT : Hid (tellsB s = if d = 0 then decide (E = s) else false) := Lib.hid (by rw [tellsB, if_pos Hc.out, HD.out, hp, HE.out, Hd.out]; rfl)
      have HP := Lib.hid hp; clear hp
      rw [HT.out]
      have C2 : Hid (∀ w, Vld w → Calls Tryd.prog 14 #[.string D] w fun e w' => e = .returned (.tuple #[.string E, .int .i64 d]) ∧ Below w.heap.size w w') := Lib.hid (fun w hV => by
        have := Encode_of D w (by unfold maxLen; omega) (hV.here D (by omega))
        rwa [HE.out, Hd.out] at this)
      by_cases hd : d = 0
      · subst hd
        rw [if_pos rfl]
        go_enter Tryd.func22, Tryd.ntmps22
        go_wp2_with fail
        refine (C1.out _).mono ?_
        rintro e w1 ⟨rfl, b1⟩
        have B1 := Lib.hid b1; clear b1
        go_wp2_with fail
        refine (plain_any D _).mono ?_
        rw [HP.out]
        rintro e w2 ⟨rfl, pos, rfl⟩
        have B2 : Hid (Below w.heap.size w (w1.iter D pos)) := Lib.hid (B1.out.trans ((iter_below _ _ _).mono B1.out.size))
        go_wp2_with fail
        refine (C2.out _ (HV.out.later B2.out)).mono ?_
        rintro e w3 ⟨rfl, b3⟩
        have B3 : Hid (Below w.heap.size w w3) := Lib.hid (B2.out.trans (b3.mono B2.out.size))
        clear b3
        go_wp2
        go_ret
        exact ⟨ret_bool (beqB _ _), B3.out⟩
      · have hd0 : (d == 0) = false := beq_eq_false_iff_ne.2 hd
        rw [if_neg hd]
        clear hd
        go_enter Tryd.func22, Tryd.ntmps22
        go_wp2_with fail
        refine (C1.out _).mono ?_
        rintro e w1 ⟨rfl, b1⟩
        have B1 := Lib.hid b1; clear b1
        go_wp2_with fail
        refine (plain_any D _).mono ?_
        rw [HP.out]
        rintro e w2 ⟨rfl, pos, rfl⟩
        have B2 : Hid (Below w.heap.size w (w1.iter D pos)) := Lib.hid (B1.out.trans ((iter_below _ _ _).mono B1.out.size))
        go_wp2_with fail
        refine (C2.out _ (HV.out.later B2.out)).mono ?_
        rintro e w3 ⟨rfl, b3⟩
        have B3 : Hid (Below w.heap.size w w3) := Lib.hid (B2.out.trans (b3.mono B2.out.size))
        clear b3
        go_wp2
        go_ret
        exact ⟨rfl, B3.out⟩
  · have HT : Hid (tellsB s = false) := Lib.hid (by rw [tellsB, if_neg (by rw [Hc.out]; exact hc)])
    rw [HT.out]
    have hc0 : (c == 0) = false := beq_eq_false_iff_ne.2 hc
    have hc1 : (c != 0) = true := by rw [bne, hc0]; rfl
    clear hc
    go_enter Tryd.func22, Tryd.ntmps22
    go_wp2_with fail
    refine (C1.out _).mono ?_
    rintro e w1 ⟨rfl, b1⟩
    have B1 := Lib.hid b1; clear b1
    go_wp2
    go_ret
    exact ⟨rfl, B1.out⟩

end Go.Proofs.YtgmjfnddeogfdaaDoor
namespace Go.Proofs.YtgmjfnddeogfdaaDoor
open Go.RowKit

def labE (l : ByteArray) : ByteArray × Int := if 63 < l.size then (⟨#[]⟩, 5) else (l, 0)
def cutX (l : ByteArray) : ByteArray := ⟨(Lib.trimPrefix l.data.toList [120, 110, 45, 45]).toArray⟩
def fewT (l : ByteArray) : ByteArray := ⟨(docE ((sgn l l.size 0).map (·.1))).toArray⟩
/-- What Label answers. -/
def labT (s : ByteArray) : ByteArray × Int :=
  if s.size = 0 then (⟨#[]⟩, 5) else if Lib.validD s.data.toList = false then (⟨#[]⟩, 5) else if 63 < Lib.runeCount s then (⟨#[]⟩, 5) else
  if plainL (lowS s).data.toList then
    (if Lib.hasPrefix (lowS s).data.toList [120, 110, 45, 45] then (if tellsB (cutX (lowS s)) then labE (lowS s) else (⟨#[]⟩, 5)) else labE (lowS s))
  else labE ((⟨#[120, 110, 45, 45]⟩ : ByteArray) ++ fewT (lowS s))
theorem ret_lab {a b : ByteArray} {c d : Int} {x : ByteArray × Int} (h : x = (a, c)) (h' : b = a) (h2 : d = c) : Ending.returned (.tuple #[.string b, .int .i64 d]) = .returned (.tuple #[.string x.1, .int .i64 x.2]) := by
  subst h' h2; rw [h]
theorem catX_size (Q : ByteArray) : ((⟨#[120, 110, 45, 45]⟩ : ByteArray) ++ Q).size = 4 + Q.size := by rw [ByteArray.size_append]; rfl
theorem cutX_size (l : ByteArray) : (cutX l).size ≤ l.size := by
  show (Lib.trimPrefix l.data.toList [120, 110, 45, 45]).toArray.size ≤ _
  rw [List.size_toArray, Lib.trimPrefix]
  have : l.data.toList.length = l.size := by simp
  split
  · rw [List.length_drop]; omega
  · omega

set_option maxRecDepth 100000 in
set_option maxHeartbeats 4000000 in
theorem Label_any (s : ByteArray) (w : World) (hs : s.size ≤ 1000) (hV : Vld w) :
    Calls Tryd.prog 9 #[.string s] w fun e w' => e = .returned (.tuple #[.string (labT s).1, .int .i64 (labT s).2]) ∧ Below w.heap.size w w' := by
  have HV := Lib.hid hV; clear hV
  obtain ⟨T, HT⟩ : ∃ T, Hid (labT s = T) := ⟨_, Lib.hid rfl⟩
  rw [HT.out]
  by_cases h0 : s.size = 0
  · have HR : Hid (T = (⟨#[]⟩, 5)) := Lib.hid (by rw [← HT.out, labT, if_pos h0])
    have hem : s.toList.isEmpty = true := by
      rw [ByteArray.toList_eq, List.isEmpty_iff]
      exact List.eq_nil_of_length_eq_zero (by simpa using h0)
    clear h0
    go_enter Tryd.func9, Tryd.ntmps9
    go_wp2
    go_ret2
    exact ⟨ret_lab HR.out rfl rfl, Below.refl _ _⟩
  have hem : s.toList.isEmpty = false := by
    rw [ByteArray.toList_eq, ← Bool.not_eq_true, List.isEmpty_iff]
    intro h; exact h0 (by have := congrArg List.length h; simpa using this)
  cases hv : Lib.validD s.data.toList with
  | false =>
    have HR : Hid (T = (⟨#[]⟩, 5)) := Lib.hid (by rw [← HT.out, labT, if_neg h0, if_pos hv])
    have HVa := Lib.hid (HV.out.here s (by omega))
    rw [hv] at HVa
    clear h0 hv
    go_enter Tryd.func9, Tryd.ntmps9
    go_wp2_with fail
    refine HVa.out.mono ?_
    rintro e w1 ⟨rfl, b1⟩
    have B1 := Lib.hid b1; clear b1
    go_wp2
    go_ret2
    exact ⟨ret_lab HR.out rfl rfl, B1.out⟩
  | true =>
  have HVa := Lib.hid (HV.out.here s (by omega))
  rw [hv] at HVa
  obtain ⟨rc, Hrc⟩ : ∃ n, Hid (Lib.runeCount s = n) := ⟨_, Lib.hid rfl⟩
  have HRC : Hid (∀ w, Calls Tryd.prog 18 #[.string s] w fun e w' => e = .returned (.int .i64 (rc : Int)) ∧ ∃ pos, w' = w.iter s pos) := Lib.hid (fun w => by
    have := Tryd.utf8_RuneCountInString s w (by omega)
    rwa [Hrc.out] at this)
  by_cases h63 : 63 < rc
  · have HR : Hid (T = (⟨#[]⟩, 5)) := Lib.hid (by rw [← HT.out, labT, if_neg h0, if_neg (by rw [hv]; simp), if_pos (by rw [Hrc.out]; exact h63)])
    have h63I : (63 : Int) < (rc : Int) := by omega
    clear h0 hv h63
    go_enter Tryd.func9, Tryd.ntmps9
    go_wp2_with fail
    refine HVa.out.mono ?_
    rintro e w1 ⟨rfl, b1⟩
    have B1 := Lib.hid b1; clear b1
    go_wp2_with fail
    refine (HRC.out _).mono ?_
    rintro e w2 ⟨rfl, pos, rfl⟩
    go_wp2
    go_ret2
    exact ⟨ret_lab HR.out rfl rfl, B1.out.trans ((iter_below _ _ _).mono B1.out.size)⟩
  have h63I : (rc : Int) ≤ 63 := by omega
  obtain ⟨L, HL⟩ : ∃ L, Hid (lowS s = L) := ⟨_, Lib.hid rfl⟩
  have hLs : L.size ≤ 1000 := by rw [← HL.out, lowS_size]; exact hs
  have HLo : Hid (∀ w, Calls Tryd.prog 16 #[.string s] w fun e w' => e = .returned (.string L) ∧ Below w.heap.size w w') := Lib.hid (fun w => by
    have := Lower_any s w (by unfold maxLen; omega)
    rwa [HL.out] at this)
  have HTT : Hid (T = if plainL L.data.toList then (if Lib.hasPrefix L.data.toList [120, 110, 45, 45] then (if tellsB (cutX L) then labE L else (⟨#[]⟩, 5)) else labE L) else labE ((⟨#[120, 110, 45, 45]⟩ : ByteArray) ++ fewT L)) := Lib.hid (by
    rw [← HT.out, labT, if_neg h0, if_neg (by rw [hv]; simp), if_neg (by rw [Hrc.out]; exact h63), HL.out])
  clear h0 hv h63
  cases hp : plainL L.data.toList with
  | false =>
    have HR : Hid (T = labE ((⟨#[120, 110, 45, 45]⟩ : ByteArray) ++ fewT L)) := Lib.hid (by rw [HTT.out, hp]; rfl)
    have HP := Lib.hid hp; clear hp
    go_enter Tryd.func9, Tryd.ntmps9
    go_wp2_with fail
    refine HVa.out.mono ?_
    rintro e w1 ⟨rfl, b1⟩
    have B1 := Lib.hid b1; clear b1
    go_wp2_with fail
    refine (HRC.out _).mono ?_
    rintro e w2 ⟨rfl, pos, rfl⟩
    have B2 : Hid (Below w.heap.size w (w1.iter s pos)) := Lib.hid (B1.out.trans ((iter_below _ _ _).mono B1.out.size))
    go_wp2_with fail
    refine (HLo.out _).mono ?_
    rintro e w3 ⟨rfl, b3⟩
    have B3 : Hid (Below w.heap.size w w3) := Lib.hid (B2.out.trans (b3.mono B2.out.size))
    clear b3
    go_wp2_with fail
    refine (plain_any L _).mono ?_
    rw [HP.out]
    rintro e w4 ⟨rfl, pos2, rfl⟩
    have B4 : Hid (Below w.heap.size w (w3.iter L pos2)) := Lib.hid (B3.out.trans ((iter_below _ _ _).mono B3.out.size))
    go_wp2_with fail
    refine (fewLetters_any L _ (by omega)).mono ?_
    rintro e w5 ⟨R, hpR, hsr, rfl, b5⟩
    have hFl := few_len L hLs R hpR
    have HE := Lib.hid (few_doc L R hpR hsr)
    have B5 : Hid (Below w.heap.size w w5) := Lib.hid (B4.out.trans (b5.mono B4.out.size))
    clear b5 hpR hsr
    obtain ⟨Q, HQ⟩ : ∃ Q : ByteArray, Hid ((⟨(fewL (sgn L L.size 0) R).toArray⟩ : ByteArray) = Q) := ⟨_, Lib.hid rfl⟩
    have hQs : Q.size ≤ 20000 := by
      have : Q.size = (fewL (sgn L L.size 0) R).length := by rw [← HQ.out]; rfl
      omega
    have HQ2 : Hid (fewT L = Q) := Lib.hid (by rw [← HQ.out, HE.out]; rfl)
    rw [HQ.out]
    clear hFl
    have hz1 : ¬ 9223372036854775807 < 4 + Q.size := by omega
    by_cases h6 : 63 < 4 + Q.size
    · have HR2 : Hid (T = (⟨#[]⟩, 5)) := Lib.hid (by rw [HR.out, HQ2.out, labE, if_pos (by rw [catX_size]; exact h6)])
      have h6I : (63 : Int) < 4 + (Q.size : Int) := by omega
      go_wp2
      go_ret2
      exact ⟨ret_lab HR2.out rfl rfl, B5.out⟩
    · have HR2 : Hid (T = ((⟨#[120, 110, 45, 45]⟩ : ByteArray) ++ Q, 0)) := Lib.hid (by rw [HR.out, HQ2.out, labE, if_neg (by rw [catX_size]; exact h6)])
      have h6I : 4 + (Q.size : Int) ≤ 63 := by omega
      go_wp2
      go_ret2
      exact ⟨ret_lab HR2.out rfl rfl, B5.out⟩
  | true =>
    have HP := Lib.hid hp
    cases hx : Lib.hasPrefix L.data.toList [120, 110, 45, 45] with
    | false =>
      have HR : Hid (T = labE L) := Lib.hid (by rw [HTT.out, hp, hx]; rfl)
      have HC : Hid (∀ w, Calls Tryd.prog 21 #[.string L, .string ⟨#[120, 110, 45, 45]⟩] w fun e w' => e = .returned (.tuple #[.string (cutX L), .bool false]) ∧ w' = w) := Lib.hid (fun w => by
        have := Tryd.strings_CutPrefix L ⟨#[120, 110, 45, 45]⟩ w
        rw [show (⟨#[120, 110, 45, 45]⟩ : ByteArray).data.toList = [120, 110, 45, 45] from rfl, hx] at this
        exact this)
      clear hp hx
      go_enter Tryd.func9, Tryd.ntmps9
      go_wp2_with fail
      refine HVa.out.mono ?_
      rintro e w1 ⟨rfl, b1⟩
      have B1 := Lib.hid b1; clear b1
      go_wp2_with fail
      refine (HRC.out _).mono ?_
      rintro e w2 ⟨rfl, pos, rfl⟩
      have B2 : Hid (Below w.heap.size w (w1.iter s pos)) := Lib.hid (B1.out.trans ((iter_below _ _ _).mono B1.out.size))
      go_wp2_with fail
      refine (HLo.out _).mono ?_
      rintro e w3 ⟨rfl, b3⟩
      have B3 : Hid (Below w.heap.size w w3) := Lib.hid (B2.out.trans (b3.mono B2.out.size))
      clear b3
      go_wp2_with fail
      refine (plain_any L _).mono ?_
      rw [HP.out]
      rintro e w4 ⟨rfl, pos2, rfl⟩
      have B4 : Hid (Below w.heap.size w (w3.iter L pos2)) := Lib.hid (B3.out.trans ((iter_below _ _ _).mono B3.out.size))
      go_wp2_with fail
      refine (HC.out _).mono ?_
      rintro e w5 ⟨rfl, rfl⟩
      by_cases h6 : 63 < L.size
      · have HR2 : Hid (T = (⟨#[]⟩, 5)) := Lib.hid (by rw [HR.out, labE, if_pos h6])
        have h6I : (63 : Int) < (L.size : Int) := by omega
        go_wp2
        go_ret2
        exact ⟨ret_lab HR2.out rfl rfl, B4.out⟩
      · have HR2 : Hid (T = (L, 0)) := Lib.hid (by rw [HR.out, labE, if_neg h6])
        have h6I : (L.size : Int) ≤ 63 := by omega
        go_wp2
        go_ret2
        exact ⟨ret_lab HR2.out rfl rfl, B4.out⟩
    | true =>
      have HC : Hid (∀ w, Calls Tryd.prog 21 #[.string L, .string ⟨#[120, 110, 45, 45]⟩] w fun e w' => e = .returned (.tuple #[.string (cutX L), .bool true]) ∧ w' = w) := Lib.hid (fun w => by
        have := Tryd.strings_CutPrefix L ⟨#[120, 110, 45, 45]⟩ w
        rw [show (⟨#[120, 110, 45, 45]⟩ : ByteArray).data.toList = [120, 110, 45, 45] from rfl, hx] at this
        exact this)
      obtain ⟨X, HX⟩ : ∃ X, Hid (cutX L = X) := ⟨_, Lib.hid rfl⟩
      have hXs : X.size ≤ 1000 := by have := cutX_size L; rw [HX.out] at this; omega
      rw [HX.out] at HC
      cases ht : tellsB X with
      | false =>
        have HR : Hid (T = (⟨#[]⟩, 5)) := Lib.hid (by rw [HTT.out, hp, hx, HX.out, ht]; rfl)
        have HTl := Lib.hid (fun w hV => tells_any X w hXs hV)
        rw [ht] at HTl
        clear hp hx ht
        go_enter Tryd.func9, Tryd.ntmps9
        go_wp2_with fail
        refine HVa.out.mono ?_
        rintro e w1 ⟨rfl, b1⟩
        have B1 := Lib.hid b1; clear b1
        go_wp2_with fail
        refine (HRC.out _).mono ?_
        rintro e w2 ⟨rfl, pos, rfl⟩
        have B2 : Hid (Below w.heap.size w (w1.iter s pos)) := Lib.hid (B1.out.trans ((iter_below _ _ _).mono B1.out.size))
        go_wp2_with fail
        refine (HLo.out _).mono ?_
        rintro e w3 ⟨rfl, b3⟩
        have B3 : Hid (Below w.heap.size w w3) := Lib.hid (B2.out.trans (b3.mono B2.out.size))
        clear b3
        go_wp2_with fail
        refine (plain_any L _).mono ?_
        rw [HP.out]
        rintro e w4 ⟨rfl, pos2, rfl⟩
        have B4 : Hid (Below w.heap.size w (w3.iter L pos2)) := Lib.hid (B3.out.trans ((iter_below _ _ _).mono B3.out.size))
        go_wp2_with fail
        refine (HC.out _).mono ?_
        rintro e w5 ⟨rfl, rfl⟩
        go_wp2_with fail
        refine (HTl.out _ (HV.out.later B4.out)).mono ?_
        rintro e w6 ⟨rfl, b6⟩
        have B6 : Hid (Below w.heap.size w w6) := Lib.hid (B4.out.trans (b6.mono B4.out.size))
        clear b6
        go_wp2
        go_ret2
        exact ⟨ret_lab HR.out rfl rfl, B6.out⟩
      | true =>
        have HR : Hid (T = labE L) := Lib.hid (by rw [HTT.out, hp, hx, HX.out, ht]; rfl)
        have HTl := Lib.hid (fun w hV => tells_any X w hXs hV)
        rw [ht] at HTl
        clear hp hx ht
        go_enter Tryd.func9, Tryd.ntmps9
        go_wp2_with fail
        refine HVa.out.mono ?_
        rintro e w1 ⟨rfl, b1⟩
        have B1 := Lib.hid b1; clear b1
        go_wp2_with fail
        refine (HRC.out _).mono ?_
        rintro e w2 ⟨rfl, pos, rfl⟩
        have B2 : Hid (Below w.heap.size w (w1.iter s pos)) := Lib.hid (B1.out.trans ((iter_below _ _ _).mono B1.out.size))
        go_wp2_with fail
        refine (HLo.out _).mono ?_
        rintro e w3 ⟨rfl, b3⟩
        have B3 : Hid (Below w.heap.size w w3) := Lib.hid (B2.out.trans (b3.mono B2.out.size))
        clear b3
        go_wp2_with fail
        refine (plain_any L _).mono ?_
        rw [HP.out]
        rintro e w4 ⟨rfl, pos2, rfl⟩
        have B4 : Hid (Below w.heap.size w (w3.iter L pos2)) := Lib.hid (B3.out.trans ((iter_below _ _ _).mono B3.out.size))
        go_wp2_with fail
        refine (HC.out _).mono ?_
        rintro e w5 ⟨rfl, rfl⟩
        go_wp2_with fail
        refine (HTl.out _ (HV.out.later B4.out)).mono ?_
        rintro e w6 ⟨rfl, b6⟩
        have B6 : Hid (Below w.heap.size w w6) := Lib.hid (B4.out.trans (b6.mono B4.out.size))
        clear b6
        by_cases h6 : 63 < L.size
        · have HR2 : Hid (T = (⟨#[]⟩, 5)) := Lib.hid (by rw [HR.out, labE, if_pos h6])
          have h6I : (63 : Int) < (L.size : Int) := by omega
          go_wp2
          go_ret2
          exact ⟨ret_lab HR2.out rfl rfl, B6.out⟩
        · have HR2 : Hid (T = (L, 0)) := Lib.hid (by rw [HR.out, labE, if_neg h6])
          have h6I : (L.size : Int) ≤ 63 := by omega
          go_wp2
          go_ret2
          exact ⟨ret_lab HR2.out rfl rfl, B6.out⟩

end Go.Proofs.YtgmjfnddeogfdaaDoor
namespace Go.Proofs.YtgmjfnddeogfdaaDoor
open Go.RowKit

/-- What is shown. -/
def showT (s : ByteArray) : ByteArray :=
  if (labT s).2 = 0 then
    if Lib.hasPrefix (labT s).1.data.toList [120, 110, 45, 45] then
      if plainL s.data.toList then (if (decT (cutX (labT s).1)).2 = 0 then (decT (cutX (labT s).1)).1 else s) else s
    else s
  else s
theorem labE_size (l : ByteArray) : (labE l).1.size ≤ 63 := by
  unfold labE
  split
  · exact Nat.zero_le _
  · simp only; omega
theorem labT_size (s : ByteArray) : (labT s).1.size ≤ 63 := by
  unfold labT
  repeat' split
  all_goals first | exact Nat.zero_le _ | exact labE_size _
set_option maxRecDepth 100000 in
set_option maxHeartbeats 2000000 in
theorem Show_any (s : ByteArray) (w : World) (hs : s.size ≤ 1000) (hV : Vld w) :
    Calls Tryd.prog 11 #[.string s] w fun e w' => e = .returned (.string (showT s)) ∧ Below w.heap.size w w' := by
  obtain ⟨l, HL⟩ : ∃ l, Hid ((labT s).1 = l) := ⟨_, Lib.hid rfl⟩
  obtain ⟨c, Hc⟩ : ∃ c, Hid ((labT s).2 = c) := ⟨_, Lib.hid rfl⟩
  have C1 : Hid (Calls Tryd.prog 9 #[.string s] w fun e w' => e = .returned (.tuple #[.string l, .int .i64 c]) ∧ Below w.heap.size w w') := Lib.hid (by
    have := Label_any s w hs hV
    rwa [HL.out, Hc.out] at this)
  obtain ⟨X, HX⟩ : ∃ X, Hid (cutX l = X) := ⟨_, Lib.hid rfl⟩
  have hl63 : l.size ≤ 63 := by rw [← HL.out]; exact labT_size s
  have hXs : X.size ≤ 63 := by have := cutX_size l; rw [HX.out] at this; omega
  obtain ⟨px, Hpx⟩ : ∃ p, Hid (Lib.hasPrefix l.data.toList [120, 110, 45, 45] = p) := ⟨_, Lib.hid rfl⟩
  have HC : Hid (∀ w, Calls Tryd.prog 21 #[.string l, .string ⟨#[120, 110, 45, 45]⟩] w fun e w' => e = .returned (.tuple #[.string X, .bool px]) ∧ w' = w) := Lib.hid (fun w => by
    have := Tryd.strings_CutPrefix l ⟨#[120, 110, 45, 45]⟩ w
    rw [show (⟨#[120, 110, 45, 45]⟩ : ByteArray).data.toList = [120, 110, 45, 45] from rfl, Hpx.out] at this
    rw [← HX.out]; exact this)
  obtain ⟨T, HT⟩ : ∃ T, Hid (showT s = T) := ⟨_, Lib.hid rfl⟩
  have HTT : Hid (T = if c = 0 then (if px then (if plainL s.data.toList then (if (decT X).2 = 0 then (decT X).1 else s) else s) else s) else s) := Lib.hid (by rw [← HT.out, showT, HL.out, Hc.out, HX.out, Hpx.out])
  rw [HT.out]
  clear hV hl63
  by_cases hc : c = 0
  · subst hc
    cases px with
    | false =>
      have HR : Hid (T = s) := Lib.hid (by rw [HTT.out]; rfl)
      go_enter Tryd.func11, Tryd.ntmps11
      go_wp2_with fail
      refine C1.out.mono ?_
      rintro e w1 ⟨rfl, b1⟩
      have B1 := Lib.hid b1; clear b1
      go_wp2_with fail
      refine (HC.out _).mono ?_
      rintro e w2 ⟨rfl, rfl⟩
      go_wp2
      go_ret
      exact ⟨ret_str HR.out.symm, B1.out⟩
    | true =>
      cases hp : plainL s.data.toList with
      | false =>
        have HR : Hid (T = s) := Lib.hid (by rw [HTT.out, hp]; rfl)
        have HP := Lib.hid hp; clear hp
        go_enter Tryd.func11, Tryd.ntmps11
        go_wp2_with fail
        refine C1.out.mono ?_
        rintro e w1 ⟨rfl, b1⟩
        have B1 := Lib.hid b1; clear b1
        go_wp2_with fail
        refine (HC.out _).mono ?_
        rintro e w2 ⟨rfl, rfl⟩
        go_wp2_with fail
        refine (plain_any s _).mono ?_
        rw [HP.out]
        rintro e w3 ⟨rfl, pos, rfl⟩
        go_wp2
        go_ret
        exact ⟨ret_str HR.out.symm, B1.out.trans ((iter_below _ _ _).mono B1.out.size)⟩
      | true =>
        obtain ⟨D, HD⟩ : ∃ D, Hid ((decT X).1 = D) := ⟨_, Lib.hid rfl⟩
        obtain ⟨d, Hd⟩ : ∃ d, Hid ((decT X).2 = d) := ⟨_, Lib.hid rfl⟩
        have C2 : Hid (∀ w, Calls Tryd.prog 15 #[.string X] w fun e w' => e = .returned (.tuple #[.string D, .int .i64 d]) ∧ Below w.heap.size w w') := Lib.hid (fun w => by
          have := Decode_any X w (by unfold maxLen; omega)
          rwa [HD.out, Hd.out] at this)
        have HR : Hid (T = if d = 0 then D else s) := Lib.hid (by rw [HTT.out, hp, HD.out, Hd.out]; rfl)
        have HP := Lib.hid hp; clear hp
        by_cases hd : d = 0
        · subst hd
          have HR2 : Hid (T = D) := Lib.hid (by rw [HR.out, if_pos rfl])
          go_enter Tryd.func11, Tryd.ntmps11
          go_wp2_with fail
          refine C1.out.mono ?_
          rintro e w1 ⟨rfl, b1⟩
          have B1 := Lib.hid b1; clear b1
          go_wp2_with fail
          refine (HC.out _).mono ?_
          rintro e w2 ⟨rfl, rfl⟩
          go_wp2_with fail
          refine (plain_any s _).mono ?_
          rw [HP.out]
          rintro e w3 ⟨rfl, pos, rfl⟩
          have B3 := Lib.hid (B1.out.trans ((iter_below _ s pos).mono B1.out.size))
          go_wp2_with fail
          refine (C2.out _).mono ?_
          rintro e w4 ⟨rfl, b4⟩
          have B4 : Hid (Below w.heap.size w w4) := Lib.hid (B3.out.trans (b4.mono B3.out.size))
          clear b4
          go_wp2
          go_ret
          exact ⟨ret_str HR2.out.symm, B4.out⟩
        · have HR2 : Hid (T = s) := Lib.hid (by rw [HR.out, if_neg hd])
          have hd0 : (d == 0) = false := beq_eq_false_iff_ne.2 hd
          have hd1 : (d != 0) = true := by rw [bne, hd0]; rfl
          clear hd
          go_enter Tryd.func11, Tryd.ntmps11
          go_wp2_with fail
          refine C1.out.mono ?_
          rintro e w1 ⟨rfl, b1⟩
          have B1 := Lib.hid b1; clear b1
          go_wp2_with fail
          refine (HC.out _).mono ?_
          rintro e w2 ⟨rfl, rfl⟩
          go_wp2_with fail
          refine (plain_any s _).mono ?_
          rw [HP.out]
          rintro e w3 ⟨rfl, pos, rfl⟩
          have B3 := Lib.hid (B1.out.trans ((iter_below _ s pos).mono B1.out.size))
          go_wp2_with fail
          refine (C2.out _).mono ?_
          rintro e w4 ⟨rfl, b4⟩
          have B4 : Hid (Below w.heap.size w w4) := Lib.hid (B3.out.trans (b4.mono B3.out.size))
          clear b4
          go_wp2
          go_ret
          exact ⟨ret_str HR2.out.symm, B4.out⟩
  · have HR : Hid (T = s) := Lib.hid (by rw [HTT.out, if_neg hc])
    have hc0 : (c == 0) = false := beq_eq_false_iff_ne.2 hc
    have hc1 : (c != 0) = true := by rw [bne, hc0]; rfl
    clear hc
    go_enter Tryd.func11, Tryd.ntmps11
    go_wp2_with fail
    refine C1.out.mono ?_
    rintro e w1 ⟨rfl, b1⟩
    have B1 := Lib.hid b1; clear b1
    go_wp2_with fail
    refine (HC.out _).mono ?_
    rintro e w2 ⟨rfl, rfl⟩
    go_wp2
    go_ret
    exact ⟨ret_str HR.out.symm, B1.out⟩

set_option maxRecDepth 100000 in
set_option maxHeartbeats 1000000 in
theorem is_yes (s few : ByteArray) (w : World) (hs : s.size ≤ 1000) (hf : few.size ≤ 1000) (h1 : refEncT s = (few, 0)) (h2 : decT few = (s, 0)) (hV : Vld w) :
    Calls Tryd.prog 29 #[.string s, .string few] w fun e w' => e = .returned (.bool true) ∧ Below w.heap.size w w' := by
  have C1 : Hid (Calls Tryd.prog 14 #[.string s] w fun e w' => e = .returned (.tuple #[.string few, .int .i64 0]) ∧ Below w.heap.size w w') := Lib.hid (by
    have := Encode_of s w (by unfold maxLen; omega) (hV.here s (by omega))
    rwa [h1] at this)
  have C2 : Hid (∀ w, Calls Tryd.prog 15 #[.string few] w fun e w' => e = .returned (.tuple #[.string s, .int .i64 0]) ∧ Below w.heap.size w w') := Lib.hid (fun w => by
    have := Decode_any few w (by unfold maxLen; omega)
    rwa [h2] at this)
  clear h1 h2 hV
  go_enter Tryd.func29, Tryd.ntmps29
  go_wp2_with fail
  refine C1.out.mono ?_
  rintro e w1 ⟨rfl, b1⟩
  have B1 := Lib.hid b1; clear b1
  go_wp2_with fail
  refine (C2.out _).mono ?_
  rintro e w2 ⟨rfl, b2⟩
  have B2 : Hid (Below w.heap.size w w2) := Lib.hid (B1.out.trans (b2.mono B1.out.size))
  clear b2
  go_wp2
  go_ret
  exact ⟨rfl, B2.out⟩
/- Some answers that the document fixes. -/
theorem k_enc0 : refEncT ⟨#[98, 195, 188, 99, 104, 101, 114]⟩ = (⟨#[98, 99, 104, 101, 114, 45, 107, 118, 97]⟩, 0) := by decide +kernel
theorem k_dec0 : decT ⟨#[98, 99, 104, 101, 114, 45, 107, 118, 97]⟩ = (⟨#[98, 195, 188, 99, 104, 101, 114]⟩, 0) := by decide +kernel
theorem k_enc1 : refEncT ⟨#[226, 152, 131]⟩ = (⟨#[110, 51, 104]⟩, 0) := by decide +kernel
theorem k_dec1 : decT ⟨#[110, 51, 104]⟩ = (⟨#[226, 152, 131]⟩, 0) := by decide +kernel
theorem k_enc2 : refEncT ⟨#[228, 190, 139, 227, 129, 136]⟩ = (⟨#[114, 56, 106, 122, 52, 53, 103]⟩, 0) := by decide +kernel
theorem k_dec2 : decT ⟨#[114, 56, 106, 122, 52, 53, 103]⟩ = (⟨#[228, 190, 139, 227, 129, 136]⟩, 0) := by decide +kernel
theorem k_enc3 : refEncT ⟨#[228, 187, 150, 228, 187, 172, 228, 184, 186, 228, 187, 128, 228, 185, 136, 228, 184, 141, 232, 175, 180, 228, 184, 173, 230, 150, 135]⟩ = (⟨#[105, 104, 113, 119, 99, 114, 98, 52, 99, 118, 56, 97, 56, 100, 113, 103, 48, 53, 54, 112, 113, 106, 121, 101]⟩, 0) := by decide +kernel
theorem k_dec3 : decT ⟨#[105, 104, 113, 119, 99, 114, 98, 52, 99, 118, 56, 97, 56, 100, 113, 103, 48, 53, 54, 112, 113, 106, 121, 101]⟩ = (⟨#[228, 187, 150, 228, 187, 172, 228, 184, 186, 228, 187, 128, 228, 185, 136, 228, 184, 141, 232, 175, 180, 228, 184, 173, 230, 150, 135]⟩, 0) := by decide +kernel
theorem k_enc4 : refEncT ⟨#[51, 229, 185, 180, 66, 231, 181, 132, 233, 135, 145, 229, 133, 171, 229, 133, 136, 231, 148, 159]⟩ = (⟨#[51, 66, 45, 119, 119, 52, 99, 53, 101, 49, 56, 48, 101, 53, 55, 53, 97, 54, 53, 108, 115, 121, 50, 98]⟩, 0) := by decide +kernel
theorem k_dec4 : decT ⟨#[51, 66, 45, 119, 119, 52, 99, 53, 101, 49, 56, 48, 101, 53, 55, 53, 97, 54, 53, 108, 115, 121, 50, 98]⟩ = (⟨#[51, 229, 185, 180, 66, 231, 181, 132, 233, 135, 145, 229, 133, 171, 229, 133, 136, 231, 148, 159]⟩, 0) := by decide +kernel
theorem k_enc5 : refEncT ⟨#[97, 98, 99]⟩ = (⟨#[97, 98, 99, 45]⟩, 0) := by decide +kernel
theorem k_dec5 : decT ⟨#[97, 98, 99, 45]⟩ = (⟨#[97, 98, 99]⟩, 0) := by decide +kernel
theorem k_dec : (decT ⟨#[45, 97]⟩).2 = 4 := by decide +kernel
theorem k_lab : labT ⟨#[66, 195, 188, 67, 72, 69, 82]⟩ = (⟨#[120, 110, 45, 45, 98, 99, 104, 101, 114, 45, 107, 118, 97]⟩, 0) := by decide +kernel
theorem k_lab2 : (labT ⟨#[120, 110, 45, 45, 97, 98, 99, 45]⟩).2 = 5 := by decide +kernel
theorem k_show : showT ⟨#[88, 78, 45, 45, 98, 99, 104, 101, 114, 45, 107, 118, 97]⟩ = ⟨#[98, 195, 188, 99, 104, 101, 114]⟩ := by decide +kernel
theorem k_show2 : showT ⟨#[119, 119, 119]⟩ = ⟨#[119, 119, 119]⟩ := by decide +kernel

end Go.Proofs.YtgmjfnddeogfdaaDoor
namespace Go.Proofs.YtgmjfnddeogfdaaDoor
open Go.RowKit

theorem Is0 (w : World) (hV : Vld w) : Calls Tryd.prog 29 #[.string ⟨#[98, 195, 188, 99, 104, 101, 114]⟩, .string ⟨#[98, 99, 104, 101, 114, 45, 107, 118, 97]⟩] w fun e w' => e = .returned (.bool true) ∧ Below w.heap.size w w' := is_yes _ _ w (by decide) (by decide) k_enc0 k_dec0 hV
theorem Is1 (w : World) (hV : Vld w) : Calls Tryd.prog 29 #[.string ⟨#[226, 152, 131]⟩, .string ⟨#[110, 51, 104]⟩] w fun e w' => e = .returned (.bool true) ∧ Below w.heap.size w w' := is_yes _ _ w (by decide) (by decide) k_enc1 k_dec1 hV
theorem Is2 (w : World) (hV : Vld w) : Calls Tryd.prog 29 #[.string ⟨#[228, 190, 139, 227, 129, 136]⟩, .string ⟨#[114, 56, 106, 122, 52, 53, 103]⟩] w fun e w' => e = .returned (.bool true) ∧ Below w.heap.size w w' := is_yes _ _ w (by decide) (by decide) k_enc2 k_dec2 hV
theorem Is3 (w : World) (hV : Vld w) : Calls Tryd.prog 29 #[.string ⟨#[228, 187, 150, 228, 187, 172, 228, 184, 186, 228, 187, 128, 228, 185, 136, 228, 184, 141, 232, 175, 180, 228, 184, 173, 230, 150, 135]⟩, .string ⟨#[105, 104, 113, 119, 99, 114, 98, 52, 99, 118, 56, 97, 56, 100, 113, 103, 48, 53, 54, 112, 113, 106, 121, 101]⟩] w fun e w' => e = .returned (.bool true) ∧ Below w.heap.size w w' := is_yes _ _ w (by decide) (by decide) k_enc3 k_dec3 hV
theorem Is4 (w : World) (hV : Vld w) : Calls Tryd.prog 29 #[.string ⟨#[51, 229, 185, 180, 66, 231, 181, 132, 233, 135, 145, 229, 133, 171, 229, 133, 136, 231, 148, 159]⟩, .string ⟨#[51, 66, 45, 119, 119, 52, 99, 53, 101, 49, 56, 48, 101, 53, 55, 53, 97, 54, 53, 108, 115, 121, 50, 98]⟩] w fun e w' => e = .returned (.bool true) ∧ Below w.heap.size w w' := is_yes _ _ w (by decide) (by decide) k_enc4 k_dec4 hV
theorem Is5 (w : World) (hV : Vld w) : Calls Tryd.prog 29 #[.string ⟨#[97, 98, 99]⟩, .string ⟨#[97, 98, 99, 45]⟩] w fun e w' => e = .returned (.bool true) ∧ Below w.heap.size w w' := is_yes _ _ w (by decide) (by decide) k_enc5 k_dec5 hV
theorem Dec_k (w : World) : Calls Tryd.prog 15 #[.string ⟨#[45, 97]⟩] w fun e w' => e = .returned (.tuple #[.string (decT ⟨#[45, 97]⟩).1, .int .i64 4]) ∧ Below w.heap.size w w' := by
  have := Decode_any ⟨#[45, 97]⟩ w (by decide)
  rwa [k_dec] at this
theorem Lab_k (w : World) (hV : Vld w) : Calls Tryd.prog 9 #[.string ⟨#[66, 195, 188, 67, 72, 69, 82]⟩] w fun e w' => e = .returned (.tuple #[.string ⟨#[120, 110, 45, 45, 98, 99, 104, 101, 114, 45, 107, 118, 97]⟩, .int .i64 0]) ∧ Below w.heap.size w w' := by
  have := Label_any ⟨#[66, 195, 188, 67, 72, 69, 82]⟩ w (by decide) hV
  rwa [k_lab] at this
theorem Lab_k2 (w : World) (hV : Vld w) : Calls Tryd.prog 9 #[.string ⟨#[120, 110, 45, 45, 97, 98, 99, 45]⟩] w fun e w' => e = .returned (.tuple #[.string (labT ⟨#[120, 110, 45, 45, 97, 98, 99, 45]⟩).1, .int .i64 5]) ∧ Below w.heap.size w w' := by
  have := Label_any ⟨#[120, 110, 45, 45, 97, 98, 99, 45]⟩ w (by decide) hV
  rwa [k_lab2] at this
theorem Show_k (w : World) (hV : Vld w) : Calls Tryd.prog 11 #[.string ⟨#[88, 78, 45, 45, 98, 99, 104, 101, 114, 45, 107, 118, 97]⟩] w fun e w' => e = .returned (.string ⟨#[98, 195, 188, 99, 104, 101, 114]⟩) ∧ Below w.heap.size w w' := by
  have := Show_any ⟨#[88, 78, 45, 45, 98, 99, 104, 101, 114, 45, 107, 118, 97]⟩ w (by decide) hV
  rwa [k_show] at this
theorem Show_k2 (w : World) (hV : Vld w) : Calls Tryd.prog 11 #[.string ⟨#[119, 119, 119]⟩] w fun e w' => e = .returned (.string ⟨#[119, 119, 119]⟩) ∧ Below w.heap.size w w' := by
  have := Show_any ⟨#[119, 119, 119]⟩ w (by decide) hV
  rwa [k_show2] at this

set_option maxRecDepth 100000 in
set_option maxHeartbeats 4000000 in
theorem alive2_any (w : World) (hV : Vld w) : Calls Tryd.prog 13 #[] w fun e w' => e = .returned (.bool true) ∧ Below w.heap.size w w' := by
  have HV := Lib.hid hV; clear hV
  obtain ⟨D, HD⟩ : ∃ D, Hid ((decT ⟨#[45, 97]⟩).1 = D) := ⟨_, Lib.hid rfl⟩
  obtain ⟨L, HL⟩ : ∃ D, Hid ((labT ⟨#[120, 110, 45, 45, 97, 98, 99, 45]⟩).1 = D) := ⟨_, Lib.hid rfl⟩
  have C0 := Lib.hid Dec_k
  rw [HD.out] at C0
  have C2 := Lib.hid Lab_k2
  rw [HL.out] at C2
  go_enter Tryd.func13, Tryd.ntmps13
  go_wp2_with fail
  refine (C0.out _).mono ?_
  rintro e w1 ⟨rfl, b1⟩
  have Z1 : Hid (Below w.heap.size w w1) := Lib.hid (b1)
  clear b1
  go_wp2_with fail
  refine (Lab_k _ (HV.out.later Z1.out)).mono ?_
  rintro e w2 ⟨rfl, b2⟩
  have Z2 : Hid (Below w.heap.size w w2) := Lib.hid (Z1.out.trans (b2.mono Z1.out.size))
  clear b2
  go_wp2_with fail
  refine (C2.out _ (HV.out.later Z2.out)).mono ?_
  rintro e w3 ⟨rfl, b3⟩
  have Z3 : Hid (Below w.heap.size w w3) := Lib.hid (Z2.out.trans (b3.mono Z2.out.size))
  clear b3
  go_wp2_with fail
  refine (Is0 _ (HV.out.later Z3.out)).mono ?_
  rintro e w4 ⟨rfl, b4⟩
  have Z4 : Hid (Below w.heap.size w w4) := Lib.hid (Z3.out.trans (b4.mono Z3.out.size))
  clear b4
  go_wp2_with fail
  refine (Is1 _ (HV.out.later Z4.out)).mono ?_
  rintro e w5 ⟨rfl, b5⟩
  have Z5 : Hid (Below w.heap.size w w5) := Lib.hid (Z4.out.trans (b5.mono Z4.out.size))
  clear b5
  go_wp2_with fail
  refine (Is2 _ (HV.out.later Z5.out)).mono ?_
  rintro e w6 ⟨rfl, b6⟩
  have Z6 : Hid (Below w.heap.size w w6) := Lib.hid (Z5.out.trans (b6.mono Z5.out.size))
  clear b6
  go_wp2_with fail
  refine (Is3 _ (HV.out.later Z6.out)).mono ?_
  rintro e w7 ⟨rfl, b7⟩
  have Z7 : Hid (Below w.heap.size w w7) := Lib.hid (Z6.out.trans (b7.mono Z6.out.size))
  clear b7
  go_wp2_with fail
  refine (Is4 _ (HV.out.later Z7.out)).mono ?_
  rintro e w8 ⟨rfl, b8⟩
  have Z8 : Hid (Below w.heap.size w w8) := Lib.hid (Z7.out.trans (b8.mono Z7.out.size))
  clear b8
  go_wp2_with fail
  refine (Is5 _ (HV.out.later Z8.out)).mono ?_
  rintro e w9 ⟨rfl, b9⟩
  have Z9 : Hid (Below w.heap.size w w9) := Lib.hid (Z8.out.trans (b9.mono Z8.out.size))
  clear b9
  go_wp2_with fail
  refine (Show_k _ (HV.out.later Z9.out)).mono ?_
  rintro e w10 ⟨rfl, b10⟩
  have Z10 : Hid (Below w.heap.size w w10) := Lib.hid (Z9.out.trans (b10.mono Z9.out.size))
  clear b10
  go_wp2_with fail
  refine (Show_k2 _ (HV.out.later Z10.out)).mono ?_
  rintro e w11 ⟨rfl, b11⟩
  have Z11 : Hid (Below w.heap.size w w11) := Lib.hid (Z10.out.trans (b11.mono Z10.out.size))
  clear b11
  go_wp2
  go_ret
  exact ⟨rfl, Z11.out⟩

end Go.Proofs.YtgmjfnddeogfdaaDoor
namespace Go.Proofs.YtgmjfnddeogfdaaDoor
open Go.RowKit

/-- A world in which all blocks of W are as they were. -/
structure BW (W : World) where
  w : World
  h : Below W.heap.size W w
instance (W : World) : Inhabited (BW W) := ⟨⟨W, Below.refl _ _⟩⟩
theorem bw_region {P : Program} {id : Nat} {Q : Exit → Act → World → Prop} {a : Act} {w : World} {l : List Oper} (hm : P.follows .mixedOrders = true) (hB : Region.lexB .any l.toArray = true)
    (h : wpQuiet P l.toArray (fun w' => ∃ p : BW w, w' = p.w) (fun a' => ∀ w', (∃ p : BW w, w' = p.w) → Q .normal a' w') l a) : (Code.region id l.toArray true).wp P Q a w :=
  wp_region_quiet (C := fun w' => ∃ p : BW w, w' = p.w) hm hB ⟨⟨w.drew, (Below.refl _ _).drew⟩, rfl⟩ (by simpa using h)
theorem Calls.bw_of {P : Program} {f : FuncId} {args : Array Value} {W : World} {p : BW W} {v : Value}
    (h : Calls P f args p.w fun e w' => e = .returned v ∧ Below p.w.heap.size p.w w') : Calls P f args p.w fun e w'' => e = .returned v ∧ ∃ q : BW W, w'' = q.w :=
  h.mono fun _ w' ⟨he, hb⟩ => ⟨he, ⟨w', p.h.trans (hb.mono p.h.size)⟩, rfl⟩
/-- A block that lies in W, cell by cell. -/
theorem BW.cell {W : World} {g : Nat} {C : Array Value} {t : TypeId} (hG : W.heap[g]? = some (.cells C t (0, 0))) (p : BW W) (j : Nat) : p.w.cell? ⟨g, j, none⟩ = C[j]? := by
  rw [p.h.cell (p := ⟨g, j, none⟩) (lt_of_block hG), cell_of_row _ _ _ C _ _ hG]
theorem BW.at {W : World} {g : Nat} {o : Obj} (hG : W.heap[g]? = some o) (p : BW W) : p.w.heap[g]? = some o := (p.h.block g (lt_of_block hG)).trans hG

/-- A row is read, guarded or not. -/
theorem bw_load {P : Program} {ops : Array Oper} {C : World → Prop} {Q : Act → Prop} {a : Act} {o : Oper} {rest : List Oper} (hw : Region.wanted o (yielded ops a.tmps) = true) (ty : TypeId) (x : Operand) (ho : o.op = .load ty x)
    (g : Nat) (cs : Array Value) (hx : a.eval x = .pointer (some ⟨g, 0, none⟩)) (t : TypeId) (fr : Nat × Nat) (d : TypeDesc) (hg : ∀ w, C w → w.heap[g]? = some (.cells cs t fr))
    (hu : P.underlying ty = some d) (hd : (match d with | .struct _ | .array _ _ => true | _ => false) = true) (hi : (P.info? ty).map (·.size) = some cs.size)
    (h : wpQuiet P ops C Q rest (a.put o.dst (.agg cs))) : wpQuiet P ops C Q (o :: rest) a := by
  refine wpQuiet_step fun K hK => ?_
  rw [if_pos hw]
  refine ⟨_, fun w hC => ?_, hK _ h⟩
  unfold Oper.quietAt execOp
  simp only [ho, hx, Instr.loadAt, Instr.sureAddr, Sem.run_bind, Sem.run_pure, Result.andThen_ok, run_loadVar_row w g t ty cs fr d (hg w hC) hu hd hi]
  exact ⟨rfl, rfl⟩

end Go.Proofs.YtgmjfnddeogfdaaDoor
