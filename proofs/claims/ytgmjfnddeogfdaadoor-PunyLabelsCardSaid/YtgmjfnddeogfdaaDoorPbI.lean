/-
  Plain words: what is asked for is asked for again, and what is shown of it is asked for as it.
  Plain words: what is asked for, again; what is shown of it, asked for.
-/
import Derived.Test.YtgmjfnddeogfdaaDoorLawPP
namespace Go.Proofs.YtgmjfnddeogfdaaDoor
open Go.RowKit

theorem low_two256 : ∀ n : Fin 256, low (low (UInt8.ofNat n.1)) = low (UInt8.ofNat n.1) ∧ (128 ≤ (UInt8.ofNat n.1).toNat → low (UInt8.ofNat n.1) = UInt8.ofNat n.1) ∧ ¬ (65 ≤ (low (UInt8.ofNat n.1)).toNat ∧ (low (UInt8.ofNat n.1)).toNat ≤ 90) := by decide +kernel
theorem low_two (c : UInt8) : low (low c) = low c ∧ (128 ≤ c.toNat → low c = c) ∧ ¬ (65 ≤ (low c).toNat ∧ (low c).toNat ≤ 90) := by
  have := low_two256 ⟨c.toNat, c.toNat_lt⟩
  rwa [UInt8.ofNat_toNat] at this
def lowN (x : Nat) : Nat := if 65 ≤ x ∧ x ≤ 90 then x + 32 else x
theorem lowN_byte : ∀ n : Fin 128, low (UInt8.ofNat n.1) = UInt8.ofNat (lowN n.1) ∧ lowN n.1 < 128 ∧ lowN (lowN n.1) = lowN n.1 := by decide +kernel
theorem enc_low {x : Nat} (hb : badS x = false) : (encN x).map low = encN (lowN x) ∧ badS (lowN x) = false := by
  by_cases a1 : x < 128
  · have h := lowN_byte ⟨x, a1⟩
    rw [enc1 a1, enc1 h.2.1]
    refine ⟨by rw [List.map_cons, List.map_nil, h.1], badS_false.2 (by have := h.2.1; simp only at this; omega)⟩
  · have e : lowN x = x := by rw [lowN, if_neg (by omega)]
    rw [e]
    refine ⟨?_, hb⟩
    have hx := (badS_false.1 hb).1
    have hn : ∀ n, 128 ≤ n → n < 256 → low (UInt8.ofNat n) = UInt8.ofNat n := fun n h1 h2 => (low_two (UInt8.ofNat n)).2.1 (by rw [nat8 h2]; exact h1)
    have hm : ∀ c ∈ encN x, low c = c := by
      intro c hc
      by_cases a2 : x < 2048
      · rw [enc2 (by omega) a2] at hc
        simp only [List.mem_cons, List.not_mem_nil, or_false] at hc
        rcases hc with rfl | rfl <;> exact hn _ (by omega) (by omega)
      · by_cases a3 : x < 65536
        · rw [enc3 hb (by omega) a3] at hc
          simp only [List.mem_cons, List.not_mem_nil, or_false] at hc
          rcases hc with rfl | rfl | rfl <;> exact hn _ (by omega) (by omega)
        · rw [enc4 hb (by omega)] at hc
          simp only [List.mem_cons, List.not_mem_nil, or_false] at hc
          rcases hc with rfl | rfl | rfl | rfl <;> exact hn _ (by omega) (by omega)
    conv => rhs; rw [← List.map_id (encN x)]
    exact List.map_congr_left hm
theorem bytes_low : ∀ L : List Nat, (∀ x ∈ L, badS x = false) → (bytesL L).map low = bytesL (L.map lowN) ∧ ∀ x ∈ L.map lowN, badS x = false
  | [], _ => ⟨rfl, by simp⟩
  | x :: L, h => by
    have e : bytesL (x :: L) = encN x ++ bytesL L := rfl
    have e2 : bytesL ((x :: L).map lowN) = encN (lowN x) ++ bytesL (L.map lowN) := rfl
    obtain ⟨h1, h2⟩ := bytes_low L (fun y hy => h y (List.mem_cons_of_mem _ hy))
    obtain ⟨h3, h4⟩ := enc_low (h x (by simp))
    refine ⟨by rw [e, e2, List.map_append, h1, h3], fun y hy => ?_⟩
    rcases List.mem_cons.1 hy with rfl | hy
    · exact h4
    · exact h2 y hy
theorem sg_of_bytes {s : ByteArray} {L : List Nat} (hb : ∀ x ∈ L, badS x = false) (h : s.data.toList = bytesL L) : sgO s s.size 0 = some L := by
  have hl : (bytesL L).length = s.size := by rw [← h]; simp
  exact sgO_bytes s L s.size 0 hb (by rw [List.drop_zero, h]) (by have := bytesL_len L hb; omega) (Nat.zero_le _)
theorem low_sg {s : ByteArray} {L : List Nat} (h : sgO s s.size 0 = some L) : sgO (lowS s) (lowS s).size 0 = some (L.map lowN) := by
  obtain ⟨h1, h2⟩ := bytes_sgO s s.size 0 L (by omega) h
  rw [List.drop_zero] at h1
  obtain ⟨h3, h4⟩ := bytes_low L h2
  exact sg_of_bytes h4 (by rw [lowS_data, ← h1, h3])
theorem rc_sg (s : ByteArray) : ∀ (f p : Nat) (L : List Nat), s.size ≤ p + f → sgO s f p = some L → Lib.runeCountFrom s f p = L.length
  | 0, p, L, hf, h => by
    simp [sgO] at h; subst h; rfl
  | f + 1, p, L, hf, h => by
    by_cases hp : p < s.size
    · rw [sgO, if_pos hp] at h
      split at h
      · cases h
      · obtain ⟨L', hL', rfl⟩ := Option.map_eq_some_iff.1 h
        have hw := width_pos s p
        rw [Lib.runeCountFrom, if_pos hp, rc_sg s f _ L' (by omega) hL', List.length_cons]; omega
    · rw [sgO_end s _ p hp] at h
      injection h with h; subst h
      exact Lib.runeCountFrom_end s _ p hp
theorem valid_sg (s : ByteArray) : (Lib.validD s.data.toList = true ∧ ∃ L, sgO s s.size 0 = some L ∧ L = (sgn s s.size 0).map (·.1) ∧ Lib.runeCount s = L.length) ∨ (Lib.validD s.data.toList = false ∧ sgO s s.size 0 = none) := by
  have h := sgO_valid s s.size 0 (by omega)
  rw [List.drop_zero] at h
  cases hv : Lib.validD s.data.toList with
  | true =>
    rw [hv, if_pos rfl] at h
    exact .inl ⟨rfl, _, h, rfl, rc_sg s s.size 0 _ (by omega) h⟩
  | false =>
    rw [hv] at h
    exact .inr ⟨rfl, h⟩
theorem lowS_lowS (s : ByteArray) : lowS (lowS s) = lowS s := by
  apply ByteArray.ext
  apply Array.toList_inj.1
  rw [lowS_data, lowS_data, List.map_map]
  exact List.map_congr_left (fun c _ => (low_two c).1)
theorem decL_from : ∀ (f : Nat) (l : List Nat) (r : List UInt8) (place sign bias : Nat) (first : Bool) (L : List Nat), 128 ≤ sign → decL f l r place sign bias first = some L → ∀ x ∈ L, x ∈ l ∨ 128 ≤ x
  | 0, l, r, place, sign, bias, first, L, _, h, x, hx => by
    rw [decL] at h; split at h
    · injection h with h; rw [← h] at hx; exact .inl hx
    · cases h
  | f + 1, l, r, place, sign, bias, first, L, hs, h, x, hx => by
    rw [decL] at h
    split at h
    · injection h with h; rw [← h] at hx; exact .inl hx
    · split at h
      · cases h
      · split at h
        · cases h
        · rcases decL_from f _ _ _ _ _ _ _ (Nat.le_trans hs (Nat.le_add_right _ _)) h x hx with h1 | h1
          · rcases insN_mem h1 with rfl | h1
            · exact .inr (Nat.le_trans hs (Nat.le_add_right _ _))
            · exact .inl h1
          · exact .inr h1
/-- What few letters say: its signs. -/
theorem dec_signs (s t : ByteArray) (h : decT s = (t, 0)) : ∃ L, L.length ≤ s.size ∧ sgO t t.size 0 = some L ∧ ∀ x ∈ L, (∃ c ∈ s.data.toList, x = c.toNat) ∨ 128 ≤ x := by
  rw [decT] at h
  by_cases h6 : 65536 < s.size
  · rw [if_pos h6] at h; simp at h
  rw [if_neg h6] at h
  by_cases hp : plainL s.data.toList = false
  · rw [if_pos hp] at h; simp at h
  rw [if_neg hp] at h
  have hp' : plainL s.data.toList = true := by simpa using hp
  cases hO : decO s with
  | none => rw [hO] at h; simp [decW] at h
  | some L =>
    rw [hO, decW] at h
    have ht : utf L = t := by injection h
    have hpl : plainL (pSigns s).data.toList = true := plain_sub hp' (pSigns_sub s)
    have hl128 : ∀ x ∈ (pSigns s).data.toList.map (·.toNat), x < 128 := by
      intro x hx
      obtain ⟨c, hc, rfl⟩ := List.mem_map.1 hx
      rw [plainL, List.all_eq_true] at hpl
      simpa using hpl c hc
    have hbad : ∀ x ∈ L, badS x = false := decL_ok _ _ _ _ _ _ _ _ (fun x hx => badS_false.2 (by have := hl128 x hx; omega)) hO
    refine ⟨L, ?_, sg_of_bytes hbad (by rw [← ht, utf_bytes]), fun x hx => ?_⟩
    · have h1 := decL_size _ _ _ _ _ _ _ _ hO
      have h2 := p_sizes s
      simp at h1; omega
    · rcases decL_from _ _ _ _ _ _ _ _ (Nat.le_refl _) hO x hx with h | h
      · obtain ⟨c, hc, rfl⟩ := List.mem_map.1 h
        exact .inl ⟨c, pSigns_sub s c hc, rfl⟩
      · exact .inr h

end Go.Proofs.YtgmjfnddeogfdaaDoor
namespace Go.Proofs.YtgmjfnddeogfdaaDoor
open Go.RowKit

abbrev PX : ByteArray := ⟨#[120, 110, 45, 45]⟩
theorem fewT_eq {s : ByteArray} {L : List Nat} (h : L = (sgn s s.size 0).map (·.1)) : fewT s = ⟨(docE L).toArray⟩ := by rw [fewT, ← h]
theorem enc_few {s : ByteArray} {L : List Nat} (hs : s.size ≤ 65536) (h : sgO s s.size 0 = some L) (hL : L = (sgn s s.size 0).map (·.1)) : refEncT s = (fewT s, 0) := by
  rw [refEncT_some (by omega) h, fewT_eq hL]
/-- A text in small letters whose signs are not all plain is asked for so. -/
theorem lab_other {s : ByteArray} {L : List Nat} (hl : lowS s = s) (hp : plainL s.data.toList = false) (hL : sgO s s.size 0 = some L) (h63 : L.length ≤ 63) : labT s = labE (PX ++ fewT s) := by
  have hne : s.size ≠ 0 := by
    intro h
    have : s.data.toList = [] := List.eq_nil_of_length_eq_zero (by simpa using h)
    rw [this] at hp; cases hp
  rcases valid_sg s with ⟨h1, L', h2, _, h4⟩ | ⟨h1, h2⟩
  · rw [hL] at h2
    injection h2 with h2
    subst h2
    unfold labT
    rw [if_neg hne, if_neg (by rw [h1]; simp), if_neg (by rw [h4]; omega), hl, hp]
    rfl
  · rw [hL] at h2; cases h2
theorem px_pre (Q : ByteArray) : Lib.hasPrefix (PX ++ Q).data.toList [120, 110, 45, 45] = true := by
  rw [ByteArray.data_append, Array.toList_append]; rfl
theorem px_cut (Q : ByteArray) : cutX (PX ++ Q) = Q := by
  apply ByteArray.ext
  apply Array.toList_inj.1
  show Lib.trimPrefix (PX ++ Q).data.toList [120, 110, 45, 45] = _
  rw [Lib.trimPrefix, if_pos (px_pre Q), ByteArray.data_append, Array.toList_append]; rfl
theorem px_back (l : ByteArray) (h : Lib.hasPrefix l.data.toList [120, 110, 45, 45] = true) : PX ++ cutX l = l := by
  apply ByteArray.ext
  apply Array.toList_inj.1
  rw [ByteArray.data_append, Array.toList_append]
  show [120, 110, 45, 45] ++ Lib.trimPrefix l.data.toList [120, 110, 45, 45] = _
  rw [Lib.trimPrefix, if_pos h]
  obtain ⟨t, ht⟩ := List.isPrefixOf_iff_prefix.1 h
  rw [← ht]; rfl
theorem px_plain {Q : ByteArray} (h : plainL Q.data.toList = true) : plainL (PX ++ Q).data.toList = true := by
  rw [ByteArray.data_append, Array.toList_append, plainL, List.all_append]
  rw [plainL] at h
  rw [h]; rfl
theorem px_low {Q : ByteArray} (h : lowS Q = Q) : lowS (PX ++ Q) = PX ++ Q := by
  apply ByteArray.ext
  apply Array.toList_inj.1
  rw [lowS_data, ByteArray.data_append, Array.toList_append, List.map_append, ← lowS_data Q, h]; rfl
/-- Few letters that tell others, in small letters, behind their mark, are asked for so, and what is shown is what they say. -/
theorem lab_few {l : ByteArray} (hl : lowS l = l) (hp : plainL l.data.toList = true) (hx : Lib.hasPrefix l.data.toList [120, 110, 45, 45] = true) (ht : tellsB (cutX l) = true) (h63 : l.size ≤ 63) :
    labT l = (l, 0) ∧ showT l = (decT (cutX l)).1 := by
  have hne : l.size ≠ 0 := by
    intro h
    have : l.data.toList = [] := List.eq_nil_of_length_eq_zero (by simpa using h)
    rw [this] at hx; cases hx
  have h1 : labT l = (l, 0) := by
    unfold labT
    rw [if_neg hne, if_neg (by rw [valid_plain l hp]; simp), Lib.runeCount_ascii l (fun j h => plain_at hp j h), if_neg (by omega), hl, if_pos hp, if_pos hx, if_pos ht, labE, if_neg (by omega)]
  refine ⟨h1, ?_⟩
  have hd : (decT (cutX l)).2 = 0 := by
    unfold tellsB at ht
    split at ht
    · assumption
    · cases ht
  unfold showT
  rw [h1]
  simp only
  rw [if_pos trivial, if_pos hx, if_pos hp, if_pos hd]
theorem tells_facts {few : ByteArray} (h : tellsB few = true) : ∃ t, decT few = (t, 0) ∧ plainL t.data.toList = false ∧ refEncT t = (few, 0) := by
  unfold tellsB at h
  split at h
  · rename_i h1
    split at h
    · cases h
    · rename_i h2
      split at h
      · rename_i h3
        refine ⟨(decT few).1, ?_, by simpa using h2, ?_⟩
        · rw [← h1]
        · have := of_decide_eq_true h
          rw [← h3]; exact Prod.ext this rfl
      · cases h
  · cases h
theorem lowS_self {s : ByteArray} {L : List Nat} (h : sgO s s.size 0 = some L) (hl : ∀ x ∈ L, lowN x = x) : lowS s = s := by
  obtain ⟨h1, h2⟩ := bytes_sgO s s.size 0 L (by omega) h
  rw [List.drop_zero] at h1
  apply ByteArray.ext
  apply Array.toList_inj.1
  rw [lowS_data, ← h1, (bytes_low L h2).1]
  congr 1
  conv => rhs; rw [← List.map_id L]
  exact List.map_congr_left hl
theorem lowN_two (x : Nat) : lowN (lowN x) = lowN x := by
  by_cases h : x < 128
  · exact (lowN_byte ⟨x, h⟩).2.2
  · have e : lowN x = x := by rw [lowN, if_neg (by omega)]
    rw [e, e]
/-- What is asked for. -/
theorem asked (s : ByteArray) (hs : s.size ≤ 1000) : labT s = (⟨#[]⟩, 5) ∨ ∃ l, labT s = (l, 0) ∧ 1 ≤ l.size ∧ l.size ≤ 63 ∧ plainL l.data.toList = true ∧ lowS l = l ∧ labT l = (l, 0) ∧ (showT l).size ≤ 1000 ∧ labT (showT l) = (l, 0) := by
  have hE : ∀ l : ByteArray, labE l = (⟨#[]⟩, 5) ∨ (labE l = (l, 0) ∧ l.size ≤ 63) := fun l => by
    unfold labE
    by_cases h : 63 < l.size
    · exact .inl (if_pos h)
    · exact .inr ⟨if_neg h, by omega⟩
  by_cases h0 : s.size = 0
  · left; unfold labT; rw [if_pos h0]
  rcases valid_sg s with ⟨hv, L, hL, hL2, hrc⟩ | ⟨hv, _⟩
  · by_cases h63 : 63 < Lib.runeCount s
    · left; unfold labT; rw [if_neg h0, if_neg (by rw [hv]; simp), if_pos h63]
    · obtain ⟨lw, hlw⟩ : ∃ lw, lowS s = lw := ⟨_, rfl⟩
      have hll : lowS lw = lw := by rw [← hlw]; exact lowS_lowS s
      have hsz : lw.size = s.size := by rw [← hlw]; exact lowS_size s
      have hsg : sgO lw lw.size 0 = some (L.map lowN) := by rw [← hlw]; exact low_sg hL
      have hlab : labT s = if plainL lw.data.toList then (if Lib.hasPrefix lw.data.toList [120, 110, 45, 45] then (if tellsB (cutX lw) then labE lw else (⟨#[]⟩, 5)) else labE lw) else labE (PX ++ fewT lw) := by
        unfold labT; rw [if_neg h0, if_neg (by rw [hv]; simp), if_neg h63, hlw]
      cases hp : plainL lw.data.toList with
      | false =>
        rw [hp, if_neg (by simp)] at hlab
        rcases hE (PX ++ fewT lw) with h | ⟨h, h3⟩
        · left; rw [hlab, h]
        · right
          have hlen : (L.map lowN).length ≤ 63 := by rw [List.length_map]; omega
          have hLw : L.map lowN = (sgn lw lw.size 0).map (·.1) := by
            rcases valid_sg lw with ⟨_, L', h2, h3, _⟩ | ⟨_, h2⟩
            · rw [hsg] at h2; injection h2 with h2; rw [h2]; exact h3
            · rw [hsg] at h2; cases h2
          obtain ⟨hd, hpl, _⟩ := enc_back lw (by omega) _ hsg
          rw [← fewT_eq hLw] at hd
          have hpl2 : plainL (fewT lw).data.toList = true := by rw [fewT_eq hLw]; exact hpl
          have hen := enc_few (by omega) hsg hLw
          have hcs : (PX ++ fewT lw).size = 4 + (fewT lw).size := catX_size (fewT lw)
          have hfs : (fewT lw).size ≤ 59 := by omega
          have hag := dec_again (fewT lw) lw (by omega) hd
          rw [hen] at hag
          have hsm : smallT (fewT lw) = fewT lw := by injection hag with h1 _; exact h1.symm
          have hfl : lowS (fewT lw) = fewT lw := by
            apply ByteArray.ext
            apply Array.toList_inj.1
            rw [lowS_data]
            have e := small_data (fewT lw)
            rw [hsm] at e
            rw [← List.take_append_drop (cutN (fewT lw)) (fewT lw).data.toList, List.map_append]
            have e2 : ((fewT lw).data.toList.drop (cutN (fewT lw))).map low = (fewT lw).data.toList.drop (cutN (fewT lw)) := by
              have := congrArg (List.drop (cutN (fewT lw))) e
              have hk : cutN (fewT lw) ≤ (fewT lw).data.toList.length := by
                have := lastI_bd (fewT lw).data.toList
                unfold cutN; omega
              rw [List.drop_left' (by rw [List.length_take]; omega)] at this
              exact this.symm
            rw [e2]
            congr 1
            conv => rhs; rw [← List.map_id ((fewT lw).data.toList.take (cutN (fewT lw)))]
            refine List.map_congr_left (fun c hc => ?_)
            obtain ⟨R, hR, hsr⟩ := srt_exists (otL (sgn lw lw.size 0)) (ris_ne (ris_filter (sgn_ris lw _ _) _))
            have hdoc := few_doc lw R hR hsr
            have hfe : fewT lw = (⟨(fewL (sgn lw lw.size 0) R).toArray⟩ : ByteArray) := by rw [fewT, hdoc]
            have hps := (few_parts (sgn lw lw.size 0) R).1
            rw [← hfe] at hps
            have hcm : c ∈ plB (sgn lw lw.size 0) := by
              rw [← hps, pSigns]
              by_cases h0 : lastI (fewT lw).data.toList ≤ 0
              · have : cutN (fewT lw) = 0 := by unfold cutN; omega
                rw [this] at hc; simp at hc
              · rw [if_neg h0, exTake]; exact hc
            obtain ⟨x, hx, rfl⟩ := List.mem_map.1 hcm
            have hx1 := (List.mem_filter.1 hx)
            have hx2 : x.1 < 128 := by have := hx1.2; simpa [isPl] using this
            have hx3 : x.1 ∈ L.map lowN := by rw [hLw]; exact List.mem_map_of_mem hx1.1
            obtain ⟨y, _, hy⟩ := List.mem_map.1 hx3
            have hb := (lowN_byte ⟨x.1, hx2⟩).1
            simp only at hb
            rw [hb, ← hy, lowN_two]; rfl
          have htl : tellsB (cutX (PX ++ fewT lw)) = true := by
            rw [px_cut]; unfold tellsB
            rw [hd]; simp only
            rw [if_pos trivial, hp, hen]
            simp
          obtain ⟨h5, h6⟩ := lab_few (px_low hfl) (px_plain hpl2) (px_pre _) htl h3
          have h7 : showT (PX ++ fewT lw) = lw := by rw [h6, px_cut, hd]
          refine ⟨PX ++ fewT lw, by rw [hlab, h], by omega, h3, px_plain hpl2, px_low hfl, h5, by rw [h7]; omega, ?_⟩
          rw [h7, lab_other hll hp hsg hlen, h]
      | true =>
        rw [hp, if_pos rfl] at hlab
        cases hx : Lib.hasPrefix lw.data.toList [120, 110, 45, 45] with
        | false =>
          rw [hx, if_neg (by simp)] at hlab
          rcases hE lw with h | ⟨h, h3⟩
          · left; rw [hlab, h]
          · right
            have hx2 : Lib.hasPrefix (lowS lw).data.toList [120, 110, 45, 45] = false := by rw [hll]; exact hx
            have h1 := lab_plain lw hp hx2
            rw [if_neg (by omega), if_neg (by omega), hll] at h1
            have h2 := show_plain lw hp hx2
            exact ⟨lw, by rw [hlab, h], by omega, h3, hp, hll, h1, by rw [h2]; omega, by rw [h2]; exact h1⟩
        | true =>
          rw [hx, if_pos rfl] at hlab
          cases ht : tellsB (cutX lw) with
          | false => left; rw [hlab, ht]; rfl
          | true =>
            rw [ht, if_pos rfl] at hlab
            rcases hE lw with h | ⟨h, h3⟩
            · left; rw [hlab, h]
            · right
              obtain ⟨h5, h6⟩ := lab_few hll hp hx ht h3
              obtain ⟨t, hd, hpt, hen⟩ := tells_facts ht
              have h7 : showT lw = t := by rw [h6, hd]
              have hcs := cutX_size lw
              have hts : t.size ≤ 252 := by have := decT_size (cutX lw); rw [hd] at this; simp only at this; omega
              obtain ⟨Lt, hLt1, hLt2, hLt3⟩ := dec_signs (cutX lw) t hd
              have hcl : ∀ c ∈ (cutX lw).data.toList, low c = c := by
                intro c hc
                have hpx := px_back lw hx
                have hm : c ∈ lw.data.toList := by
                  rw [← hpx, ByteArray.data_append, Array.toList_append]; exact List.mem_append_right _ hc
                have e : lw.data.toList.map low = lw.data.toList := by rw [← lowS_data, hll]
                obtain ⟨i, hi, rfl⟩ := List.getElem_of_mem hm
                have := congrArg (fun l => l[i]?) e
                simp only [List.getElem?_map, List.getElem?_eq_getElem hi, Option.map_some, Option.some.injEq] at this
                exact this
              have hlt : lowS t = t := lowS_self hLt2 (fun x hx => by
                rcases hLt3 x hx with ⟨c, hc, rfl⟩ | h
                · have h1 := hcl c hc
                  have h2 := (low_two c).2.2
                  rw [h1] at h2
                  rw [lowN, if_neg h2]
                · rw [lowN, if_neg (by omega)])
              have hLL : Lt = (sgn t t.size 0).map (·.1) := by
                rcases valid_sg t with ⟨_, L', h2, h3, _⟩ | ⟨_, h2⟩
                · rw [hLt2] at h2; injection h2 with h2; rw [h2]; exact h3
                · rw [hLt2] at h2; cases h2
              have hen2 := enc_few (by omega) hLt2 hLL
              rw [hen] at hen2
              have hfw : fewT t = cutX lw := by injection hen2 with h1 _; exact h1.symm
              refine ⟨lw, by rw [hlab, h], by omega, h3, hp, hll, h5, by rw [h7]; omega, ?_⟩
              rw [h7, lab_other hlt hpt hLt2 (by omega), hfw, px_back lw hx, h]
  · left; unfold labT; rw [if_neg h0, if_pos hv]

end Go.Proofs.YtgmjfnddeogfdaaDoor
