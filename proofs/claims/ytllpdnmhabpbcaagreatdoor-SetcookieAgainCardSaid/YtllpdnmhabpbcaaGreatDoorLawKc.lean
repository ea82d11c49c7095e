/-
  Package setcookie, plain words: what a text tells of a cookie is clean.
  Package setcookie, plain words: a cookie's text tells it again.
  Package setcookie, plain words: when a cookie's text tells it again, and when not.
  The walk of SetcookieAgain.
-/
import Derived.Test.YtllpdnmhabpbcaaGreatDoorScT
import Derived.Test.YtllpdnmhabpbcaaGreatDoorTrmM
import Derived.Test.YtllpdnmhabpbcaaGreatDoorScF
import Derived.Test.YtllpdnmhabpbcaaGreatDoorScI
import Derived.Test.YtllpdnmhabpbcaaGreatDoorBeyond
namespace Go.Proofs.YtllpdnmhabpbcaaGreatDoor
open Go.RowKit

theorem secR_max {y m d h i s : Int} (hb : secB y m d h i s = true) : secR y m d h i s ≤ 253402300799 := by
  rw [secR, if_pos hb]
  obtain ⟨hd, h1, h2, h3⟩ := secB_iff.1 hb
  obtain ⟨a, b, c⟩ := dayB_iff.1 hd
  have hI : IsDay (bef y.toNat + cumN y.toNat m.toNat + d.toNat - 1) y.toNat m.toNat d.toNat := IsDay.of (by omega) (by omega) (by omega) (by omega) (by omega) (by omega) (by omega)
  have := hI.lt
  unfold secV
  omega
theorem cookR_max {st : Told} (h : cookB st = true) : cookR st ≤ 253402300799 := by
  unfold cookB at h
  split at h
  · split at h
    · cases h
    · rename_i hy
      unfold cookR
      simp only [if_neg hy]
      exact secR_max h
  · cases h
theorem byte_all {P : UInt8 → Prop} (h : ∀ k : Fin 256, P (UInt8.ofNat k.1)) (c : UInt8) : P c := by
  have := h ⟨c.toNat, c.toNat_lt⟩
  rwa [UInt8.ofNat_toNat] at this
theorem ok_low (c : UInt8) : okB c = true → okB (low c) = true := byte_all (P := fun c => okB c = true → okB (low c) = true) (by decide +kernel) c
theorem bl_low10 (c : UInt8) : bl (low c) = bl c := byte_all (P := fun c => bl (low c) = bl c) (by decide +kernel) c
theorem low_two (c : UInt8) : low (low c) = low c := byte_all (P := fun c => low (low c) = low c) (by decide +kernel) c
/-- What a text can tell of a cookie, the first pair aside. -/
structure Cl (t : Cki) : Prop where
  dmB : ∀ c ∈ t.dm.data.toList, okB c = true
  dmL : t.dm.data.toList.map low = t.dm.data.toList
  dmE : ∀ c, t.dm.data.toList.getLast? = some c → bl c = false
  dmS : t.dm.data.toList.length ≤ 1024
  paB : ∀ c ∈ t.pa.data.toList, okB c = true
  paT : trimL t.pa.data.toList = t.pa.data.toList
  paS : t.pa.data.toList.length ≤ 1024
  paH : t.pa.data.toList = [] ∨ t.pa.data.toList.head? = some 47
  ag : -2147483647 ≤ t.ag ∧ t.ag ≤ 2147483647
  ag0 : t.ha = false → t.ag = 0
  ex : t.ex ≤ 253402300799
  ex0 : t.hx = false → t.ex = 0
  si : 0 ≤ t.si ∧ t.si ≤ 3
theorem unpt_mem {l : List UInt8} {c : UInt8} (h : c ∈ unpt l) : c ∈ l := by
  unfold unpt at h
  split at h
  · exact List.mem_of_mem_drop h
  · exact h
theorem unpt_last {l : List UInt8} {c : UInt8} (h : (unpt l).getLast? = some c) : l.getLast? = some c := by
  unfold unpt at h
  split at h
  · cases l with
    | nil => simp at h
    | cons a r =>
      have h : r.getLast? = some c := h
      rw [List.getLast?_cons, h]; rfl
  · exact h
theorem unpt_le (l : List UInt8) : (unpt l).length ≤ l.length := by
  unfold unpt
  split
  · rw [List.length_drop]; omega
  · exact Nat.le_refl _
theorem say_cl {t : Cki} (h : Cl t) (n : List UInt8) (v : ByteArray) (hv : ∀ c ∈ v.data.toList, okB c = true) (ht : trimL v.data.toList = v.data.toList) (hs : v.size ≤ 1024) : Cl (say t n v) := by
  have hsl : v.data.toList.length ≤ 1024 := by rw [lenB]; exact hs
  unfold say
  split
  · unfold sayEx
    split
    · rename_i hc
      exact ⟨h.dmB, h.dmL, h.dmE, h.dmS, h.paB, h.paT, h.paS, h.paH, h.ag, h.ag0, cookR_max hc, fun h => (by cases h), h.si⟩
    · exact h
  split
  · unfold sayAg
    split
    · rename_i hc
      exact ⟨h.dmB, h.dmL, h.dmE, h.dmS, h.paB, h.paT, h.paS, h.paH, ageV_bd hc, fun h => (by cases h), h.ex, h.ex0, h.si⟩
    · exact h
  split
  · unfold sayDm
    have e : (lowS (asB (unpt v.data.toList))).data.toList = (unpt v.data.toList).map low := rfl
    refine ⟨fun c hc => ?_, ?_, fun c hc => ?_, ?_, h.paB, h.paT, h.paS, h.paH, h.ag, h.ag0, h.ex, h.ex0, h.si⟩
    · have hc : c ∈ (unpt v.data.toList).map low := hc
      obtain ⟨d, hd, rfl⟩ := List.mem_map.1 hc
      exact ok_low d (hv d (unpt_mem hd))
    · show ((unpt v.data.toList).map low).map low = (unpt v.data.toList).map low
      rw [List.map_map]
      exact List.map_congr_left fun c _ => low_two c
    · have hc : ((unpt v.data.toList).map low).getLast? = some c := hc
      rw [List.getLast?_map] at hc
      cases hq : (unpt v.data.toList).getLast? with
      | none => rw [hq] at hc; cases hc
      | some d =>
        rw [hq] at hc
        injection hc with hc
        rw [← hc, bl_low10]
        have := unpt_last hq
        rw [← ht] at this
        exact trimL_last _ d this
    · show ((unpt v.data.toList).map low).length ≤ 1024
      rw [List.length_map]
      have := unpt_le v.data.toList
      omega
  split
  · unfold sayPa
    by_cases h47 : v.data.toList.head? = some 47
    · have e : (if v.data.toList.head? = some 47 then v else noB) = v := if_pos h47
      rw [e]
      exact ⟨h.dmB, h.dmL, h.dmE, h.dmS, hv, ht, hsl, .inr h47, h.ag, h.ag0, h.ex, h.ex0, h.si⟩
    · have e : (if v.data.toList.head? = some 47 then v else noB) = noB := if_neg h47
      rw [e]
      exact ⟨h.dmB, h.dmL, h.dmE, h.dmS, fun _ hc => absurd hc (List.not_mem_nil), rfl, Nat.zero_le _, .inl rfl, h.ag, h.ag0, h.ex, h.ex0, h.si⟩
  split
  · exact ⟨h.dmB, h.dmL, h.dmE, h.dmS, h.paB, h.paT, h.paS, h.paH, h.ag, h.ag0, h.ex, h.ex0, h.si⟩
  split
  · exact ⟨h.dmB, h.dmL, h.dmE, h.dmS, h.paB, h.paT, h.paS, h.paH, h.ag, h.ag0, h.ex, h.ex0, h.si⟩
  split
  · unfold saySi
    refine ⟨h.dmB, h.dmL, h.dmE, h.dmS, h.paB, h.paT, h.paS, h.paH, h.ag, h.ag0, h.ex, h.ex0, ?_⟩
    show 0 ≤ siteV _ ∧ siteV _ ≤ 3
    unfold siteV
    repeat' split
    all_goals omega
  · exact h
theorem cutP_sub (a : UInt8) : ∀ l : List UInt8, (∀ c ∈ (cutP a l).1, c ∈ l ∧ c ≠ a) ∧ ∀ c ∈ (cutP a l).2.1, c ∈ l
  | [] => ⟨fun _ h => (by cases h), fun _ h => (by cases h)⟩
  | d :: l => by
    have ih := cutP_sub a l
    rw [cutP]
    split
    · exact ⟨fun _ h => (by cases h), fun c h => List.mem_cons_of_mem _ h⟩
    · rename_i hd
      refine ⟨fun c h => ?_, fun c h => List.mem_cons_of_mem _ (ih.2 c h)⟩
      rcases List.mem_cons.1 h with rfl | h
      · exact ⟨List.mem_cons_self .., hd⟩
      · exact ⟨List.mem_cons_of_mem _ (ih.1 c h).1, (ih.1 c h).2⟩
theorem trim_sub {l : List UInt8} {c : UInt8} (h : c ∈ trimL l) : c ∈ l := by
  obtain ⟨p, q, _, _, e⟩ := trim_split l
  rw [e]
  exact List.mem_append_left _ (List.mem_append_right _ h)
theorem heard_cl {t : Cki} (h : Cl t) (p : ByteArray) (hp : ∀ c ∈ p.data.toList, okB c = true) : Cl (heard t p) := by
  unfold heard
  split
  · rename_i hs
    exact say_cl h _ _ (fun c hc => hp c ((cutP_sub 61 _).2 c (trim_sub (l := (cutP 61 p.data.toList).2.1) hc))) (trimL_trimL (cutP 61 p.data.toList).2.1) hs
  · exact h
theorem fold_cl : ∀ (r : List ByteArray) (t : Cki), Cl t → (∀ p ∈ r, ∀ c ∈ p.data.toList, okB c = true) → Cl (r.foldl heard t)
  | [], _, h, _ => h
  | p :: r, _, h, hp => fold_cl r _ (heard_cl h p (hp p (List.mem_cons_self ..))) fun q hq => hp q (List.mem_cons_of_mem _ hq)
/-- The first pair. -/
structure Fst (t : Cki) : Prop where
  nmB : ∀ c ∈ t.nm.data.toList, okB c = true ∧ c ≠ 61
  nmT : trimL t.nm.data.toList = t.nm.data.toList
  vlB : ∀ c ∈ t.vl.data.toList, okB c = true
  vlT : trimL t.vl.data.toList = t.vl.data.toList
  sz : t.nm.size + t.vl.size ≤ 4096
  one : ¬ (t.nm.size = 0 ∧ t.vl.size = 0)
theorem say_fst {t : Cki} (n : List UInt8) (v : ByteArray) : (say t n v).nm = t.nm ∧ (say t n v).vl = t.vl := by
  unfold say
  repeat' split
  all_goals first
    | exact ⟨rfl, rfl⟩
    | (unfold sayEx; split <;> exact ⟨rfl, rfl⟩)
    | (unfold sayAg; split <;> exact ⟨rfl, rfl⟩)
theorem fold_fst : ∀ (r : List ByteArray) (t : Cki), (r.foldl heard t).nm = t.nm ∧ (r.foldl heard t).vl = t.vl
  | [], _ => ⟨rfl, rfl⟩
  | p :: r, t => by
    rw [List.foldl_cons]
    obtain ⟨h1, h2⟩ := fold_fst r (heard t p)
    rw [h1, h2]
    unfold heard
    split
    · exact say_fst _ _
    · exact ⟨rfl, rfl⟩
theorem told_cl {s : ByteArray} {t : Cki} (h : prsC s = (t, 0)) : Cl t ∧ Fst t := by
  rw [prsC_eq] at h
  unfold prsL at h
  split at h
  · cases h
  split at h
  · cases h
  rename_i hct
  have hok : ∀ p ∈ parts 59 s.data.toList, ∀ c ∈ p, okB c = true := fun p hp c hc => by
    obtain ⟨h1, h2⟩ := parts_mem 59 _ p hp c hc
    refine okB_iff.2 ⟨h2, ?_⟩
    cases hb : ctlB c with
    | false => rfl
    | true => exact absurd (List.any_eq_true.2 ⟨c, h1, hb⟩) hct
  cases hP : parts 59 s.data.toList with
  | nil => exact absurd hP (parts_ne _ _)
  | cons p r =>
    rw [hP] at h hok
    unfold prsF at h
    simp only [List.map_cons] at h
    split at h
    · cases h
    rename_i hsz
    split at h
    · cases h
    rename_i hone
    injection h with h _
    have hp := hok p (List.mem_cons_self ..)
    have hr : ∀ q ∈ r.map asB, ∀ c ∈ q.data.toList, okB c = true := fun q hq c hc => by
      obtain ⟨x, hx, rfl⟩ := List.mem_map.1 hq
      exact hok x (List.mem_cons_of_mem _ hx) c hc
    have h0 : Cl { ck0 with nm := fnm (asB p), vl := fvl (asB p) } :=
      ⟨fun _ hc => absurd hc (List.not_mem_nil), rfl, fun _ hc => (by cases hc), Nat.zero_le _, fun _ hc => absurd hc (List.not_mem_nil), rfl, Nat.zero_le _, .inl rfl, (show (-2147483647 : Int) ≤ 0 ∧ (0 : Int) ≤ 2147483647 by decide), fun _ => rfl, (show (0 : Int) ≤ 253402300799 by decide), fun _ => rfl, (show (0 : Int) ≤ 0 ∧ (0 : Int) ≤ 3 by decide)⟩
    obtain ⟨f1, f2⟩ := fold_fst (r.map asB) { ck0 with nm := fnm (asB p), vl := fvl (asB p) }
    rw [h] at f1 f2
    refine ⟨h ▸ fold_cl _ _ h0 hr, ?_⟩
    have f1 : t.nm = fnm (asB p) := f1
    have f2 : t.vl = fvl (asB p) := f2
    have g1 : ∀ c ∈ (pnm (asB p)).data.toList, okB c = true ∧ c ≠ 61 := fun c hc => by
      have h1 := (cutP_sub 61 p).1 c (trim_sub (l := (cutP 61 p).1) hc)
      exact ⟨hp c h1.1, h1.2⟩
    have g2 : ∀ c ∈ (pvl (asB p)).data.toList, okB c = true := fun c hc => hp c ((cutP_sub 61 p).2 c (trim_sub (l := (cutP 61 p).2.1) hc))
    have g3 : trimL (pnm (asB p)).data.toList = (pnm (asB p)).data.toList := trimL_trimL (cutP 61 p).1
    have g4 : trimL (pvl (asB p)).data.toList = (pvl (asB p)).data.toList := trimL_trimL (cutP 61 p).2.1
    refine ⟨?_, ?_, ?_, ?_, by rw [f1, f2]; omega, by rw [f1, f2]; exact hone⟩
    · rw [f1]; unfold fnm
      split
      · exact g1
      · exact fun _ hc => absurd hc (List.not_mem_nil)
    · rw [f1]; unfold fnm
      split
      · exact g3
      · rfl
    · rw [f2]; unfold fvl
      split
      · exact g2
      · exact fun c hc => (g1 c hc).1
    · rw [f2]; unfold fvl
      split
      · exact g4
      · exact g3

end Go.Proofs.YtllpdnmhabpbcaaGreatDoor
namespace Go.Proofs.YtllpdnmhabpbcaaGreatDoor
open Go.RowKit

theorem trim_all {l : List UInt8} (h : ∀ c ∈ l, bl c = false) : trimL l = l :=
  trimL_of (fun c hc => h c (List.mem_of_mem_head? hc)) (fun c hc => h c (List.mem_of_getLast? hc))
theorem dd10 (n : Nat) : num (Lib.decDigits n) = (n : Int) ∧ allR 48 57 (Lib.decDigits n) = true ∧ Lib.decDigits n ≠ [] := by
  induction n using Nat.strongRecOn with
  | ind n ih =>
    rw [Lib.decDigits]
    split
    · rename_i h
      have hb : (UInt8.ofNat (48 + n)).toNat = 48 + n := by rw [UInt8.toNat_ofNat']; omega
      refine ⟨?_, ?_, by simp⟩
      · have := num_snoc [] (UInt8.ofNat (48 + n))
        rw [List.nil_append] at this
        rw [this, hb]
        show (0 : Int) * 10 + _ = _
        omega
      · unfold allR
        rw [List.all_cons, List.all_nil, Bool.and_true, hb]
        simp [inR]; omega
    · rename_i h
      obtain ⟨h1, h2, h3⟩ := ih (n / 10) (by omega)
      have hb : (UInt8.ofNat (48 + n % 10)).toNat = 48 + n % 10 := by rw [UInt8.toNat_ofNat']; omega
      refine ⟨?_, ?_, by simp⟩
      · rw [num_snoc, h1, hb]; omega
      · unfold allR at h2 ⊢
        rw [List.all_append, h2, List.all_cons, List.all_nil, Bool.and_true, Bool.true_and, hb]
        simp [inR]; omega
theorem dig_byte {c : UInt8} : inR 48 57 c.toNat = true → okB c = true ∧ bl c = false ∧ c ≠ 45 := byte_all (P := fun c => inR 48 57 c.toNat = true → okB c = true ∧ bl c = false ∧ c ≠ 45) (by decide +kernel) c
theorem allR_mem {l : List UInt8} (h : allR 48 57 l = true) : ∀ c ∈ l, inR 48 57 c.toNat = true := fun c hc => by
  unfold allR at h
  exact List.all_eq_true.1 h c hc
/-- An age's text. -/
theorem itoa_says {a : Int} (h : -2147483647 ≤ a ∧ a ≤ 2147483647) : (∀ c ∈ Lib.itoa a, okB c = true) ∧ trimL (Lib.itoa a) = Lib.itoa a ∧ ageB (Lib.itoa a) = true ∧ ageV (Lib.itoa a) = a := by
  unfold Lib.itoa
  split
  · rename_i hn
    obtain ⟨h1, h2, h3⟩ := dd10 a.natAbs
    have hm := allR_mem h2
    refine ⟨fun c hc => ?_, trim_all fun c hc => ?_, ?_, ?_⟩
    · rcases List.mem_cons.1 hc with rfl | hc
      · decide
      · exact (dig_byte (hm c hc)).1
    · rcases List.mem_cons.1 hc with rfl | hc
      · decide
      · exact (dig_byte (hm c hc)).2.1
    · have e : ageL (45 :: Lib.decDigits a.natAbs) = Lib.decDigits a.natAbs := rfl
      unfold ageB
      rw [e, h2]
      cases hq : Lib.decDigits a.natAbs with
      | nil => exact absurd hq h3
      | cons => rfl
    · have e : ageL (45 :: Lib.decDigits a.natAbs) = Lib.decDigits a.natAbs := rfl
      unfold ageV
      rw [if_pos (show (45 :: Lib.decDigits a.natAbs).head? = some 45 from rfl), e, h1]
      omega
  · rename_i hn
    obtain ⟨h1, h2, h3⟩ := dd10 a.toNat
    have hm := allR_mem h2
    have h45 : ¬ (Lib.decDigits a.toNat).head? = some 45 := fun e => (dig_byte (hm 45 (List.mem_of_mem_head? e))).2.2 rfl
    have e : ageL (Lib.decDigits a.toNat) = Lib.decDigits a.toNat := by unfold ageL; rw [if_neg h45]
    refine ⟨fun c hc => (dig_byte (hm c hc)).1, trim_all fun c hc => (dig_byte (hm c hc)).2.1, ?_, ?_⟩
    · unfold ageB
      rw [e, h2]
      cases hq : Lib.decDigits a.toNat with
      | nil => exact absurd hq h3
      | cons => rfl
    · unfold ageV
      rw [if_neg h45, e, h1]
      omega
theorem fold_opt (t : Cki) (L : List ByteArray) (b : Bool) (x : ByteArray) : (L ++ opt b x).foldl heard t = if b then heard (L.foldl heard t) x else L.foldl heard t := by
  rw [List.foldl_append]
  unfold opt
  cases b <;> rfl
section
variable (u : Cki) {l : List UInt8}
theorem h_ex (hl : (trimL l).length ≤ 1024) : heard u (cEx ++ asB l) = sayEx u (asB (trimL l)) := by
  have e : cEx ++ asB l = asB ([69, 120, 112, 105, 114, 101, 115] ++ 61 :: l) := ba_list (by rw [ByteArray.data_append, Array.toList_append]; rfl)
  rw [e, heard_at _ _ _ (by decide), if_pos hl]
  unfold say
  rw [if_pos (by decide)]
theorem h_ag (hl : (trimL l).length ≤ 1024) : heard u (cAg ++ asB l) = sayAg u (asB (trimL l)) := by
  have e : cAg ++ asB l = asB ([77, 97, 120, 45, 65, 103, 101] ++ 61 :: l) := ba_list (by rw [ByteArray.data_append, Array.toList_append]; rfl)
  rw [e, heard_at _ _ _ (by decide), if_pos hl]
  unfold say
  rw [if_neg (by decide), if_pos (by decide)]
theorem h_dm (hl : (trimL l).length ≤ 1024) : heard u (cDm ++ asB l) = sayDm u (asB (trimL l)) := by
  have e : cDm ++ asB l = asB ([68, 111, 109, 97, 105, 110] ++ 61 :: l) := ba_list (by rw [ByteArray.data_append, Array.toList_append]; rfl)
  rw [e, heard_at _ _ _ (by decide), if_pos hl]
  unfold say
  rw [if_neg (by decide), if_neg (by decide), if_pos (by decide)]
theorem h_pa (hl : (trimL l).length ≤ 1024) : heard u (cPa ++ asB l) = sayPa u (asB (trimL l)) := by
  have e : cPa ++ asB l = asB ([80, 97, 116, 104] ++ 61 :: l) := ba_list (by rw [ByteArray.data_append, Array.toList_append]; rfl)
  rw [e, heard_at _ _ _ (by decide), if_pos hl]
  unfold say
  rw [if_neg (by decide), if_neg (by decide), if_neg (by decide), if_pos (by decide)]
theorem h_se : heard u cSe = { u with se := true } := by
  have e : cSe = asB [83, 101, 99, 117, 114, 101] := rfl
  rw [e, heard_not _ _ (by decide)]
  unfold say
  rw [if_neg (by decide), if_neg (by decide), if_neg (by decide), if_neg (by decide), if_pos (by decide)]
theorem h_hi : heard u cHi = { u with hi := true } := by
  have e : cHi = asB [72, 116, 116, 112, 79, 110, 108, 121] := rfl
  rw [e, heard_not _ _ (by decide)]
  unfold say
  rw [if_neg (by decide), if_neg (by decide), if_neg (by decide), if_neg (by decide), if_neg (by decide), if_pos (by decide)]
theorem h_si (hl : (trimL l).length ≤ 1024) : heard u (cSi ++ asB l) = saySi u (asB (trimL l)) := by
  have e : cSi ++ asB l = asB ([83, 97, 109, 101, 83, 105, 116, 101] ++ 61 :: l) := ba_list (by rw [ByteArray.data_append, Array.toList_append]; rfl)
  rw [e, heard_at _ _ _ (by decide), if_pos hl]
  unfold say
  rw [if_neg (by decide), if_neg (by decide), if_neg (by decide), if_neg (by decide), if_neg (by decide), if_neg (by decide), if_pos (by decide)]
end
theorem site_says {n : Int} (h : 0 ≤ n ∧ n ≤ 3) (h0 : n ≠ 0) : (∀ c ∈ siteL n, okB c = true) ∧ trimL (siteL n) = siteL n ∧ siteV ((siteL n).map low) = n ∧ (siteL n).length ≤ 6 := by
  rcases (show n = 1 ∨ n = 2 ∨ n = 3 by omega) with rfl | rfl | rfl <;> decide +kernel
/-- The text's steps. -/
def g1 (t : Cki) (D : List UInt8) (u : Cki) : Cki := if t.hx then sayEx u (asB D) else u
def g2 (t u : Cki) : Cki := if t.ha then sayAg u (asB (Lib.itoa t.ag)) else u
def g3 (t u : Cki) : Cki := if !t.dm.toList.isEmpty then sayDm u (asB (trimL t.dm.data.toList)) else u
def g4 (t u : Cki) : Cki := if !t.pa.toList.isEmpty then sayPa u t.pa else u
def g5 (t u : Cki) : Cki := if t.se then { u with se := true } else u
def g6 (t u : Cki) : Cki := if t.hi then { u with hi := true } else u
def g7 (t u : Cki) : Cki := if t.si != 0 then saySi u (asB (siteL t.si)) else u
def g0 (t : Cki) : Cki := { ck0 with nm := t.nm, vl := t.vl }
def gA (t : Cki) (D : List UInt8) : Cki := g7 t (g6 t (g5 t (g4 t (g3 t (g2 t (g1 t D (g0 t)))))))
theorem date_ok {n : Int} {D : List UInt8} (h : DateOf n D) : (∀ c ∈ D, okB c = true) ∧ trimL D = D ∧ D.length ≤ 29 := by
  rcases h with h | ⟨_, rfl⟩
  · obtain ⟨h1, h2, h3⟩ := txt_ok h
    exact ⟨h1, h2, by omega⟩
  · exact ⟨fun _ hc => absurd hc (List.not_mem_nil), rfl, Nat.zero_le _⟩
def rst (t : Cki) (D : List UInt8) : List ByteArray :=
  (((((opt t.hx (cEx ++ asB D) ++ opt t.ha (cAg ++ asB (Lib.itoa t.ag))) ++ opt (!t.dm.toList.isEmpty) (cDm ++ t.dm)) ++ opt (!t.pa.toList.isEmpty) (cPa ++ t.pa)) ++ opt t.se cSe) ++ opt t.hi cHi) ++ opt (t.si != 0) (cSi ++ asB (siteL t.si))
theorem pcs_rst (t : Cki) (D : List UInt8) : pcs t D = (t.nm ++ ⟨#[61]⟩ ++ t.vl) :: rst t D := by
  unfold pcs rst
  simp only [List.append_assoc, List.cons_append, List.nil_append]
theorem opt_mem {b : Bool} {x y : ByteArray} (h : y ∈ opt b x) : b = true ∧ y = x := by
  unfold opt at h
  split at h
  · rename_i hb; exact ⟨hb, List.mem_singleton.1 h⟩
  · cases h
theorem rst_fold {t : Cki} {D : List UInt8} (h : Cl t) (hD : DateOf t.ex D) : (rst t D).foldl heard (g0 t) = gA t D := by
  obtain ⟨d1, d2, d3⟩ := date_ok hD
  have e1 : ∀ u, (if t.hx then heard u (cEx ++ asB D) else u) = g1 t D u := fun u => by
    unfold g1; rw [h_ex u (by rw [d2]; omega), d2]
  have e2 : ∀ u, (if t.ha then heard u (cAg ++ asB (Lib.itoa t.ag)) else u) = g2 t u := fun u => by
    obtain ⟨_, i2, _, _⟩ := itoa_says h.ag
    unfold g2; rw [h_ag u (by rw [i2]; have := itoa_len t.ag (by have := h.ag; omega) (by have := h.ag; omega); omega), i2]
  have e3 : ∀ u, (if !t.dm.toList.isEmpty then heard u (cDm ++ t.dm) else u) = g3 t u := fun u => by
    unfold g3
    have := h_dm u (l := t.dm.data.toList) (by have := trimL_le t.dm.data.toList; have := h.dmS; omega)
    rw [asB_back] at this
    rw [this]
  have e4 : ∀ u, (if !t.pa.toList.isEmpty then heard u (cPa ++ t.pa) else u) = g4 t u := fun u => by
    unfold g4
    have := h_pa u (l := t.pa.data.toList) (by rw [h.paT]; exact h.paS)
    rw [h.paT, asB_back] at this
    rw [this]
  have e5 : ∀ u, (if t.se then heard u cSe else u) = g5 t u := fun u => by unfold g5; rw [h_se]
  have e6 : ∀ u, (if t.hi then heard u cHi else u) = g6 t u := fun u => by unfold g6; rw [h_hi]
  have e7 : ∀ u, (if t.si != 0 then heard u (cSi ++ asB (siteL t.si)) else u) = g7 t u := fun u => by
    unfold g7
    cases hs : (t.si != 0) with
    | false => rfl
    | true =>
      obtain ⟨_, s2, _, s4⟩ := site_says h.si (bne_iff_ne.1 hs)
      rw [h_si u (by rw [s2]; omega), s2]
  unfold rst gA
  rw [fold_opt, fold_opt, fold_opt, fold_opt, fold_opt, fold_opt, e7, e6, e5, e4, e3, e2]
  congr 6
  have := fold_opt (g0 t) [] t.hx (cEx ++ asB D)
  rw [List.nil_append] at this
  rw [this]
  exact e1 _
/-- What the text tells. -/
theorem txt_tells {t : Cki} {D : List UInt8} (h : Cl t) (hf : Fst t) (hD : DateOf t.ex D) : prsC (txtC t D) = (gA t D, 0) := by
  obtain ⟨d1, d2, d3⟩ := date_ok hD
  obtain ⟨i1, i2, _, _⟩ := itoa_says h.ag
  have il := itoa_len t.ag (by have := h.ag; omega) (by have := h.ag; omega)
  have hnm := lenB t.nm
  have hvl := lenB t.vl
  have hsz := hf.sz
  have hall : ∀ x ∈ pcs t D, (∀ c ∈ x.data.toList, okB c = true) ∧ x.data.toList.length ≤ 5000 := by
    intro x hx
    have cat : ∀ (a : ByteArray) (l : List UInt8), (∀ c ∈ a.data.toList, okB c = true) → a.data.toList.length ≤ 20 → (∀ c ∈ l, okB c = true) → l.length ≤ 4000 → (∀ c ∈ (a ++ asB l).data.toList, okB c = true) ∧ (a ++ asB l).data.toList.length ≤ 5000 := fun a l h1 h2 h3 h4 => by
      have e : (a ++ asB l).data.toList = a.data.toList ++ l := by rw [ByteArray.data_append, Array.toList_append]; rfl
      rw [e]
      refine ⟨fun c hc => ?_, by rw [List.length_append]; omega⟩
      rcases List.mem_append.1 hc with hc | hc
      · exact h1 c hc
      · exact h3 c hc
    rw [pcs_rst] at hx
    rcases List.mem_cons.1 hx with rfl | hx
    · have e : (t.nm ++ ⟨#[61]⟩ ++ t.vl).data.toList = t.nm.data.toList ++ 61 :: t.vl.data.toList := by
        rw [ByteArray.data_append, Array.toList_append, ByteArray.data_append, Array.toList_append]; simp
      rw [e]
      refine ⟨fun c hc => ?_, by rw [List.length_append, List.length_cons]; omega⟩
      rcases List.mem_append.1 hc with hc | hc
      · exact (hf.nmB c hc).1
      · rcases List.mem_cons.1 hc with rfl | hc
        · decide
        · exact hf.vlB c hc
    · unfold rst at hx
      simp only [List.mem_append] at hx
      rcases hx with (((((hx | hx) | hx) | hx) | hx) | hx) | hx
      · rw [(opt_mem hx).2]; exact cat cEx D (by decide) (by decide) d1 (by omega)
      · rw [(opt_mem hx).2]; exact cat cAg _ (by decide) (by decide) i1 (by omega)
      · rw [(opt_mem hx).2]; exact cat cDm t.dm.data.toList (by decide) (by decide) h.dmB (by have := h.dmS; omega)
      · rw [(opt_mem hx).2]; exact cat cPa t.pa.data.toList (by decide) (by decide) h.paB (by have := h.paS; omega)
      · rw [(opt_mem hx).2]; exact ⟨by decide, by decide⟩
      · rw [(opt_mem hx).2]; exact ⟨by decide, by decide⟩
      · obtain ⟨hb, hx⟩ := opt_mem hx
        obtain ⟨s1, _, _, s4⟩ := site_says h.si (bne_iff_ne.1 hb)
        rw [hx]; exact cat cSi _ (by decide) (by decide) s1 (by omega)
  have hcnt : (pcs t D).length ≤ 8 := by
    have ho : ∀ b x, (opt b x).length ≤ 1 := fun b x => by unfold opt; split <;> simp
    unfold pcs
    simp only [List.length_append, List.length_cons, List.length_nil]
    have := ho t.hx (cEx ++ asB D); have := ho t.ha (cAg ++ asB (Lib.itoa t.ag)); have := ho (!t.dm.toList.isEmpty) (cDm ++ t.dm); have := ho (!t.pa.toList.isEmpty) (cPa ++ t.pa)
    have := ho t.se cSe; have := ho t.hi cHi; have := ho (t.si != 0) (cSi ++ asB (siteL t.si))
    omega
  have hlen : (Lib.join ((pcs t D).map (·.data.toList)) [59, 32]).length ≤ 65536 := by
    refine Nat.le_trans (join_bd 5000 _ ?_) ?_
    · intro x hx
      obtain ⟨y, hy, rfl⟩ := List.mem_map.1 hx
      exact (hall y hy).2
    · rw [List.length_map]; omega
  rw [prsC_eq]
  unfold txtC
  rw [asB_data]
  rw [pcs_rst, List.map_cons] at hlen ⊢
  rw [prs_join (fun x hx c hc => by
    rw [← List.map_cons (f := fun y : ByteArray => y.data.toList), ← pcs_rst] at hx
    obtain ⟨y, hy, rfl⟩ := List.mem_map.1 hx
    exact (hall y hy).1 c hc) hlen]
  have hb : ∀ L : List ByteArray, (L.map fun y => y.data.toList).map asB = L := fun L => by
    rw [List.map_map]
    exact (List.map_congr_left fun x _ => asB_back x).trans (List.map_id _)
  rw [List.map_cons, hb, asB_back]
  have ep : t.nm ++ (⟨#[61]⟩ : ByteArray) ++ t.vl = asB (t.nm.data.toList ++ 61 :: t.vl.data.toList) := ba_list (by
    rw [ByteArray.data_append, Array.toList_append, ByteArray.data_append, Array.toList_append]; simp [asB])
  obtain ⟨f1, f2⟩ := first_at t.nm.data.toList t.vl.data.toList fun c hc => (hf.nmB c hc).2
  rw [hf.nmT, asB_back] at f1
  rw [hf.vlT, asB_back] at f2
  rw [ep]
  unfold prsF
  simp only [f1, f2]
  rw [if_neg (by omega), if_neg hf.one]
  exact congrArg (·, (0 : Int)) (rst_fold h hD)

end Go.Proofs.YtllpdnmhabpbcaaGreatDoor
namespace Go.Proofs.YtllpdnmhabpbcaaGreatDoor
open Go.RowKit

/-- A date ahead of 1970, or a domain that begins with a point or a blank. -/
def BadT (t : Cki) : Prop := (t.hx = true ∧ t.ex < 0) ∨ ∃ c, t.dm.data.toList.head? = some c ∧ (c = 46 ∨ c = 32 ∨ c = 9)
theorem bl_two (c : UInt8) : bl c = true → c = 32 ∨ c = 9 := byte_all (P := fun c => bl c = true → c = 32 ∨ c = 9) (by decide +kernel) c
theorem prs_err (s : ByteArray) : (prsC s).2 ≠ 0 → (prsC s).1 = ck0 ∧ ((prsC s).2 = 3 ∨ (prsC s).2 = 4) := by
  unfold prsC
  split
  · exact fun _ => ⟨rfl, .inl rfl⟩
  split
  · exact fun _ => ⟨rfl, .inr rfl⟩
  unfold prsF
  split
  · exact fun h => absurd rfl h
  split
  · exact fun _ => ⟨rfl, .inl rfl⟩
  split
  · exact fun _ => ⟨rfl, .inr rfl⟩
  · exact fun h => absurd rfl h
theorem fld_small {t : Cki} (h : Cl t) (hf : Fst t) : t.nm.size + t.vl.size + t.dm.size + t.pa.size ≤ 2000000 := by
  have h1 := hf.sz
  have h2 := h.dmS
  have h3 := h.paS
  rw [lenB] at h2 h3
  omega
theorem empty_iff (b : ByteArray) : b.toList.isEmpty = true ↔ b.data.toList = [] := by
  rw [Lib.toList_data, List.isEmpty_iff]
theorem good_eq {t : Cki} {D : List UInt8} (h : Cl t) (hD : DateOf t.ex D) (hb : ¬ BadT t) : gA t D = t := by
  obtain ⟨nm, vl, dm, pa, ex, hx, ag, ha, se, hi, si⟩ := t
  have s1 : g1 ⟨nm, vl, dm, pa, ex, hx, ag, ha, se, hi, si⟩ D (g0 ⟨nm, vl, dm, pa, ex, hx, ag, ha, se, hi, si⟩) = ⟨nm, vl, noB, noB, ex, hx, 0, false, false, false, 0⟩ := by
    unfold g1 g0
    cases hx with
    | false =>
      have h0 : ex = 0 := h.ex0 rfl
      subst h0
      rfl
    | true =>
      have hT : IsTxt ex D := by
        rcases hD with hT | ⟨hr, _⟩
        · exact hT
        · have hm : ex ≤ 253402300799 := h.ex
          have hr : ex < 0 ∨ 253402300799 < ex := hr
          rcases hr with hr | hr
          · exact absurd (.inl ⟨rfl, hr⟩) hb
          · omega
      obtain ⟨k1, k2⟩ := cook_txt hT
      show sayEx _ (asB D) = _
      unfold sayEx
      rw [if_pos k2, k1]
      rfl
  have s2 : g2 ⟨nm, vl, dm, pa, ex, hx, ag, ha, se, hi, si⟩ ⟨nm, vl, noB, noB, ex, hx, 0, false, false, false, 0⟩ = ⟨nm, vl, noB, noB, ex, hx, ag, ha, false, false, 0⟩ := by
    unfold g2
    cases ha with
    | false =>
      have h0 : ag = 0 := h.ag0 rfl
      subst h0
      rfl
    | true =>
      obtain ⟨_, _, i3, i4⟩ := itoa_says h.ag
      show sayAg _ (asB (Lib.itoa ag)) = _
      unfold sayAg
      rw [asB_data]
      have i3 : ageB (Lib.itoa ag) = true := i3
      have i4 : ageV (Lib.itoa ag) = ag := i4
      rw [if_pos i3, i4]
  have s3 : g3 ⟨nm, vl, dm, pa, ex, hx, ag, ha, se, hi, si⟩ ⟨nm, vl, noB, noB, ex, hx, ag, ha, false, false, 0⟩ = ⟨nm, vl, dm, noB, ex, hx, ag, ha, false, false, 0⟩ := by
    unfold g3
    by_cases he : dm.data.toList = []
    · have e : dm = noB := ba_list he
      subst e
      show (if (!noB.toList.isEmpty) = true then _ else _) = _
      rw [(empty_iff noB).2 rfl]
      rfl
    · have e : dm.toList.isEmpty = false := by
        cases hq : dm.toList.isEmpty with
        | false => rfl
        | true => exact absurd ((empty_iff dm).1 hq) he
      have hd : ∀ c, dm.data.toList.head? = some c → c ≠ 46 ∧ bl c = false := fun c hc => by
        refine ⟨fun e => hb (.inr ⟨c, hc, .inl e⟩), ?_⟩
        cases hq : bl c with
        | false => rfl
        | true => exact absurd (.inr ⟨c, hc, .inr (bl_two c hq)⟩) hb
      have e2 : trimL dm.data.toList = dm.data.toList := trimL_of (fun c hc => (hd c hc).2) h.dmE
      have e3 : unpt dm.data.toList = dm.data.toList := by
        unfold unpt
        rw [if_neg fun e => (hd 46 e).1 rfl]
      have e4 : dm.data.toList.map low = dm.data.toList := h.dmL
      show (if (!dm.toList.isEmpty) = true then sayDm _ (asB (trimL dm.data.toList)) else _) = _
      rw [e, if_pos (by decide), e2]
      unfold sayDm
      have e5 : lowS (asB (unpt (asB dm.data.toList).data.toList)) = dm := by
        rw [asB_data, e3]
        exact ba_list e4
      rw [e5]
  have s4 : g4 ⟨nm, vl, dm, pa, ex, hx, ag, ha, se, hi, si⟩ ⟨nm, vl, dm, noB, ex, hx, ag, ha, false, false, 0⟩ = ⟨nm, vl, dm, pa, ex, hx, ag, ha, false, false, 0⟩ := by
    unfold g4
    by_cases he : pa.data.toList = []
    · have e : pa = noB := ba_list he
      subst e
      show (if (!noB.toList.isEmpty) = true then _ else _) = _
      rw [(empty_iff noB).2 rfl]
      rfl
    · have e : pa.toList.isEmpty = false := by
        cases hq : pa.toList.isEmpty with
        | false => rfl
        | true => exact absurd ((empty_iff pa).1 hq) he
      have h47 : pa.data.toList.head? = some 47 := h.paH.resolve_left he
      show (if (!pa.toList.isEmpty) = true then sayPa _ pa else _) = _
      rw [e, if_pos (by decide)]
      unfold sayPa
      rw [if_pos h47]
  have s5 : g5 ⟨nm, vl, dm, pa, ex, hx, ag, ha, se, hi, si⟩ ⟨nm, vl, dm, pa, ex, hx, ag, ha, false, false, 0⟩ = ⟨nm, vl, dm, pa, ex, hx, ag, ha, se, false, 0⟩ := by cases se <;> rfl
  have s6 : g6 ⟨nm, vl, dm, pa, ex, hx, ag, ha, se, hi, si⟩ ⟨nm, vl, dm, pa, ex, hx, ag, ha, se, false, 0⟩ = ⟨nm, vl, dm, pa, ex, hx, ag, ha, se, hi, 0⟩ := by cases hi <;> rfl
  have s7 : g7 ⟨nm, vl, dm, pa, ex, hx, ag, ha, se, hi, si⟩ ⟨nm, vl, dm, pa, ex, hx, ag, ha, se, hi, 0⟩ = ⟨nm, vl, dm, pa, ex, hx, ag, ha, se, hi, si⟩ := by
    unfold g7
    by_cases hs : si = 0
    · subst hs; rfl
    · obtain ⟨_, _, q, _⟩ := site_says h.si hs
      have q : siteV ((siteL si).map low) = si := q
      show (if (si != 0) = true then saySi _ (asB (siteL si)) else _) = _
      rw [if_pos (bne_iff_ne.2 hs)]
      unfold saySi
      rw [asB_data, q]
  unfold gA
  rw [s1, s2, s3, s4, s5, s6, s7]
theorem again_yes {t : Cki} {D : List UInt8} (h : Cl t) (hf : Fst t) (hD : DateOf t.ex D) (hb : ¬ BadT t) : okT t D = true := by
  unfold okT
  rw [txt_tells h hf hD]
  show ((0 : Int) == 0 && ckEq (gA t D) t) = true
  rw [(ckEq_iff _ _).2 (good_eq h hD hb)]
  rfl
section
variable (t u : Cki) (D : List UInt8)
theorem g2_kp : (g2 t u).hx = u.hx ∧ (g2 t u).dm = u.dm := by
  unfold g2
  split
  · unfold sayAg; split <;> exact ⟨rfl, rfl⟩
  · exact ⟨rfl, rfl⟩
theorem g3_hx : (g3 t u).hx = u.hx := by
  unfold g3
  split <;> rfl
theorem g4_kp : (g4 t u).hx = u.hx ∧ (g4 t u).dm = u.dm := by
  unfold g4
  split <;> exact ⟨rfl, rfl⟩
theorem g5_kp : (g5 t u).hx = u.hx ∧ (g5 t u).dm = u.dm := by
  unfold g5
  split <;> exact ⟨rfl, rfl⟩
theorem g6_kp : (g6 t u).hx = u.hx ∧ (g6 t u).dm = u.dm := by
  unfold g6
  split <;> exact ⟨rfl, rfl⟩
theorem g7_kp : (g7 t u).hx = u.hx ∧ (g7 t u).dm = u.dm := by
  unfold g7
  split <;> exact ⟨rfl, rfl⟩
theorem gA_hx : (gA t D).hx = (g1 t D (g0 t)).hx := by
  unfold gA
  rw [(g7_kp ..).1, (g6_kp ..).1, (g5_kp ..).1, (g4_kp ..).1, g3_hx, (g2_kp ..).1]
theorem gA_dm : (gA t D).dm = (g3 t (g2 t (g1 t D (g0 t)))).dm := by
  unfold gA
  rw [(g7_kp ..).2, (g6_kp ..).2, (g5_kp ..).2, (g4_kp ..).2]
end
theorem again_no {t : Cki} {D : List UInt8} (h : Cl t) (hf : Fst t) (hD : DateOf t.ex D) (hb : BadT t) : okT t D = false := by
  cases hok : okT t D with
  | false => rfl
  | true =>
    exfalso
    unfold okT at hok
    rw [txt_tells h hf hD, Bool.and_eq_true] at hok
    have he : gA t D = t := (ckEq_iff _ _).1 hok.2
    rcases hb with ⟨hx, hex⟩ | ⟨c, hc, hcc⟩
    · have h1 := gA_hx t D
      rw [he, hx] at h1
      rcases hD with hT | ⟨_, rfl⟩
      · have := hT.lo; omega
      · have e : cookB (toldT (asB [])) = false := by decide +kernel
        unfold g1 sayEx at h1
        rw [hx, if_pos rfl, e, if_neg (by decide)] at h1
        cases h1
    · have h1 := gA_dm t D
      rw [he] at h1
      have hne : t.dm.toList.isEmpty = false := by
        cases hq : t.dm.toList.isEmpty with
        | false => rfl
        | true => rw [(empty_iff t.dm).1 hq] at hc; cases hc
      unfold g3 at h1
      rw [hne, if_pos (by decide)] at h1
      have h2 : t.dm = lowS (asB (unpt (trimL t.dm.data.toList))) := h1
      have h3 : t.dm.data.toList.length = (unpt (trimL t.dm.data.toList)).length := by
        have h4 := congrArg (fun b : ByteArray => b.data.toList.length) h2
        have h5 : (lowS (asB (unpt (trimL t.dm.data.toList)))).data.toList.length = (unpt (trimL t.dm.data.toList)).length := by
          show ((unpt (trimL t.dm.data.toList)).map low).length = _
          rw [List.length_map]
        exact h4.trans h5
      obtain ⟨r, hr⟩ : ∃ r, t.dm.data.toList = c :: r := by
        cases hq : t.dm.data.toList with
        | nil => rw [hq] at hc; cases hc
        | cons a r => rw [hq] at hc; injection hc with hc; exact ⟨r, by rw [hc]⟩
      by_cases h46 : c = 46
      · have e2 : trimL t.dm.data.toList = t.dm.data.toList := trimL_of (fun d hd => by
          rw [hc] at hd; injection hd with hd; rw [← hd, h46]; decide) h.dmE
        rw [e2] at h3
        unfold unpt at h3
        rw [hc, h46, if_pos rfl, hr] at h3
        simp at h3
      · have hbl : bl c = true := by
          rcases hcc with e | rfl | rfl
          · exact absurd e h46
          · decide
          · decide
        rw [hr, trimL_cons _ _ hbl] at h3
        have q1 := unpt_le (trimL r)
        have q2 := trimL_le r
        rw [List.length_cons] at h3
        omega

end Go.Proofs.YtllpdnmhabpbcaaGreatDoor
namespace Go.Proofs.YtllpdnmhabpbcaaGreatDoor
open Go.RowKit

set_option maxHeartbeats 8000000 in
set_option maxRecDepth 100000 in
theorem kagain_walk (s : ByteArray) (hs : s.size ≤ 140737488355328) (m : Int) (w : World) (hw : DtG m w) :
    Calls Tryz.prog 3 #[.string s] w fun e w' => e = .returned (.bool true) ∧ Below w.heap.size w w' := by
  have HG := Lib.hid hw
  have HAl := Lib.hid fun w hw => alive10_any m w hw
  have HCb : Hid (∀ w1 : World, (w1.alloc (.cells #[.int .i64 (s.size : Int)] 3)).cell? ⟨w1.heap.size, 0, none⟩ = some (.int .i64 (s.size : Int))) := Lib.hid fun w1 => by rw [World.cell?_alloc_at _ _ _ _ rfl]; rfl
  by_cases hbig : 1048576 < s.size
  · have HBy := Lib.hid fun w1 => Beyond1_yes w1.heap.size s.size (w1.alloc (.cells #[.int .i64 (s.size : Int)] 3)) (by unfold maxLen; omega) (HCb.out w1) hbig
    clear hw hbig hs
    go_enter Tryz.func3, Tryz.ntmps3
    go_wp2_with fail
    refine (HAl.out _ HG.out).mono ?_
    rintro e w1 ⟨rfl, b1⟩
    have HB1 := Lib.hid b1
    clear b1
    go_wp2_with fail
    refine (HBy.out w1).mono ?_
    rintro e w2 ⟨rfl, rfl⟩
    have HB2 := Lib.hid (HB1.out.alloc HB1.out.size (.cells #[.int .i64 (s.size : Int)] 3))
    go_wp2_with fail
    refine (HAl.out _ (HG.out.below HB2.out)).mono ?_
    rintro e w3 ⟨rfl, b3⟩
    go_wp2
    go_ret
    exact ⟨rfl, HB2.out.trans (b3.mono HB2.out.size)⟩
  have HBy := Lib.hid fun w1 => Beyond1_no w1.heap.size s.size (w1.alloc (.cells #[.int .i64 (s.size : Int)] 3)) (HCb.out w1) (by omega)
  by_cases hbg : 60000 < s.size
  · have hI : (60000 : Int) < (s.size : Int) := by omega
    have hD : decide ((60000 : Int) < (s.size : Int)) = true := decide_eq_true hI
    clear hw hbig hs hbg
    go_enter Tryz.func3, Tryz.ntmps3
    go_wp2_with fail
    refine (HAl.out _ HG.out).mono ?_
    rintro e w1 ⟨rfl, b1⟩
    have HB1 := Lib.hid b1
    clear b1
    go_wp2_with fail
    refine (HBy.out w1).mono ?_
    rintro e w2 ⟨rfl, rfl⟩
    have HB2 := Lib.hid (HB1.out.alloc HB1.out.size (.cells #[.int .i64 (s.size : Int)] 3))
    go_wp2_with fail
    refine (HAl.out _ (HG.out.below HB2.out)).mono ?_
    rintro e w3 ⟨rfl, b3⟩
    go_wp2
    go_ret
    exact ⟨rfl, HB2.out.trans (b3.mono HB2.out.size)⟩
  have hI : ¬ (60000 : Int) < (s.size : Int) := by omega
  have hD : decide ((60000 : Int) < (s.size : Int)) = false := decide_eq_false hI
  obtain ⟨U, E, HU⟩ : ∃ U E, Hid (prsC s = (U, E)) := ⟨_, _, Lib.hid rfl⟩
  have HEr := Lib.hid (prs_err s)
  rw [HU.out] at HEr
  have HTl : Hid (E = 0 → Cl U ∧ Fst U) := Lib.hid fun hE => told_cl (by rw [HU.out, hE])
  obtain ⟨C, HC, HCs, HC1⟩ : ∃ C, Hid (ckR U = C) ∧ Hid (C.size = 11) ∧ Hid (C.all (·.oneCell') = true) := ⟨_, Lib.hid rfl, Lib.hid rfl, Lib.hid (ckR_one _)⟩
  have HP1 : Hid (∀ w', DtC0 m w' → Calls Tryz.prog 6 #[.string s] w' fun e w'' => e = .returned (.tuple #[.agg C, .int .i64 E]) ∧ Below w'.heap.size w' w'') := Lib.hid fun w' h => by
    have := Parse_any s m w' h
    rw [HU.out] at this
    rw [← HC.out]; exact this
  clear hw hbig hs hbg
  go_enter Tryz.func3, Tryz.ntmps3
  go_wp2_with fail
  refine (HAl.out _ HG.out).mono ?_
  rintro e w1 ⟨rfl, b1⟩
  have HB1 := Lib.hid b1
  clear b1
  go_wp2_with fail
  refine (HBy.out w1).mono ?_
  rintro e w2 ⟨rfl, rfl⟩
  have HB2 := Lib.hid (HB1.out.alloc HB1.out.size (.cells #[.int .i64 (s.size : Int)] 3))
  go_wp2_with fail
  refine (HP1.out _ (HG.out.below HB2.out).c0).mono ?_
  rintro e w6 ⟨rfl, b6⟩
  have HB6 := Lib.hid (HB2.out.trans (b6.mono HB2.out.size))
  clear b6
  have HA7 : Hid ((w6.alloc (.cells (ckR ck0) 26)).heap[w6.heap.size]? = some (.cells (ckR ck0) 26 (0, 0))) := Lib.hid (heap_alloc_new w6 _)
  obtain ⟨W7, HW7⟩ : ∃ W, Hid ((w6.alloc (.cells #[.string ⟨#[]⟩, .string ⟨#[]⟩, .string ⟨#[]⟩, .string ⟨#[]⟩, .int .i64 0, .bool false, .int .i64 0, .bool false, .bool false, .bool false, .int .u8 0] 26)).setRow w6.heap.size C = W) := ⟨_, Lib.hid rfl⟩
  have HD7 : Hid (W7.heap[w6.heap.size]? = some (.cells C 26 (0, 0))) := Lib.hid (by rw [← HW7.out]; exact setRow_heap _ _ _ _ _ _ HA7.out)
  have HB7 : Hid (Below w.heap.size w W7) := Lib.hid (by rw [← HW7.out]; exact sc_below (HB6.out.alloc HB6.out.size _) _ _ HB6.out.size)
  by_cases hE : E = 0
  · subst hE
    obtain ⟨hcl, hfs⟩ := HTl.out rfl
    obtain ⟨D, hDt⟩ := date_some U.ex
    have HTx : Hid (∀ w', DtG m w' → Calls Tryz.prog 7 #[.agg C] w' fun e w'' => e = .returned (txtR U D) ∧ Below w'.heap.size w' w'') := Lib.hid fun w' h => by
      have := CkText_any U D hDt (fld_small hcl hfs) (by have := hcl.ag; omega) (by have := hcl.ag; omega) m w' h
      rw [HC.out] at this
      exact this
    by_cases hbad : BadT U
    · have HX : Hid (txtR U D = .tuple #[.string noB, .int .i64 1]) := Lib.hid (by unfold txtR; rw [again_no hcl hfs hDt hbad]; rfl)
      rw [HX.out] at HTx
      clear hcl hfs hDt
      go_wp2_with (first
        | (refine wpL_store_row rfl 26 _ _ rfl w6.heap.size C ?_ ?_ 26 (ckR ck0) ?_ ?_ ?_ ?_ ?_; exact rfl; exact rfl; (exact HA7.out); (rw [HCs.out]; exact infoTo); (rw [HCs.out]; rfl); exact HC1.out; rw [HW7.out])
        | (refine scW_load rfl 26 _ rfl w6.heap.size ?_ 26 C (0, 0) _ ?_ Tryz.underlying26 rfl ?_ ?_; (exact rfl); (exact HD7.out); (rw [HCs.out]; exact infoTo)))
      refine (HTx.out _ (HG.out.below HB7.out)).mono ?_
      rintro e w8 ⟨rfl, b8⟩
      have hD8 : w8.heap[w6.heap.size]? = some (.cells (ckR U) 26 (0, 0)) := by rw [HC.out]; exact (b8.block _ (lt_of_block HD7.out)).trans HD7.out
      have HB8 := Lib.hid (HB7.out.trans (b8.mono HB7.out.size))
      have c2 : w8.cell? ⟨w6.heap.size, 2, none⟩ = some (.string U.dm) := by rw [cell_of_row w8 _ 2 _ _ _ hD8]; rfl
      have c4 : w8.cell? ⟨w6.heap.size, 4, none⟩ = some (.int .i64 U.ex) := by rw [cell_of_row w8 _ 4 _ _ _ hD8]; rfl
      have c5 : w8.cell? ⟨w6.heap.size, 5, none⟩ = some (.bool U.hx) := by rw [cell_of_row w8 _ 5 _ _ _ hD8]; rfl
      clear b8 hD8
      unfold BadT at hbad
      obtain ⟨hx, Hhx⟩ : ∃ hx, Hid (U.hx = hx) := ⟨_, Lib.hid rfl⟩
      obtain ⟨ex, Hex⟩ : ∃ ex, Hid (U.ex = ex) := ⟨_, Lib.hid rfl⟩
      obtain ⟨dm, Hdm⟩ : ∃ dm, Hid (U.dm = dm) := ⟨_, Lib.hid rfl⟩
      rw [Hhx.out, Hex.out, Hdm.out] at hbad
      rw [Hdm.out] at c2
      rw [Hex.out] at c4
      rw [Hhx.out] at c5
      by_cases hxe : hx = true ∧ ex < 0
      · obtain ⟨rfl, hex⟩ := hxe
        have e1 : decide (ex < 0) = true := decide_eq_true hex
        clear hbad
        go_wp2
        go_ret
        exact ⟨rfl, HB8.out⟩
      · obtain ⟨c, h1, h2⟩ := hbad.resolve_left hxe
        have hlt : 0 < dm.size := by
          rw [← lenB]
          cases hq : dm.data.toList with
          | nil => rw [hq] at h1; cases h1
          | cons => simp
        have hx0 : dm[0]'hlt = c := by
          have := Lib.data_getElem? dm 0 hlt
          rw [← List.head?_eq_getElem?, h1] at this
          injection this with this
          exact this.symm
        have i0 : (0 : Int) < (dm.size : Int) := by omega
        have d0 : decide ((0 : Int) < (dm.size : Int)) = true := decide_eq_true i0
        clear h1 hbad
        rcases h2 with rfl | rfl | rfl
        · cases hx with
          | false =>
            go_wp2
            go_ret
            exact ⟨rfl, HB8.out⟩
          | true =>
            have e1 : decide (ex < 0) = false := decide_eq_false fun h => hxe ⟨rfl, h⟩
            have i1 : ¬ ex < 0 := fun h => hxe ⟨rfl, h⟩
            go_wp2
            go_ret
            exact ⟨rfl, HB8.out⟩
        · cases hx with
          | false =>
            go_wp2
            go_ret
            exact ⟨rfl, HB8.out⟩
          | true =>
            have e1 : decide (ex < 0) = false := decide_eq_false fun h => hxe ⟨rfl, h⟩
            have i1 : ¬ ex < 0 := fun h => hxe ⟨rfl, h⟩
            go_wp2
            go_ret
            exact ⟨rfl, HB8.out⟩
        · cases hx with
          | false =>
            go_wp2
            go_ret
            exact ⟨rfl, HB8.out⟩
          | true =>
            have e1 : decide (ex < 0) = false := decide_eq_false fun h => hxe ⟨rfl, h⟩
            have i1 : ¬ ex < 0 := fun h => hxe ⟨rfl, h⟩
            go_wp2
            go_ret
            exact ⟨rfl, HB8.out⟩
    · have HX : Hid (txtR U D = .tuple #[.string (txtC U D), .int .i64 0]) := Lib.hid (by unfold txtR; rw [again_yes hcl hfs hDt hbad, if_pos rfl])
      rw [HX.out] at HTx
      have hIs1 : okP (txtC U D) U = true := again_yes hcl hfs hDt hbad
      obtain ⟨X, HXt⟩ : ∃ X, Hid (txtC U D = X) := ⟨_, Lib.hid rfl⟩
      rw [HXt.out] at HTx hIs1
      have HIs : Hid (∀ w', DtC0 m w' → Calls Tryz.prog 8 #[.string X, .agg C] w' fun e w'' => e = .returned (.bool true) ∧ Below w'.heap.size w' w'') := Lib.hid fun w' h => by
        have := is10_any X U m w' h
        rw [hIs1, HC.out] at this
        exact this
      clear hcl hfs hDt hIs1
      go_wp2_with (first
        | (refine wpL_store_row rfl 26 _ _ rfl w6.heap.size C ?_ ?_ 26 (ckR ck0) ?_ ?_ ?_ ?_ ?_; exact rfl; exact rfl; (exact HA7.out); (rw [HCs.out]; exact infoTo); (rw [HCs.out]; rfl); exact HC1.out; rw [HW7.out])
        | (refine scW_load rfl 26 _ rfl w6.heap.size ?_ 26 C (0, 0) _ ?_ Tryz.underlying26 rfl ?_ ?_; (exact rfl); (exact HD7.out); (rw [HCs.out]; exact infoTo)))
      refine (HTx.out _ (HG.out.below HB7.out)).mono ?_
      rintro e w8 ⟨rfl, b8⟩
      have hD8 : w8.heap[w6.heap.size]? = some (.cells (ckR U) 26 (0, 0)) := by rw [HC.out]; exact (b8.block _ (lt_of_block HD7.out)).trans HD7.out
      have HD8 : Hid (w8.heap[w6.heap.size]? = some (.cells C 26 (0, 0))) := Lib.hid (by rw [← HC.out]; exact hD8)
      have HB8 := Lib.hid (HB7.out.trans (b8.mono HB7.out.size))
      have c2 : w8.cell? ⟨w6.heap.size, 2, none⟩ = some (.string U.dm) := by rw [cell_of_row w8 _ 2 _ _ _ hD8]; rfl
      have c4 : w8.cell? ⟨w6.heap.size, 4, none⟩ = some (.int .i64 U.ex) := by rw [cell_of_row w8 _ 4 _ _ _ hD8]; rfl
      have c5 : w8.cell? ⟨w6.heap.size, 5, none⟩ = some (.bool U.hx) := by rw [cell_of_row w8 _ 5 _ _ _ hD8]; rfl
      have HI8 := Lib.hid (HIs.out _ (HG.out.below HB8.out).c0)
      clear b8 hD8
      unfold BadT at hbad
      obtain ⟨hx, Hhx⟩ : ∃ hx, Hid (U.hx = hx) := ⟨_, Lib.hid rfl⟩
      obtain ⟨ex, Hex⟩ : ∃ ex, Hid (U.ex = ex) := ⟨_, Lib.hid rfl⟩
      obtain ⟨dm, Hdm⟩ : ∃ dm, Hid (U.dm = dm) := ⟨_, Lib.hid rfl⟩
      rw [Hhx.out, Hex.out, Hdm.out] at hbad
      rw [Hdm.out] at c2
      rw [Hex.out] at c4
      rw [Hhx.out] at c5
      have hxe : hx = true → ¬ ex < 0 := fun h1 h2 => hbad (.inl ⟨h1, h2⟩)
      by_cases h0 : dm.size = 0
      · have i0 : ¬ (0 : Int) < (dm.size : Int) := by omega
        have d0 : decide ((0 : Int) < (dm.size : Int)) = false := decide_eq_false i0
        clear hbad h0
        cases hx with
        | false =>
          clear hxe
          go_upto_region 9 with (fail)
          go_wp2_with (refine scW_load rfl 26 _ rfl w6.heap.size ?_ 26 C (0, 0) _ ?_ Tryz.underlying26 rfl ?_ ?_; (exact rfl); (exact HD8.out); (rw [HCs.out]; exact infoTo))
          refine HI8.out.mono ?_
          rintro e w9 ⟨rfl, b9⟩
          go_wp2
          go_ret
          exact ⟨rfl, HB8.out.trans (b9.mono HB8.out.size)⟩
        | true =>
          have i1 : ¬ ex < 0 := hxe rfl
          have e1 : decide (ex < 0) = false := decide_eq_false i1
          clear hxe
          go_upto_region 9 with (fail)
          go_wp2_with (refine scW_load rfl 26 _ rfl w6.heap.size ?_ 26 C (0, 0) _ ?_ Tryz.underlying26 rfl ?_ ?_; (exact rfl); (exact HD8.out); (rw [HCs.out]; exact infoTo))
          refine HI8.out.mono ?_
          rintro e w9 ⟨rfl, b9⟩
          go_wp2
          go_ret
          exact ⟨rfl, HB8.out.trans (b9.mono HB8.out.size)⟩
      · have hlt : 0 < dm.size := by omega
        obtain ⟨c, hx0⟩ : ∃ c, dm[0]'hlt = c := ⟨_, rfl⟩
        have i0 : (0 : Int) < (dm.size : Int) := by omega
        have d0 : decide ((0 : Int) < (dm.size : Int)) = true := decide_eq_true i0
        have h1 : dm.data.toList.head? = some c := by
          have := Lib.data_getElem? dm 0 hlt
          rw [← List.head?_eq_getElem?, hx0] at this
          exact this
        have hne : ∀ n : Nat, n < 256 → c ≠ UInt8.ofNat n → ((c.toNat : Int) == (n : Int)) = false := fun n hn hc => beq_eq_false_iff_ne.2 fun e => hc (UInt8.toNat_inj.1 (by rw [UInt8.toNat_ofNat']; omega))
        have q1 : ((c.toNat : Int) == 46) = false := hne 46 (by decide) fun e => hbad (.inr ⟨c, h1, .inl e⟩)
        have q2 : ((c.toNat : Int) == 32) = false := hne 32 (by decide) fun e => hbad (.inr ⟨c, h1, .inr (.inl e)⟩)
        have q3 : ((c.toNat : Int) == 9) = false := hne 9 (by decide) fun e => hbad (.inr ⟨c, h1, .inr (.inr e)⟩)
        clear hbad h0 h1 hne
        cases hx with
        | false =>
          clear hxe
          go_upto_region 9 with (fail)
          go_wp2_with (refine scW_load rfl 26 _ rfl w6.heap.size ?_ 26 C (0, 0) _ ?_ Tryz.underlying26 rfl ?_ ?_; (exact rfl); (exact HD8.out); (rw [HCs.out]; exact infoTo))
          refine HI8.out.mono ?_
          rintro e w9 ⟨rfl, b9⟩
          go_wp2
          go_ret
          exact ⟨rfl, HB8.out.trans (b9.mono HB8.out.size)⟩
        | true =>
          have i1 : ¬ ex < 0 := hxe rfl
          have e1 : decide (ex < 0) = false := decide_eq_false i1
          clear hxe
          go_upto_region 9 with (fail)
          go_wp2_with (refine scW_load rfl 26 _ rfl w6.heap.size ?_ 26 C (0, 0) _ ?_ Tryz.underlying26 rfl ?_ ?_; (exact rfl); (exact HD8.out); (rw [HCs.out]; exact infoTo))
          refine HI8.out.mono ?_
          rintro e w9 ⟨rfl, b9⟩
          go_wp2
          go_ret
          exact ⟨rfl, HB8.out.trans (b9.mono HB8.out.size)⟩
  · have hEr := HEr.out hE
    have hUe : U = ck0 := hEr.1
    have HC0 : Hid (ckR ck0 = C) := Lib.hid (by rw [← hUe]; exact HC.out)
    have HEz : Hid (∀ w, (binOp .eql 26 (.agg C) (.agg #[.string ⟨#[]⟩, .string ⟨#[]⟩, .string ⟨#[]⟩, .string ⟨#[]⟩, .int .i64 0, .bool false, .int .i64 0, .bool false, .bool false, .bool false, .int .u8 0])).run Tryz.prog w = .ok (.bool true) w) := Lib.hid fun w => by
      have := eqT ck0 ck0 w
      rw [(ckEq_iff _ _).2 rfl] at this
      rw [← HC0.out]
      exact this
    have hE2 : E = 3 ∨ E = 4 := hEr.2
    rcases hE2 with rfl | rfl
    · go_wp2_with (first
        | (refine wpL_store_row rfl 26 _ _ rfl w6.heap.size C ?_ ?_ 26 (ckR ck0) ?_ ?_ ?_ ?_ ?_; exact rfl; exact rfl; (exact HA7.out); (rw [HCs.out]; exact infoTo); (rw [HCs.out]; rfl); exact HC1.out; rw [HW7.out])
        | (refine scW_load rfl 26 _ rfl w6.heap.size ?_ 26 C (0, 0) _ ?_ Tryz.underlying26 rfl ?_ ?_; (exact rfl); (exact HD7.out); (rw [HCs.out]; exact infoTo))
        | (refine scW_bin rfl .eql 26 26 _ _ rfl _ (gd_T .eql _ _ C _ _) (HEz.out _) ?_))
      go_ret
      exact ⟨rfl, HB7.out⟩
    · go_wp2_with (first
        | (refine wpL_store_row rfl 26 _ _ rfl w6.heap.size C ?_ ?_ 26 (ckR ck0) ?_ ?_ ?_ ?_ ?_; exact rfl; exact rfl; (exact HA7.out); (rw [HCs.out]; exact infoTo); (rw [HCs.out]; rfl); exact HC1.out; rw [HW7.out])
        | (refine scW_load rfl 26 _ rfl w6.heap.size ?_ 26 C (0, 0) _ ?_ Tryz.underlying26 rfl ?_ ?_; (exact rfl); (exact HD7.out); (rw [HCs.out]; exact infoTo))
        | (refine scW_bin rfl .eql 26 26 _ _ rfl _ (gd_T .eql _ _ C _ _) (HEz.out _) ?_))
      go_ret
      exact ⟨rfl, HB7.out⟩

end Go.Proofs.YtllpdnmhabpbcaaGreatDoor
