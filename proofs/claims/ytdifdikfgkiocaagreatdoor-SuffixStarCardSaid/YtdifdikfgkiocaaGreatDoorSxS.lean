/-
  Plain words on a star and a mark: names of small letters.
-/
import Derived.Test.YtdifdikfgkiocaaGreatDoorSxP
import Derived.Test.YtdifdikfgkiocaaGreatDoorHsO
namespace Go.Proofs.YtdifdikfgkiocaaGreatDoor
open Go.RowKit

/-- Small letters, of which the first one is no x. -/
def Ltr (y : ByteArray) : Prop := 0 < y.size ∧ y.size ≤ 31 ∧ (∀ c ∈ y.data.toList, 97 ≤ c.toNat ∧ c.toNat ≤ 122) ∧ y.data.toList.head? ≠ some 120
def topS : ByteArray := ⟨#[116, 111, 112]⟩
def zS : ByteArray := ⟨#[122]⟩
theorem ltr_top : Ltr topS := ⟨by decide, by decide, by decide, by decide⟩
theorem ltr_z : Ltr zS := ⟨by decide, by decide, by decide, by decide⟩
theorem ltr_byte {c : UInt8} (h : 97 ≤ c.toNat ∧ c.toNat ≤ 122) : low c = c ∧ c ≠ 46 ∧ c ≠ 37 ∧ c ≠ 91 ∧ c.toNat < 128 ∧ foulB c = false ∧ sgnB c = true := by
  have h1 := lowP_facts c (by rw [lowP, decide_eq_true h]; rfl)
  refine ⟨h1.1, h1.2.1, h1.2.2.1, h1.2.2.2.1, by omega, h1.2.2.2.2 (by omega), ?_⟩
  rw [sgnB_eq, decide_eq_true h, Bool.or_true]
theorem ltr_good {y : ByteArray} (h : Ltr y) : GoodB y := by
  obtain ⟨h1, h2, h3, h4⟩ := h
  have hp : plainL y.data.toList = true := by
    rw [plainL, List.all_eq_true]
    intro c hc
    simpa using (ltr_byte (h3 c hc)).2.2.2.2.1
  have hl : lowS y = y := by
    refine ba_of ?_
    rw [lowS_data]
    conv => rhs; rw [← List.map_id y.data.toList]
    exact List.map_congr_left (fun c hc => (ltr_byte (h3 c hc)).1)
  have hx : Lib.hasPrefix (lowS y).data.toList [120, 110, 45, 45] = false := by
    rw [hl, ← Bool.not_eq_true]
    intro e
    obtain ⟨t, ht⟩ := List.isPrefixOf_iff_prefix.1 e
    rw [← ht] at h4
    exact h4 rfl
  refine ⟨?_, h1, by omega, hp, hl, fun c hc => (ltr_byte (h3 c hc)).2.1⟩
  rw [lab_plain _ hp hx, if_neg (by omega), if_neg (by omega), hl]
theorem dotJ_le (B : Nat) : ∀ L : List ByteArray, (∀ l ∈ L, l.size ≤ B) → (dotJ L).size ≤ (B + 1) * L.length
  | [], _ => by rw [dotJ, asB_size]; simp [Lib.join_nil]
  | [x], h => by
    have := h x List.mem_cons_self
    rw [dotJ_one]; simp; omega
  | x :: y :: r, h => by
    have h1 := h x List.mem_cons_self
    have h2 := dotJ_le B (y :: r) (fun l hl => h l (List.mem_cons_of_mem _ hl))
    rw [dot_cons x (by simp), ByteArray.size_append, ByteArray.size_append, List.length_cons, Nat.mul_succ]
    show x.size + 1 + (dotJ (y :: r)).size ≤ _
    omega
theorem ltr_host {pre : List ByteArray} (hp : ∀ l ∈ pre, Ltr l) (hl : pre.length ≤ 4) : nameB (dotJ (pre ++ [topS])) = true ∧ rawB 46 (dotJ (pre ++ [topS])) = pre ++ [topS] := by
  have hL : ∀ l ∈ pre ++ [topS], Ltr l := fun l h => by
    rcases List.mem_append.1 h with h | h
    · exact hp l h
    · rw [List.mem_singleton] at h; rw [h]; exact ltr_top
  have hne : pre ++ [topS] ≠ [] := by simp
  have hg : ∀ l ∈ pre ++ [topS], GoodB l := fun l h => ltr_good (hL l h)
  have hlast : looksQ (lastQ ((pre ++ [topS]).map (·.data.toList))) = false := by
    rw [lastQ, List.getLast?_map, List.getLast?_append]
    show looksQ topS.data.toList = false
    decide +kernel
  have hNM : NoMach (pre ++ [topS]) := ⟨hg, hlast, fun l h c hc => (ltr_byte ((hL l h).2.2.1 c hc)).2.2.2.1⟩
  have hsz := dotJ_le 31 (pre ++ [topS]) (fun l h => (hL l h).2.1)
  rw [List.length_append] at hsz
  have hN : NameX (dotJ (pre ++ [topS])) := by
    refine ⟨_, hne, hg, rfl, ?_, ?_, .inl ?_⟩
    · rw [foulL, List.any_eq_false]
      intro c hc
      rw [dotJ_data] at hc
      rw [Bool.not_eq_true]
      rcases mem_join _ hc with rfl | ⟨p, hpm, hcp⟩
      · decide
      · obtain ⟨l, hl, rfl⟩ := List.mem_map.1 hpm
        exact (ltr_byte ((hL l hl).2.2.1 c hcp)).2.2.2.2.2.1
    · have : [topS].length = 1 := rfl
      omega
    · rw [dot_fst hne hg, hlast]
  refine ⟨?_, rawB_dot hne (fun l h => (hg l h).2.2.2.2.2)⟩
  rw [nameB, decide_eq_true hN.host.1, hNM.mach hne]; rfl

/- The rules. -/
def markR (x : ByteArray) : ByteArray := ⟨#[33]⟩ ++ x ++ ⟨#[46, 116, 111, 112]⟩
def starR : ByteArray := ⟨#[42, 46, 116, 111, 112]⟩
theorem star_bare : bareL starR = [⟨#[42]⟩, topS] ∧ exB starR = false ∧ ruleB starR = true := by decide +kernel
theorem dot_top (y : ByteArray) : y ++ ⟨#[46, 116, 111, 112]⟩ = dotJ [y, topS] := by
  rw [dot_cons y (by simp), dotJ_one]
  refine ba_of ?_
  simp only [ByteArray.data_append, Array.toList_append]
  rw [List.append_assoc]; rfl
theorem dot_z (y : ByteArray) : (⟨#[122, 46]⟩ : ByteArray) ++ y ++ ⟨#[46, 116, 111, 112]⟩ = dotJ [zS, y, topS] := by
  rw [dot_cons zS (by simp), ← dot_top]
  refine ba_of ?_
  simp only [ByteArray.data_append, Array.toList_append]
  rw [List.append_assoc]; rfl
theorem mark_bareS (x : ByteArray) : exB (markR x) = true ∧ bareS (markR x) = dotJ [x, topS] := by
  have hd : (markR x).data.toList = 33 :: (x ++ ⟨#[46, 116, 111, 112]⟩ : ByteArray).data.toList := by
    rw [markR]
    simp only [ByteArray.data_append, Array.toList_append]
    rw [List.append_assoc]; rfl
  have he : exB (markR x) = true := by
    rw [exB, hd]
    simp [Lib.hasPrefix, List.isPrefixOf]
  refine ⟨he, ?_⟩
  rw [← dot_top]
  refine ba_of ?_
  show Lib.trimPrefix (markR x).data.toList [33] = _
  rw [Lib.trimPrefix, if_pos (show Lib.hasPrefix (markR x).data.toList [33] = true from he), hd]; rfl
theorem ltr_raw {x : ByteArray} (h : Ltr x) : rawB 46 (dotJ [x, topS]) = [x, topS] :=
  (ltr_host (pre := [x]) (fun l hl => by rw [List.mem_singleton] at hl; rw [hl]; exact h) (by simp)).2
theorem ltr_part {x : ByteArray} (h : Ltr x) : partB x = true := by
  obtain ⟨h1, h2, h3, _⟩ := h
  rw [partB, decide_eq_true h1, decide_eq_true (show x.size ≤ 63 by omega)]
  rw [show x.data.toList.all sgnB = true from List.all_eq_true.2 (fun c hc => (ltr_byte (h3 c hc)).2.2.2.2.2.2)]; rfl
theorem mark_bare {x : ByteArray} (h : Ltr x) : bareL (markR x) = [x, topS] ∧ exB (markR x) = true ∧ ruleB (markR x) = true := by
  obtain ⟨h1, h2⟩ := mark_bareS x
  have h3 := ltr_raw h
  refine ⟨by rw [bareL, h2, h3], h1, ?_⟩
  have hsz := dotJ_le 31 [x, topS] (fun l hl => by
    rcases List.mem_cons.1 hl with rfl | hl
    · exact h.2.1
    · rw [List.mem_singleton] at hl; rw [hl]; decide)
  have hp : pointB (dotJ [x, topS]) = true := (raw_two _).1 (by rw [h3]; simp)
  rw [ruleB, h1, if_pos rfl, h2, hp, partsB, h3, decide_eq_true (by simp at hsz; omega), List.all_cons, List.all_cons, ltr_part h, ltr_part ltr_top]; rfl
def stRules (x : ByteArray) : List ByteArray := [starR, markR x]
theorem st_rules {x : ByteArray} (h : Ltr x) : rulesB (stRules x) = true := by
  rw [rulesB, stRules, List.all_cons, List.all_cons, star_bare.2.2, (mark_bare h).2.2]; rfl
theorem fits_last {pre : List ByteArray} (p q : ByteArray) : fitsB [p, topS] (pre ++ [q, topS]) = (decide (p = ⟨#[42]⟩) || decide (p = q)) := by
  have hl : (pre ++ [q, topS]).length = pre.length + 2 := by simp
  rw [fitsB, hl, decide_eq_true (show ([p, topS] : List ByteArray).length ≤ pre.length + 2 by simp), Bool.true_and]
  show (List.range 2).all _ = _
  rw [show List.range 2 = [0, 1] from rfl, List.all_cons, List.all_cons, List.all_nil]
  show ((decide (some p = some (⟨#[42]⟩ : ByteArray)) || decide (some p = (pre ++ [q, topS])[pre.length + 2 - 2 + 0]?)) && ((decide (some topS = some (⟨#[42]⟩ : ByteArray)) || decide (some topS = (pre ++ [q, topS])[pre.length + 2 - 2 + 1]?)) && true)) = _
  rw [show pre.length + 2 - 2 + 0 = pre.length by omega, show pre.length + 2 - 2 + 1 = pre.length + 1 by omega, List.getElem?_append_right (by omega), List.getElem?_append_right (by omega), Nat.sub_self, show pre.length + 1 - pre.length = 1 by omega]
  show ((decide (some p = some (⟨#[42]⟩ : ByteArray)) || decide (some p = some q)) && ((decide (some topS = some (⟨#[42]⟩ : ByteArray)) || decide (some topS = some topS)) && true)) = _
  rw [decide_eq_true (show some topS = some topS from rfl), Bool.or_true, Bool.true_and, Bool.and_true]
  simp
theorem many_other {x q : ByteArray} (h : Ltr x) (hx : x ≠ q) (hs : x ≠ ⟨#[42]⟩) (pre : List ByteArray) : manyN (stRules x) (pre ++ [q, topS]) = 2 := by
  rw [manyN, fitL, stRules, List.flatMap_cons, List.flatMap_cons, List.flatMap_nil, fit1, fit1, star_bare.1, (mark_bare h).1, fits_last, fits_last, star_bare.2.1, decide_eq_true rfl, decide_eq_false hx, decide_eq_false hs]
  rfl
theorem many_same {x : ByteArray} (h : Ltr x) (pre : List ByteArray) : manyN (stRules x) (pre ++ [x, topS]) = 1 := by
  rw [manyN, fitL, stRules, List.flatMap_cons, List.flatMap_cons, List.flatMap_nil, fit1, fit1, star_bare.1, (mark_bare h).1, fits_last, fits_last, star_bare.2.1, (mark_bare h).2.1, decide_eq_true rfl, decide_eq_true (show x = x from rfl), Bool.or_true]
  rfl
theorem ltr_nostar {x : ByteArray} (h : Ltr x) : x ≠ ⟨#[42]⟩ := fun e => by
  have := h.2.2.1 42 (by rw [e]; exact List.mem_singleton.2 rfl)
  exact absurd this (by decide)
theorem st_facts {x y : ByteArray} (hx : Ltr x) (hy : Ltr y) (hxy : x ≠ y) :
    sufT (stRules x) (y ++ ⟨#[46, 116, 111, 112]⟩) 0 = (y ++ ⟨#[46, 116, 111, 112]⟩, 0) ∧ sufT (stRules x) (x ++ ⟨#[46, 116, 111, 112]⟩) 0 = (topS, 0) ∧
    sufT (stRules x) (⟨#[122, 46]⟩ ++ y ++ ⟨#[46, 116, 111, 112]⟩) 1 = (⟨#[122, 46]⟩ ++ y ++ ⟨#[46, 116, 111, 112]⟩, 0) ∧ sufT (stRules x) (⟨#[122, 46]⟩ ++ x ++ ⟨#[46, 116, 111, 112]⟩) 1 = (x ++ ⟨#[46, 116, 111, 112]⟩, 0) := by
  have one : ∀ {y : ByteArray}, Ltr y → nameB (dotJ [y, topS]) = true ∧ rawB 46 (dotJ [y, topS]) = [y, topS] := fun {y} h => ltr_host (pre := [y]) (fun l hl => by rw [List.mem_singleton] at hl; rw [hl]; exact h) (by simp)
  have two : ∀ {y : ByteArray}, Ltr y → nameB (dotJ [zS, y, topS]) = true ∧ rawB 46 (dotJ [zS, y, topS]) = [zS, y, topS] := fun {y} h => ltr_host (pre := [zS, y]) (fun l hl => by
    rcases List.mem_cons.1 hl with rfl | hl
    · exact ltr_z
    · rw [List.mem_singleton] at hl; rw [hl]; exact h) (by simp)
  have hr := st_rules hx
  have ns := ltr_nostar hx
  have m1 := many_other hx hxy ns []
  have m2 := many_same hx []
  have m3 := many_other hx hxy ns [zS]
  have m4 := many_same hx [zS]
  rw [List.nil_append] at m1 m2
  rw [show [zS] ++ [y, topS] = [zS, y, topS] from rfl] at m3
  rw [show [zS] ++ [x, topS] = [zS, x, topS] from rfl] at m4
  rw [dot_top, dot_top, dot_z, dot_z]
  refine ⟨?_, ?_, ?_, ?_⟩
  · rw [sufT, hr, (one hy).1, (one hy).2, m1, if_neg (by simp), if_neg (by simp), if_neg (by simp)]; rfl
  · rw [sufT, hr, (one hx).1, (one hx).2, m2, if_neg (by simp), if_neg (by simp), if_neg (by simp)]
    show (dotJ [topS], 0) = _
    rw [dotJ_one]
  · rw [sufT, hr, (two hy).1, (two hy).2, m3, if_neg (by simp), if_neg (by simp), if_neg (by simp)]; rfl
  · rw [sufT, hr, (two hx).1, (two hx).2, m4, if_neg (by simp), if_neg (by simp), if_neg (by simp)]; rfl

end Go.Proofs.YtdifdikfgkiocaaGreatDoor
