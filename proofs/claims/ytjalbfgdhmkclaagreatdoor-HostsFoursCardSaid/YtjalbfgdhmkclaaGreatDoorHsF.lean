/-
  Plain words on hosts: what is read as four bytes is a host; four bytes in brackets are none.
-/
import Derived.Test.YtjalbfgdhmkclaaGreatDoorHsP
import Derived.Test.YtjalbfgdhmkclaaGreatDoorMpJ
namespace Go.Proofs.YtjalbfgdhmkclaaGreatDoor
open Go.RowKit

/-- A digit, or the letter behind the nought. -/
def hexX (c : UInt8) : Bool := dig 16 c || decide (c = 120) || decide (c = 88)
theorem dig_mono {a b : Nat} (h : a ≤ b) {c : UInt8} (hc : dig a c = true) : dig b c = true := by
  rw [dig, decide_eq_true_eq] at hc ⊢; omega
theorem cnt_dig {b : Nat} {q : List UInt8} (h : (cnt b q).isSome = true) : ∀ c ∈ q, dig b c = true := by
  rw [cnt] at h
  split at h
  · rename_i h2
    exact List.all_eq_true.1 h2
  · cases h
theorem num_first {q : List UInt8} (h : (numD q).isSome = true) : (∃ c r, q = c :: r ∧ dig 10 c = true) ∧ ∀ x ∈ q, hexX x = true := by
  have hx : ∀ c, dig 16 c = true → hexX c = true := fun c hc => by rw [hexX, hc]; rfl
  have h48 : dig 10 48 = true := by decide
  unfold numD at h
  split at h
  · rename_i hX
    match q, hX, h with
    | a :: b :: r, hX, h =>
      have h1 := cnt_dig h
      simp only [isX, Bool.and_eq_true, decide_eq_true_eq, Bool.or_eq_true] at hX
      obtain ⟨rfl, hb⟩ := hX
      refine ⟨⟨48, b :: r, rfl, h48⟩, fun x hm => ?_⟩
      rcases List.mem_cons.1 hm with rfl | hm
      · decide
      · rcases List.mem_cons.1 hm with rfl | hm
        · rcases hb with rfl | rfl <;> decide
        · exact hx x (h1 x hm)
  · split at h
    · rename_i h2
      match q, h2, h with
      | a :: r, h2, h =>
        have h1 := cnt_dig h
        have ha : a = 48 := by
          have := h2.2
          injection this
        subst ha
        refine ⟨⟨48, r, rfl, h48⟩, fun x hm => ?_⟩
        rcases List.mem_cons.1 hm with rfl | hm
        · decide
        · exact hx x (dig_mono (by omega) (h1 x hm))
    · split at h
      · cases h
      · rename_i h3
        have h1 := cnt_dig h
        match q, h3, h1 with
        | a :: r, _, h1 => exact ⟨⟨a, r, rfl, h1 a List.mem_cons_self⟩, fun x hm => hx x (dig_mono (by omega) (h1 x hm))⟩
theorem evs_parts : ∀ (P : List (List UInt8)) (ns : List Nat), evs num1 num1 P = some ns → ∀ q ∈ P, (numD q).isSome = true
  | [], ns, h, q, hq => by cases hq
  | [p], ns, h, q, hq => by
    rw [List.mem_singleton] at hq
    subst hq
    have h : num1 q = some ns := h
    unfold num1 at h
    cases e : numD q with
    | none => rw [e] at h; cases h
    | some n => rfl
  | p :: p2 :: P, ns, h, q, hq => by
    rw [evs_cons _ _ _ (by simp)] at h
    cases e : num1 p with
    | none => rw [e] at h; cases h
    | some m =>
      rw [e] at h
      cases e2 : evs num1 num1 (p2 :: P) with
      | none => rw [e2] at h; cases h
      | some ms =>
        rcases List.mem_cons.1 hq with rfl | hq
        · unfold num1 at e
          cases e3 : numD q with
          | none => rw [e3] at e; cases e
          | some n => rfl
        · exact evs_parts (p2 :: P) ms e2 q hq
theorem four_parts {l : List UInt8} {a : List Nat} (h : fourD l = (true, some a)) : ∀ q ∈ pts 46 (trimP l), (numD q).isSome = true := by
  unfold fourD at h
  split at h
  · injection h with _ h
    split at h
    · cases h
    · cases e : evs num1 num1 (pts 46 (trimP l)) with
      | none => rw [e] at h; cases h
      | some ns => exact evs_parts _ ns e
  · injection h with h _; cases h
theorem hexX_facts : ∀ c : UInt8, hexX c = true → c ≠ 37 ∧ c ≠ 91 ∧ c.toNat < 128 ∧ foulB (low c) = false := by
  have h : ∀ n : Fin 256, hexX (UInt8.ofNat n.1) = true → UInt8.ofNat n.1 ≠ 37 ∧ UInt8.ofNat n.1 ≠ 91 ∧ (UInt8.ofNat n.1).toNat < 128 ∧ foulB (low (UInt8.ofNat n.1)) = false := by decide +kernel
  intro c hc
  have := h ⟨c.toNat, c.toNat_lt⟩
  simp only [UInt8.ofNat_toNat] at this
  exact this hc
theorem dig_low120 : ∀ c : UInt8, dig 10 c = true → low c ≠ 120 := by
  have h : ∀ n : Fin 256, dig 10 (UInt8.ofNat n.1) = true → low (UInt8.ofNat n.1) ≠ 120 := by decide +kernel
  intro c hc
  have := h ⟨c.toNat, c.toNat_lt⟩
  simp only [UInt8.ofNat_toNat] at this
  exact this hc
theorem low_join : ∀ L : List (List UInt8), Lib.join (L.map (List.map low)) [46] = (Lib.join L [46]).map low
  | [] => rfl
  | [x] => by rw [List.map_cons, List.map_nil, Lib.join_one, Lib.join_one]
  | x :: y :: r => by
    have ih := low_join (y :: r)
    rw [List.map_cons] at ih
    rw [List.map_cons, List.map_cons, join_split, ih, join_split, List.map_append, List.map_cons]; rfl
theorem trimP_bytes (l : List UInt8) : ∀ c ∈ l, c = 46 ∨ c ∈ trimP l := by
  intro c hc
  rw [trimP]
  split
  · rename_i h
    have hne : l ≠ [] := fun e => by rw [e] at hc; cases hc
    rw [List.getLast?_eq_some_getLast hne] at h
    injection h with h
    rw [← List.dropLast_concat_getLast hne] at hc
    rcases List.mem_append.1 hc with hc | hc
    · exact .inr hc
    · rw [List.mem_singleton, h] at hc; exact .inl hc
  · exact .inr hc
theorem trimP_size (l : List UInt8) : (trimP l).length ≤ l.length := by
  rw [trimP]; split
  · rw [List.length_dropLast]; omega
  · exact Nat.le_refl _
theorem lab_num {q : List UInt8} (h : (numD q).isSome = true) (hs : q.length ≤ 63) : labT (asB q) = (asB (q.map low), 0) := by
  obtain ⟨⟨c, r, rfl, hc⟩, hx⟩ := num_first h
  have hp : plainL (asB (c :: r)).data.toList = true := by
    rw [plainL, List.all_eq_true]
    intro x hm
    have := (hexX_facts x (hx x hm)).2.2.1
    simpa using this
  have hpre : Lib.hasPrefix (lowS (asB (c :: r))).data.toList [120, 110, 45, 45] = false := by
    rw [lowS_data]
    show List.isPrefixOf [120, 110, 45, 45] (low c :: r.map low) = false
    rw [List.isPrefixOf]
    rw [show ((120 : UInt8) == low c) = false from beq_eq_false_iff_ne.2 (fun e => dig_low120 c hc e.symm)]; rfl
  rw [lab_plain _ hp hpre, if_neg (by rw [asB_size]; simp), if_neg (by rw [asB_size]; omega)]; rfl
/-- What is read as four bytes is a host. -/
theorem four_named {s : ByteArray} {a : List Nat} (h : fourD s.data.toList = (true, some a)) (hs : s.size ≤ 63) : hostO s = some (asB (textD false (six0 a))) := by
  have hl := lenB s
  have hq := four_parts h
  have hts := trimP_size s.data.toList
  have hpl : ∀ q ∈ pts 46 (trimP s.data.toList), q.length ≤ 63 := fun q hm => by
    have := pts_size 46 _ q hm
    omega
  have hgood : ∀ q ∈ pts 46 (trimP s.data.toList), q ≠ [] ∧ ∀ c ∈ q, c ≠ 46 := fun q hm => by
    obtain ⟨⟨c, r, e, _⟩, _⟩ := num_first (hq q hm)
    exact ⟨by rw [e]; simp, fun c hc => (pts_mem 46 _ q hm c hc).2⟩
  have hbt : ∀ c ∈ trimP s.data.toList, c = 46 ∨ hexX c = true := fun c hc => by
    have e := join_pts 46 (trimP s.data.toList)
    rw [← e] at hc
    rcases mem_join _ hc with hc | ⟨q, hm, hc⟩
    · exact .inl hc
    · exact .inr ((num_first (hq q hm)).2 c hc)
  have hb : ∀ c ∈ s.data.toList, c ≠ 37 ∧ c ≠ 91 := fun c hc => by
    rcases trimP_bytes _ c hc with rfl | hc
    · decide
    · rcases hbt c hc with rfl | hc
      · decide
      · exact ⟨(hexX_facts c hc).1, (hexX_facts c hc).2.1⟩
  have hraw : rawB 46 (trimD s) = (pts 46 (trimP s.data.toList)).map asB := by
    rw [rawB_eq, show (trimD s).data.toList = trimP s.data.toList from trimS_eq _]
  have hlabs : labsT (rawB 46 (trimD s)) = some ((pts 46 (trimP s.data.toList)).map fun q => asB (q.map low)) := by
    rw [hraw, labs_all (fun p hp => by
      obtain ⟨q, hm, rfl⟩ := List.mem_map.1 hp
      rw [lab_num (hq q hm) (hpl q hm)]), List.map_map]
    refine congrArg some (List.map_congr_left fun q hm => ?_)
    show (labT (asB q)).1 = _
    rw [lab_num (hq q hm) (hpl q hm)]
  have hn : dotJ ((pts 46 (trimP s.data.toList)).map fun q => asB (q.map low)) = asB ((trimP s.data.toList).map low) := by
    refine ba_of ?_
    rw [dotJ_data, List.map_map, show (fun q : ByteArray => q.data.toList) ∘ (fun q : List UInt8 => asB (q.map low)) = List.map low from rfl, low_join, join_pts]; rfl
  have hfoul : foulL (asB ((trimP s.data.toList).map low)).data.toList = false := by
    rw [foulL, List.any_eq_false]
    intro c hc
    obtain ⟨d, hd, rfl⟩ := List.mem_map.1 (show c ∈ (trimP s.data.toList).map low from hc)
    rw [Bool.not_eq_true]
    rcases hbt d hd with rfl | hd
    · decide
    · exact (hexX_facts d hd).2.2.2
  have hlast : (trimP s.data.toList).getLast? ≠ some 46 := by
    have e := join_pts 46 (trimP s.data.toList)
    have hne := pts_ne 46 (trimP s.data.toList)
    cases e2 : pts 46 (trimP s.data.toList) with
    | nil => contradiction
    | cons x r =>
      rw [e2] at e hgood
      rw [← e]
      exact (join_last 46 x r hgood).2
  have hfour : fourD (asB ((trimP s.data.toList).map low)).data.toList = (true, some a) := by
    show fourD ((trimP s.data.toList).map low) = _
    rw [fourD_low, ← h]
    unfold fourD
    rw [trimP_id hlast]
  rw [hostO, if_neg (fun e => (hb 91 (head_mem e)).2 rfl), decS_self (fun c hc => (hb c hc).1), namedT, hlabs]
  show endT (dotJ _) = _
  rw [hn, endT, hfoul, if_neg (by simp), if_neg (by rw [asB_size, List.length_map]; omega), fourT, hfour]
theorem hs_cut2_no : ∀ l : List UInt8, (∀ c ∈ l, c ≠ 58) → cut2 l = none
  | [], _ => rfl
  | c :: r, h => by
    have hc : ((58 : UInt8) == c) = false := beq_eq_false_iff_ne.2 (fun e => h c List.mem_cons_self e.symm)
    rw [cut2, if_neg (by rw [List.isPrefixOf, hc]; simp), hs_cut2_no r (fun x hx => h x (List.mem_cons_of_mem _ hx))]
theorem two4_len {l ns : List Nat} (h : two4 l = some ns) : ns.length = 2 := by
  unfold two4 at h
  split at h
  · injection h with h; subst h; rfl
  · cases h
theorem six_no58 {l : List UInt8} (h : ∀ c ∈ l, c ≠ 58) : sixD l = none := by
  rw [sixD, hs_cut2_no l h]
  simp only
  cases e : piecesD true l with
  | none => rfl
  | some ps =>
    have hlen : ps.length ≠ 8 := by
      unfold piecesD at e
      split at e
      · injection e with e; subst e; simp
      · rw [pts_none 58 l h] at e
        have e : both1 l = some ps := e
        unfold both1 at e
        split at e
        · rename_i n hn
          injection e with e; subst e
          unfold pc1 at hn
          split at hn
          · split at hn
            · injection hn with hn; subst hn; simp
            · cases hn
          · cases hn
        · unfold four1 at e
          split at e
          · rw [two4_len e]; simp
          · cases e
    simp only
    rw [if_neg hlen]
theorem num58 : ∀ n : Fin 256, (numF 10 4 n.1).all (fun c => c != 58) = true := by decide +kernel
theorem four4_brack {b0 b1 b2 b3 : Nat} (h0 : b0 < 256) (h1 : b1 < 256) (h2 : b2 < 256) (h3 : b3 < 256) : hostO (⟨#[91]⟩ ++ four4 b0 b1 b2 b3 ++ ⟨#[93]⟩) = none := by
  have e : ((⟨#[91]⟩ : ByteArray) ++ four4 b0 b1 b2 b3 ++ ⟨#[93]⟩).data.toList = 91 :: ((four4 b0 b1 b2 b3).data.toList ++ [93]) := by
    rw [ByteArray.data_append, Array.toList_append, ByteArray.data_append, Array.toList_append]; rfl
  have hn : ∀ n, n < 256 → ∀ c ∈ numF 10 4 n, c ≠ 58 := fun n h c hc => by
    have := List.all_eq_true.1 (num58 ⟨n, h⟩) c hc
    simpa using this
  rw [hostO, e, if_pos (show (91 :: ((four4 b0 b1 b2 b3).data.toList ++ [93])).head? = some 91 from rfl), List.drop_succ_cons, List.drop_zero, brackT, if_pos (by simp), List.dropLast_concat, six_no58 (fun c hc => ?_)]
  rw [four4_data] at hc
  simp only [List.mem_append, List.mem_cons] at hc
  rcases hc with h | rfl | h | rfl | h | rfl | h
  · exact hn _ h0 c h
  · decide
  · exact hn _ h1 c h
  · decide
  · exact hn _ h2 c h
  · decide
  · exact hn _ h3 c h

end Go.Proofs.YtjalbfgdhmkclaaGreatDoor
