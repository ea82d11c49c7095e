/-
  Plain words on suffixes: whose names are whose; without rules; rules in another order.
-/
import Derived.Test.YtdifdikfgkiocaaGreatDoorSxM
namespace Go.Proofs.YtdifdikfgkiocaaGreatDoor
open Go.RowKit

theorem nameB_name {h : ByteArray} (hs : h.size ≤ 1000) (hn : nameB h = true) : NameX h ∧ machB h = false := by
  rw [nameB, Bool.and_eq_true, decide_eq_true_eq, Bool.not_eq_true'] at hn
  rcases host_made hs hn.1 with h1 | h1
  · exact ⟨h1, hn.2⟩
  · have := h1.mach; rw [this] at hn; cases hn.2
theorem up_labels {L : List ByteArray} (h : NoMach L) (i : Nat) (hi : i < L.length) : labelsL (upS L i) = L.drop i := by
  obtain ⟨h1, h2⟩ := h.up i hi
  have hne : L.drop i ≠ [] := by
    intro e
    have := congrArg List.length e
    simp at this; omega
  rw [labelsL, if_neg (by omega), h1, if_neg (by simp), upS, rawB_dot hne (fun l hl => (h.good l (List.mem_of_mem_drop hl)).2.2.2.2.2)]
theorem sx_labels {h : ByteArray} (hs : h.size ≤ 1000) (hn : nameB h = true) : labelsL h = rawB 46 h ∧ NoMach (rawB 46 h) ∧ upS (rawB 46 h) 0 = h ∧ rawB 46 h ≠ [] ∧ h.size ≤ 253 ∧ 0 < h.size := by
  obtain ⟨h1, h2⟩ := nameB_name hs hn
  obtain ⟨h3, h4⟩ := h1.size
  refine ⟨by rw [labelsL, if_neg (by omega), h2, if_neg (by simp)], h1.noMach h2, ?_, rawB_ne 46 h, h4, h3⟩
  rw [up_zero]; exact h1.parts.2.2
theorem up_le {L : List ByteArray} (i : Nat) (h : i < L.length) : (upS L i).size ≤ (upS L 0).size := by
  by_cases e : i = 0
  · rw [e]; exact Nat.le_refl _
  · exact Nat.le_of_lt (up_size L 0 i (by omega) h)
/-- What Suffix and Own answer together. -/
theorem below_facts (R : List ByteArray) {h : ByteArray} (hs : h.size ≤ 1000) :
    (∃ c : Int, (c = 1 ∨ c = 5) ∧ sufT R h 0 = (⟨#[]⟩, c) ∧ sufT R h 1 = (⟨#[]⟩, c)) ∨
    ∃ E O : ByteArray, sufT R h 0 = (E, 0) ∧ sufT R h 1 = (O, 0) ∧ 0 < E.size ∧ E.size ≤ 253 ∧ O.size ≤ 253 ∧ belowB h E = true ∧
      ((O = ⟨#[]⟩ ∧ h = E) ∨ (0 < O.size ∧ belowB h O = true ∧ belowB O E = true ∧ (labelsL O).length = (labelsL E).length + 1)) := by
  by_cases hr : rulesB R = false
  · exact .inl ⟨1, .inl rfl, by rw [sufT, if_pos hr], by rw [sufT, if_pos hr]⟩
  by_cases hn : nameB h = false
  · exact .inl ⟨5, .inr rfl, by rw [sufT, if_neg hr, if_pos hn], by rw [sufT, if_neg hr, if_pos hn]⟩
  refine .inr ?_
  obtain ⟨-, h2, h3, h4, h5, -⟩ := sx_labels hs (by simpa using hn)
  obtain ⟨L, hL⟩ : ∃ L, rawB 46 h = L := ⟨_, rfl⟩
  rw [hL] at h2 h3 h4
  obtain ⟨N, hN⟩ : ∃ N, manyN R L = N := ⟨_, rfl⟩
  have hN1 : 1 ≤ N := by rw [← hN]; exact manyN_pos L (by simpa using hr)
  have hN2 : N ≤ L.length := by rw [← hN]; exact manyN_le R L h4
  have hE := up_le (L := L) (L.length - N) (by omega)
  rw [h3] at hE
  refine ⟨upS L (L.length - N), if L.length < N + 1 then ⟨#[]⟩ else upS L (L.length - (N + 1)), ?_, ?_, (h2.up _ (by omega)).2, by omega, ?_, ?_, ?_⟩
  · rw [sufT, if_neg hr, if_neg hn, hL, hN, if_neg (by omega)]; rfl
  · rw [sufT, if_neg hr, if_neg hn, hL, hN]
    split
    · rfl
    · rfl
  · split
    · exact Nat.zero_le _
    · have := up_le (L := L) (L.length - (N + 1)) (by omega)
      rw [h3] at this; omega
  · have := h2.below 0 (L.length - N) (by omega) (by omega)
    rwa [h3] at this
  · by_cases hlt : L.length < N + 1
    · rw [if_pos hlt]
      exact .inl ⟨rfl, by rw [show L.length - N = 0 by omega, h3]⟩
    · rw [if_neg hlt]
      refine .inr ⟨(h2.up _ (by omega)).2, ?_, h2.below _ _ (by omega) (by omega), ?_⟩
      · have := h2.below 0 (L.length - (N + 1)) (by omega) (by omega)
        rwa [h3] at this
      · rw [up_labels h2 _ (by omega), up_labels h2 _ (by omega), List.length_drop, List.length_drop]; omega

/- Without rules. -/
theorem dotJ_one (x : ByteArray) : dotJ [x] = x := by
  refine ba_of ?_
  rw [dotJ_data, List.map_cons, List.map_nil, Lib.join_one]
theorem drop_last1 (L : List ByteArray) (h : 1 ≤ L.length) : L.drop (L.length - 1) = [L[L.length - 1]] := by
  rw [List.drop_eq_getElem_cons (by omega)]
  congr 1
  exact List.drop_of_length_le (by omega)
theorem drop_last2 (L : List ByteArray) (h : 2 ≤ L.length) : L.drop (L.length - 2) = [L[L.length - 2], L[L.length - 1]] := by
  rw [List.drop_eq_getElem_cons (by omega)]
  congr 1
  have := drop_last1 L (by omega)
  rw [← this]
  congr 1; omega
theorem none_facts {h : ByteArray} (hs : h.size ≤ 1000) (hn : nameB h = true) :
    ∃ L : List ByteArray, labelsL h = L ∧ ∃ hl : 1 ≤ L.length, sufT [] h 0 = (L[L.length - 1], 0) ∧ (L.length = 1 → sufT [] h 1 = (⟨#[]⟩, 0)) ∧
      ∀ (h2 : 2 ≤ L.length), sufT [] h 1 = (L[L.length - 2] ++ ⟨#[46]⟩ ++ L[L.length - 1], 0) := by
  obtain ⟨h1, -, -, h4, -, -⟩ := sx_labels hs hn
  have hl := List.length_pos_iff.2 h4
  have hr : rulesB [] = true := rfl
  have hm : ∀ H, manyN [] H = 1 := fun _ => rfl
  refine ⟨rawB 46 h, h1, hl, ?_, fun h2 => ?_, fun h2 => ?_⟩
  · rw [sufT, hr, hn, if_neg (by simp), if_neg (by simp), hm, if_neg (by omega), lastB, drop_last1 _ hl, dotJ_one]
  · rw [sufT, hr, hn, if_neg (by simp), if_neg (by simp), hm, if_pos (by omega)]
  · rw [sufT, hr, hn, if_neg (by simp), if_neg (by simp), hm, if_neg (by omega), lastB, drop_last2 _ h2, dot_cons _ (by simp), dotJ_one]

/- In another order. -/
theorem sufN_iff (N : Nat) : ∀ (A : List (Nat × Bool)) (m : Nat), (∀ x ∈ A, x.2 = false) → (sufN A m ≤ N ↔ m ≤ N ∧ ∀ x ∈ A, x.1 ≤ N)
  | [], m, _ => by simp [sufN]
  | (n, true) :: A, m, h => by have := h (n, true) List.mem_cons_self; cases this
  | (n, false) :: A, m, h => by
    rw [sufN, sufN_iff N A _ (fun x hx => h x (List.mem_cons_of_mem _ hx))]
    constructor
    · rintro ⟨h1, h2⟩
      refine ⟨by omega, fun x hx => ?_⟩
      rcases List.mem_cons.1 hx with rfl | hx
      · show n ≤ N; omega
      · exact h2 x hx
    · rintro ⟨h1, h2⟩
      refine ⟨?_, fun x hx => h2 x (List.mem_cons_of_mem _ hx)⟩
      have := h2 (n, false) List.mem_cons_self
      simp at this; omega
theorem sufN_same {A B : List (Nat × Bool)} (m : Nat) (hA : ∀ x ∈ A, x.2 = false) (hB : ∀ x ∈ B, x.2 = false) (h : ∀ x, x ∈ A ↔ x ∈ B) : sufN A m = sufN B m := by
  have key : ∀ N, sufN A m ≤ N ↔ sufN B m ≤ N := fun N => by
    rw [sufN_iff N A m hA, sufN_iff N B m hB]
    exact and_congr_right fun _ => ⟨fun h1 x hx => h1 x ((h x).2 hx), fun h1 x hx => h1 x ((h x).1 hx)⟩
  exact Nat.le_antisymm ((key _).2 (Nat.le_refl _)) ((key _).1 (Nat.le_refl _))
theorem fitL_mem_of {R H : List ByteArray} {r : ByteArray} (h : r ∈ R) (hf : fitsB (bareL r) H = true) : ((bareL r).length, exB r) ∈ fitL R H := by
  rw [fitL, List.mem_flatMap]
  refine ⟨r, h, ?_⟩
  rw [fit1, if_pos hf]; exact List.mem_cons_self
theorem suf_order {R T : List ByteArray} (hm : ∀ r, r ∈ R ↔ r ∈ T) (hR : R.length ≤ 1024) (hT : T.length ≤ 1024) (hx : ∀ r ∈ R, exB r = false) (h : ByteArray) (k : Nat) : sufT R h k = sufT T h k := by
  have h1 : rulesB R = rulesB T := by
    rw [rulesB, rulesB, decide_eq_true hR, decide_eq_true hT, Bool.true_and, Bool.true_and, Bool.eq_iff_iff, List.all_eq_true, List.all_eq_true]
    exact ⟨fun h x hx => h x ((hm x).2 hx), fun h x hx => h x ((hm x).1 hx)⟩
  have h2 : ∀ H, manyN R H = manyN T H := fun H => by
    refine sufN_same 1 (fun x hx' => ?_) (fun x hx' => ?_) (fun x => ⟨fun hx' => ?_, fun hx' => ?_⟩)
    · obtain ⟨r, hr, _, rfl⟩ := fitL_mem hx'
      exact hx r hr
    · obtain ⟨r, hr, _, rfl⟩ := fitL_mem hx'
      exact hx r ((hm r).2 hr)
    · obtain ⟨r, hr, hf, rfl⟩ := fitL_mem hx'
      exact fitL_mem_of ((hm r).1 hr) hf
    · obtain ⟨r, hr, hf, rfl⟩ := fitL_mem hx'
      exact fitL_mem_of ((hm r).2 hr) hf
  rw [sufT, sufT, h1, h2]

end Go.Proofs.YtdifdikfgkiocaaGreatDoor
