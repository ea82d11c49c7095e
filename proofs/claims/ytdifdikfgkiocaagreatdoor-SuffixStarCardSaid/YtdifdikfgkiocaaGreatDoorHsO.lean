/-
  Plain words on hosts: parts that may be asked for, with points between.
-/
import Derived.Test.YtdifdikfgkiocaaGreatDoorHsP
namespace Go.Proofs.YtdifdikfgkiocaaGreatDoor
open Go.RowKit

/-- A small letter, a digit, a hyphen, or no plain sign. -/
def lowP (c : UInt8) : Bool := decide (97 ≤ c.toNat ∧ c.toNat ≤ 122) || decide (48 ≤ c.toNat ∧ c.toNat ≤ 57) || decide (c.toNat = 45) || decide (128 ≤ c.toNat)
theorem lowP_facts : ∀ c : UInt8, lowP c = true → low c = c ∧ c ≠ 46 ∧ c ≠ 37 ∧ c ≠ 91 ∧ (c.toNat < 128 → foulB c = false) := by
  have h : ∀ n : Fin 256, lowP (UInt8.ofNat n.1) = true → low (UInt8.ofNat n.1) = UInt8.ofNat n.1 ∧ UInt8.ofNat n.1 ≠ 46 ∧ UInt8.ofNat n.1 ≠ 37 ∧ UInt8.ofNat n.1 ≠ 91 ∧ ((UInt8.ofNat n.1).toNat < 128 → foulB (UInt8.ofNat n.1) = false) := by decide +kernel
  intro c hc
  have := h ⟨c.toNat, c.toNat_lt⟩
  simp only [UInt8.ofNat_toNat] at this
  exact this hc
theorem let_ok (d : Nat) (h : d < 36) : foulB (letL d) = false := by
  have hd : ∀ d : Fin 36, foulB (letL d.1) = false := by decide +kernel
  exact hd ⟨d, h⟩
theorem low_self {s : ByteArray} (h : ∀ c ∈ s.data.toList, lowP c = true) : lowS s = s := by
  refine ba_of ?_
  rw [lowS_data]
  conv => rhs; rw [← List.map_id s.data.toList]
  exact List.map_congr_left (fun c hc => (lowP_facts c (h c hc)).1)
/-- No byte that no name has comes out of such a part. -/
theorem lab_clean (s : ByteArray) (h : ∀ c ∈ s.data.toList, lowP c = true) : ∀ c ∈ (labT s).1.data.toList, foulB c = false := by
  have hn : ∀ c ∈ (⟨#[]⟩ : ByteArray).data.toList, foulB c = false := by simp
  have hE : ∀ l : ByteArray, (∀ c ∈ l.data.toList, foulB c = false) → ∀ c ∈ (labE l).1.data.toList, foulB c = false := fun l hl => by
    unfold labE; split
    · exact hn
    · exact hl
  have hls := low_self h
  have hpl : plainL s.data.toList = true → ∀ c ∈ s.data.toList, foulB c = false := fun hp c hc => by
    rw [plainL, List.all_eq_true] at hp
    exact (lowP_facts c (h c hc)).2.2.2.2 (by simpa using hp c hc)
  by_cases h0 : s.size = 0
  · unfold labT; rw [if_pos h0]; exact hn
  rcases valid_sg s with ⟨hv, L, hL, hL2, hrc⟩ | ⟨hv, _⟩
  · by_cases h63 : 63 < Lib.runeCount s
    · unfold labT; rw [if_neg h0, if_neg (by rw [hv]; simp), if_pos h63]; exact hn
    · unfold labT; rw [if_neg h0, if_neg (by rw [hv]; simp), if_neg h63, hls]
      split
      · rename_i hp
        split
        · split
          · exact hE _ (hpl hp)
          · exact hn
        · exact hE _ (hpl hp)
      · refine hE _ ?_
        have hf := few_Q (Q := fun c => foulB c = false) let_ok (by decide) hL (fun c hc hlt => (lowP_facts c (h c hc)).2.2.2.2 hlt)
        intro c hc
        rw [ByteArray.data_append, Array.toList_append] at hc
        rcases List.mem_append.1 hc with hc | hc
        · have hpx : ∀ c ∈ (⟨#[120, 110, 45, 45]⟩ : ByteArray).data.toList, foulB c = false := by decide
          exact hpx c hc
        · exact hf c hc
  · unfold labT; rw [if_neg h0, if_pos hv]; exact hn
/-- Such parts, with points between, are a host. -/
theorem points_host {P : List ByteArray} (hne : P ≠ []) (hp : ∀ p ∈ P, p.size ≤ 1000 ∧ (labT p).2 = 0 ∧ ∀ c ∈ p.data.toList, lowP c = true)
    (hs : (dotJ (P.map fun p => (labT p).1)).size ≤ 253) (hf : (fourD (dotJ (P.map fun p => (labT p).1)).data.toList).1 = false) : hostO (dotJ P) = some (dotJ (P.map fun p => (labT p).1)) := by
  have hP0 : ∀ p ∈ P, p.data.toList ≠ [] ∧ ∀ c ∈ p.data.toList, c ≠ 46 := fun p hm => by
    refine ⟨fun e => ?_, fun c hc => (lowP_facts c ((hp p hm).2.2 c hc)).2.1⟩
    have h1 := lenB p
    rw [e] at h1
    have h2 := (hp p hm).2.1
    unfold labT at h2
    rw [if_pos (by simpa using h1.symm)] at h2
    cases h2
  have hb : ∀ c ∈ (dotJ P).data.toList, c ≠ 37 ∧ c ≠ 91 := fun c hc => by
    rw [dotJ_data] at hc
    rcases mem_join _ hc with rfl | ⟨q, hq, hc⟩
    · decide
    · obtain ⟨p, hm, rfl⟩ := List.mem_map.1 hq
      have := lowP_facts c ((hp p hm).2.2 c hc)
      exact ⟨this.2.2.1, this.2.2.2.1⟩
  have hlast : (dotJ P).data.toList.getLast? ≠ some 46 := by
    match P, hne with
    | x :: r, _ =>
      rw [dotJ_data]
      refine (join_last 46 x.data.toList (r.map (·.data.toList)) (fun q hq => ?_)).2
      rw [← List.map_cons (f := fun b : ByteArray => b.data.toList)] at hq
      obtain ⟨l, hl, rfl⟩ := List.mem_map.1 hq
      exact hP0 l hl
  have htrim : trimD (dotJ P) = dotJ P := by rw [trimD, trimS_eq, trimP_id hlast]; rfl
  have hfoul : foulL (dotJ (P.map fun p => (labT p).1)).data.toList = false := by
    rw [foulL, List.any_eq_false]
    intro c hc
    rw [Bool.not_eq_true]
    rw [dotJ_data] at hc
    rcases mem_join _ hc with rfl | ⟨q, hq, hc⟩
    · decide
    · obtain ⟨l, hl, rfl⟩ := List.mem_map.1 hq
      obtain ⟨p, hm, rfl⟩ := List.mem_map.1 hl
      exact lab_clean p (hp p hm).2.2 c hc
  rw [hostO, if_neg (fun e => (hb 91 (head_mem e)).2 rfl), decS_self (fun c hc => (hb c hc).1), namedT, htrim, rawB_dot hne (fun l hl => (hP0 l hl).2), labs_all (fun p hm => (hp p hm).2.1)]
  show endT (dotJ _) = _
  rw [endT, hfoul, if_neg (by simp), if_neg (by omega), fourT]
  cases e : fourD (dotJ (P.map fun p => (labT p).1)).data.toList with
  | mk u v => rw [e] at hf; simp only at hf; subst hf; rfl

end Go.Proofs.YtdifdikfgkiocaaGreatDoor
