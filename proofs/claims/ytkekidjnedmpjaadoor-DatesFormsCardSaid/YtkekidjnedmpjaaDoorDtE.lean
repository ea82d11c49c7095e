/-
  A cookie's date told in any order of its words (package dates).
-/
import Derived.Test.YtkekidjnedmpjaaDoorDtF
namespace Go.Proofs.YtkekidjnedmpjaaDoor

def mixL : List (List UInt8) := [[], [106, 97, 110], [70, 69, 66], [77, 97, 114], [97, 112, 114], [77, 65, 89], [106, 117, 110], [74, 85, 76], [97, 117, 103], [83, 69, 80], [111, 99, 116], [78, 79, 86], [100, 101, 99]]
theorem mix_facts (M : Nat) (h1 : 1 ≤ M) (h2 : M ≤ 12) : (mixL.getD M []).length = 3 ∧ (mixL.getD M []).map low = (monL.getD M []).map low ∧ (∀ c ∈ mixL.getD M [], btw c = false) ∧ clockP (mixL.getD M []) = none ∧ toldN 1 2 (mixL.getD M []) = none := by
  have a1 : ∀ n : Fin 12, (mixL.getD (n.1 + 1) []).length = 3 := by decide +kernel
  have a2 : ∀ n : Fin 12, (mixL.getD (n.1 + 1) []).map low = (monL.getD (n.1 + 1) []).map low := by decide +kernel
  have a3 : ∀ n : Fin 12, ∀ c ∈ mixL.getD (n.1 + 1) [], btw c = false := by decide +kernel
  have a4 : ∀ n : Fin 12, clockP (mixL.getD (n.1 + 1) []) = none := by decide +kernel
  have a5 : ∀ n : Fin 12, toldN 1 2 (mixL.getD (n.1 + 1) []) = none := by decide +kernel
  have e : M - 1 + 1 = M := by omega
  have b1 := a1 ⟨M - 1, by omega⟩
  have b2 := a2 ⟨M - 1, by omega⟩
  have b3 := a3 ⟨M - 1, by omega⟩
  have b4 := a4 ⟨M - 1, by omega⟩
  have b5 := a5 ⟨M - 1, by omega⟩
  simp only [e] at b1 b2 b3 b4 b5
  exact ⟨b1, b2, b3, b4, b5⟩
/-- The year's text; the four words. -/
def yrT (two : Bool) (Y : Nat) : List UInt8 := if two then d2 (Y % 100) else yearL Y
def wrd (two : Bool) (Y M d s : Nat) (x : Nat) : List UInt8 := match x with | 0 => clockL s | 1 => d2 d | 2 => mixL.getD M [] | _ => yrT two Y
theorem d2_inj {a b : Nat} (ha : a < 100) (hb : b < 100) (h : d2 a = d2 b) : a = b := by
  have h1 := num_d2 a ha
  have h2 := num_d2 b hb
  rw [h, h2] at h1
  omega
theorem clock_len (s : Nat) : (clockL s).length = 8 := rfl
theorem mo_digits {l : List UInt8} (h : ∀ c ∈ l, isD c = true) : moP l = none := by
  cases hm : moP l with
  | none => rfl
  | some m =>
    exfalso
    have h3 := (moP_some hm).1
    unfold moP at hm
    rw [if_neg (by omega)] at hm
    have hat := (monF_some l 12 1 m hm)
    obtain ⟨m1, m2, ha⟩ := hat
    unfold monAt at ha
    have ha2 := of_decide_eq_true ha
    have hlow : ∀ c : UInt8, isD c = true → isD (low c) = true := fun c hc => by
      have : ∀ n : Fin 256, isD (UInt8.ofNat n.1) = true → isD (low (UInt8.ofNat n.1)) = true := by decide +kernel
      have h := this ⟨c.toNat, c.toNat_lt⟩
      simpa using h (by simpa using hc)
    have hmon : ∀ n : Fin 12, ((monL.getD (n.1 + 1) []).map low).all (fun c => !isD c) = true ∧ ((monL.getD (n.1 + 1) []).map low).length = 3 := by decide +kernel
    have hx := hmon ⟨m - 1, by omega⟩
    simp only [show m - 1 + 1 = m by omega] at hx
    rw [← ha2] at hx
    match l, h3, h, hx with
    | c :: l, _, h, hx =>
      have hc := hlow c (h c (by simp))
      simp [hc] at hx

theorem wrd_len {two : Bool} {Y M d s x : Nat} (h1 : 1 ≤ M) (h2 : M ≤ 12) : (wrd two Y M d s x).length ≤ 8 := by
  match x with
  | 0 => exact Nat.le_refl 8
  | 1 => show 2 ≤ 8; omega
  | 2 => rw [show wrd two Y M d s 2 = mixL.getD M [] from rfl, (mix_facts M h1 h2).1]; omega
  | x + 3 =>
    show (yrT two Y).length ≤ 8
    unfold yrT
    split
    · show 2 ≤ 8; omega
    · show 4 ≤ 8; omega
theorem yr_dig (two : Bool) (Y : Nat) : ∀ c ∈ yrT two Y, isD c = true ∧ btw c = false := by
  intro c hc
  unfold yrT at hc
  split at hc
  · exact all_d2 _ c hc
  · rcases List.mem_append.1 hc with hc | hc
    · exact all_d2 _ c hc
    · exact all_d2 _ c hc
theorem wrd_btw {two : Bool} {Y M d s x : Nat} (h1 : 1 ≤ M) (h2 : M ≤ 12) : ∀ c ∈ wrd two Y M d s x, btw c = false := by
  match x with
  | 0 =>
    intro c hc
    have hc : c ∈ clockL s := hc
    unfold clockL at hc
    rcases List.mem_append.1 hc with hc | hc
    · exact (all_d2 _ c hc).2
    rcases List.mem_cons.1 hc with rfl | hc
    · decide
    rcases List.mem_append.1 hc with hc | hc
    · exact (all_d2 _ c hc).2
    rcases List.mem_cons.1 hc with rfl | hc
    · decide
    · exact (all_d2 _ c hc).2
  | 1 => exact fun c hc => (all_d2 _ c hc).2
  | 2 => exact (mix_facts M h1 h2).2.2.1
  | x + 3 => exact fun c hc => (yr_dig two Y c hc).2

theorem four4 {two : Bool} {Y M d s : Nat} (hY : Y < 10000) (hd : d < 100) (hs : s < 86400) (h1 : 1 ≤ M) (h2 : M ≤ 12) :
    Four4 (wrd two Y M d s) (((s / 3600 : Nat) : Int), ((s / 60 % 60 : Nat) : Int), ((s % 60 : Nat) : Int)) (d : Int) M (if two then ((Y % 100 : Nat) : Int) else (Y : Int)) := by
  obtain ⟨q1, q2, q3, q4, q5⟩ := mix_facts M h1 h2
  have e2 := told_d2 d hd [] (by decide)
  have e2c := clock_no (l := d2 d) (m := []) (fun c hc => (all_d2 d c hc).1) (by decide) rfl
  rw [List.append_nil] at e2 e2c
  have ey : toldN 2 4 (yrT two Y) = some (if two then ((Y % 100 : Nat) : Int) else (Y : Int), []) := by
    have hl : 2 ≤ (yrT two Y).length ∧ (yrT two Y).length ≤ 4 := by
      unfold yrT
      split
      · exact ⟨Nat.le_refl 2, by show 2 ≤ 4; omega⟩
      · exact ⟨by show 2 ≤ 4; omega, Nat.le_refl 4⟩
    have e := told_of (l := yrT two Y) (m := []) (a := 2) (b := 4) (fun c hc => (yr_dig two Y c hc).1) (by decide) hl.1 hl.2
    rw [List.append_nil] at e
    rw [e]
    cases two with
    | true => rw [show yrT true Y = d2 (Y % 100) from rfl, num_d2 _ (by omega)]; rfl
    | false => rw [show yrT false Y = yearL Y from rfl, num_year Y hY]; rfl
  have eyc := clock_no (l := yrT two Y) (m := []) (fun c hc => (yr_dig two Y c hc).1) (by decide) rfl
  rw [List.append_nil] at eyc
  exact ⟨clock_text s hs, e2c, ⟨_, e2⟩, q4, q5, mo_of h1 h2 q1 q2, eyc, mo_digits (fun c hc => (yr_dig two Y c hc).1), ⟨_, ey⟩⟩

/-- Whether a year of two digits stands ahead of another day. -/
def ahd (two : Bool) (Y M d s : Nat) (dd : Bool) (x : Nat) : Bool := decide ((wrd two Y M d s x).length = 2) && (decide (wrd two Y M d s x = yrT two Y) && (!dd && (two && decide (d ≠ Y % 100))))
theorem year_2069 {k D Y M d : Nat} (hI : IsDay D Y M d) (h2 : (k + 62135596800) / 86400 = D) (hk : k < 3155760000) : Y ≤ 2069 := by
  rcases Nat.lt_or_ge 2069 Y with h | h
  · have a1 := bef_mono 2070 Y (by omega) (by omega)
    have a2 : bef 2070 = 755687 := by decide
    have a3 := hI.lo
    omega
  · exact h

theorem forms_plain {k D Y M d : Nat} (hI : IsDay D Y M d) (h2 : (k + 62135596800) / 86400 = D) (hk : k < 3155760000) (two : Bool) :
    ∃ (ok : List Nat → Prop) (st : List Nat → Told) (dd : List Nat → Bool), ok [0, 1, 2, 3] ∧ st [0, 1, 2, 3] = noneT ∧ dd [0, 1, 2, 3] = false ∧ cookR (st []) = (k : Int) ∧ cookB (st []) = true ∧
      ∀ r, ok r → r ∈ subs4 ∧ ∀ j, j < r.length → ahd two Y M d (k % 86400) (dd r) (r.getD j 0) = false → ok (r.eraseIdx j) ∧ step (st r) (wrd two Y M d (k % 86400) (r.getD j 0)) = st (r.eraseIdx j) ∧
        dd (r.eraseIdx j) = (dd r || decide ((wrd two Y M d (k % 86400) (r.getD j 0)).length = 2)) := by
  have hY := year_1970 hI h2
  have hY9 := year_2069 hI h2 hk
  have m1 := hI.m1
  have m2 := hI.m2
  have hd := hI.d1
  have hd31 := (days_pos Y M).2
  have hF := four4 (two := two) (s := k % 86400) (show Y < 10000 by omega) (show d < 100 by omega) (Nat.mod_lt _ (by omega)) m1 m2
  have l0 : (wrd two Y M d (k % 86400) 0).length = 8 := rfl
  have l1 : (wrd two Y M d (k % 86400) 1).length = 2 := rfl
  have l2 : (wrd two Y M d (k % 86400) 2).length = 3 := (mix_facts M m1 m2).1
  have w1 : wrd two Y M d (k % 86400) 1 = d2 d := rfl
  have w3 : wrd two Y M d (k % 86400) 3 = yrT two Y := rfl
  have hm0 : ([0, 1, 2, 3] : List Nat) ∈ subs4 := by decide
  have hcs := fun (y : Int) (hy : whole y = (Y : Int)) => cook_secs h2 hI hY y hy
  generalize (((k % 86400 / 3600 : Nat) : Int), ((k % 86400 / 60 % 60 : Nat) : Int), ((k % 86400 % 60 : Nat) : Int)) = t at hF hcs
  cases htw : two with
  | false =>
    subst htw
    have l3 : (wrd false Y M d (k % 86400) 3).length = 4 := rfl
    have t3 : toldN 1 2 (wrd false Y M d (k % 86400) 3) = none := by
      have e := told_no (l := yearL Y) (m := []) (a := 1) (b := 2) (fun c hc => (yr_dig false Y c hc).1) (by decide) (by rw [show (yearL Y).length = 4 from rfl]; omega)
      rw [List.append_nil] at e; exact e
    have hc := hcs (Y : Int) (whole_ge Y hY)
    refine ⟨fun r => r ∈ subs4, stA t (d : Int) M (Y : Int), fun r => !decide (1 ∈ r), hm0, by simp [stA, noneT], by simp, by simpa [stA] using hc.1, by simpa [stA] using hc.2, fun r hr => ⟨hr, fun j hj _ => ?_⟩⟩
    obtain ⟨hs, hx4, hx, hm⟩ := subs_next r hr j hj
    refine ⟨hs, stA_next hF hr hj (fun _ => .inl t3), ?_⟩
    have k1 := hm 1 (by omega)
    simp only [k1]
    generalize r.getD j 0 = x at *
    have hx0 : x = 0 ∨ x = 1 ∨ x = 2 ∨ x = 3 := by omega
    rcases hx0 with rfl | rfl | rfl | rfl
    · simp [l0]
    · simp [l1]
    · simp [l2]
    · simp [l3]
  | true =>
    subst htw
    have l3 : (wrd true Y M d (k % 86400) 3).length = 2 := rfl
    have hw : whole ((Y % 100 : Nat) : Int) = (Y : Int) := by
      unfold whole
      by_cases h70 : Y < 2000
      · rw [if_neg (by omega), if_pos (by omega)]; omega
      · rw [if_pos (by omega)]; omega
    have hc := hcs ((Y % 100 : Nat) : Int) hw
    by_cases hne : d = Y % 100
    · have h13 : wrd true Y M d (k % 86400) 3 = wrd true Y M d (k % 86400) 1 := by rw [w1, w3, hne]; rfl
      simp only [if_true] at hF
      rw [← hne] at hF hc
      refine ⟨fun r => r ∈ subs4, stC t (d : Int) M, fun r => !(decide (1 ∈ r) && decide (3 ∈ r)), hm0, by simp [stC, noneT], by simp, by simpa [stC] using hc.1, by simpa [stC] using hc.2, fun r hr => ⟨hr, fun j hj _ => ?_⟩⟩
      obtain ⟨hs, hx4, hx, hm⟩ := subs_next r hr j hj
      refine ⟨hs, stC_next hF h13 hr hj, ?_⟩
      have k1 := hm 1 (by omega)
      have k3 := hm 3 (by omega)
      simp only [k1, k3]
      generalize r.getD j 0 = x at *
      have hx0 : x = 0 ∨ x = 1 ∨ x = 2 ∨ x = 3 := by omega
      rcases hx0 with rfl | rfl | rfl | rfl
      · simp [l0]
      · simp [l1]
      · simp [l2]
      · simp [l3]
    · simp only [if_true] at hF
      refine ⟨fun r => r ∈ subs4 ∧ (1 ∈ r → 3 ∈ r), stA t (d : Int) M ((Y % 100 : Nat) : Int), fun r => !decide (1 ∈ r), ⟨hm0, by decide⟩, by simp [stA, noneT], by simp, by simpa [stA] using hc.1, by simpa [stA] using hc.2, fun r hr => ⟨hr.1, fun j hj hah => ?_⟩⟩
      obtain ⟨hs, hx4, hx, hm⟩ := subs_next r hr.1 j hj
      have h3n : r.getD j 0 = 3 → 1 ∉ r := fun e h1 => by
        rw [e] at hah
        unfold ahd at hah
        simp [w3, show (yrT true Y).length = 2 from rfl, h1, hne] at hah
      have k1 := hm 1 (by omega)
      have k3 := hm 3 (by omega)
      have hst := stA_next hF hr.1 hj (fun e => .inr (h3n e))
      refine ⟨⟨hs, fun h1 => ?_⟩, hst, ?_⟩
      · have a1 := k1.1 h1
        exact k3.2 ⟨fun e => h3n e.symm a1.2, hr.2 a1.2⟩
      · simp only [k1]
        generalize r.getD j 0 = x at *
        have hx0 : x = 0 ∨ x = 1 ∨ x = 2 ∨ x = 3 := by omega
        rcases hx0 with rfl | rfl | rfl | rfl
        · simp [l0]
        · simp [l1]
        · simp [l2]
        · simp [l3, h3n rfl]

end Go.Proofs.YtkekidjnedmpjaaDoor
