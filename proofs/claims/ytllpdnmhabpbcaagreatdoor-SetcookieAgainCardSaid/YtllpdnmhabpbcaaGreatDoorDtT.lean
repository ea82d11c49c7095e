/-
  The text of a date as a header has it, and what its words tell (package dates).
-/
import Derived.Test.YtllpdnmhabpbcaaGreatDoorDtC
namespace Go.Proofs.YtllpdnmhabpbcaaGreatDoor
/-- Two digits; a date as a header has it. -/
def d2 (n : Nat) : List UInt8 := [UInt8.ofNat (48 + n / 10 % 10), UInt8.ofNat (48 + n % 10)]
def wkL : List (List UInt8) := [[83, 117, 110], [77, 111, 110], [84, 117, 101], [87, 101, 100], [84, 104, 117], [70, 114, 105], [83, 97, 116]]
def clockL (s : Nat) : List UInt8 := d2 (s / 3600) ++ (58 :: (d2 (s / 60 % 60) ++ (58 :: d2 (s % 60))))
def yearL (y : Nat) : List UInt8 := d2 (y / 100) ++ d2 (y % 100)
def textL (Y M d k s : Nat) : List UInt8 := wkL.getD k [] ++ (44 :: 32 :: (d2 d ++ (32 :: (monL.getD M [] ++ (32 :: (yearL Y ++ (32 :: (clockL s ++ (32 :: [71, 77, 84])))))))))
theorem dig_mod (n : Nat) : isD (UInt8.ofNat (48 + n % 10)) = true ∧ btw (UInt8.ofNat (48 + n % 10)) = false ∧ ((UInt8.ofNat (48 + n % 10)).toNat : Int) = 48 + (n % 10 : Nat) := by
  have h : ∀ k : Fin 10, isD (UInt8.ofNat (48 + k.1)) = true ∧ btw (UInt8.ofNat (48 + k.1)) = false ∧ ((UInt8.ofNat (48 + k.1)).toNat : Int) = 48 + (k.1 : Nat) := by decide
  exact h ⟨n % 10, Nat.mod_lt _ (by omega)⟩
theorem num_d2 (n : Nat) (h : n < 100) : num (d2 n) = n := by
  unfold num d2
  simp only [List.foldl_cons, List.foldl_nil]
  rw [(dig_mod (n / 10)).2.2, (dig_mod n).2.2]
  omega
theorem all_d2 (n : Nat) : ∀ c ∈ d2 n, isD c = true ∧ btw c = false := by
  intro c hc
  simp only [d2, List.mem_cons, List.not_mem_nil, or_false] at hc
  rcases hc with rfl | rfl
  · exact ⟨(dig_mod _).1, (dig_mod _).2.1⟩
  · exact ⟨(dig_mod _).1, (dig_mod _).2.1⟩
theorem len_d2 (n : Nat) : (d2 n).length = 2 := rfl
theorem num_app (l m : List UInt8) : num (l ++ m) = m.foldl (fun n c => n * 10 + ((c.toNat : Int) - 48)) (num l) := by unfold num; rw [List.foldl_append]
theorem num_year (y : Nat) (h : y < 10000) : num (yearL y) = y := by
  unfold yearL
  rw [num_app, num_d2 _ (by omega)]
  unfold d2
  simp only [List.foldl_cons, List.foldl_nil]
  rw [(dig_mod (y % 100 / 10)).2.2, (dig_mod (y % 100)).2.2]
  omega
theorem take_dig {l m : List UInt8} (h : ∀ c ∈ l, isD c = true) (hm : m.head?.map isD ≠ some true) : (l ++ m).takeWhile isD = l ∧ (l ++ m).dropWhile isD = m := by
  induction l with
  | nil =>
    cases m with
    | nil => exact ⟨rfl, rfl⟩
    | cons c m =>
      have hc : isD c = false := by
        cases hd : isD c with
        | true => exact absurd (by simp [hd]) hm
        | false => rfl
      exact ⟨by simp [hc], by simp [hc]⟩
  | cons c l ih =>
    have hc := h c (by simp)
    obtain ⟨h1, h2⟩ := ih (fun x hx => h x (List.mem_cons_of_mem _ hx))
    exact ⟨by rw [List.cons_append, List.takeWhile_cons, if_pos hc, h1], by rw [List.cons_append, List.dropWhile_cons, if_pos hc, h2]⟩
theorem told_of {l m : List UInt8} {a b : Nat} (h : ∀ c ∈ l, isD c = true) (hm : m.head?.map isD ≠ some true) (ha : a ≤ l.length) (hb : l.length ≤ b) : toldN a b (l ++ m) = some (num l, m) := by
  unfold toldN
  rw [(take_dig h hm).1, (take_dig h hm).2, if_pos ⟨ha, hb⟩]
theorem told_no {l m : List UInt8} {a b : Nat} (h : ∀ c ∈ l, isD c = true) (hm : m.head?.map isD ≠ some true) (ha : ¬ (a ≤ l.length ∧ l.length ≤ b)) : toldN a b (l ++ m) = none := by
  unfold toldN
  rw [(take_dig h hm).1, if_neg ha]
theorem told_d2 (n : Nat) (h : n < 100) (m : List UInt8) (hm : m.head?.map isD ≠ some true) : toldN 1 2 (d2 n ++ m) = some ((n : Int), m) := by
  rw [told_of (fun c hc => (all_d2 n c hc).1) hm (by simp [len_d2]) (by simp [len_d2]), num_d2 n h]
theorem clock_text (s : Nat) (h : s < 86400) : clockP (clockL s) = some (((s / 3600 : Nat) : Int), ((s / 60 % 60 : Nat) : Int), ((s % 60 : Nat) : Int)) := by
  have h1 := told_d2 (s / 3600) (by omega) (58 :: (d2 (s / 60 % 60) ++ (58 :: d2 (s % 60)))) (by simp only [List.head?_cons, Option.map_some]; decide)
  have h2 := told_d2 (s / 60 % 60) (by omega) (58 :: d2 (s % 60)) (by simp only [List.head?_cons, Option.map_some]; decide)
  have h3 := told_d2 (s % 60) (by omega) [] (by decide)
  rw [List.append_nil] at h3
  have a1 : ∀ r, afterC (58 :: r) = some r := fun r => by simp [afterC]
  unfold clockP clockL
  rw [h1]; simp only [a1]; rw [h2]; simp only [a1]; rw [h3]
theorem clock_no {l m : List UInt8} (h : ∀ c ∈ l, isD c = true) (hm : m.head?.map isD ≠ some true) (hc : afterC m = none) : clockP (l ++ m) = none := by
  unfold clockP toldN
  rw [(take_dig h hm).1, (take_dig h hm).2]
  by_cases hl : 1 ≤ l.length ∧ l.length ≤ 2
  · rw [if_pos hl]; simp only [hc]
  · rw [if_neg hl]
theorem endW_eq (st : Told) (w : List UInt8) : endW st w = step st w := by
  by_cases h : w = []
  · subst h; rw [step_nil]; rfl
  · unfold endW; rw [if_neg h]
theorem scan_word (st : Told) (w l : List UInt8) (c : UInt8) (hw : ∀ c ∈ w, btw c = false) (hc : btw c = true) : scanF st [] (w ++ c :: l) = scanF (step st w) [] l := by
  have hn : ∀ c ∈ w, nob c = true := fun c hc => by simp [nob, hw c hc]
  have hcn : nob c = false := by simp [nob, hc]
  rw [scan_nob]
  have e1 : (w ++ c :: l).takeWhile nob = w := by
    rw [List.takeWhile_append_of_pos hn, List.takeWhile_cons, hcn]; simp
  have e2 : (w ++ c :: l).dropWhile nob = c :: l := by
    rw [List.dropWhile_append_of_pos hn, List.dropWhile_cons, hcn]; simp
  rw [e1, e2, List.nil_append, scanF, if_pos hc, endW_eq, endW_eq, step_nil]
theorem scan_last (st : Told) (w : List UInt8) (hw : ∀ c ∈ w, btw c = false) : scanF st [] w = step st w := by
  have hn : ∀ c ∈ w, nob c = true := fun c hc => by simp [nob, hw c hc]
  have e1 : w.takeWhile nob = w := by have := List.takeWhile_append_of_pos (l₂ := []) hn; simpa using this
  have e2 : w.dropWhile nob = [] := by have := List.dropWhile_append_of_pos (l₂ := []) hn; simpa using this
  rw [scan_nob, e1, e2, List.nil_append]
  show endW (endW st w) [] = _
  rw [endW_eq, endW_eq, step_nil]
theorem step_tm (dy : Option Int) (mo : Option Nat) (yr : Option Int) {w : List UInt8} {t : Int × Int × Int} (h : clockP w = some t) : step ⟨none, dy, mo, yr⟩ w = ⟨some t, dy, mo, yr⟩ := by
  unfold step; rw [if_pos rfl, h]
theorem step_to2 (st : Told) {w : List UInt8} (h : st.tm ≠ none ∨ clockP w = none) : step st w = step2 st w := by
  unfold step
  split
  · rename_i h0
    rcases h with h | h
    · exact absurd h0 h
    · rw [h]
  · rfl
theorem step_dy (tm : Option (Int × Int × Int)) (mo : Option Nat) (yr : Option Int) {w r : List UInt8} {n : Int} (h : tm ≠ none ∨ clockP w = none) (hn : toldN 1 2 w = some (n, r)) : step ⟨tm, none, mo, yr⟩ w = ⟨tm, some n, mo, yr⟩ := by
  rw [step_to2 _ h]
  unfold step2; rw [if_pos rfl, hn]
theorem step_to3 (st : Told) {w : List UInt8} (h : st.tm ≠ none ∨ clockP w = none) (h2 : st.dy ≠ none ∨ toldN 1 2 w = none) : step st w = step3 st w := by
  rw [step_to2 _ h]
  unfold step2
  split
  · rename_i h0
    rcases h2 with h | h
    · exact absurd h0 h
    · rw [h]
  · rfl
theorem step_mo (tm : Option (Int × Int × Int)) (dy yr : Option Int) {w : List UInt8} {m : Nat} (h : tm ≠ none ∨ clockP w = none) (h2 : dy ≠ none ∨ toldN 1 2 w = none) (hm : moP w = some m) : step ⟨tm, dy, none, yr⟩ w = ⟨tm, dy, some m, yr⟩ := by
  rw [step_to3 _ h h2]
  unfold step3; rw [if_pos rfl, hm]
theorem step_to4 (st : Told) {w : List UInt8} (h : st.tm ≠ none ∨ clockP w = none) (h2 : st.dy ≠ none ∨ toldN 1 2 w = none) (h3 : st.mo ≠ none ∨ moP w = none) : step st w = step4 st w := by
  rw [step_to3 _ h h2]
  unfold step3
  split
  · rename_i h0
    rcases h3 with h | h
    · exact absurd h0 h
    · rw [h]
  · rfl
theorem step_yr (tm : Option (Int × Int × Int)) (dy : Option Int) (mo : Option Nat) {w r : List UInt8} {n : Int} (h : tm ≠ none ∨ clockP w = none) (h2 : dy ≠ none ∨ toldN 1 2 w = none) (h3 : mo ≠ none ∨ moP w = none) (hn : toldN 2 4 w = some (n, r)) : step ⟨tm, dy, mo, none⟩ w = ⟨tm, dy, mo, some n⟩ := by
  rw [step_to4 _ h h2 h3]
  unfold step4; rw [if_pos rfl, hn]
theorem step_no (st : Told) {w : List UInt8} (h : st.tm ≠ none ∨ clockP w = none) (h2 : st.dy ≠ none ∨ toldN 1 2 w = none) (h3 : st.mo ≠ none ∨ moP w = none) (h4 : st.yr ≠ none ∨ toldN 2 4 w = none) : step st w = st := by
  rw [step_to4 _ h h2 h3]
  unfold step4
  split
  · rename_i h0
    rcases h4 with h | h
    · exact absurd h0 h
    · rw [h]
  · rfl
/-- The words of a text of a date, with whatever letters of its names that are the same in small ones. -/
def textG (wk : List UInt8) (d : Nat) (mn : List UInt8) (Y s : Nat) (g : List UInt8) : List UInt8 := wk ++ (44 :: 32 :: (d2 d ++ (32 :: (mn ++ (32 :: (yearL Y ++ (32 :: (clockL s ++ (32 :: g)))))))))
theorem mo_of {mn : List UInt8} {M : Nat} (h1 : 1 ≤ M) (h2 : M ≤ 12) (hl : mn.length = 3) (h : mn.map low = (monL.getD M []).map low) : moP mn = some M := by
  have ht : mn.take 3 = mn := List.take_of_length_le (by omega)
  have hu : ∀ k : Nat, 1 ≤ k → k ≤ 12 → monAt mn k = decide (k = M) := by
    intro k k1 k2
    unfold monAt
    rw [ht, h]
    have : ∀ a b : Fin 13, decide ((monL.getD a.1 []).map low = (monL.getD b.1 []).map low) = decide (b.1 = a.1) := by decide +kernel
    exact this ⟨M, by omega⟩ ⟨k, by omega⟩
  unfold moP
  rw [if_neg (by omega)]
  have : ∀ (f k : Nat), 1 ≤ k → k + f = 13 → k ≤ M → monF mn f k = some M := by
    intro f
    induction f with
    | zero => intro k a b c; omega
    | succ f ih =>
      intro k a b c
      rw [monF, hu k a (by omega)]
      by_cases hk : k = M
      · rw [hk]; simp
      · simp only [decide_eq_false hk, Bool.false_eq_true, if_false]
        exact ih (k + 1) (by omega) (by omega) (by omega)
  exact this 12 1 (Nat.le_refl _) rfl h1
theorem scan_text {wk mn g : List UInt8} {d M Y s : Nat} (hd : d < 100) (hY : Y < 10000) (hs : s < 86400) (h1 : 1 ≤ M) (h2 : M ≤ 12) (hl : mn.length = 3) (hm : mn.map low = (monL.getD M []).map low)
    (wb : ∀ c ∈ wk, btw c = false) (wc : clockP wk = none) (wt : toldN 1 2 wk = none) (wm : moP wk = none) (wy : toldN 2 4 wk = none)
    (mb : ∀ c ∈ mn, btw c = false) (mc : clockP mn = none) (gb : ∀ c ∈ g, btw c = false) :
    scanF noneT [] (textG wk d mn Y s g) = ⟨some (((s / 3600 : Nat) : Int), ((s / 60 % 60 : Nat) : Int), ((s % 60 : Nat) : Int)), some (d : Int), some M, some (Y : Int)⟩ := by
  have b44 : btw 44 = true := by decide
  have b32 : btw 32 = true := by decide
  have db : ∀ n, ∀ c ∈ d2 n, btw c = false := fun n c hc => (all_d2 n c hc).2
  have yd : ∀ c ∈ yearL Y, isD c = true ∧ btw c = false := fun c hc => by
    rcases List.mem_append.1 hc with hc | hc
    · exact all_d2 _ c hc
    · exact all_d2 _ c hc
  have cb : ∀ c ∈ clockL s, btw c = false := fun c hc => by
    unfold clockL at hc
    rcases List.mem_append.1 hc with hc | hc
    · exact db _ c hc
    rcases List.mem_cons.1 hc with rfl | hc
    · decide
    rcases List.mem_append.1 hc with hc | hc
    · exact db _ c hc
    rcases List.mem_cons.1 hc with rfl | hc
    · decide
    · exact db _ c hc
  have e2 := told_d2 d hd [] (by decide)
  have e2c := clock_no (l := d2 d) (m := []) (fun c hc => (all_d2 d c hc).1) (by decide) rfl
  have ey := told_of (l := yearL Y) (m := []) (a := 2) (b := 4) (fun c hc => (yd c hc).1) (by decide) (by simp [yearL, len_d2]) (by simp [yearL, len_d2])
  have eyc := clock_no (l := yearL Y) (m := []) (fun c hc => (yd c hc).1) (by decide) rfl
  rw [List.append_nil] at e2 e2c ey eyc
  rw [num_year Y hY] at ey
  unfold textG noneT
  rw [scan_word _ wk _ 44 wb b44, step_no _ (.inr wc) (.inr wt) (.inr wm) (.inr wy)]
  rw [show (32 : UInt8) :: (d2 d ++ (32 :: (mn ++ (32 :: (yearL Y ++ (32 :: (clockL s ++ (32 :: g)))))))) = [] ++ (32 :: (d2 d ++ (32 :: (mn ++ (32 :: (yearL Y ++ (32 :: (clockL s ++ (32 :: g)))))))))  from rfl]
  rw [scan_word _ [] _ 32 (by simp) b32, step_nil]
  rw [scan_word _ (d2 d) _ 32 (db d) b32, step_dy _ _ _ (.inr e2c) e2]
  rw [scan_word _ mn _ 32 mb b32, step_mo _ _ _ (.inr mc) (.inl (by simp)) (mo_of h1 h2 hl hm)]
  rw [scan_word _ (yearL Y) _ 32 (fun c hc => (yd c hc).2) b32, step_yr _ _ _ (.inr eyc) (.inl (by simp)) (.inl (by simp)) ey]
  rw [scan_word _ (clockL s) _ 32 cb b32, step_tm _ _ _ (clock_text s hs)]
  rw [scan_last _ g gb, step_no _ (.inl (by simp)) (.inl (by simp)) (.inl (by simp)) (.inl (by simp))]
end Go.Proofs.YtllpdnmhabpbcaaGreatDoor
