/-
  Package setcookie: pieces in a text, in plain words.
-/
import Derived.Test.YtllpdnmhabpbcaaGreatDoorScP
import Derived.Test.YtllpdnmhabpbcaaGreatDoorDtO
import Derived.Lib.Join
namespace Go.Proofs.YtllpdnmhabpbcaaGreatDoor
open Go.RowKit

theorem cutP_at : ∀ (n v : List UInt8), (∀ c ∈ n, c ≠ 61) → cutP 61 (n ++ 61 :: v) = (n, v, true)
  | [], _, _ => by rw [List.nil_append, cutP, if_pos rfl]
  | c :: n, v, h => by
    rw [List.cons_append, cutP, if_neg (h c (List.mem_cons_self ..)), cutP_at n v fun d hd => h d (List.mem_cons_of_mem _ hd)]
theorem cutP_not : ∀ (n : List UInt8), (∀ c ∈ n, c ≠ 61) → cutP 61 n = (n, [], false)
  | [], _ => rfl
  | c :: n, h => by
    rw [cutP, if_neg (h c (List.mem_cons_self ..)), cutP_not n fun d hd => h d (List.mem_cons_of_mem _ hd)]
theorem parts_none (a : UInt8) : ∀ l : List UInt8, (∀ c ∈ l, c ≠ a) → parts a l = [l]
  | [], _ => rfl
  | c :: l, h => by
    rw [parts, if_neg (h c (List.mem_cons_self ..)), parts_none a l fun d hd => h d (List.mem_cons_of_mem _ hd)]; rfl
/-- A text of pieces has these parts. -/
theorem parts_tail : ∀ (p : List UInt8) (r : List (List UInt8)), (∀ c ∈ p, c ≠ 59) → (∀ x ∈ r, ∀ c ∈ x, c ≠ 59) → parts 59 (p ++ Lib.joinTail [59, 32] r) = p :: r.map (32 :: ·)
  | p, [], h, _ => by
    show parts 59 (p ++ []) = _
    rw [List.append_nil, parts_none 59 p h]; rfl
  | p, x :: r, h, hr => by
    have e : p ++ Lib.joinTail [59, 32] (x :: r) = p ++ 59 :: ((32 :: x) ++ Lib.joinTail [59, 32] r) := by simp [Lib.joinTail]
    rw [e, parts_append, parts_none 59 p h, parts_tail (32 :: x) r (fun c hc => by
      rcases List.mem_cons.1 hc with rfl | hc
      · decide
      · exact hr x (List.mem_cons_self ..) c hc) fun y hy => hr y (List.mem_cons_of_mem _ hy)]
    rfl
theorem parts_join {p : List UInt8} {r : List (List UInt8)} (h : ∀ x ∈ p :: r, ∀ c ∈ x, c ≠ 59) : parts 59 (Lib.join (p :: r) [59, 32]) = p :: r.map (32 :: ·) := by
  rw [Lib.join_cons, parts_tail p r (h p (List.mem_cons_self ..)) fun x hx => h x (List.mem_cons_of_mem _ hx)]
theorem join_mem {xs : List (List UInt8)} {c : UInt8} (h : c ∈ Lib.join xs [59, 32]) : (∃ x ∈ xs, c ∈ x) ∨ c = 59 ∨ c = 32 := by
  cases xs with
  | nil => exact absurd h (by simp [Lib.join_nil])
  | cons x r =>
    rw [Lib.join_cons, List.mem_append] at h
    rcases h with h | h
    · exact .inl ⟨x, List.mem_cons_self .., h⟩
    · unfold Lib.joinTail at h
      obtain ⟨y, hy, hc⟩ := List.mem_flatten.1 h
      obtain ⟨z, hz, rfl⟩ := List.mem_map.1 hy
      rcases List.mem_append.1 hc with hc | hc
      · simp at hc; exact .inr hc
      · exact .inl ⟨z, List.mem_cons_of_mem _ hz, hc⟩
theorem heard_sp (t : Cki) (l : List UInt8) : heard t (asB (32 :: l)) = heard t (asB l) := by
  rw [← heard_trim t (asB (32 :: l)), ← heard_trim t (asB l), trimA_asB, trimA_asB, trimL_cons _ _ (by decide)]
/-- Clean bytes: none that cuts, no sign that may not be. -/
def okB (c : UInt8) : Bool := !(c == 59) && !ctlB c
theorem okB_iff {c : UInt8} : okB c = true ↔ c ≠ 59 ∧ ctlB c = false := by simp [okB]
/-- What a text of clean pieces tells. -/
theorem prs_join {p : List UInt8} {r : List (List UInt8)} (h : ∀ x ∈ p :: r, ∀ c ∈ x, okB c = true) (hl : (Lib.join (p :: r) [59, 32]).length ≤ 65536) :
    prsL (Lib.join (p :: r) [59, 32]) = prsF ((p :: r).map asB) := by
  have hc : ¬ (Lib.join (p :: r) [59, 32]).any ctlB = true := fun h' => by
    obtain ⟨c, hc, hb⟩ := List.any_eq_true.1 h'
    rcases join_mem hc with ⟨x, hx, hcx⟩ | rfl | rfl
    · rw [(okB_iff.1 (h x hx c hcx)).2] at hb; cases hb
    · exact absurd hb (by decide)
    · exact absurd hb (by decide)
  unfold prsL
  rw [if_neg (by omega), if_neg hc, parts_join fun x hx c hc => (okB_iff.1 (h x hx c hc)).1, ← prsF_trim, ← prsF_trim ((p :: r).map asB)]
  congr 1
  simp only [List.map_cons, List.map_map]
  congr 1
  apply List.map_congr_left
  intro x _
  show trimA (asB (32 :: x)) = trimA (asB x)
  rw [trimA_asB, trimA_asB, trimL_cons _ _ (by decide)]
/-- What one piece says. -/
theorem heard_at (t : Cki) (n v : List UInt8) (hn : ∀ c ∈ n, c ≠ 61) : heard t (asB (n ++ 61 :: v)) = if (trimL v).length ≤ 1024 then say t ((trimL n).map low) (asB (trimL v)) else t := by
  have e : cutP 61 (asB (n ++ 61 :: v)).data.toList = (n, v, true) := cutP_at n v hn
  unfold heard pvl pnm
  rw [e]
  rfl
theorem heard_not (t : Cki) (n : List UInt8) (hn : ∀ c ∈ n, c ≠ 61) : heard t (asB n) = say t ((trimL n).map low) noB := by
  have e : cutP 61 (asB n).data.toList = (n, [], false) := cutP_not n hn
  unfold heard pvl pnm
  rw [e]
  rfl
/-- The first pair, with an equals sign. -/
theorem first_at (n v : List UInt8) (hn : ∀ c ∈ n, c ≠ 61) : fnm (asB (n ++ 61 :: v)) = asB (trimL n) ∧ fvl (asB (n ++ 61 :: v)) = asB (trimL v) := by
  have e : cutP 61 (asB (n ++ 61 :: v)).data.toList = (n, v, true) := cutP_at n v hn
  unfold fnm fvl eqF pnm pvl
  rw [e]
  exact ⟨rfl, rfl⟩
theorem first_not (n : List UInt8) (hn : ∀ c ∈ n, c ≠ 61) : fnm (asB n) = noB ∧ fvl (asB n) = asB (trimL n) := by
  have e : cutP 61 (asB n).data.toList = (n, [], false) := cutP_not n hn
  unfold fnm fvl eqF pnm pvl
  rw [e]
  exact ⟨rfl, rfl⟩

theorem digit_ok (m : Nat) (h : m < 10) : okB (UInt8.ofNat (48 + m)) = true ∧ UInt8.ofNat (48 + m) ≠ 61 ∧ bl (UInt8.ofNat (48 + m)) = false := by
  have : ∀ k : Fin 10, okB (UInt8.ofNat (48 + k.1)) = true ∧ UInt8.ofNat (48 + k.1) ≠ 61 ∧ bl (UInt8.ofNat (48 + k.1)) = false := by decide +kernel
  exact this ⟨m, h⟩
theorem d2_ok (n : Nat) : ∀ c ∈ d2 n, okB c = true := by
  intro c hc
  unfold d2 at hc
  simp only [List.mem_cons, List.not_mem_nil, or_false] at hc
  rcases hc with rfl | rfl
  · exact (digit_ok _ (Nat.mod_lt _ (by decide))).1
  · exact (digit_ok _ (Nat.mod_lt _ (by decide))).1
/-- A date's text has no sign that cuts, and no blanks at its ends. -/
theorem txt_ok {n : Int} {D : List UInt8} (h : IsTxt n D) : (∀ c ∈ D, okB c = true) ∧ trimL D = D ∧ D.length = 29 := by
  obtain ⟨k, d, Y, M, dd, _, _, hI, rfl⟩ := h
  have hw : ∀ j : Fin 7, (∀ c ∈ wkL.getD j.1 [], okB c = true) ∧ (wkL.getD j.1 []).length = 3 ∧ (∀ c, (wkL.getD j.1 []).head? = some c → bl c = false) := by decide +kernel
  have hm : ∀ j : Fin 13, ∀ c ∈ monL.getD j.1 [], okB c = true := by decide +kernel
  obtain ⟨w1, w2, w3⟩ := hw ⟨(d + 1) % 7, Nat.mod_lt _ (by decide)⟩
  have m1 := hm ⟨M, by have := hI.m2; omega⟩
  have m2 := mon_len3 M hI.m1 hI.m2
  rw [asB_size] at m2
  simp only at w1 w2 w3 m1
  unfold textL
  refine ⟨?_, ?_, ?_⟩
  · intro c hc
    unfold yearL clockL at hc
    simp only [List.mem_append, List.mem_cons, List.not_mem_nil, or_false] at hc
    rcases hc with h | rfl | rfl | h | rfl | h | rfl | (h | h) | rfl | (h | rfl | h | rfl | h) | rfl | rfl | rfl | rfl
    all_goals (first | exact w1 _ h | exact m1 _ h | exact d2_ok _ _ h | decide)
  · refine trimL_of (fun c hc => ?_) (fun c hc => ?_)
    · cases hw : wkL.getD ((d + 1) % 7) [] with
      | nil => rw [hw] at w2; simp at w2
      | cons x xs =>
        rw [hw] at hc w3
        exact w3 c hc
    · have e : ∀ a : List UInt8, (a ++ [71, 77, 84]).getLast? = some 84 := fun a => by simp
      have e2 : ∀ (a b x y z e f : List UInt8), (a ++ (44 :: 32 :: (b ++ (32 :: (x ++ (32 :: (y ++ (32 :: (z ++ (32 :: [71, 77, 84])))))))))).getLast? = some 84 := fun a b x y z _ _ => by
        have : a ++ (44 :: 32 :: (b ++ (32 :: (x ++ (32 :: (y ++ (32 :: (z ++ (32 :: [71, 77, 84]))))))))) = (a ++ (44 :: 32 :: (b ++ (32 :: (x ++ (32 :: (y ++ (32 :: (z ++ [32]))))))))) ++ [71, 77, 84] := by simp
        rw [this, e]
      rw [e2 _ _ _ _ _ [] []] at hc
      injection hc with hc
      subst hc; decide
  · have e1 : (d2 dd).length = 2 := rfl
    have e2 : (yearL Y).length = 4 := rfl
    have e3 : (clockL (k % 86400)).length = 8 := rfl
    simp only [List.length_append, List.length_cons, w2, m2, e1, e2, e3, List.length_nil]

end Go.Proofs.YtllpdnmhabpbcaaGreatDoor
