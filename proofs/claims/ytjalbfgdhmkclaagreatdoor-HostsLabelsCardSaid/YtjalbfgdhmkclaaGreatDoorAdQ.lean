/-
  Plain words on the document's reading of four bytes: the parts that count, their numbers, the bytes.
-/
import Derived.Test.YtjalbfgdhmkclaaGreatDoorMaC
namespace Go.Proofs.YtjalbfgdhmkclaaGreatDoor
open Go.RowKit

theorem lastQ_nil (a : UInt8) : ∀ (n : Nat) (l : List UInt8), l.length ≤ n → lastQ (pts a l) = [] → l = [] ∨ l.getLast? = some a
  | 0, l, hn, _ => .inl (List.eq_nil_of_length_eq_zero (by omega))
  | n + 1, l, hn, h => by
    rcases pts_cut a l with h' | ⟨q, r, rfl, hq⟩
    · rw [pts_none a l h'] at h; exact .inl h
    · rw [pts_front a q r hq] at h
      have h2 : lastQ (pts a r) = [] := by
        unfold lastQ at h ⊢
        have := pts_ne a r
        cases hp : pts a r with
        | nil => contradiction
        | cons x y => rw [hp] at h; simpa using h
      right
      rcases lastQ_nil a n r (by simp at hn; omega) h2 with rfl | h3
      · simp
      · rw [List.getLast?_append]
        cases r with
        | nil => simp at h3
        | cons x r => rw [List.getLast?_cons_cons, h3]; rfl
theorem pts_len (a : UInt8) : ∀ l : List UInt8, (pts a l).length ≤ l.length + 1
  | [] => by simp [pts]
  | c :: l => by
    have ih := pts_len a l
    rw [pts]
    split
    · simp; omega
    · cases h : pts a l with
      | nil => exact absurd h (pts_ne a l)
      | cons p ps => rw [h] at ih; simp [ahd] at ih ⊢; omega
theorem pts_trim (l : List UInt8) : (if 1 < (pts 46 l).length ∧ lastQ (pts 46 l) = [] then (pts 46 l).dropLast else pts 46 l) = pts 46 (trimP l) := by
  unfold trimP
  by_cases h : l.getLast? = some 46
  · rw [if_pos h]
    obtain ⟨r, rfl⟩ : ∃ r, l = r ++ [46] := by
      rcases List.eq_nil_or_concat l with rfl | ⟨r, x, rfl⟩
      · simp at h
      · rw [List.concat_eq_append] at h ⊢
        simp at h; exact ⟨r, by rw [h]⟩
    have hp : pts 46 (r ++ [46]) = pts 46 r ++ [[]] := pts_append 46 [] r
    have hne := pts_ne 46 r
    rw [hp, if_pos ⟨by
      have : 0 < (pts 46 r).length := List.length_pos_iff.2 hne
      simp; omega, by simp [lastQ]⟩]
    simp
  · rw [if_neg h]
    by_cases h2 : 1 < (pts 46 l).length ∧ lastQ (pts 46 l) = []
    · rcases lastQ_nil 46 l.length l (Nat.le_refl _) h2.2 with rfl | h3
      · simp [pts] at h2
      · exact absurd h3 h
    · rw [if_neg h2]

/-- The bytes that parts tell. -/
def fourQ (Q : List (List UInt8)) : Option (List Nat) := match evs num1 num1 Q with
  | none => none
  | some ns => lay4 4 ns
theorem evs_all : ∀ (Q : List (List UInt8)) (ns : List Nat), Q ≠ [] → Q.map numD = ns.map some → evs num1 num1 Q = some ns
  | [], _, h, _ => absurd rfl h
  | [q], ns, _, h => by
    match ns, h with
    | [n], h =>
      have : numD q = some n := by simpa using h
      show num1 q = _
      rw [num1, this]
    | [], h => simp at h
    | _ :: _ :: _, h => simp at h
  | q :: p :: Q, ns, _, h => by
    match ns, h with
    | n :: ns, h =>
      obtain ⟨e1, e2⟩ := List.cons.inj (show numD q :: (p :: Q).map numD = some n :: ns.map some from h)
      rw [evs_cons _ _ _ (by simp), evs_all (p :: Q) ns (by simp) e2, num1, e1]; rfl
    | [], h => simp at h
theorem evs_no : ∀ (Q : List (List UInt8)), (∃ q ∈ Q, numD q = none) → evs num1 num1 Q = none
  | [], ⟨q, h, _⟩ => by cases h
  | [q], ⟨x, hx, h⟩ => by
    rw [List.mem_singleton.1 hx] at h
    show num1 q = none
    rw [num1, h]
  | q :: p :: Q, ⟨x, hx, h⟩ => by
    rw [evs_cons _ _ _ (by simp)]
    rcases List.mem_cons.1 hx with rfl | hx
    · rw [num1, h]
    · rw [evs_no (p :: Q) ⟨x, hx, h⟩]
      cases num1 q <;> rfl
theorem fourQ_no {Q : List (List UInt8)} (h : ∃ q ∈ Q, numD q = none) : fourQ Q = none := by rw [fourQ, evs_no Q h]
theorem map_all {Q : List (List UInt8)} (h : ¬ ∃ q ∈ Q, numD q = none) : Q.map numD = (Q.map fun q => (numD q).getD 0).map some := by
  rw [List.map_map]
  refine List.map_congr_left (fun q hq => ?_)
  cases hn : numD q with
  | none => exact absurd ⟨q, hq, hn⟩ h
  | some n => simp [hn]
theorem fourQ_bad {Q : List (List UInt8)} {k n : Nat} {ns : List Nat} (hk : k + 1 < Q.length) (h : (Q.take k).map numD = ns.map some) (hs : ∀ x ∈ ns, x < 256) (hq : numD (Q[k]'(by omega)) = some n) (hn : 256 ≤ n) : fourQ Q = none := by
  by_cases ex : ∃ q ∈ Q, numD q = none
  · exact fourQ_no ex
  · have hm := map_all ex
    have hne : Q ≠ [] := by intro e; rw [e] at hk; simp at hk
    rw [fourQ, evs_all Q _ hne hm]
    have hs1 : Q = Q.take k ++ Q[k]'(by omega) :: Q.drop (k + 1) := by rw [← List.drop_eq_getElem_cons, List.take_append_drop]
    have e1 : (Q.map fun q => (numD q).getD 0) = ns ++ n :: (Q.drop (k + 1)).map fun q => (numD q).getD 0 := by
      conv => lhs; rw [hs1]
      rw [List.map_append, List.map_cons, hq]
      have e2 : (Q.take k).map (fun q => (numD q).getD 0) = ns := by
        have := congrArg (List.map (fun o : Option Nat => o.getD 0)) h
        rw [List.map_map, List.map_map] at this
        simpa [Function.comp_def] using this
      rw [e2]; rfl
    obtain ⟨y, r, hy⟩ : ∃ y r, Q.drop (k + 1) = y :: r := by
      cases hd : Q.drop (k + 1) with
      | nil => have := congrArg List.length hd; rw [List.length_drop] at this; simp at this; omega
      | cons y r => exact ⟨y, r, rfl⟩
    simp only [e1, hy, List.map_cons]
    exact lay4_bad ns 4 n _ _ hs hn
theorem fourQ_last {Q : List (List UInt8)} {M n : Nat} {ns : List Nat} (hM : Q.length = M + 1) (h : (Q.take M).map numD = ns.map some) (hs : ∀ x ∈ ns, x < 256) (hq : numD (Q[M]'(by omega)) = some n) : fourQ Q = if n < 256 ^ (4 - M) then some (ns ++ be (4 - M) n) else none := by
  have hs1 : Q = Q.take M ++ [Q[M]'(by omega)] := by
    have : Q = Q.take M ++ Q[M]'(by omega) :: Q.drop (M + 1) := by rw [← List.drop_eq_getElem_cons, List.take_append_drop]
    rw [List.drop_of_length_le (by omega)] at this; exact this
  have hall : Q.map numD = (ns ++ [n]).map some := by
    conv => lhs; rw [hs1]
    rw [List.map_append, h, List.map_append]; simp [hq]
  have hne : Q ≠ [] := by intro e; rw [e] at hM; simp at hM
  have hlen : ns.length = M := by
    have := congrArg List.length h
    rw [List.length_map, List.length_map, List.length_take] at this; omega
  rw [fourQ, evs_all Q _ hne hall]
  have := lay4_pre ns 4 n hs
  rw [hlen] at this; exact this
/-- Behind k of the parts. -/
def InvR (Q : List (List UInt8)) (M k : Nat) (C : Array Value) : Prop :=
  (k ≤ M → ∃ ns, (Q.take k).map numD = ns.map some ∧ (∀ x ∈ ns, x < 256) ∧ C = cellsA false (ns ++ List.replicate (16 - k) 0)) ∧ (k = M + 1 → ∃ bs, fourQ Q = some bs ∧ C = cellsA false (bs ++ List.replicate 12 0))
theorem invR_len {Q : List (List UInt8)} {k M : Nat} {ns : List Nat} (hQ : Q.length = M + 1) (hk : k ≤ M) (h : (Q.take k).map numD = ns.map some) : ns.length = k := by
  have := congrArg List.length h
  rw [List.length_map, List.length_map, List.length_take] at this; omega
theorem invR_step {Q : List (List UInt8)} {M k n : Nat} {C : Array Value} (hQ : Q.length = M + 1) (hM : M ≤ 3) (hk : k < M) (h : InvR Q M k C) (hq : numD (Q[k]'(by omega)) = some n) (hn : n < 256) : InvR Q M (k + 1) (C.setIfInBounds (1 + k) (u8v n)) := by
  obtain ⟨ns, h1, h2, rfl⟩ := h.1 (by omega)
  have hl := invR_len hQ (by omega) h1
  refine ⟨fun _ => ⟨ns ++ [n], ?_, ?_, ?_⟩, fun e => by omega⟩
  · rw [List.take_succ_eq_append_getElem (by omega), List.map_append, h1, List.map_append]; simp [hq]
  · intro x hx
    rcases List.mem_append.1 hx with hx | hx
    · exact h2 x hx
    · rw [List.mem_singleton.1 hx]; exact hn
  · refine cells_ext (by rw [Array.size_setIfInBounds, cellsA_size]; simp [hl]; omega) (by rw [Array.getElem?_setIfInBounds, if_neg (by omega)]; rfl) (fun j hj => ?_)
    rw [Array.getElem?_setIfInBounds]
    by_cases e : j = k
    · subst e
      rw [if_pos (by omega), if_pos (by rw [cellsA_size]; simp [hl]; omega), List.append_assoc, List.getElem?_append_right (by omega), hl]
      simp
    · rw [if_neg (by omega), cellsA_at]
      congr 1
      by_cases hlo : j < k
      · rw [List.getElem?_append_left (by omega), List.append_assoc, List.getElem?_append_left (by omega)]
      · rw [List.getElem?_append_right (by omega), List.getElem?_append_right (by simp; omega)]
        have h5 : j < 16 := by simp [hl] at hj; omega
        rw [List.getElem?_replicate, List.getElem?_replicate, if_pos (by omega), if_pos (by simp; omega)]
theorem invR_last {Q : List (List UInt8)} {M n : Nat} {C D : Array Value} (hQ : Q.length = M + 1) (hM : M ≤ 3) (h : InvR Q M M C) (hq : numD (Q[M]'(by omega)) = some n) (hn : n < 256 ^ (4 - M)) (hs : D.size = C.size)
    (h1 : ∀ j, ¬ (1 + M ≤ j ∧ j < 5) → D[j]? = C[j]?) (h2 : ∀ j, j < 4 - M → D[4 - j]? = some (byteN n j)) : InvR Q M (M + 1) D := by
  obtain ⟨ns, g1, g2, rfl⟩ := h.1 (Nat.le_refl _)
  have hl := invR_len hQ (Nat.le_refl _) g1
  refine ⟨fun e => by omega, fun _ => ⟨_, by rw [fourQ_last hQ g1 g2 hq, if_pos hn], ?_⟩⟩
  have hlen : (ns ++ List.replicate (16 - M) 0).length = 16 := by simp [hl]; omega
  have := put_cells (six := false) (A := ns ++ List.replicate (16 - M) 0) (k := M) (len := 4 - M) (n := n) (by rw [hlen]; omega) hs
    (fun j hj => h1 j (by omega)) (fun j hj => by rw [show 1 + M + (4 - M) - 1 - j = 4 - j by omega]; exact h2 j hj)
  rw [this]
  congr 1
  rw [List.take_append_of_le_length (by omega), List.take_of_length_le (by omega)]
  congr 1
  rw [show M + (4 - M) = 4 by omega, List.drop_append, List.drop_of_length_le (by omega), List.nil_append, hl, List.drop_replicate]
  congr 1; omega

theorem numD_le (q : List UInt8) : (numD q).getD 0 ≤ 4294967296 := by
  have hc : ∀ b l, (cnt b l).getD 0 ≤ 4294967296 := by
    intro b l
    unfold cnt
    split
    · exact fol_le b l
    · exact Nat.zero_le _
  unfold numD
  split
  · exact hc _ _
  · split
    · exact hc _ _
    · split
      · exact Nat.zero_le _
      · exact hc _ _

end Go.Proofs.YtjalbfgdhmkclaaGreatDoor
