/-
  Plain words: numbers in every form, and the address that they tell. Of no program.
-/
import Derived.Test.YtgmjfnddeogfdabDoorTxV
namespace Go.Proofs.YtgmjfnddeogfdabDoor
open Go.RowKit

/-- A number in one of five forms. -/
def formF (f x : Nat) : List UInt8 := match f with
  | 0 => numF 10 11 x
  | 1 => [48, 120] ++ numF 16 11 x
  | 2 => [48] ++ numF 8 11 x
  | 3 => [48, 88, 48, 48, 48] ++ numF 16 11 x
  | _ => [48, 48, 48] ++ numF 8 11 x
theorem fol_nought (b : Nat) (l : List UInt8) : fol b (48 :: l) = fol b l := by
  have : stp b 0 48 = 0 := by
    have : hexV 48 = 0 := by decide
    simp [stp, this]
  simp [fol, this]
theorem all_nought (b : Nat) (hb : 2 ≤ b) (l : List UInt8) (h : l.all (dig b) = true) : (48 :: l).all (dig b) = true := by
  have : dig b 48 = true := by
    have : hexV 48 = 0 := by decide
    simp [dig, this]; omega
  rw [List.all_cons, this, h]; rfl
theorem pow11 (b x : Nat) (hb : 8 ≤ b) (hx : x < 4294967296) : x < b ^ 11 := by
  have : 8 ^ 11 ≤ b ^ 11 := Nat.pow_le_pow_left hb 11
  omega
theorem numD_form (f x : Nat) (hx : x < 4294967296) : numD (formF f x) = some x := by
  have h8 := numF_all (b := 8) (by omega) (by omega) 11 x
  have h16 := numF_all (b := 16) (by omega) (by omega) 11 x
  have e8 := fol_numF (b := 8) (by omega) (by omega) 11 x (pow11 8 x (by omega) hx) (by omega)
  have e16 := fol_numF (b := 16) (by omega) (by omega) 11 x (pow11 16 x (by omega) hx) (by omega)
  have n8 := numF_ne 8 11 x (by omega)
  have no8 := numF_no (b := 8) (by omega) (by omega) 11 x
  match f with
  | 0 => exact numD_dec 10 x (pow11 10 x (by omega) hx) (by omega)
  | 1 =>
    show numD (48 :: 120 :: numF 16 11 x) = _
    rw [numD, if_pos (by simp [isX])]
    show cnt 16 (numF 16 11 x) = _
    rw [cnt_all h16, e16]
  | 2 =>
    show numD (48 :: numF 8 11 x) = _
    have hx1 : isX (48 :: numF 8 11 x) = false := by
      cases e : numF 8 11 x with
      | nil => contradiction
      | cons d r =>
        have := no8 d (by rw [e]; simp)
        simp [isX, this.2.2.1, this.2.2.2]
    have hl : 2 ≤ (48 :: numF 8 11 x).length := by
      have := List.length_pos_iff.2 n8
      simp; omega
    rw [numD, hx1, if_neg (by simp), if_pos ⟨hl, rfl⟩]
    show cnt 8 (numF 8 11 x) = _
    rw [cnt_all h8, e8]
  | 3 =>
    show numD (48 :: 88 :: 48 :: 48 :: 48 :: numF 16 11 x) = _
    rw [numD, if_pos (by simp [isX])]
    show cnt 16 (48 :: 48 :: 48 :: numF 16 11 x) = _
    rw [cnt_all (all_nought 16 (by omega) _ (all_nought 16 (by omega) _ (all_nought 16 (by omega) _ h16))), fol_nought, fol_nought, fol_nought, e16]
  | f + 4 =>
    show numD (48 :: 48 :: 48 :: numF 8 11 x) = _
    rw [numD, if_neg (by simp [isX]), if_pos ⟨by simp, rfl⟩]
    show cnt 8 (48 :: 48 :: numF 8 11 x) = _
    rw [cnt_all (all_nought 8 (by omega) _ (all_nought 8 (by omega) _ h8)), fol_nought, fol_nought, e8]
theorem form_ok (f x : Nat) : formF f x ≠ [] ∧ ∀ c ∈ formF f x, c ≠ 46 := by
  have g : ∀ b, 2 ≤ b → b ≤ 16 → ∀ c ∈ numF b 11 x, c ≠ 46 := fun b h1 h2 c hc => (numF_no h1 h2 11 x c hc).1
  have n10 := numF_ne 10 11 x (by omega)
  unfold formF
  split
  · exact ⟨n10, g 10 (by omega) (by omega)⟩
  all_goals
    refine ⟨by simp, fun c hc => ?_⟩
    rcases List.mem_append.1 hc with h | h
    · simp only [List.mem_cons, List.not_mem_nil, or_false] at h
      repeat' (rcases h with h | h)
      all_goals first | (subst h; decide) | decide
    · exact g _ (by omega) (by omega) c h
theorem looks_form (f x : Nat) (hx : x < 4294967296) : looksQ (formF f x) = true := by
  have hn := numD_form f x hx
  have a8 := numF_all (b := 8) (by omega) (by omega) 11 x
  have a10 : ∀ l : List UInt8, l.all (dig 8) = true → l.all (dig 10) = true := by
    intro l h
    rw [List.all_eq_true] at h ⊢
    intro c hc
    have := h c hc
    simp [dig] at this ⊢; omega
  have hx2 : ∀ l, isX l = true → numD l = some x → looksQ l = true := fun l h1 h2 => by rw [looksQ, h1, h2]; simp
  have hd : ∀ l : List UInt8, l ≠ [] → l.all (dig 10) = true → looksQ l = true := fun l h1 h2 => by
    rw [looksQ, h2]
    cases l with
    | nil => contradiction
    | cons a b => rfl
  match f, hn with
  | 0, _ => exact hd _ (form_ok 0 x).1 (numF_all (by omega) (by omega) 11 x)
  | 1, hn => exact hx2 _ rfl hn
  | 2, _ => exact hd _ (form_ok 2 x).1 (a10 _ (all_nought 8 (by omega) _ a8))
  | 3, hn => exact hx2 _ rfl hn
  | f + 4, _ => exact hd _ (form_ok (f + 4) x).1 (a10 _ (all_nought 8 (by omega) _ (all_nought 8 (by omega) _ (all_nought 8 (by omega) _ a8))))
/-- Numbers in forms are read as bytes. -/
theorem evs_forms (g : Nat → Nat) (v : Nat → Nat) (i : Nat) (is : List Nat) (h : ∀ j ∈ i :: is, v j < 4294967296) : evs num1 num1 ((i :: is).map fun j => formF (g j) (v j)) = some ((i :: is).map v) :=
  evs_join (fun j => formF (g j) (v j)) v i is (fun j hj => by
    have := numD_form (g j) (v j) (h j hj)
    simp [num1, this])
theorem lastQ_app (P : List (List UInt8)) (q : List UInt8) : lastQ (P ++ [q]) = q := by rw [lastQ, List.getLast?_concat]; rfl
theorem fourD_forms (g v : Nat → Nat) (k : Nat) (hk : k < 4) (hv : ∀ j, v j < 4294967296) (e : List UInt8) (he : e = [] ∨ e = [46]) :
    fourD (Lib.join ((List.range (k + 1)).map fun j => formF (g j) (v j)) [46] ++ e) = (true, lay4 4 ((List.range (k + 1)).map v)) := by
  obtain ⟨i, is, hr⟩ : ∃ i is, List.range (k + 1) = i :: is := ⟨0, _, List.range_succ_eq_map⟩
  have h1 : ∀ q ∈ (i :: is).map (fun j => formF (g j) (v j)), q ≠ [] ∧ ∀ c ∈ q, c ≠ 46 := by
    intro q hq
    obtain ⟨j, _, rfl⟩ := List.mem_map.1 hq
    exact form_ok _ _
  have hev := evs_forms g v i is (fun j _ => hv j)
  rw [List.map_cons] at h1
  have hl := join_last 46 _ _ h1
  have ht : trimP (Lib.join ((i :: is).map fun j => formF (g j) (v j)) [46] ++ e) = Lib.join ((i :: is).map fun j => formF (g j) (v j)) [46] := by
    rcases he with rfl | rfl
    · rw [List.append_nil]; exact trimP_id hl.2
    · rw [trimP, if_pos (by simp), List.dropLast_concat]
  have hp : pts 46 (Lib.join ((i :: is).map fun j => formF (g j) (v j)) [46]) = (i :: is).map fun j => formF (g j) (v j) := pts_join 46 _ _ (fun q hq => (h1 q hq).2)
  have hk2 : looksQ (lastQ ((i :: is).map fun j => formF (g j) (v j))) = true := by
    rw [← hr, List.range_succ, List.map_append, List.map_singleton, lastQ_app]
    exact looks_form _ _ (hv k)
  have hlen : ((i :: is).map fun j => formF (g j) (v j)).length = k + 1 := by rw [← hr]; simp
  rw [hr, fourD, ht, hp, hk2, hev, if_pos rfl, hlen, if_neg (by omega)]
/-- The numbers of an address, by k + 1 of them: each but the last one a byte. -/
def numK (n k j : Nat) : Nat := if j = k then n % 256 ^ (4 - k) else n / 256 ^ (3 - j) % 256
theorem numK_lt (n k : Nat) (j : Nat) (hk : k < 4) : numK n k j < 4294967296 := by
  unfold numK
  split
  · have : n % 256 ^ (4 - k) < 256 ^ (4 - k) := Nat.mod_lt _ (Nat.pow_pos (by omega))
    have h2 : 256 ^ (4 - k) ≤ 256 ^ 4 := Nat.pow_le_pow_right (by omega) (by omega)
    omega
  · omega
def four8 (n : Nat) : List Nat := [n / 16777216 % 256, n / 65536 % 256, n / 256 % 256, n % 256]
theorem lay_forms (n k : Nat) (hk : k < 4) (hn : n < 4294967296) : lay4 4 ((List.range (k + 1)).map (numK n k)) = some (four8 n) := by
  match k, hk with
  | 0, _ =>
    show lay4 4 [n % 256 ^ 4] = _
    rw [lay4, if_pos (by omega)]
    simp [be, four8]; omega
  | 1, _ =>
    show lay4 4 [n / 256 ^ 3 % 256, n % 256 ^ 3] = _
    have h1 : n / 256 ^ 3 % 256 < 256 := Nat.mod_lt _ (by omega)
    rw [lay4, if_pos h1, lay4, if_pos (Nat.mod_lt _ (by decide))]
    simp [be, four8]; omega
  | 2, _ =>
    show lay4 4 [n / 256 ^ 3 % 256, n / 256 ^ 2 % 256, n % 256 ^ 2] = _
    have h1 : n / 256 ^ 3 % 256 < 256 := Nat.mod_lt _ (by omega)
    have h2 : n / 256 ^ 2 % 256 < 256 := Nat.mod_lt _ (by omega)
    rw [lay4, if_pos h1, lay4, if_pos h2, lay4, if_pos (Nat.mod_lt _ (by decide))]
    simp [be, four8]; omega
  | 3, _ =>
    show lay4 4 [n / 256 ^ 3 % 256, n / 256 ^ 2 % 256, n / 256 ^ 1 % 256, n % 256 ^ 1] = _
    have h1 : n / 256 ^ 3 % 256 < 256 := Nat.mod_lt _ (by omega)
    have h2 : n / 256 ^ 2 % 256 < 256 := Nat.mod_lt _ (by omega)
    have h3 : n / 256 ^ 1 % 256 < 256 := Nat.mod_lt _ (by omega)
    rw [lay4, if_pos h1, lay4, if_pos h2, lay4, if_pos h3, lay4, if_pos (Nat.mod_lt _ (by decide))]
    simp [be, four8]

end Go.Proofs.YtgmjfnddeogfdabDoor
