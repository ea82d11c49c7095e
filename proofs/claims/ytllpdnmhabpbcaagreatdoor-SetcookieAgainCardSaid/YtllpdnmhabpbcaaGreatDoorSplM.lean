/-
  Plain facts: a text's parts at a byte, of no program.
-/
import Derived.Test.YtllpdnmhabpbcaaGreatDoorTrimA
namespace Go.Proofs.YtllpdnmhabpbcaaGreatDoor
open Go.RowKit

/-- Puts a byte ahead of the first part. -/
def ahead (c : UInt8) : List (List UInt8) → List (List UInt8)
  | [] => [[c]]
  | p :: ps => (c :: p) :: ps
/-- What stands between the bytes a. -/
def parts (a : UInt8) : List UInt8 → List (List UInt8)
  | [] => [[]]
  | c :: l => if c = a then [] :: parts a l else ahead c (parts a l)
theorem parts_ne (a : UInt8) (l : List UInt8) : parts a l ≠ [] := by
  cases l with
  | nil => simp [parts]
  | cons c l =>
    rw [parts]; split
    · simp
    · cases parts a l <;> simp [ahead]
theorem split_eq (a : UInt8) : ∀ l : List UInt8, Lib.split l [a] = parts a l
  | [] => by
    unfold Lib.split
    rw [Lib.count_one]; rfl
  | b :: l => by
    have ih := split_eq a l
    unfold Lib.split at ih ⊢
    by_cases h : b = a
    · subst h
      have hix : Lib.index (b :: l) [b] = 0 := by rw [Lib.index]; simp [List.isPrefixOf]
      rw [Lib.count_cons_eq, Nat.add_comm, parts, if_pos rfl, ← ih, Lib.splitK, hix]
      simp
    · rw [Lib.count_cons_ne b a l h, parts, if_neg h, ← ih]
      have hp : ([a] : List UInt8).isPrefixOf (b :: l) = false := by simp [List.isPrefixOf, Ne.symm h]
      have hix : Lib.index (b :: l) [a] = if Lib.index l [a] == -1 then -1 else Lib.index l [a] + 1 := by rw [Lib.index, hp]; simp
      by_cases hm : Lib.index l [a] = -1
      · rw [Lib.count_miss hm]; rfl
      · have hge := Lib.index_ge l [a]
        obtain ⟨j, hj⟩ : ∃ j : Nat, Lib.index l [a] = j := ⟨(Lib.index l [a]).toNat, by omega⟩
        have hix' : Lib.index (b :: l) [a] = ((j + 1 : Nat) : Int) := by rw [hix, if_neg (fun e => hm (beq_iff_eq.1 e)), hj]; omega
        have hc := Lib.count_hit (s := l) (sub := [a]) (by simp) hj
        rw [hc, Nat.add_comm, Lib.splitK, Lib.splitK, hix', hj]
        have e1 : ((((j + 1 : Nat) : Int)) == -1) = false := beq_eq_false_iff_ne.2 (by omega)
        have e2 : ((j : Int) == -1) = false := beq_eq_false_iff_ne.2 (by omega)
        rw [e1, e2]
        simp [ahead]

def asText (l : List UInt8) : ByteArray := ⟨l.toArray⟩
theorem asText_data (l : List UInt8) : (asText l).data.toList = l := rfl
/-- A text's raw parts; and each without the blanks at its ends. -/
def rawP (a : UInt8) (s : ByteArray) : List ByteArray := Lib.splitB ⟨#[a]⟩ 0 (Lib.countB s ⟨#[a]⟩) s
def partsA (a : UInt8) (s : ByteArray) : List ByteArray := (rawP a s).map trimA
theorem rawP_data (a : UInt8) (s : ByteArray) : (rawP a s).map (·.data.toList) = parts a s.data.toList := by
  rw [rawP, Lib.splitB_data, ← split_eq]; rfl
theorem rawP_len (a : UInt8) (s : ByteArray) : (rawP a s).length = Lib.countB s ⟨#[a]⟩ + 1 := Lib.splitB_all ⟨#[a]⟩ (Nat.le_refl 1) 0 _ s rfl
theorem partsA_data (a : UInt8) (s : ByteArray) : (partsA a s).map (·.data.toList) = (parts a s.data.toList).map trimL := by
  rw [partsA, ← rawP_data, List.map_map, List.map_map]; rfl
theorem partsA_len (a : UInt8) (s : ByteArray) : (partsA a s).length = (parts a s.data.toList).length := by
  have := congrArg List.length (partsA_data a s)
  simpa using this
theorem parts_count (a : UInt8) : ∀ l : List UInt8, (parts a l).length = l.count a + 1
  | [] => rfl
  | c :: l => by
    have ih := parts_count a l
    rw [parts]
    by_cases h : c = a
    · subst h; rw [if_pos rfl]; simp [ih]
    · rw [if_neg h, List.count_cons_of_ne (by simpa using h), ← ih]
      have := parts_ne a l
      cases e : parts a l with
      | nil => contradiction
      | cons p ps => rfl
theorem parts_mem (a : UInt8) : ∀ (l : List UInt8) (p : List UInt8), p ∈ parts a l → ∀ c ∈ p, c ∈ l ∧ c ≠ a
  | [], p, hp, c, hc => by simp [parts] at hp; subst hp; cases hc
  | b :: l, p, hp, c, hc => by
    have ih := parts_mem a l
    rw [parts] at hp
    by_cases h : b = a
    · rw [if_pos h] at hp
      rcases List.mem_cons.1 hp with rfl | hp
      · cases hc
      · exact ⟨List.mem_cons_of_mem _ (ih p hp c hc).1, (ih p hp c hc).2⟩
    · rw [if_neg h] at hp
      have hne := parts_ne a l
      cases e : parts a l with
      | nil => contradiction
      | cons q qs =>
        rw [e] at hp ih
        rcases List.mem_cons.1 hp with rfl | hp
        · rcases List.mem_cons.1 hc with rfl | hc
          · exact ⟨List.mem_cons_self .., h⟩
          · exact ⟨List.mem_cons_of_mem _ (ih q (List.mem_cons_self ..) c hc).1, (ih q (List.mem_cons_self ..) c hc).2⟩
        · exact ⟨List.mem_cons_of_mem _ (ih p (List.mem_cons_of_mem _ hp) c hc).1, (ih p (List.mem_cons_of_mem _ hp) c hc).2⟩
theorem parts_append (a : UInt8) (r : List UInt8) : ∀ l : List UInt8, parts a (l ++ a :: r) = parts a l ++ parts a r
  | [] => by simp [parts]
  | c :: l => by
    have ih := parts_append a r l
    rw [List.cons_append, parts, parts, ih]
    by_cases h : c = a
    · rw [if_pos h, if_pos h]; rfl
    · rw [if_neg h, if_neg h]
      have hne := parts_ne a l
      cases e : parts a l with
      | nil => contradiction
      | cons q qs => rfl
theorem rawP_size (a : UInt8) (s t : ByteArray) (h : t ∈ rawP a s) : t.size ≤ s.size := by
  have h1 : t.data.toList ∈ parts a s.data.toList := by rw [← rawP_data]; exact List.mem_map_of_mem h
  have h2 : ∀ (l p : List UInt8), p ∈ parts a l → p.length ≤ l.length := by
    intro l
    induction l with
    | nil => intro p hp; simp [parts] at hp; subst hp; simp
    | cons c l ih =>
      intro p hp
      rw [parts] at hp
      by_cases hc : c = a
      · rw [if_pos hc] at hp
        rcases List.mem_cons.1 hp with rfl | hp
        · simp
        · have := ih p hp; simp; omega
      · rw [if_neg hc] at hp
        have hne := parts_ne a l
        cases e : parts a l with
        | nil => contradiction
        | cons q qs =>
          rw [e] at hp ih
          rcases List.mem_cons.1 hp with rfl | hp
          · have := ih q (List.mem_cons_self ..); simp; omega
          · have := ih p (List.mem_cons_of_mem _ hp); simp; omega
  have h3 := h2 _ _ h1
  have e1 : t.data.toList.length = t.size := by simp
  have e2 : s.data.toList.length = s.size := by simp
  omega

/-- The parts while the loop runs: the first k of them trimmed. -/
def rowTo (a : UInt8) (s : ByteArray) (k : Nat) : List ByteArray := ((rawP a s).take k).map trimA ++ (rawP a s).drop k
theorem rowTo_zero (a : UInt8) (s : ByteArray) : rowTo a s 0 = rawP a s := by simp [rowTo]
theorem rowTo_all (a : UInt8) (s : ByteArray) : rowTo a s (rawP a s).length = partsA a s := by simp [rowTo, partsA]
theorem rowTo_len (a : UInt8) (s : ByteArray) (k : Nat) (h : k ≤ (rawP a s).length) : (rowTo a s k).length = (rawP a s).length := by simp [rowTo]; omega
theorem rowTo_at (a : UInt8) (s : ByteArray) (k j : Nat) (hj : j < (rawP a s).length) (hk : k ≤ (rawP a s).length) : (rowTo a s k)[j]? = some (if j < k then trimA (rawP a s)[j] else (rawP a s)[j]) := by
  have hg : (rawP a s)[j]? = some (rawP a s)[j] := List.getElem?_eq_getElem hj
  rw [rowTo]
  by_cases h : j < k
  · rw [List.getElem?_append_left (by simp; omega), if_pos h, List.getElem?_map, List.getElem?_take_of_lt h, hg]; rfl
  · rw [List.getElem?_append_right (by simp; omega), if_neg h, List.getElem?_drop]
    have : k + (j - (((rawP a s).take k).map trimA).length) = j := by simp; omega
    rw [this, hg]
theorem rowTo_set (a : UInt8) (s : ByteArray) (k : Nat) (hk : k < (rawP a s).length) : (((rowTo a s k).map Value.string).toArray).setIfInBounds k (.string (trimA (rawP a s)[k])) = ((rowTo a s (k + 1)).map Value.string).toArray := by
  apply Array.ext_getElem?
  intro j
  have l1 := rowTo_len a s k (by omega)
  have l2 := rowTo_len a s (k + 1) (by omega)
  rw [Array.getElem?_setIfInBounds, List.getElem?_toArray, List.getElem?_toArray, List.getElem?_map, List.getElem?_map]
  by_cases e : k = j
  · subst e
    rw [if_pos rfl, if_pos (by simp [l1]; omega), rowTo_at a s (k + 1) k hk (by omega), if_pos (by omega)]; rfl
  · rw [if_neg e]
    by_cases hj : j < (rawP a s).length
    · rw [rowTo_at a s k j hj (by omega), rowTo_at a s (k + 1) j hj (by omega)]
      by_cases hjk : j < k
      · rw [if_pos hjk, if_pos (by omega)]
      · rw [if_neg hjk, if_neg (by omega)]
    · rw [List.getElem?_eq_none (by omega), List.getElem?_eq_none (by omega)]

end Go.Proofs.YtllpdnmhabpbcaaGreatDoor
