/-
  A text's three parts at colons; bytes of a set, in plain words (package dates).
-/
import Derived.Test.YtllpdnmhabpbcaaGreatDoorDtC
import Derived.Test.YtllpdnmhabpbcaaGreatDoorAdB
import Derived.Lib.Split
import Derived.Lib.SplitLaws
import Derived.Lib.IndexMore
import Derived.Lib.IndexAny
import Derived.Lib.SlTrimSet
namespace Go.Proofs.YtllpdnmhabpbcaaGreatDoor
open Go.RowKit

theorem ic_hit (a : UInt8) (l : List UInt8) : Lib.index (a :: l) [a] = 0 := by rw [Lib.index]; simp [List.isPrefixOf]
theorem ic_miss {a b : UInt8} (h : b ≠ a) (l : List UInt8) : Lib.index (b :: l) [a] = if Lib.index l [a] == -1 then -1 else Lib.index l [a] + 1 := by
  have hp : ([a] : List UInt8).isPrefixOf (b :: l) = false := by simp [List.isPrefixOf, Ne.symm h]
  rw [Lib.index, hp]; simp
theorem ic_any (a : UInt8) : ∀ l : List UInt8, (a ∉ l ∧ Lib.index l [a] = -1) ∨ ∃ p q, l = p ++ a :: q ∧ a ∉ p ∧ Lib.index l [a] = (p.length : Nat)
  | [] => .inl ⟨by simp, rfl⟩
  | b :: l => by
    by_cases h : b = a
    · subst h
      exact .inr ⟨[], l, rfl, by simp, ic_hit b l⟩
    · rcases ic_any a l with ⟨h1, h2⟩ | ⟨p, q, h1, h2, h3⟩
      · exact .inl ⟨by simp [h1, Ne.symm h], by rw [ic_miss h, h2]; rfl⟩
      · refine .inr ⟨b :: p, q, by rw [h1]; rfl, by simp [h2, Ne.symm h], ?_⟩
        have hm : (((p.length : Nat) : Int) == -1) = false := beq_eq_false_iff_ne.2 (by omega)
        rw [ic_miss h, h3, hm]
        simp
/-- A number of one or two digits, and what stands behind the colon behind it. -/
def hdN (l : List UInt8) : Option (Int × List UInt8) := match toldN 1 2 l with
  | none => none
  | some (h, r) => match afterC r with
    | none => none
    | some q => some (h, q)
theorem clock_hd (l : List UInt8) : clockP l = match hdN l with
  | none => none
  | some (h, r) => match hdN r with
    | none => none
    | some (m, q) => match toldN 1 2 q with
      | none => none
      | some (x, _) => some (h, m, x) := by
  unfold clockP hdN
  cases toldN 1 2 l with
  | none => rfl
  | some x =>
    obtain ⟨h, r⟩ := x
    simp only
    cases afterC r with
    | none => rfl
    | some q =>
      simp only
      cases toldN 1 2 q with
      | none => rfl
      | some x =>
        obtain ⟨m, r⟩ := x
        simp only
        cases afterC r with
        | none => rfl
        | some q => rfl
theorem after_none {l : List UInt8} (h : (58 : UInt8) ∉ l) : afterC l = none := by
  cases l with
  | nil => rfl
  | cons c l =>
    have : c ≠ 58 := fun e => h (by simp [e])
    simp [afterC, this]
theorem hd_none {l : List UInt8} (h : (58 : UInt8) ∉ l) : hdN l = none := by
  unfold hdN toldN
  split
  · rfl
  · rename_i h2
    split at h2
    · injection h2 with h2
      injection h2 with h3 h4
      subst h4
      rw [after_none (fun e => h ((List.dropWhile_suffix _).subset e))]
    · cases h2
theorem colon_no : isD 58 = false := by decide
theorem hd_split {p q : List UInt8} (h : (58 : UInt8) ∉ p) : hdN (p ++ 58 :: q) = match toldN 1 2 p with
  | some (n, []) => some (n, q)
  | _ => none := by
  by_cases hp : ∀ c ∈ p, isD c = true
  · have e1 : (p ++ 58 :: q).takeWhile isD = p := by rw [List.takeWhile_append_of_pos hp, List.takeWhile_cons, colon_no]; simp
    have e2 : (p ++ 58 :: q).dropWhile isD = 58 :: q := by rw [List.dropWhile_append_of_pos hp, List.dropWhile_cons, colon_no]; simp
    have e3 : p.takeWhile isD = p := by have := List.takeWhile_append_of_pos (l₂ := []) hp; simpa using this
    have e4 : p.dropWhile isD = [] := by have := List.dropWhile_append_of_pos (l₂ := []) hp; simpa using this
    unfold hdN toldN
    rw [e1, e2, e3, e4]
    by_cases hl : 1 ≤ p.length ∧ p.length ≤ 2
    · rw [if_pos hl, if_pos hl]; simp [afterC]
    · rw [if_neg hl, if_neg hl]
  · obtain ⟨c, d, e, hd⟩ : ∃ c d, p.dropWhile isD = c :: d ∧ isD c = false := by
      cases hd : p.dropWhile isD with
      | nil =>
        exfalso
        apply hp
        intro c hc
        have := List.takeWhile_append_dropWhile (p := isD) (l := p)
        rw [hd, List.append_nil] at this
        rw [← this] at hc
        exact List.all_eq_true.1 (List.all_takeWhile (p := isD) (l := p)) c hc
      | cons c d =>
        refine ⟨c, d, rfl, ?_⟩
        have := List.head?_dropWhile_not isD p
        rw [hd] at this; simpa using this
    have hc : c ≠ 58 := fun e2 => h (by rw [← e2]; exact (List.dropWhile_suffix _).subset (by rw [e]; simp))
    have f1 : (p ++ 58 :: q).takeWhile isD = p.takeWhile isD := by
      have := List.takeWhile_append_dropWhile (p := isD) (l := p)
      conv => lhs; rw [← this, e]
      rw [List.append_assoc, List.takeWhile_append_of_pos (fun c hc => List.all_eq_true.1 (List.all_takeWhile (p := isD) (l := p)) c hc), List.cons_append, List.takeWhile_cons, hd]
      simp
    have f2 : (p ++ 58 :: q).dropWhile isD = c :: (d ++ 58 :: q) := by
      have := List.takeWhile_append_dropWhile (p := isD) (l := p)
      conv => lhs; rw [← this, e]
      rw [List.append_assoc, List.dropWhile_append_of_pos (fun c hc => List.all_eq_true.1 (List.all_takeWhile (p := isD) (l := p)) c hc), List.cons_append, List.dropWhile_cons, hd]
      simp
    unfold hdN toldN
    rw [f1, f2, e]
    by_cases hl : 1 ≤ (p.takeWhile isD).length ∧ (p.takeWhile isD).length ≤ 2
    · rw [if_pos hl]; simp [afterC, hc]
    · rw [if_neg hl, if_neg hl]
/-- What three parts tell. -/
def clock3 (a b c : List UInt8) : Option (Int × Int × Int) := match toldN 1 2 a with
  | some (h, []) => match toldN 1 2 b with
    | some (m, []) => match toldN 1 2 c with
      | some (x, _) => some (h, m, x)
      | none => none
    | _ => none
  | _ => none
theorem clock_split {a b c : List UInt8} (ha : (58 : UInt8) ∉ a) (hb : (58 : UInt8) ∉ b) : clockP (a ++ 58 :: (b ++ 58 :: c)) = clock3 a b c := by
  rw [clock_hd, hd_split ha]
  unfold clock3
  cases toldN 1 2 a with
  | none => rfl
  | some x =>
    obtain ⟨n, r⟩ := x
    cases r with
    | cons x r => rfl
    | nil =>
      simp only
      rw [hd_split hb]
      cases toldN 1 2 b with
      | none => rfl
      | some x =>
        obtain ⟨m, r⟩ := x
        cases r with
        | nil => simp only; cases toldN 1 2 c <;> rfl
        | cons x r => rfl
theorem split3 (s : ByteArray) : ((Lib.splitB ⟨#[58]⟩ 0 (min 3 (s.size + 1) - 1) s).length < 3 ∧ clockP s.data.toList = none) ∨
    ∃ a b c : ByteArray, Lib.splitB ⟨#[58]⟩ 0 (min 3 (s.size + 1) - 1) s = [a, b, c] ∧ clockP s.data.toList = clock3 a.data.toList b.data.toList c.data.toList ∧ a.size ≤ s.size ∧ b.size ≤ s.size ∧ c.size ≤ s.size ∧ min 3 (s.size + 1) = 3 := by
  have ix : ∀ t : ByteArray, Lib.indexB t ⟨#[58]⟩ = Lib.index t.data.toList [58] := fun t => rfl
  have hle := Lib.splitB_length_le ⟨#[58]⟩ 0 (min 3 (s.size + 1) - 1) s
  rcases ic_any 58 s.data.toList with ⟨h1, h2⟩ | ⟨p, q, h1, h2, h3⟩
  · left
    rw [Lib.splitB_miss _ _ _ _ (by rw [ix, h2])]
    exact ⟨by simp, by rw [clock_hd, hd_none h1]⟩
  · rcases ic_any 58 q with ⟨g1, g2⟩ | ⟨p2, q2, g1, g2, g3⟩
    · left
      have hc : clockP s.data.toList = none := by
        rw [h1, clock_hd, hd_split h2]
        split <;> rename_i e
        · rfl
        · split at e
          · injection e with e
            injection e with e1 e2
            subst e2
            rw [hd_none g1]
          · cases e
      refine ⟨?_, hc⟩
      cases hk : min 3 (s.size + 1) - 1 with
      | zero => simp [Lib.splitB]
      | succ k =>
        rw [Lib.splitB_hit _ _ _ _ p.length (by rw [ix, h3])]
        rw [Lib.splitB_miss _ _ _ _ (by
          rw [ix]
          have : (s.extract (p.length + (ByteArray.mk #[58]).size) s.size).data.toList = q := by
            rw [ByteArray.data_extract, Array.toList_extract, List.extract_eq_take_drop, h1]
            have hz : s.size = p.length + (q.length + 1) := by rw [← lenB, h1]; simp
            rw [hz]
            show List.take (p.length + (q.length + 1) - (p.length + 1)) (List.drop (p.length + 1) (p ++ 58 :: q)) = q
            have e : List.drop (p.length + 1) (p ++ 58 :: q) = q := by rw [← List.drop_drop]; simp
            rw [e, List.take_of_length_le (by omega)]
          rw [this, g2])]
        simp
    · right
      have hz : s.size = p.length + (p2.length + (q2.length + 1) + 1) := by rw [← lenB, h1, g1]; simp
      have hm : min 3 (s.size + 1) - 1 = 2 := by omega
      have d1 : (s.extract (p.length + (ByteArray.mk #[58]).size) s.size).data.toList = q := by
        rw [ByteArray.data_extract, Array.toList_extract, List.extract_eq_take_drop, h1]
        have hq : q.length = p2.length + (q2.length + 1) := by rw [g1]; simp
        show List.take (s.size - (p.length + 1)) (List.drop (p.length + 1) (p ++ 58 :: q)) = q
        have e : List.drop (p.length + 1) (p ++ 58 :: q) = q := by rw [← List.drop_drop]; simp
        rw [e, List.take_of_length_le (by omega)]
      obtain ⟨t, ht⟩ : ∃ t, s.extract (p.length + (ByteArray.mk #[58]).size) s.size = t := ⟨_, rfl⟩
      rw [ht] at d1
      have hzt : t.size = p2.length + (q2.length + 1) := by rw [← lenB, d1, g1]; simp
      have a1 : (s.extract 0 (p.length + 0)).data.toList = p := by
        rw [ByteArray.data_extract, Array.toList_extract, List.extract_eq_take_drop, h1]; simp
      have b1 : (t.extract 0 (p2.length + 0)).data.toList = p2 := by
        rw [ByteArray.data_extract, Array.toList_extract, List.extract_eq_take_drop, d1, g1]; simp
      have c1 : (t.extract (p2.length + (ByteArray.mk #[58]).size) t.size).data.toList = q2 := by
        rw [ByteArray.data_extract, Array.toList_extract, List.extract_eq_take_drop, d1, g1]
        show List.take (t.size - (p2.length + 1)) (List.drop (p2.length + 1) (p2 ++ 58 :: q2)) = q2
        have e : List.drop (p2.length + 1) (p2 ++ 58 :: q2) = q2 := by rw [← List.drop_drop]; simp
        rw [e, List.take_of_length_le (by omega)]
      refine ⟨s.extract 0 (p.length + 0), t.extract 0 (p2.length + 0), t.extract (p2.length + (ByteArray.mk #[58]).size) t.size, ?_, ?_, ?_, ?_, ?_, by omega⟩
      · rw [hm, Lib.splitB_hit _ _ _ _ p.length (by rw [ix, h3]), ht, Lib.splitB_hit _ _ _ _ p2.length (by rw [ix, d1, g3]), Lib.splitB_zero]
      · rw [a1, b1, c1, h1, g1, clock_split h2 g2]
      · rw [← lenB, a1]; omega
      · rw [← lenB, b1]; omega
      · rw [← lenB, c1]; omega

/-- The bytes between words, and the digits, as the reader has them. -/
abbrev BT : ByteArray := ⟨#[9, 32, 33, 34, 35, 36, 37, 38, 39, 40, 41, 42, 43, 44, 45, 46, 47, 59, 60, 61, 62, 63, 64, 91, 92, 93, 94, 95, 96, 123, 124, 125, 126]⟩
abbrev DG : ByteArray := ⟨#[48, 49, 50, 51, 52, 53, 54, 55, 56, 57]⟩
theorem bt_has (c : UInt8) : BT.data.toList.contains c = btw c := by
  have h : ∀ n : Fin 256, BT.data.toList.contains (UInt8.ofNat n.1) = btw (UInt8.ofNat n.1) := by decide +kernel
  have := h ⟨c.toNat, c.toNat_lt⟩
  simpa using this
theorem dg_has (c : UInt8) : DG.data.toList.contains c = isD c := by
  have h : ∀ n : Fin 256, DG.data.toList.contains (UInt8.ofNat n.1) = isD (UInt8.ofNat n.1) := by decide +kernel
  have := h ⟨c.toNat, c.toNat_lt⟩
  simpa using this
theorem trim_bt (l : List UInt8) : Lib.trimLeftS l BT.data.toList = l.dropWhile btw := by
  unfold Lib.trimLeftS; congr 1; funext c; exact bt_has c
theorem trim_dg (l : List UInt8) : Lib.trimLeftS l DG.data.toList = l.dropWhile isD := by
  unfold Lib.trimLeftS; congr 1; funext c; exact dg_has c
theorem any_bt : ∀ l : List UInt8, (Lib.indexAny l BT.data.toList = -1 ∧ l.takeWhile nob = l ∧ l.dropWhile nob = []) ∨ ∃ k : Nat, k ≤ l.length ∧ Lib.indexAny l BT.data.toList = k ∧ l.takeWhile nob = l.take k ∧ l.dropWhile nob = l.drop k
  | [] => .inl ⟨rfl, rfl, rfl⟩
  | c :: l => by
    rw [Lib.indexAny, bt_has, List.takeWhile_cons, List.dropWhile_cons]
    cases h : btw c with
    | true => exact .inr ⟨0, Nat.zero_le _, by simp, by simp [nob, h], by simp [nob, h]⟩
    | false =>
      have hn : nob c = true := by simp [nob, h]
      rw [if_pos hn, if_pos hn]
      rcases any_bt l with ⟨h1, h2, h3⟩ | ⟨k, h0, h1, h2, h3⟩
      · exact .inl ⟨by rw [h1]; rfl, by rw [h2], h3⟩
      · have hm : (((k : Nat) : Int) == -1) = false := beq_eq_false_iff_ne.2 (by omega)
        refine .inr ⟨k + 1, by simp; omega, ?_, by rw [h2]; rfl, by rw [h3]; rfl⟩
        rw [h1, hm]; simp

end Go.Proofs.YtllpdnmhabpbcaaGreatDoor
