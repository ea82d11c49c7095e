/-
  Pairs in order: what it is to put one into a row, plainly, of no program.
-/
import Derived.Test.YtgmjfnddeogfdaaDoorPnM
namespace Go.Proofs.YtgmjfnddeogfdaaDoor

abbrev Pr := Nat × Nat
/-- A pair ahead of another: by its sign, then by its place. -/
def ltP (x y : Pr) : Prop := x.1 < y.1 ∨ (x.1 = y.1 ∧ x.2 < y.2)
theorem ltP_trans {x y z : Pr} (h : ltP x y) (h' : ltP y z) : ltP x z := by
  unfold ltP at *; omega
theorem ltP_irrefl (x : Pr) : ¬ ltP x x := by unfold ltP; omega
theorem ltP_le {x y : Pr} (h : ltP x y) : x.1 ≤ y.1 := by unfold ltP at h; omega
def Srt (l : List Pr) : Prop := l.Pairwise ltP
/-- Places rise. -/
def Ris (l : List Pr) : Prop := l.Pairwise fun x y => x.2 < y.2
theorem srt_ins (U V : List Pr) (x : Pr) (hs : Srt (U ++ V)) (hp : ∀ r ∈ U ++ V, r.2 < x.2) (hv : ∀ v ∈ V, x.1 < v.1) (hu : ∀ u ∈ U, u.1 ≤ x.1) : Srt (U ++ x :: V) := by
  unfold Srt at *
  rw [List.pairwise_append] at hs ⊢
  refine ⟨hs.1, ?_, ?_⟩
  · rw [List.pairwise_cons]
    exact ⟨fun v h => .inl (hv v h), hs.2.1⟩
  · intro u h y hy
    rcases List.mem_cons.1 hy with rfl | hy
    · have h1 := hu u h
      have h2 := hp u (List.mem_append_left _ h)
      unfold ltP; omega
    · exact hs.2.2 u h y hy
theorem srt_le_last {U : List Pr} {y : Pr} (hs : Srt (U ++ [y])) : ∀ u ∈ U ++ [y], u.1 ≤ y.1 := by
  intro u hu
  unfold Srt at hs
  rw [List.pairwise_append] at hs
  rcases List.mem_append.1 hu with h | h
  · exact ltP_le (hs.2.2 u h y (by simp))
  · simp at h; subst h; exact Nat.le_refl _

theorem swap_list : ∀ (A : List Pr) (x y : Pr) (R : List Pr), ((A ++ y :: x :: R).set (A.length + 1) y).set A.length x = A ++ x :: y :: R
  | [], x, y, R => by simp
  | a :: A, x, y, R => by simp
theorem ris_ahead {T1 T3 : List Pr} {x : Pr} (h : Ris (T1 ++ x :: T3)) : ∀ r ∈ T1, r.2 < x.2 := by
  unfold Ris at h
  rw [List.pairwise_append] at h
  exact fun r hr => h.2.2 r hr x (by simp)
/-- One more is put into a row in order. -/
theorem ins_end {T1 T3 U V : List Pr} {x : Pr} (hr : Ris (T1 ++ x :: T3)) (hp : (U ++ V).Perm T1) (hs : Srt (U ++ V)) (hv : ∀ v ∈ V, x.1 < v.1) (hu : ∀ u ∈ U, u.1 ≤ x.1) : (U ++ x :: V).Perm (T1 ++ [x]) ∧ Srt (U ++ x :: V) := by
  refine ⟨?_, srt_ins U V x hs (fun r h => ris_ahead hr r (hp.mem_iff.1 h)) hv hu⟩
  have h1 : (U ++ x :: V).Perm (x :: (U ++ V)) := List.perm_middle
  have h2 : (x :: (U ++ V)).Perm (x :: T1) := hp.cons x
  have h3 : (x :: T1).Perm (T1 ++ [x]) := (List.perm_append_singleton x T1).symm
  exact h1.trans (h2.trans h3)

theorem swap_far : ∀ (X Y Z : List Pr) (x y : Pr), (((X ++ x :: Y ++ y :: Z).set X.length y).set (X.length + 1 + Y.length) x) = X ++ y :: Y ++ x :: Z
  | [], Y, Z, x, y => by
    simp only [List.nil_append, List.length_nil, List.cons_append, List.set_cons_zero]
    rw [show 0 + 1 + Y.length = Y.length + 1 by omega, List.set_cons_succ, List.set_append_right _ _ (Nat.le_refl _)]
    simp
  | a :: X, Y, Z, x, y => by
    have := swap_far X Y Z x y
    simp only [List.cons_append, List.length_cons]
    rw [List.set_cons_succ, show X.length + 1 + 1 + Y.length = X.length + 1 + Y.length + 1 by omega, List.set_cons_succ, this]
theorem at_first (X Y Z : List Pr) (x y : Pr) : (X ++ x :: Y ++ y :: Z)[X.length]? = some x := by
  rw [List.append_assoc, List.getElem?_append_right (Nat.le_refl _)]; simp
theorem at_second (X Y Z : List Pr) (x y : Pr) : (X ++ x :: Y ++ y :: Z)[X.length + 1 + Y.length]? = some y := by
  rw [List.getElem?_append_right (by simp; omega)]
  simp
  rw [show X.length + 1 + Y.length - (X.length + (Y.length + 1)) = 0 by omega]; rfl
/-- Two rows, the first i of which are exchanged. -/
def swTo (P A M B S : List Pr) (i : Nat) : List Pr := P ++ B.take i ++ A.drop i ++ M ++ A.take i ++ B.drop i ++ S
theorem swTo_zero (P A M B S : List Pr) : swTo P A M B S 0 = P ++ A ++ M ++ B ++ S := by simp [swTo]
theorem swTo_all (P A M B S : List Pr) (h : A.length = B.length) : swTo P A M B S A.length = P ++ B ++ M ++ A ++ S := by
  rw [swTo, List.take_of_length_le (show B.length ≤ A.length by omega), List.drop_of_length_le (Nat.le_refl _), List.take_of_length_le (Nat.le_refl _), List.drop_of_length_le (show B.length ≤ A.length by omega)]
  simp
theorem swTo_at (P A M B S : List Pr) (i : Nat) (hA : i < A.length) (hB : i < B.length) :
    swTo P A M B S i = (P ++ B.take i) ++ A[i] :: (A.drop (i + 1) ++ M ++ A.take i) ++ B[i] :: (B.drop (i + 1) ++ S) := by
  have e1 := List.drop_eq_getElem_cons hA
  have e2 := List.drop_eq_getElem_cons hB
  simp only [swTo, e1, e2, List.append_assoc, List.cons_append]
theorem swTo_next (P A M B S : List Pr) (i : Nat) (hA : i < A.length) (hB : i < B.length) :
    (P ++ B.take i) ++ B[i] :: (A.drop (i + 1) ++ M ++ A.take i) ++ A[i] :: (B.drop (i + 1) ++ S) = swTo P A M B S (i + 1) := by
  have e1 := List.take_succ_eq_append_getElem hA
  have e2 := List.take_succ_eq_append_getElem hB
  simp only [swTo, e1, e2, List.append_assoc, List.cons_append, List.nil_append]

theorem srt_get {l : List Pr} (h : Srt l) {i j : Nat} (hij : i < j) (hj : j < l.length) : ltP (l[i]'(by omega)) l[j] :=
  List.pairwise_iff_getElem.1 h i j (by omega) hj hij
theorem srt_get_le {l : List Pr} (h : Srt l) {i j : Nat} (hij : i ≤ j) (hj : j < l.length) : (l[i]'(by omega)).1 ≤ l[j].1 := by
  rcases Nat.lt_or_eq_of_le hij with h1 | rfl
  · exact ltP_le (srt_get h h1 hj)
  · exact Nat.le_refl _
/-- Where a row in order is cut by a sign. -/
theorem cut_low {B : List Pr} {s k : Nat} (h1 : ∀ t (ht : t < B.length), t < k → B[t].1 < s) : ∀ x ∈ B.take k, x.1 < s := by
  intro x hx
  obtain ⟨t, ht, rfl⟩ := List.mem_iff_getElem.1 hx
  rw [List.getElem_take]
  simp at ht
  exact h1 t (by omega) (by omega)
theorem cut_high {B : List Pr} {s k : Nat} (h1 : ∀ t (ht : t < B.length), k ≤ t → s ≤ B[t].1) : ∀ x ∈ B.drop k, s ≤ x.1 := by
  intro x hx
  obtain ⟨t, ht, rfl⟩ := List.mem_iff_getElem.1 hx
  rw [List.getElem_drop]
  simp at ht
  exact h1 (k + t) (by omega) (by omega)
/-- One ahead of a row is put into it. -/
theorem one_ahead {B : List Pr} {x : Pr} {k : Nat} (hs : Srt B) (hx : ∀ y ∈ B, x.2 < y.2) (h1 : ∀ t (ht : t < B.length), t < k → B[t].1 < x.1) (h2 : ∀ t (ht : t < B.length), k ≤ t → x.1 ≤ B[t].1) :
    (B.take k ++ x :: B.drop k).Perm (x :: B) ∧ Srt (B.take k ++ x :: B.drop k) := by
  have e : B.take k ++ B.drop k = B := List.take_append_drop k B
  refine ⟨by have := @List.perm_middle _ x (B.take k) (B.drop k); rwa [e] at this, ?_⟩
  have hs' := hs
  unfold Srt at hs' ⊢
  rw [← e, List.pairwise_append] at hs'
  rw [List.pairwise_append, List.pairwise_cons]
  have hl := cut_low h1
  have hh := cut_high h2
  refine ⟨hs'.1, ⟨fun y hy => ?_, hs'.2.1⟩, fun u hu y hy => ?_⟩
  · have := hh y hy
    have := hx y (List.mem_of_mem_drop hy)
    unfold ltP; omega
  · rcases List.mem_cons.1 hy with rfl | hy
    · exact .inl (hl u hu)
    · exact hs'.2.2 u hu y hy
/-- One behind a row is put into it. -/
theorem one_behind {A : List Pr} {y : Pr} {k : Nat} (hs : Srt A) (hy : ∀ x ∈ A, x.2 < y.2) (h1 : ∀ t (ht : t < A.length), t < k → A[t].1 ≤ y.1) (h2 : ∀ t (ht : t < A.length), k ≤ t → y.1 < A[t].1) :
    (A.take k ++ y :: A.drop k).Perm (A ++ [y]) ∧ Srt (A.take k ++ y :: A.drop k) := by
  have e : A.take k ++ A.drop k = A := List.take_append_drop k A
  have hl := cut_low (B := A) (s := y.1 + 1) (k := k) (fun t ht hk => by have := h1 t ht hk; omega)
  have hh := cut_high (B := A) (s := y.1 + 1) (k := k) (fun t ht hk => by have := h2 t ht hk; omega)
  refine ⟨?_, srt_ins _ _ y (by rw [e]; exact hs) (by rw [e]; exact hy) (fun v hv => by have := hh v hv; omega) (fun u hu => by have := hl u hu; omega)⟩
  have h3 := @List.perm_middle _ y (A.take k) (A.drop k)
  rw [e] at h3
  exact h3.trans (List.perm_append_singleton y A).symm

theorem srt_take {l : List Pr} (h : Srt l) (k : Nat) : Srt (l.take k) := List.Pairwise.sublist (List.take_sublist k l) h
theorem srt_drop {l : List Pr} (h : Srt l) (k : Nat) : Srt (l.drop k) := List.Pairwise.sublist (List.drop_sublist k l) h
theorem cross1 {A B : List Pr} {i j : Nat} (hA : Srt A) (hB : Srt B) (h : i = 0 ∨ B.length ≤ j ∨ ∃ (hi : i - 1 < A.length) (hj : j < B.length), A[i - 1].1 ≤ B[j].1) : ∀ x ∈ A.take i, ∀ y ∈ B.drop j, x.1 ≤ y.1 := by
  intro x hx y hy
  obtain ⟨s, hs, rfl⟩ := List.mem_iff_getElem.1 hx
  obtain ⟨t, ht, rfl⟩ := List.mem_iff_getElem.1 hy
  simp at hs ht
  rw [List.getElem_take, List.getElem_drop]
  rcases h with rfl | h | ⟨hi, hj, h⟩
  · omega
  · omega
  · have h1 := srt_get_le hA (show s ≤ i - 1 by omega) hi
    have h2 := srt_get_le hB (show j ≤ j + t by omega) (by omega)
    omega
theorem cross2 {A B : List Pr} {i j : Nat} (hA : Srt A) (hB : Srt B) (h : A.length ≤ i ∨ j = 0 ∨ ∃ (hi : i < A.length) (hj : j - 1 < B.length), B[j - 1].1 < A[i].1) : ∀ y ∈ B.take j, ∀ x ∈ A.drop i, y.1 < x.1 := by
  intro y hy x hx
  obtain ⟨s, hs, rfl⟩ := List.mem_iff_getElem.1 hx
  obtain ⟨t, ht, rfl⟩ := List.mem_iff_getElem.1 hy
  simp at hs ht
  rw [List.getElem_take, List.getElem_drop]
  rcases h with h | rfl | ⟨hi, hj, h⟩
  · omega
  · omega
  · have h1 := srt_get_le hB (show t ≤ j - 1 by omega) hj
    have h2 := srt_get_le hA (show i ≤ i + s by omega) (by omega)
    omega
/-- Two halves in order, the first ahead of the second. -/
theorem merge_fin {A B R1 R2 : List Pr} {i j : Nat} (hA : Srt A) (hB : Srt B) (hx : ∀ x ∈ A, ∀ y ∈ B, x.2 < y.2) (h1 : ∀ x ∈ A.take i, ∀ y ∈ B.drop j, x.1 ≤ y.1) (h2 : ∀ y ∈ B.take j, ∀ x ∈ A.drop i, y.1 < x.1)
    (p1 : R1.Perm (A.take i ++ B.take j)) (s1 : Srt R1) (p2 : R2.Perm (A.drop i ++ B.drop j)) (s2 : Srt R2) : (R1 ++ R2).Perm (A ++ B) ∧ Srt (R1 ++ R2) := by
  constructor
  · have h3 : (R1 ++ R2).Perm ((A.take i ++ B.take j) ++ (A.drop i ++ B.drop j)) := p1.append p2
    have h4 : ((A.take i ++ B.take j) ++ (A.drop i ++ B.drop j)).Perm ((A.take i ++ A.drop i) ++ (B.take j ++ B.drop j)) := by
      rw [List.append_assoc, List.append_assoc]
      refine List.Perm.append_left _ ?_
      rw [← List.append_assoc, ← List.append_assoc]
      exact List.Perm.append_right _ List.perm_append_comm
    rw [List.take_append_drop, List.take_append_drop] at h4
    exact h3.trans h4
  · unfold Srt at *
    rw [List.pairwise_append]
    refine ⟨s1, s2, fun u hu v hv => ?_⟩
    have hu' := p1.mem_iff.1 hu
    have hv' := p2.mem_iff.1 hv
    rcases List.mem_append.1 hu' with hu' | hu' <;> rcases List.mem_append.1 hv' with hv' | hv'
    · have := hA
      rw [← List.take_append_drop i A, List.pairwise_append] at this
      exact this.2.2 u hu' v hv'
    · have h5 := h1 u hu' v hv'
      have h6 := hx u (List.mem_of_mem_take hu') v (List.mem_of_mem_drop hv')
      unfold ltP; omega
    · exact .inl (h2 u hu' v hv')
    · have := hB
      rw [← List.take_append_drop j B, List.pairwise_append] at this
      exact this.2.2 u hu' v hv'
theorem srt_half {A B : List Pr} (hA : Srt A) (hB : Srt B) (h : A.length = 0 ∨ B.length = 0) : Srt (A ++ B) := by
  rcases h with h | h
  · rw [List.eq_nil_of_length_eq_zero h]; simpa using hB
  · rw [List.eq_nil_of_length_eq_zero h]; simpa using hA

end Go.Proofs.YtgmjfnddeogfdaaDoor
