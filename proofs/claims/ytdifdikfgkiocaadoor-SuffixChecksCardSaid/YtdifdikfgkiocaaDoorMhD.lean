/-
  Plain words on hosts: parts at points, what is asked for part by part, what a host's text says; of no program but for names.
  Plain words: texts that do not look like four bytes; sixteen bytes with all their noughts; what a text of sixteen bytes is made of. Of no program.
  Plain words on hosts: a host that was answered is answered again.
-/
import Derived.Test.YtdifdikfgkiocaaDoorMpJ
import Derived.Test.YtdifdikfgkiocaaDoorMaA
import Derived.Test.YtdifdikfgkiocaaDoorMaD
import Derived.Test.YtdifdikfgkiocaaDoorMaG
import Derived.Shelf.Strings.Split
import Derived.Test.YtdifdikfgkiocaaDoorMhA
namespace Go.Proofs.YtdifdikfgkiocaaDoor
open Go.RowKit

/- Parts at a byte, as Go's library cuts them. -/
theorem lsplit_eq (a : UInt8) : ∀ l : List UInt8, Lib.split l [a] = pts a l
  | [] => by
    unfold Lib.split
    rw [Lib.count_one]; rfl
  | b :: l => by
    have ih := lsplit_eq a l
    unfold Lib.split at ih ⊢
    by_cases h : b = a
    · subst h
      have hix : Lib.index (b :: l) [b] = 0 := by rw [Lib.index]; simp [List.isPrefixOf]
      rw [Lib.count_cons_eq, Nat.add_comm, pts, if_pos rfl, ← ih, Lib.splitK, hix]
      simp
    · rw [Lib.count_cons_ne b a l h, pts, if_neg h, ← ih]
      have hp : ([a] : List UInt8).isPrefixOf (b :: l) = false := by simp [List.isPrefixOf, Ne.symm h]
      have hix : Lib.index (b :: l) [a] = if Lib.index l [a] == -1 then -1 else Lib.index l [a] + 1 := by rw [Lib.index, hp]; simp
      by_cases hm : Lib.index l [a] = -1
      · rw [Lib.count_miss hm]; rfl
      · have hge := Lib.index_ge l [a]
        obtain ⟨j, hj⟩ : ∃ j : Nat, Lib.index l [a] = j := ⟨(Lib.index l [a]).toNat, by omega⟩
        have hix' : Lib.index (b :: l) [a] = ((j + 1 : Nat) : Int) := by rw [hix, if_neg (fun e => hm (beq_iff_eq.1 e)), hj]; omega
        have hc := Lib.count_hit (s := l) (sub := [a]) (by simp) hj
        rw [hc, Nat.add_comm, Lib.splitK, Lib.splitK, hix', hj]
        have e1 : ((((j + 1 : Nat) : Int)) == -1) = false := beq_eq_false_iff_ne.2 (by omega)
        have e2 : ((j : Int) == -1) = false := beq_eq_false_iff_ne.2 (by omega)
        rw [e1, e2]
        simp [ahd]
/-- A text's parts at a byte. -/
def rawB (a : UInt8) (s : ByteArray) : List ByteArray := Lib.splitB ⟨#[a]⟩ 0 (Lib.countB s ⟨#[a]⟩) s
theorem rawB_data (a : UInt8) (s : ByteArray) : (rawB a s).map (·.data.toList) = pts a s.data.toList := by
  rw [rawB, Lib.splitB_data, ← lsplit_eq]; rfl
theorem rawB_len (a : UInt8) (s : ByteArray) : (rawB a s).length = Lib.countB s ⟨#[a]⟩ + 1 := Lib.splitB_all ⟨#[a]⟩ (Nat.le_refl 1) 0 _ s rfl
theorem rawB_eq (a : UInt8) (s : ByteArray) : rawB a s = (pts a s.data.toList).map asB := by
  rw [← rawB_data, List.map_map]
  conv => lhs; rw [← List.map_id (rawB a s)]
  exact List.map_congr_left (fun x _ => rfl)
theorem pts_mem (a : UInt8) : ∀ (l : List UInt8) (p : List UInt8), p ∈ pts a l → ∀ c ∈ p, c ∈ l ∧ c ≠ a
  | [], p, hp, c, hc => by simp [pts] at hp; subst hp; cases hc
  | b :: l, p, hp, c, hc => by
    have ih := pts_mem a l
    rw [pts] at hp
    by_cases h : b = a
    · rw [if_pos h] at hp
      rcases List.mem_cons.1 hp with rfl | hp
      · cases hc
      · exact ⟨List.mem_cons_of_mem _ (ih p hp c hc).1, (ih p hp c hc).2⟩
    · rw [if_neg h] at hp
      have hne := pts_ne a l
      cases e : pts a l with
      | nil => contradiction
      | cons q qs =>
        rw [e] at hp ih
        rcases List.mem_cons.1 hp with rfl | hp
        · rcases List.mem_cons.1 hc with rfl | hc
          · exact ⟨List.mem_cons_self .., h⟩
          · exact ⟨List.mem_cons_of_mem _ (ih q (List.mem_cons_self ..) c hc).1, (ih q (List.mem_cons_self ..) c hc).2⟩
        · exact ⟨List.mem_cons_of_mem _ (ih p (List.mem_cons_of_mem _ hp) c hc).1, (ih p (List.mem_cons_of_mem _ hp) c hc).2⟩
theorem pts_size (a : UInt8) : ∀ (l p : List UInt8), p ∈ pts a l → p.length ≤ l.length := by
  intro l
  induction l with
  | nil => intro p hp; simp [pts] at hp; subst hp; simp
  | cons c l ih =>
    intro p hp
    rw [pts] at hp
    by_cases hc : c = a
    · rw [if_pos hc] at hp
      rcases List.mem_cons.1 hp with rfl | hp
      · simp
      · have := ih p hp; simp; omega
    · rw [if_neg hc] at hp
      have hne := pts_ne a l
      cases e : pts a l with
      | nil => contradiction
      | cons q qs =>
        rw [e] at hp ih
        rcases List.mem_cons.1 hp with rfl | hp
        · have := ih q (List.mem_cons_self ..); simp; omega
        · have := ih p (List.mem_cons_of_mem _ hp); simp; omega
theorem pts_count (a : UInt8) : ∀ l : List UInt8, (pts a l).length ≤ l.length + 1
  | [] => by simp [pts]
  | c :: l => by
    have ih := pts_count a l
    rw [pts]
    by_cases h : c = a
    · rw [if_pos h]; simp; omega
    · rw [if_neg h]
      have hne := pts_ne a l
      cases e : pts a l with
      | nil => contradiction
      | cons q qs => rw [e] at ih; simp [ahd] at ih ⊢; omega
theorem rawB_mem (a : UInt8) (s t : ByteArray) (h : t ∈ rawB a s) : t.size ≤ s.size ∧ ∀ c ∈ t.data.toList, c ∈ s.data.toList ∧ c ≠ a := by
  have h1 : t.data.toList ∈ pts a s.data.toList := by rw [← rawB_data]; exact List.mem_map_of_mem h
  have h2 := pts_size a _ _ h1
  rw [lenB, lenB] at h2
  exact ⟨h2, pts_mem a _ _ h1⟩
theorem rawB_ne (a : UInt8) (s : ByteArray) : rawB a s ≠ [] := by
  have := pts_ne a s.data.toList
  rw [rawB_eq]; simpa using this
theorem rawB_count (a : UInt8) (s : ByteArray) : (rawB a s).length ≤ s.size + 1 := by
  rw [rawB_eq, List.length_map, ← lenB s]; exact pts_count a _
theorem join_ahd (a c : UInt8) (L : List (List UInt8)) (h : L ≠ []) : Lib.join (ahd c L) [a] = c :: Lib.join L [a] := by
  match L, h with
  | [x], _ => simp [ahd, Lib.join_one]
  | x :: y :: r, _ => simp [ahd, join_split]
theorem join_pts (a : UInt8) : ∀ l : List UInt8, Lib.join (pts a l) [a] = l
  | [] => by simp [pts, Lib.join_one]
  | c :: l => by
    have ih := join_pts a l
    have hne := pts_ne a l
    rw [pts]
    by_cases h : c = a
    · rw [if_pos h]
      cases e : pts a l with
      | nil => contradiction
      | cons q qs => rw [join_split, ← e, ih, h]; rfl
    · rw [if_neg h, join_ahd a c _ hne, ih]
/-- Parts with points between. -/
def dotJ (L : List ByteArray) : ByteArray := asB (Lib.join (L.map (·.data.toList)) [46])
def foulB (c : UInt8) : Bool := decide (c.toNat ≤ 32) || decide (0 ≤ Lib.indexByte [35, 37, 47, 58, 60, 62, 63, 64, 91, 92, 93, 94, 124, 127] c)
def foulL (l : List UInt8) : Bool := l.any foulB
/-- Four bytes, cell by cell sixteen. -/
def six0 (a : List Nat) : List Nat := a ++ List.replicate 12 0
def fourT (n : ByteArray) : Option ByteArray := match fourD n.data.toList with
  | (false, _) => some n
  | (true, none) => none
  | (true, some a) => some (asB (textD false (six0 a)))
def endT (n : ByteArray) : Option ByteArray := if foulL n.data.toList then none else if 253 < n.size then none else fourT n
end Go.Proofs.YtdifdikfgkiocaaDoor
namespace Go.Proofs.YtdifdikfgkiocaaDoor
open Go.RowKit

/- Sixteen bytes with all their noughts. -/
def hx (g : Bool) (d : Nat) : UInt8 := UInt8.ofNat (if d < 10 then 48 + d else if g then 55 + d else 87 + d)
end Go.Proofs.YtdifdikfgkiocaaDoor
namespace Go.Proofs.YtdifdikfgkiocaaDoor
open Go.RowKit

/-- What may be asked for, as it is asked for. -/
def GoodB (l : ByteArray) : Prop := labT l = (l, 0) ∧ 1 ≤ l.size ∧ l.size ≤ 63 ∧ plainL l.data.toList = true ∧ lowS l = l ∧ ∀ c ∈ l.data.toList, c ≠ 46
theorem dotJ_data (L : List ByteArray) : (dotJ L).data.toList = Lib.join (L.map (·.data.toList)) [46] := rfl
theorem ne_of_size {l : ByteArray} (h : 1 ≤ l.size) : l.data.toList ≠ [] := by
  intro e
  have := lenB l
  rw [e] at this; simp at this; omega
theorem dot_last {L : List ByteArray} (hne : L ≠ []) (hg : ∀ l ∈ L, GoodB l) : (dotJ L).data.toList ≠ [] ∧ (dotJ L).data.toList.getLast? ≠ some 46 := by
  rw [dotJ_data]
  match L, hne with
  | x :: r, _ =>
    refine join_last 46 x.data.toList (r.map (·.data.toList)) (fun q hq => ?_)
    rw [← List.map_cons (f := fun b : ByteArray => b.data.toList)] at hq
    obtain ⟨l, hl, rfl⟩ := List.mem_map.1 hq
    exact ⟨ne_of_size (hg l hl).2.1, (hg l hl).2.2.2.2.2⟩
/-- Four bytes' text. -/
abbrev four4 (b0 b1 b2 b3 : Nat) : ByteArray := asB (textD false (six0 [b0, b1, b2, b3]))
theorem four4_four {b0 b1 b2 b3 : Nat} (h0 : b0 < 256) (h1 : b1 < 256) (h2 : b2 < 256) (h3 : b3 < 256) : fourD (four4 b0 b1 b2 b3).data.toList = (true, some [b0, b1, b2, b3]) := four_back b0 b1 b2 b3 _ h0 h1 h2 h3
/-- A name that was answered. -/
def NameX (x : ByteArray) : Prop := ∃ L, L ≠ [] ∧ (∀ l ∈ L, GoodB l) ∧ x = dotJ L ∧ foulL x.data.toList = false ∧ x.size ≤ 253 ∧ ((fourD x.data.toList).1 = false ∨ ∃ b0 b1 b2 b3, x = four4 b0 b1 b2 b3 ∧ b0 < 256 ∧ b1 < 256 ∧ b2 < 256 ∧ b3 < 256)
theorem NameX.end {x : ByteArray} (h : NameX x) : endT x = some x := by
  obtain ⟨L, _, _, _, h1, h2, h3⟩ := h
  unfold endT
  rw [h1, if_neg (by simp), if_neg (by omega)]
  unfold fourT
  rcases h3 with h3 | ⟨b0, b1, b2, b3, rfl, g0, g1, g2, g3⟩
  · cases e : fourD x.data.toList with
    | mk u v => rw [e] at h3; simp only at h3; subst h3; rfl
  · rw [four4_four g0 g1 g2 g3]
theorem foul_no {l : List UInt8} (h : foulL l = false) : ∀ c ∈ l, foulB c = false := fun c hc => by
  have := List.any_eq_false.1 h c hc
  simpa using this
theorem NameX.no {x : ByteArray} (h : NameX x) : ∀ c ∈ x.data.toList, foulB c = false := by
  obtain ⟨L, _, _, _, h1, _⟩ := h
  exact foul_no h1
theorem NameX.no91 {x : ByteArray} (h : NameX x) : ∀ c ∈ x.data.toList, c ≠ 91 := fun c hc e => by
  have := h.no c hc
  rw [e] at this
  exact absurd this (by decide)
theorem NameX.ne {x : ByteArray} (h : NameX x) : x.data.toList ≠ [] := by
  obtain ⟨L, hne, hg, rfl, _⟩ := h
  exact (dot_last hne hg).1
theorem low_dot : ∀ L : List (List UInt8), (∀ l ∈ L, l.map low = l) → (Lib.join L [46]).map low = Lib.join L [46]
  | [], _ => rfl
  | [x], h => by rw [Lib.join_one]; exact h x (by simp)
  | x :: y :: r, h => by
    rw [join_split, List.map_append, List.map_cons, h x (by simp), low_dot (y :: r) (fun l hl => h l (List.mem_cons_of_mem _ hl))]; rfl
theorem NameX.low {x : ByteArray} (h : NameX x) : lowS x = x := by
  obtain ⟨L, _, hg, rfl, _⟩ := h
  refine ba_of ?_
  rw [lowS_data, dotJ_data]
  refine low_dot _ (fun p hp => ?_)
  obtain ⟨l, hl, rfl⟩ := List.mem_map.1 hp
  rw [← lowS_data, (hg l hl).2.2.2.2.1]
theorem plain_dot : ∀ L : List (List UInt8), (∀ l ∈ L, plainL l = true) → plainL (Lib.join L [46]) = true
  | [], _ => rfl
  | [x], h => by rw [Lib.join_one]; exact h x (by simp)
  | x :: y :: r, h => by
    have h1 := h x (by simp)
    have h2 := plain_dot (y :: r) (fun l hl => h l (List.mem_cons_of_mem _ hl))
    rw [join_split]
    unfold plainL at *
    rw [List.all_append, List.all_cons, h1, h2]; rfl
theorem NameX.plain {x : ByteArray} (h : NameX x) : plainL x.data.toList = true := by
  obtain ⟨L, _, hg, rfl, _⟩ := h
  rw [dotJ_data]
  refine plain_dot _ (fun p hp => ?_)
  obtain ⟨l, hl, rfl⟩ := List.mem_map.1 hp
  exact (hg l hl).2.2.2.1
end Go.Proofs.YtdifdikfgkiocaaDoor
