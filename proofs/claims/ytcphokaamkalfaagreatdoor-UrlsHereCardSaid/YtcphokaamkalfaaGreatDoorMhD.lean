/-
  Plain words on hosts: parts at points, what is asked for part by part, what a host's text says; of no program but for names.
  Plain words: texts that do not look like four bytes; sixteen bytes with all their noughts; what a text of sixteen bytes is made of. Of no program.
  Plain words on hosts: a host that was answered is answered again.
-/
import Derived.Test.YtcphokaamkalfaaGreatDoorMpJ
import Derived.Test.YtcphokaamkalfaaGreatDoorMaA
import Derived.Test.YtcphokaamkalfaaGreatDoorMaD
import Derived.Test.YtcphokaamkalfaaGreatDoorMaG
import Derived.Shelf.Strings.Split
import Derived.Test.YtcphokaamkalfaaGreatDoorMhA
namespace Go.Proofs.YtcphokaamkalfaaGreatDoor
open Go.RowKit

/- Parts at a byte, as Go's library cuts them. -/
theorem lsplit_eq (a : UInt8) : ∀ l : List UInt8, Lib.split l [a] = pts a l
 | [] => by
  unfold Lib.split
  rw [Lib.count_one]; rfl
 | b :: l => by
  have ih := lsplit_eq a l
  unfold Lib.split at ih ⊢
  by_cases h : b = a
  ·subst h
   have hix : Lib.index (b :: l) [b] = 0 := by rw [Lib.index]; simp [List.isPrefixOf]
   rw [Lib.count_cons_eq, Nat.add_comm, pts, if_pos rfl, ← ih, Lib.splitK, hix]
   simp
  ·rw [Lib.count_cons_ne b a l h, pts, if_neg h, ← ih]
   have hp : ([a] : List UInt8).isPrefixOf (b :: l) = false := by simp [List.isPrefixOf, Ne.symm h]
   have hix : Lib.index (b :: l) [a] = if Lib.index l [a] == -1 then -1 else Lib.index l [a] + 1 := by rw [Lib.index, hp]; simp
   by_cases hm : Lib.index l [a] = -1
   ·rw [Lib.count_miss hm]; rfl
   ·have hge := Lib.index_ge l [a]
    obtain ⟨j, hj⟩ : ∃ j : Nat, Lib.index l [a] = j := ⟨(Lib.index l [a]).toNat, by omega⟩
    have hix' : Lib.index (b :: l) [a] = ((j + 1 : Nat) : Int) := by rw [hix, if_neg (fun e => hm (beq_iff_eq.1 e)), hj]; omega
    have hc := Lib.count_hit (s := l) (sub := [a]) (by simp) hj
    rw [hc, Nat.add_comm, Lib.splitK, Lib.splitK, hix', hj]
    have e1 : ((((j + 1 : Nat) : Int)) == -1) = false := beq_eq_false_iff_ne.2 (by omega)
    have e2 : ((j : Int) == -1) = false := beq_eq_false_iff_ne.2 (by omega)
    rw [e1, e2]
    simp [ahd]
/-- A text's parts at a byte. -/
def rawB (a : UInt8) (s : ByteArray) : List ByteArray := Lib.splitB ⟨#[a]⟩ 0 (Lib.countB s ⟨#[a]⟩) s
theorem rawB_data (a : UInt8) (s : ByteArray) : (rawB a s).map (·.data.toList) = pts a s.data.toList := by
 rw [rawB, Lib.splitB_data, ← lsplit_eq]; rfl
theorem rawB_len (a : UInt8) (s : ByteArray) : (rawB a s).length = Lib.countB s ⟨#[a]⟩ + 1 := Lib.splitB_all ⟨#[a]⟩ (Nat.le_refl 1) 0 _ s rfl
theorem rawB_eq (a : UInt8) (s : ByteArray) : rawB a s = (pts a s.data.toList).map asB := by
 rw [← rawB_data, List.map_map]
 conv => lhs; rw [← List.map_id (rawB a s)]
 exact List.map_congr_left (fun x _ => rfl)
theorem pts_mem (a : UInt8) : ∀ (l : List UInt8) (p : List UInt8), p ∈ pts a l → ∀ c ∈ p, c ∈ l ∧ c ≠ a
 | [], p, hp, c, hc => by simp [pts] at hp; subst hp; cases hc
 | b :: l, p, hp, c, hc => by
  have ih := pts_mem a l
  rw [pts] at hp
  by_cases h : b = a
  ·rw [if_pos h] at hp
   rcases List.mem_cons.1 hp with rfl | hp
   ·cases hc
   ·exact ⟨List.mem_cons_of_mem _ (ih p hp c hc).1, (ih p hp c hc).2⟩
  ·rw [if_neg h] at hp
   have hne := pts_ne a l
   cases e : pts a l with
   | nil => contradiction
   | cons q qs =>
    rw [e] at hp ih
    rcases List.mem_cons.1 hp with rfl | hp
    ·rcases List.mem_cons.1 hc with rfl | hc
     ·exact ⟨List.mem_cons_self .., h⟩
     ·exact ⟨List.mem_cons_of_mem _ (ih q (List.mem_cons_self ..) c hc).1, (ih q (List.mem_cons_self ..) c hc).2⟩
    ·exact ⟨List.mem_cons_of_mem _ (ih p (List.mem_cons_of_mem _ hp) c hc).1, (ih p (List.mem_cons_of_mem _ hp) c hc).2⟩
theorem pts_size (a : UInt8) : ∀ (l p : List UInt8), p ∈ pts a l → p.length ≤ l.length := by
 intro l
 induction l with
 | nil => intro p hp; simp [pts] at hp; subst hp; simp
 | cons c l ih =>
  intro p hp
  rw [pts] at hp
  by_cases hc : c = a
  ·rw [if_pos hc] at hp
   rcases List.mem_cons.1 hp with rfl | hp
   ·simp
   ·have := ih p hp; simp; omega
  ·rw [if_neg hc] at hp
   have hne := pts_ne a l
   cases e : pts a l with
   | nil => contradiction
   | cons q qs =>
    rw [e] at hp ih
    rcases List.mem_cons.1 hp with rfl | hp
    ·have := ih q (List.mem_cons_self ..); simp; omega
    ·have := ih p (List.mem_cons_of_mem _ hp); simp; omega
theorem pts_count (a : UInt8) : ∀ l : List UInt8, (pts a l).length ≤ l.length + 1
 | [] => by simp [pts]
 | c :: l => by
  have ih := pts_count a l
  rw [pts]
  by_cases h : c = a
  ·rw [if_pos h]; simp; omega
  ·rw [if_neg h]
   have hne := pts_ne a l
   cases e : pts a l with
   | nil => contradiction
   | cons q qs => rw [e] at ih; simp [ahd] at ih ⊢; omega
theorem rawB_mem (a : UInt8) (s t : ByteArray) (h : t ∈ rawB a s) : t.size ≤ s.size ∧ ∀ c ∈ t.data.toList, c ∈ s.data.toList ∧ c ≠ a := by
 have h1 : t.data.toList ∈ pts a s.data.toList := by rw [← rawB_data]; exact List.mem_map_of_mem h
 have h2 := pts_size a _ _ h1
 rw [lenB, lenB] at h2
 exact ⟨h2, pts_mem a _ _ h1⟩
theorem rawB_ne (a : UInt8) (s : ByteArray) : rawB a s ≠ [] := by
 have := pts_ne a s.data.toList
 rw [rawB_eq]; simpa using this
theorem rawB_count (a : UInt8) (s : ByteArray) : (rawB a s).length ≤ s.size + 1 := by
 rw [rawB_eq, List.length_map, ← lenB s]; exact pts_count a _
/- Parts joined. -/
theorem pts_joinL (a : UInt8) (L : List (List UInt8)) (h : L ≠ []) (hp : ∀ p ∈ L, ∀ c ∈ p, c ≠ a) : pts a (Lib.join L [a]) = L := by
 match L, h with
 | x :: r, _ => exact pts_join a x r hp
theorem join_ahd (a c : UInt8) (L : List (List UInt8)) (h : L ≠ []) : Lib.join (ahd c L) [a] = c :: Lib.join L [a] := by
 match L, h with
 | [x], _ => simp [ahd, Lib.join_one]
 | x :: y :: r, _ => simp [ahd, join_split]
theorem join_pts (a : UInt8) : ∀ l : List UInt8, Lib.join (pts a l) [a] = l
 | [] => by simp [pts, Lib.join_one]
 | c :: l => by
  have ih := join_pts a l
  have hne := pts_ne a l
  rw [pts]
  by_cases h : c = a
  ·rw [if_pos h]
   cases e : pts a l with
   | nil => contradiction
   | cons q qs => rw [join_split, ← e, ih, h]; rfl
  ·rw [if_neg h, join_ahd a c _ hne, ih]
/-- Parts with points between. -/
def dotJ (L : List ByteArray) : ByteArray := asB (Lib.join (L.map (·.data.toList)) [46])
/-- A text without the point at its end. -/
def trimD (s : ByteArray) : ByteArray := asB (Lib.trimSuffix s.data.toList [46])
theorem trimD_size (s : ByteArray) : (trimD s).size ≤ s.size := by
 rw [trimD, asB_size, Lib.trimSuffix]
 have := lenB s
 split
 ·rw [List.length_take]; omega
 ·omega

/- What is asked for, part by part; none: a part is refused. -/
def labsT : List ByteArray → Option (List ByteArray)
 | [] => some []
 | p :: ps => if (labT p).2 = 0 then match labsT ps with
   | none => none
   | some L => some ((labT p).1 :: L)
  else none
def foulB (c : UInt8) : Bool := decide (c.toNat ≤ 32) || decide (0 ≤ Lib.indexByte [35, 37, 47, 58, 60, 62, 63, 64, 91, 92, 93, 94, 124, 127] c)
def foulL (l : List UInt8) : Bool := l.any foulB
/-- Four bytes, cell by cell sixteen. -/
def six0 (a : List Nat) : List Nat := a ++ List.replicate 12 0
def fourT (n : ByteArray) : Option ByteArray := match fourD n.data.toList with
 | (false, _) => some n
 | (true, none) => none
 | (true, some a) => some (asB (textD false (six0 a)))
def endT (n : ByteArray) : Option ByteArray := if foulL n.data.toList then none else if 253 < n.size then none else fourT n
def namedT (d : ByteArray) : Option ByteArray := match labsT (rawB 46 (trimD d)) with
 | none => none
 | some L => endT (dotJ L)
def brackT (l : List UInt8) : Option ByteArray := if l.getLast? = some 93 then match sixD l.dropLast with
  | none => none
  | some ps => some (asB ([91] ++ textD true (pb ps) ++ [93]))
 else none
def hostO (s : ByteArray) : Option ByteArray := if s.data.toList.head? = some 91 then brackT (s.data.toList.drop 1) else namedT (decS s)
/-- What Parse answers. -/
def hostT (s : ByteArray) : ByteArray × Int := if 65536 < s.size then (⟨#[]⟩, 3) else match hostO s with
 | none => (⟨#[]⟩, 5)
 | some x => (x, 0)

/- What comes out of a part is what it has of plain signs, or a letter or digit. -/
theorem digsL_Q {Q : UInt8 → Prop} (hlet : ∀ d, d < 36 → Q (letL d)) : ∀ (f n k b : Nat), n ≤ f → ∀ c ∈ digsL f n k b, Q c
 | 0, n, k, b, h => by
  obtain rfl : n = 0 := by omega
  rw [digsL]
  intro c hc
  rw [List.mem_singleton] at hc
  rw [hc]
  first
   | exact hlet 0 (by omega)
   | exact (show letL 0 = 97 from rfl) ▸ hlet 0 (by omega)
 | f + 1, n, k, b, h => by
  have hs := stepN_bd k b
  by_cases ht : n < stepN k b
  ·rw [digsL_end ht]
   intro c hc
   rw [List.mem_singleton] at hc
   rw [hc]; exact hlet n (by omega)
  ·have hle : (n - stepN k b) / (36 - stepN k b) ≤ f := Nat.le_trans (Nat.div_le_self _ _) (by omega)
   have hlt : stepN k b + (n - stepN k b) % (36 - stepN k b) < 36 := by
    have : (n - stepN k b) % (36 - stepN k b) < 36 - stepN k b := Nat.mod_lt _ (by omega)
    omega
   rw [digsL_on ht]
   intro c hc
   rcases List.mem_cons.1 hc with hc | hc
   ·rw [hc]; exact hlet _ hlt
   ·exact digsL_Q hlet f _ _ _ hle c hc
theorem fewN_Q {Q : UInt8 → Prop} (hlet : ∀ d, d < 36 → Q (letL d)) (begun : Nat) : ∀ (R : List Pr) (told : List Nat) (i place last bias : Nat), ∀ c ∈ fewN begun R told i place last bias, Q c
 | [], _, _, _, _, _ => by simp [fewN]
 | (m, p) :: R, told, i, place, last, bias => by
  rw [fewN]
  intro c hc
  rcases List.mem_append.1 hc with hc | hc
  ·exact digsL_Q hlet _ _ _ _ (Nat.le_refl _) c hc
  ·exact fewN_Q hlet begun R _ _ _ _ _ c hc
theorem few_Q {Q : UInt8 → Prop} (hlet : ∀ d, d < 36 → Q (letL d)) (h45 : Q 45) {s : ByteArray} {L : List Nat} (hL : sgO s s.size 0 = some L) (h : ∀ c ∈ s.data.toList, c.toNat < 128 → Q c) : ∀ c ∈ (fewT s).data.toList, Q c := by
 have hLw : L = (sgn s s.size 0).map (·.1) := by
  rcases valid_sg s with ⟨_, L', h2, h3, _⟩ | ⟨_, h2⟩
  ·rw [hL] at h2; injection h2 with h2; rw [h2]; exact h3
  ·rw [hL] at h2; cases h2
 obtain ⟨R, hR, hsr⟩ := srt_exists (otL (sgn s s.size 0)) (ris_ne (ris_filter (sgn_ris s _ _) _))
 have hdoc := few_doc s R hR hsr
 have hfe : (fewT s).data.toList = fewL (sgn s s.size 0) R := by rw [fewT, hdoc]
 rw [hfe]
 intro c hc
 rw [fewL, List.mem_append, List.mem_append] at hc
 rcases hc with (hc | hc) | hc
 ·obtain ⟨x, hx, rfl⟩ := List.mem_map.1 hc
  have hx1 := List.mem_filter.1 hx
  have hx2 : x.1 < 128 := by have := hx1.2; simpa [isPl] using this
  obtain ⟨hby, hbad⟩ := bytes_sgO s s.size 0 L (by omega) hL
  rw [List.drop_zero] at hby
  have hx3 : x.1 ∈ L := by rw [hLw]; exact List.mem_map_of_mem hx1.1
  have hk : ∀ n : Fin 128, UInt8.ofNat n.1 ∈ bytesL [n.1] := by decide +kernel
  have hm : UInt8.ofNat x.1 ∈ s.data.toList := by
   rw [← hby, bytesL, List.mem_flatMap]
   refine ⟨x.1, hx3, ?_⟩
   have := hk ⟨x.1, hx2⟩
   rw [bytesL, List.flatMap_cons, List.flatMap_nil, List.append_nil] at this
   exact this
  exact h _ hm (by rw [nat8 (by omega)]; exact hx2)
 ·split at hc
  ·simp at hc
  ·rw [List.mem_singleton] at hc; rw [hc]; exact h45
 ·exact fewN_Q hlet _ _ _ _ _ _ _ c hc
theorem let_no46 (d : Nat) (h : d < 36) : letL d ≠ 46 := by
 have hd : ∀ d : Fin 36, letL d.1 ≠ 46 := by decide +kernel
 exact hd ⟨d, h⟩
theorem few_no46 {s : ByteArray} {L : List Nat} (hL : sgO s s.size 0 = some L) (h : ∀ c ∈ s.data.toList, c ≠ 46) : ∀ c ∈ (fewT s).data.toList, c ≠ 46 :=
 few_Q (Q := fun c => c ≠ 46) let_no46 (by decide) hL (fun c hc _ => h c hc)
theorem low46 : ∀ c : UInt8, low c = 46 → c = 46 := by
 have h : ∀ n : Fin 256, low (UInt8.ofNat n.1) = 46 → UInt8.ofNat n.1 = 46 := by decide +kernel
 intro c hc
 have := h ⟨c.toNat, c.toNat_lt⟩
 simp only [UInt8.ofNat_toNat] at this
 exact this hc
theorem low_no46 {s : ByteArray} (h : ∀ c ∈ s.data.toList, c ≠ 46) : ∀ c ∈ (lowS s).data.toList, c ≠ 46 := by
 rw [lowS_data]
 intro c hc e
 obtain ⟨d, hd, rfl⟩ := List.mem_map.1 hc
 exact h d hd (low46 d e)
theorem lab_no46 (s : ByteArray) (h : ∀ c ∈ s.data.toList, c ≠ 46) : ∀ c ∈ (labT s).1.data.toList, c ≠ 46 := by
 have hn : ∀ c ∈ (⟨#[]⟩ : ByteArray).data.toList, c ≠ 46 := by simp
 have hE : ∀ l : ByteArray, (∀ c ∈ l.data.toList, c ≠ 46) → ∀ c ∈ (labE l).1.data.toList, c ≠ 46 := fun l hl => by
  unfold labE; split
  ·exact hn
  ·exact hl
 have hl := low_no46 h
 by_cases h0 : s.size = 0
 ·unfold labT; rw [if_pos h0]; exact hn
 rcases valid_sg s with ⟨hv, L, hL, hL2, hrc⟩ | ⟨hv, _⟩
 ·by_cases h63 : 63 < Lib.runeCount s
  ·unfold labT; rw [if_neg h0, if_neg (by rw [hv]; simp), if_pos h63]; exact hn
  ·unfold labT; rw [if_neg h0, if_neg (by rw [hv]; simp), if_neg h63]
   split
   ·split
    ·split
     ·exact hE _ hl
     ·exact hn
    ·exact hE _ hl
   ·refine hE _ ?_
    have hf := few_no46 (low_sg hL) hl
    intro c hc
    rw [ByteArray.data_append, Array.toList_append] at hc
    rcases List.mem_append.1 hc with hc | hc
    ·have hpx : ∀ c ∈ (⟨#[120, 110, 45, 45]⟩ : ByteArray).data.toList, c ≠ 46 := by decide
     exact hpx c hc
    ·exact hf c hc
 ·unfold labT; rw [if_neg h0, if_pos hv]; exact hn

end Go.Proofs.YtcphokaamkalfaaGreatDoor
namespace Go.Proofs.YtcphokaamkalfaaGreatDoor
open Go.RowKit

/- Sixteen bytes with all their noughts. -/
def hx (g : Bool) (d : Nat) : UInt8 := UInt8.ofNat (if d < 10 then 48 + d else if g then 55 + d else 87 + d)
/- What a text of sixteen bytes is made of. -/
def goodC (c : UInt8) : Bool := c == 58 || (decide (48 ≤ c.toNat) && decide (c.toNat ≤ 57)) || (decide (97 ≤ c.toNat) && decide (c.toNat ≤ 102))
/-- No sign that is none, no nought ahead of a piece; p: begins a piece here? -/
def okS : Bool → List UInt8 → Bool
 | _, [] => true
 | p, c :: r => goodC c && !(c == 48 && p && !r.isEmpty && !(r.head? == some 58)) && okS (c == 58) r
/-- How often two colons stand together. -/
def twoS : Bool → List UInt8 → Nat
 | _, [] => 0
 | p, c :: r => (if p && c == 58 then 1 else 0) + twoS (c == 58) r
theorem hd_good : ∀ d : Fin 16, goodC (hd d.1) = true ∧ (hd d.1 == 58) = false := by decide +kernel
def Edge (R : List UInt8) : Prop := R = [] ∨ ∃ r, R = 58 :: r
theorem okS_edge {R : List UInt8} (h : Edge R) (p q : Bool) : okS p R = okS q R := by
 rcases h with rfl | ⟨r, rfl⟩
 ·rfl
 ·simp [okS]
theorem okS_plain (R : List UInt8) : ∀ q : List UInt8, (∀ c ∈ q, goodC c = true ∧ (c == 58) = false) → okS false (q ++ R) = okS false R
 | [], _ => rfl
 | c :: q, h => by
  rw [List.cons_append, okS, (h c (by simp)).1, (h c (by simp)).2, okS_plain R q (fun x hx => h x (List.mem_cons_of_mem _ hx))]
  simp
theorem numF_good (n : Nat) : ∀ c ∈ numF 16 4 n, goodC c = true ∧ (c == 58) = false := by
 intro c hc
 obtain ⟨d, hd1, rfl⟩ := numF_mem 16 (by omega) (by omega) 4 n c hc
 exact hd_good ⟨d, hd1⟩
theorem okS_num (n : Nat) (hn : n < 65536) (R : List UInt8) (hR : Edge R) (p : Bool) : okS p (numF 16 4 n ++ R) = okS true R := by
 have hg := numF_good n
 have hne := numF_ne 16 4 n (by omega)
 have h48 := numF_len48 (b := 16) (by omega) (by omega) 3 n (by omega)
 cases e : numF 16 4 n with
 | nil => contradiction
 | cons c q =>
  rw [e] at hg h48
  rw [List.cons_append, okS, (hg c (by simp)).1, (hg c (by simp)).2, okS_plain R q (fun x hx => hg x (List.mem_cons_of_mem _ hx)), okS_edge hR false true]
  have : (c == 48 && p && !(q ++ R).isEmpty && !((q ++ R).head? == some 58)) = false := by
   cases hc : c == 48
   ·rfl
   ·have hc' : c = 48 := by simpa using hc
    have hq := h48 (by rw [hc']; rfl)
    have hq' : q = [] := List.eq_nil_of_length_eq_zero (by simpa using hq)
    subst hq'
    rcases hR with rfl | ⟨r, rfl⟩
    ·simp
    ·simp
  rw [this]; rfl
theorem twoS_plain (R : List UInt8) : ∀ (q : List UInt8) (p : Bool), q ≠ [] → (∀ c ∈ q, goodC c = true ∧ (c == 58) = false) → twoS p (q ++ R) = twoS false R
 | [], _, h, _ => absurd rfl h
 | [c], p, _, h => by
  rw [List.cons_append, twoS, (h c (by simp)).2]; simp
 | c :: d :: q, p, _, h => by
  rw [List.cons_append, twoS, (h c (by simp)).2, twoS_plain R (d :: q) false (by simp) (fun x hx => h x (List.mem_cons_of_mem _ hx))]
  simp
theorem okS_join (P : List Nat) (hP : ∀ x ∈ P, x < 65536) (R : List UInt8) (hR : Edge R) : ∀ p, okS p (Lib.join (P.map (numF 16 4)) [58] ++ R) = okS true R := by
 induction P with
 | nil => intro p; exact okS_edge hR p true
 | cons n P ih =>
  intro p
  cases P with
  | nil => rw [List.map_singleton, Lib.join_one]; exact okS_num n (hP n (by simp)) R hR p
  | cons m P =>
   have ih' := ih (fun x hx => hP x (List.mem_cons_of_mem _ hx)) true
   rw [List.map_cons, List.map_cons, join_split, List.append_assoc, List.cons_append, okS_num n (hP n (by simp)) _ (.inr ⟨_, rfl⟩), okS]
   rw [List.map_cons] at ih'
   have : ((58 : UInt8) == 58) = true := rfl
   rw [this, ih']
   simp [goodC]
theorem twoS_join (P : List Nat) (R : List UInt8) (hP : P ≠ []) : ∀ p, twoS p (Lib.join (P.map (numF 16 4)) [58] ++ R) = twoS false R := by
 induction P with
 | nil => exact absurd rfl hP
 | cons n P ih =>
  intro p
  cases P with
  | nil => rw [List.map_singleton, Lib.join_one]; exact twoS_plain R _ p (numF_ne _ _ _ (by omega)) (numF_good n)
  | cons m P =>
   have ih' := ih (by simp) true
   rw [List.map_cons] at ih'
   rw [List.map_cons, List.map_cons, join_split, List.append_assoc, twoS_plain _ _ p (numF_ne _ _ _ (by omega)) (numF_good n), List.cons_append, twoS]
   have : ((58 : UInt8) == 58) = true := rfl
   rw [this, ih']
   simp
theorem six_made (l : List Nat) (hb : ∀ x ∈ l, x < 256) : okS true (sixT l) = true ∧ twoS false (sixT l) ≤ 1 ∧ 2 ≤ (sixT l).length ∧ (sixT l).length ≤ 39 := by
 have hP := pcs_small hb
 have h8 : (pcs l).length = 8 := by simp [pcs]
 obtain ⟨hFT, hT⟩ := lrS_bd (pcs l)
 unfold sixT
 generalize (lrS (pcs l) 8).2.1 = F at *
 generalize (lrS (pcs l) 8).2.2 = T at *
 generalize pcs l = P at *
 have h4 : ∀ Q : List Nat, ∀ x ∈ Q.map (numF 16 4), x.length ≤ 4 := fun Q x hx => by
  obtain ⟨n, _, rfl⟩ := List.mem_map.1 hx
  exact numF_len 16 4 n
 split
 ·have hne : P ≠ [] := fun e => by rw [e] at h8; cases h8
  refine ⟨?_, ?_, ?_, ?_⟩
  ·have := okS_join P hP [] (.inl rfl) true
   rw [List.append_nil] at this
   rw [this]; rfl
  ·have := twoS_join P [] hne false
   rw [List.append_nil] at this
   rw [this]; exact Nat.zero_le _
  ·match P, h8 with
   | n :: m :: r, _ =>
    rw [List.map_cons, List.map_cons, join_split, List.length_append, List.length_cons]
    have := List.length_pos_iff.2 (numF_ne 16 4 n (by omega))
    omega
  ·match P, h8 with
   | n :: r, h8 =>
    have h5 := lens_le4 _ (h4 (n :: r))
    rw [List.map_cons] at h5 ⊢
    rw [Lib.join_length]
    simp only [List.length_cons, List.length_map, List.length_nil] at h5 h8 ⊢
    omega
 ·have hF := join_le _ [58] (h4 (P.take F)) (by decide)
  have hD := join_le _ [58] (h4 (P.drop T)) (by decide)
  rw [List.length_map, List.length_take] at hF
  rw [List.length_map, List.length_drop] at hD
  have hB := okS_join (P.drop T) (fun x hx => hP x (List.mem_of_mem_drop hx)) [] (.inl rfl) true
  rw [List.append_nil] at hB
  refine ⟨?_, ?_, ?_, ?_⟩
  ·rw [List.append_assoc, okS_join (P.take F) (fun x hx => hP x (List.mem_of_mem_take hx)) ([58, 58] ++ Lib.join ((P.drop T).map (numF 16 4)) [58]) (.inr ⟨_, rfl⟩) true]
   show okS true (58 :: 58 :: Lib.join ((P.drop T).map (numF 16 4)) [58]) = true
   rw [okS, okS]
   have : ((58 : UInt8) == 58) = true := rfl
   rw [this, hB]
   simp [goodC, okS]
  ·have e : twoS false (Lib.join ((P.take F).map (numF 16 4)) [58] ++ [58, 58] ++ Lib.join ((P.drop T).map (numF 16 4)) [58]) = twoS false (58 :: 58 :: Lib.join ((P.drop T).map (numF 16 4)) [58]) := by
    by_cases h0 : P.take F = []
    ·rw [h0]; rfl
    ·rw [List.append_assoc, twoS_join _ _ h0]; rfl
   rw [e, twoS, twoS]
   have e2 : twoS true (Lib.join ((P.drop T).map (numF 16 4)) [58]) = 0 := by
    by_cases h0 : P.drop T = []
    ·rw [h0]; rfl
    ·have := twoS_join (P.drop T) [] h0 true
     rw [List.append_nil] at this
     rw [this]; rfl
   have : ((58 : UInt8) == 58) = true := rfl
   rw [this, e2]
   simp
  ·rw [List.length_append, List.length_append]; simp; omega
  ·rw [List.length_append, List.length_append]
   simp only [List.length_cons, List.length_nil]
   omega

end Go.Proofs.YtcphokaamkalfaaGreatDoor
namespace Go.Proofs.YtcphokaamkalfaaGreatDoor
open Go.RowKit

/-- What may be asked for, as it is asked for. -/
def GoodB (l : ByteArray) : Prop := labT l = (l, 0) ∧ 1 ≤ l.size ∧ l.size ≤ 63 ∧ plainL l.data.toList = true ∧ lowS l = l ∧ ∀ c ∈ l.data.toList, c ≠ 46
theorem lab_long {p : ByteArray} (hp : 1000 < p.size) : labT p = (⟨#[]⟩, 5) := by
 unfold labT
 rw [if_neg (by omega)]
 split
 ·rfl
 ·rw [if_pos (by have := runes4 p; omega)]
theorem labs_good : ∀ (P L : List ByteArray), (∀ p ∈ P, p.size ≤ 10000 ∧ ∀ c ∈ p.data.toList, c ≠ 46) → labsT P = some L → (∀ l ∈ L, GoodB l) ∧ L.length = P.length
 | [], L, _, h => by
  rw [labsT] at h; injection h with h; subst h; simp
 | p :: P, L, hp, h => by
  rw [labsT] at h
  by_cases hc : (labT p).2 = 0
  ·rw [if_pos hc] at h
   cases hL : labsT P with
   | none => rw [hL] at h; cases h
   | some L' =>
    rw [hL] at h; injection h with h; subst h
    obtain ⟨h1, h2⟩ := labs_good P L' (fun q hq => hp q (List.mem_cons_of_mem _ hq)) hL
    refine ⟨fun l hl => ?_, by simp [h2]⟩
    rcases List.mem_cons.1 hl with rfl | hl
    ·have hq := hp p List.mem_cons_self
     by_cases hbg : 1000 < p.size
     ·rw [lab_long hbg] at hc; cases hc
     rcases asked p (by omega) with h0 | ⟨l, hl, a, b, c, d, e, _⟩
     ·rw [h0] at hc; cases hc
     ·have h46 := lab_no46 p hq.2
      rw [hl] at h46 ⊢
      exact ⟨e, a, b, c, d, h46⟩
    ·exact h1 l hl
  ·rw [if_neg hc] at h; cases h
theorem labs_again : ∀ L : List ByteArray, (∀ l ∈ L, GoodB l) → labsT L = some L
 | [], _ => rfl
 | l :: L, h => by
  rw [labsT, (h l List.mem_cons_self).1, labs_again L (fun x hx => h x (List.mem_cons_of_mem _ hx))]; rfl
/- The point at the end. -/
theorem suf_one (l : List UInt8) (a : UInt8) : Lib.hasSuffix l [a] = true ↔ l.getLast? = some a := by
 unfold Lib.hasSuffix
 rw [List.isSuffixOf_iff_suffix]
 constructor
 ·rintro ⟨t, rfl⟩; simp
 ·intro h
  have hne : l ≠ [] := by intro e; rw [e] at h; cases h
  refine ⟨l.dropLast, ?_⟩
  rw [List.getLast?_eq_some_getLast hne] at h
  injection h with h
  conv => rhs; rw [← List.dropLast_concat_getLast hne, h]
theorem trimS_eq (l : List UInt8) : Lib.trimSuffix l [46] = trimP l := by
 rw [Lib.trimSuffix, trimP]
 by_cases h : l.getLast? = some 46
 ·rw [if_pos h, if_pos ((suf_one l 46).2 h), List.dropLast_eq_take]; rfl
 ·rw [if_neg h, if_neg (fun e => h ((suf_one l 46).1 e))]
theorem dotJ_data (L : List ByteArray) : (dotJ L).data.toList = Lib.join (L.map (·.data.toList)) [46] := rfl
theorem ne_of_size {l : ByteArray} (h : 1 ≤ l.size) : l.data.toList ≠ [] := by
 intro e
 have := lenB l
 rw [e] at this; simp at this; omega
theorem dot_last {L : List ByteArray} (hne : L ≠ []) (hg : ∀ l ∈ L, GoodB l) : (dotJ L).data.toList ≠ [] ∧ (dotJ L).data.toList.getLast? ≠ some 46 := by
 rw [dotJ_data]
 match L, hne with
 | x :: r, _ =>
  refine join_last 46 x.data.toList (r.map (·.data.toList)) (fun q hq => ?_)
  rw [← List.map_cons (f := fun b : ByteArray => b.data.toList)] at hq
  obtain ⟨l, hl, rfl⟩ := List.mem_map.1 hq
  exact ⟨ne_of_size (hg l hl).2.1, (hg l hl).2.2.2.2.2⟩
theorem trim_dot {L : List ByteArray} (hne : L ≠ []) (hg : ∀ l ∈ L, GoodB l) : trimD (dotJ L) = dotJ L := by
 rw [trimD, trimS_eq, trimP_id (dot_last hne hg).2]; rfl
theorem trim_point (x : ByteArray) : trimD (asB (x.data.toList ++ [46])) = x := by
 rw [trimD, trimS_eq, asB_data, trimP, if_pos (by simp), List.dropLast_concat]; rfl
theorem rawB_dot {L : List ByteArray} (hne : L ≠ []) (h : ∀ l ∈ L, ∀ c ∈ l.data.toList, c ≠ 46) : rawB 46 (dotJ L) = L := by
 rw [rawB_eq, dotJ_data, pts_joinL 46 _ (by simpa using hne) (fun p hp => by
  obtain ⟨l, hl, rfl⟩ := List.mem_map.1 hp
  exact h l hl), List.map_map]
 conv => rhs; rw [← List.map_id L]
 exact List.map_congr_left (fun x _ => rfl)
theorem named_dot {L : List ByteArray} (hne : L ≠ []) (hg : ∀ l ∈ L, GoodB l) : namedT (dotJ L) = endT (dotJ L) ∧ namedT (asB ((dotJ L).data.toList ++ [46])) = endT (dotJ L) := by
 have h1 := rawB_dot hne (fun l hl => (hg l hl).2.2.2.2.2)
 have h2 := labs_again L hg
 constructor
 ·rw [namedT, trim_dot hne hg, h1, h2]
 ·rw [namedT, trim_point, h1, h2]
/- What a name's end says. -/
theorem end_some {n x : ByteArray} (h : endT n = some x) : foulL n.data.toList = false ∧ n.size ≤ 253 ∧ (((fourD n.data.toList).1 = false ∧ x = n) ∨ ∃ a, fourD n.data.toList = (true, some a) ∧ x = asB (textD false (six0 a))) := by
 unfold endT at h
 split at h
 ·cases h
 ·rename_i h1
  split at h
  ·cases h
  ·rename_i h2
   refine ⟨by simpa using h1, by omega, ?_⟩
   unfold fourT at h
   split at h
   ·rename_i o ho
    injection h with h
    exact .inl ⟨by rw [ho], h.symm⟩
   ·cases h
   ·rename_i a ho
    injection h with h
    exact .inr ⟨a, ho, h.symm⟩
theorem fourD_four {l : List UInt8} {a : List Nat} (h : fourD l = (true, some a)) : a.length = 4 ∧ ∀ x ∈ a, x < 256 := by
 unfold fourD at h
 split at h
 ·injection h with _ h
  split at h
  ·cases h
  ·rename_i h4
   split at h
   ·cases h
   ·rename_i ns hns
    have hl := evs_num_len _ _ hns
    exact lay4_len ns 4 a (by omega) h
 ·injection h with h _; cases h
theorem fourD_small {l : List UInt8} {a : List Nat} (h : fourD l = (true, some a)) : ∃ b0 b1 b2 b3, a = [b0, b1, b2, b3] ∧ b0 < 256 ∧ b1 < 256 ∧ b2 < 256 ∧ b3 < 256 := by
 obtain ⟨h1, h2⟩ := fourD_four h
 match a, h1, h2 with
 | [b0, b1, b2, b3], _, h2 => exact ⟨b0, b1, b2, b3, rfl, h2 b0 (by simp), h2 b1 (by simp), h2 b2 (by simp), h2 b3 (by simp)⟩
/-- Four bytes' text. -/
abbrev four4 (b0 b1 b2 b3 : Nat) : ByteArray := asB (textD false (six0 [b0, b1, b2, b3]))
theorem num_good : ∀ n : Fin 256, labT (asB (numF 10 4 n.1)) = (asB (numF 10 4 n.1), 0) ∧ 1 ≤ (asB (numF 10 4 n.1)).size ∧ (asB (numF 10 4 n.1)).size ≤ 3 ∧ plainL (asB (numF 10 4 n.1)).data.toList = true ∧ lowS (asB (numF 10 4 n.1)) = asB (numF 10 4 n.1) ∧ (numF 10 4 n.1).all (fun c => c != 46 && !foulB c) = true := by decide +kernel
theorem num_goodB {n : Nat} (h : n < 256) : GoodB (asB (numF 10 4 n)) := by
 obtain ⟨a, b, c, d, e, f⟩ := num_good ⟨n, h⟩
 refine ⟨a, b, Nat.le_trans c (by decide), d, e, fun x hx => ?_⟩
 have := List.all_eq_true.1 f x hx
 simp at this
 exact this.1
theorem four4_dot (b0 b1 b2 b3 : Nat) : four4 b0 b1 b2 b3 = dotJ [asB (numF 10 4 b0), asB (numF 10 4 b1), asB (numF 10 4 b2), asB (numF 10 4 b3)] := rfl
theorem four4_good {b0 b1 b2 b3 : Nat} (h0 : b0 < 256) (h1 : b1 < 256) (h2 : b2 < 256) (h3 : b3 < 256) : ∀ l ∈ [asB (numF 10 4 b0), asB (numF 10 4 b1), asB (numF 10 4 b2), asB (numF 10 4 b3)], GoodB l := by
 intro l hl
 simp only [List.mem_cons, List.not_mem_nil, or_false] at hl
 rcases hl with rfl | rfl | rfl | rfl
 ·exact num_goodB h0
 ·exact num_goodB h1
 ·exact num_goodB h2
 ·exact num_goodB h3
theorem four4_data (b0 b1 b2 b3 : Nat) : (four4 b0 b1 b2 b3).data.toList = numF 10 4 b0 ++ 46 :: (numF 10 4 b1 ++ 46 :: (numF 10 4 b2 ++ 46 :: numF 10 4 b3)) := by
 show Lib.join [numF 10 4 b0, numF 10 4 b1, numF 10 4 b2, numF 10 4 b3] [46] = _
 rw [join_split, join_split, join_split, Lib.join_one]
theorem four4_clean {b0 b1 b2 b3 : Nat} (h0 : b0 < 256) (h1 : b1 < 256) (h2 : b2 < 256) (h3 : b3 < 256) : foulL (four4 b0 b1 b2 b3).data.toList = false := by
 have g : ∀ n, n < 256 → ∀ c ∈ numF 10 4 n, foulB c = false := fun n hn c hc => by
  have := List.all_eq_true.1 (num_good ⟨n, hn⟩).2.2.2.2.2 c hc
  simp at this
  exact this.2
 rw [foulL, List.any_eq_false]
 intro c hc
 rw [four4_data] at hc
 have h46 : foulB 46 = false := by decide
 simp only [List.mem_append, List.mem_cons] at hc
 rw [Bool.not_eq_true]
 rcases hc with h | rfl | h | rfl | h | rfl | h
 ·exact g _ h0 c h
 ·exact h46
 ·exact g _ h1 c h
 ·exact h46
 ·exact g _ h2 c h
 ·exact h46
 ·exact g _ h3 c h
theorem four4_size (b0 b1 b2 b3 : Nat) : (four4 b0 b1 b2 b3).size ≤ 19 := by
 have h := four4_data b0 b1 b2 b3
 have := lenB (four4 b0 b1 b2 b3)
 rw [h] at this
 have g0 := numF_len 10 4 b0
 have g1 := numF_len 10 4 b1
 have g2 := numF_len 10 4 b2
 have g3 := numF_len 10 4 b3
 simp only [List.length_append, List.length_cons] at this
 omega
theorem four4_four {b0 b1 b2 b3 : Nat} (h0 : b0 < 256) (h1 : b1 < 256) (h2 : b2 < 256) (h3 : b3 < 256) : fourD (four4 b0 b1 b2 b3).data.toList = (true, some [b0, b1, b2, b3]) := four_back b0 b1 b2 b3 _ h0 h1 h2 h3
/-- A name that was answered. -/
def NameX (x : ByteArray) : Prop := ∃ L, L ≠ [] ∧ (∀ l ∈ L, GoodB l) ∧ x = dotJ L ∧ foulL x.data.toList = false ∧ x.size ≤ 253 ∧ ((fourD x.data.toList).1 = false ∨ ∃ b0 b1 b2 b3, x = four4 b0 b1 b2 b3 ∧ b0 < 256 ∧ b1 < 256 ∧ b2 < 256 ∧ b3 < 256)
theorem four4_name {b0 b1 b2 b3 : Nat} (h0 : b0 < 256) (h1 : b1 < 256) (h2 : b2 < 256) (h3 : b3 < 256) : NameX (four4 b0 b1 b2 b3) :=
 ⟨_, by simp, four4_good h0 h1 h2 h3, four4_dot _ _ _ _, four4_clean h0 h1 h2 h3, Nat.le_trans (four4_size _ _ _ _) (by omega), .inr ⟨b0, b1, b2, b3, rfl, h0, h1, h2, h3⟩⟩
theorem named_name {d x : ByteArray} (hd : d.size ≤ 10000) (h : namedT d = some x) : NameX x := by
 unfold namedT at h
 split at h
 ·cases h
 ·rename_i L hL
  obtain ⟨hg, hl⟩ := labs_good _ L (fun p hp => by
   have := rawB_mem 46 _ p hp
   have h2 := trimD_size d
   exact ⟨by omega, fun c hc => (this.2 c hc).2⟩) hL
  have hne : L ≠ [] := by
   intro e
   rw [e] at hl
   exact rawB_ne 46 (trimD d) (List.eq_nil_of_length_eq_zero hl.symm)
  obtain ⟨h1, h2, h3⟩ := end_some h
  rcases h3 with ⟨h3, rfl⟩ | ⟨a, h3, rfl⟩
  ·exact ⟨L, hne, hg, rfl, h1, h2, .inl h3⟩
  ·obtain ⟨b0, b1, b2, b3, rfl, g0, g1, g2, g3⟩ := fourD_small h3
   exact four4_name g0 g1 g2 g3
theorem NameX.end {x : ByteArray} (h : NameX x) : endT x = some x := by
 obtain ⟨L, _, _, _, h1, h2, h3⟩ := h
 unfold endT
 rw [h1, if_neg (by simp), if_neg (by omega)]
 unfold fourT
 rcases h3 with h3 | ⟨b0, b1, b2, b3, rfl, g0, g1, g2, g3⟩
 ·cases e : fourD x.data.toList with
  | mk u v => rw [e] at h3; simp only at h3; subst h3; rfl
 ·rw [four4_four g0 g1 g2 g3]
theorem foul_no {l : List UInt8} (h : foulL l = false) : ∀ c ∈ l, foulB c = false := fun c hc => by
 have := List.any_eq_false.1 h c hc
 simpa using this
theorem dec_no37 : ∀ l : List UInt8, (∀ c ∈ l, c ≠ 37) → pc_decL l = l
 | [], _ => pc_decL_nil
 | c :: l, h => by rw [pc_decL_no (sig3_ne (h c List.mem_cons_self)), dec_no37 l (fun x hx => h x (List.mem_cons_of_mem _ hx))]
theorem decS_self {s : ByteArray} (h : ∀ c ∈ s.data.toList, c ≠ 37) : decS s = s := by
 refine ba_of ?_
 show pc_decL s.data.toList = _
 exact dec_no37 _ h
theorem NameX.no {x : ByteArray} (h : NameX x) : ∀ c ∈ x.data.toList, foulB c = false := by
 obtain ⟨L, _, _, _, h1, _⟩ := h
 exact foul_no h1
theorem NameX.named {x : ByteArray} (h : NameX x) : namedT x = some x ∧ namedT (asB (x.data.toList ++ [46])) = some x := by
 have he := h.end
 obtain ⟨L, hne, hg, rfl, _⟩ := h
 obtain ⟨h1, h2⟩ := named_dot hne hg
 rw [h1, h2, he]; exact ⟨rfl, rfl⟩
theorem NameX.no37 {x : ByteArray} (h : NameX x) : ∀ c ∈ x.data.toList, c ≠ 37 := fun c hc e => by
 have := h.no c hc
 rw [e] at this
 exact absurd this (by decide)
theorem NameX.no91 {x : ByteArray} (h : NameX x) : ∀ c ∈ x.data.toList, c ≠ 91 := fun c hc e => by
 have := h.no c hc
 rw [e] at this
 exact absurd this (by decide)
theorem NameX.ne {x : ByteArray} (h : NameX x) : x.data.toList ≠ [] := by
 obtain ⟨L, hne, hg, rfl, _⟩ := h
 exact (dot_last hne hg).1
theorem head_mem {l : List UInt8} {a : UInt8} (h : l.head? = some a) : a ∈ l := by
 cases l with
 | nil => cases h
 | cons b l => injection h with h; rw [h]; exact List.mem_cons_self
theorem NameX.host {x : ByteArray} (h : NameX x) : hostO x = some x ∧ hostO (asB (x.data.toList ++ [46])) = some x := by
 obtain ⟨h1, h2⟩ := h.named
 have hd : x.data.toList.head? ≠ some 91 := fun e => h.no91 91 (head_mem e) rfl
 have hd2 : (x.data.toList ++ [46]).head? ≠ some 91 := by
  have := h.ne
  rw [List.head?_append]
  cases e : x.data.toList with
  | nil => contradiction
  | cons a l => rw [e] at hd; simpa using hd
 constructor
 ·rw [hostO, if_neg hd, decS_self h.no37, h1]
 ·rw [hostO, if_neg (by rw [asB_data]; exact hd2), decS_self (fun c hc => ?_), h2]
  rw [asB_data] at hc
  rcases List.mem_append.1 hc with hc | hc
  ·exact h.no37 c hc
  ·rw [List.mem_singleton] at hc; rw [hc]; decide
theorem low_dot : ∀ L : List (List UInt8), (∀ l ∈ L, l.map low = l) → (Lib.join L [46]).map low = Lib.join L [46]
 | [], _ => rfl
 | [x], h => by rw [Lib.join_one]; exact h x (by simp)
 | x :: y :: r, h => by
  rw [join_split, List.map_append, List.map_cons, h x (by simp), low_dot (y :: r) (fun l hl => h l (List.mem_cons_of_mem _ hl))]; rfl
theorem NameX.low {x : ByteArray} (h : NameX x) : lowS x = x := by
 obtain ⟨L, _, hg, rfl, _⟩ := h
 refine ba_of ?_
 rw [lowS_data, dotJ_data]
 refine low_dot _ (fun p hp => ?_)
 obtain ⟨l, hl, rfl⟩ := List.mem_map.1 hp
 rw [← lowS_data, (hg l hl).2.2.2.2.1]
theorem plain_dot : ∀ L : List (List UInt8), (∀ l ∈ L, plainL l = true) → plainL (Lib.join L [46]) = true
 | [], _ => rfl
 | [x], h => by rw [Lib.join_one]; exact h x (by simp)
 | x :: y :: r, h => by
  have h1 := h x (by simp)
  have h2 := plain_dot (y :: r) (fun l hl => h l (List.mem_cons_of_mem _ hl))
  rw [join_split]
  unfold plainL at *
  rw [List.all_append, List.all_cons, h1, h2]; rfl
theorem NameX.plain {x : ByteArray} (h : NameX x) : plainL x.data.toList = true := by
 obtain ⟨L, _, hg, rfl, _⟩ := h
 rw [dotJ_data]
 refine plain_dot _ (fun p hp => ?_)
 obtain ⟨l, hl, rfl⟩ := List.mem_map.1 hp
 exact (hg l hl).2.2.2.1
/-- An address in brackets. -/
def BrX (x : ByteArray) : Prop := ∃ l, l.length = 16 ∧ (∀ b ∈ l, b < 256) ∧ x = asB ([91] ++ textD true l ++ [93])
theorem BrX.brack {x : ByteArray} (h : BrX x) : hostO x = some x ∧ x.size ≤ 41 ∧ x.data.toList.head? = some 91 := by
 obtain ⟨l, hl, hb, rfl⟩ := h
 have e : (asB ([91] ++ textD true l ++ [93])).data.toList = 91 :: (textD true l ++ [93]) := by simp [asB]
 refine ⟨?_, ?_, by rw [e]; rfl⟩
 ·rw [hostO, e, if_pos (show (91 :: (textD true l ++ [93])).head? = some 91 from rfl), List.drop_succ_cons, List.drop_zero, brackT, if_pos (by simp), List.dropLast_concat]
  rw [show sixD (textD true l) = some (pcs l) from six_back l hb]
  simp only
  rw [pb_pcs l hl hb]
 ·rw [asB_size]
  have := (six_made l hb).2.2.2
  have h2 : (textD true l).length ≤ 39 := this
  simp; omega
theorem pb_lt (ps : List Nat) : ∀ x ∈ pb ps, x < 256 := by
 intro x hx
 rw [pb, List.mem_flatMap] at hx
 obtain ⟨n, _, hn⟩ := hx
 exact be_lt 2 n x hn
theorem sixD_len {l : List UInt8} {ps : List Nat} (h : sixD l = some ps) : ps.length = 8 := by
 unfold sixD at h
 split at h
 all_goals
  repeat' split at h
  all_goals first
   | (injection h with h; subst h; first | assumption | (simp; omega))
   | cases h
/-- What a text says, if it says a host. -/
theorem host_made {s x : ByteArray} (hs : s.size ≤ 10000) (h : hostO s = some x) : NameX x ∨ BrX x := by
 unfold hostO at h
 split at h
 ·right
  unfold brackT at h
  split at h
  ·split at h
   ·cases h
   ·rename_i ps hps
    injection h with h
    exact ⟨pb ps, by rw [pb_len, sixD_len hps], pb_lt ps, h.symm⟩
  ·cases h
 ·left
  refine named_name ?_ h
  rw [show (decS s).size = (pc_decL s.data.toList).length from rfl]
  have h1 := pc_decL_len s.data.toList
  have h2 := lenB s
  omega

end Go.Proofs.YtcphokaamkalfaaGreatDoor
