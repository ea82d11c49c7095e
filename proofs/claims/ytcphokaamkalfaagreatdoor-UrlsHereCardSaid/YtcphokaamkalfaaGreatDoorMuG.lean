/-
  Of no program: plain words on addresses that may be: what such a one has; its text says it.
  Of no program: the text of an address that may be says it.
  Of no program: what is answered of a text may be; what may be has such parts.
  Of no program: how long an address of a text is; an address with another port, and with other parts.
-/
import Derived.Test.YtcphokaamkalfaaGreatDoorMuA
import Derived.Test.YtcphokaamkalfaaGreatDoorMhD
import Derived.Test.YtcphokaamkalfaaGreatDoorMuB
namespace Go.Proofs.YtcphokaamkalfaaGreatDoor
open Go.RowKit

/- What an encoded text has. -/
theorem gHasB_none (set c : Nat) (h : set = 0 ∨ 5 < set) : hasB set c = false := by rw [hasB, setL_none set h]; simp
theorem gHasB_table : ∀ set : Fin 6, ∀ c : Fin 256, hasB set.1 c.1 = true → c.1 ≠ 37 ∧ ¬ (48 ≤ c.1 ∧ c.1 ≤ 57) ∧ ¬ (65 ≤ c.1 ∧ c.1 ≤ 90) ∧ ¬ (97 ≤ c.1 ∧ c.1 ≤ 122) := by decide +kernel
theorem gHasB_out (set c : Nat) (hc : c < 256) (h : hasB set c = true) : c ≠ 37 ∧ ¬ (48 ≤ c ∧ c ≤ 57) ∧ ¬ (65 ≤ c ∧ c ≤ 90) ∧ ¬ (97 ≤ c ∧ c ≤ 122) := by
 by_cases hs : set < 6
 ·exact gHasB_table ⟨set, hs⟩ ⟨c, hc⟩ h
 ·rw [gHasB_none set c (.inr (by omega))] at h; cases h
theorem gHexD_out : ∀ set : Fin 6, ∀ n : Fin 16, hasB set.1 (hexD n.1).toNat = false := by decide +kernel
theorem gHexD_has (set n : Nat) (hn : n < 16) : hasB set (hexD n).toNat = false := by
 by_cases hs : set < 6
 ·exact gHexD_out ⟨set, hs⟩ ⟨n, hn⟩
 ·exact gHasB_none _ _ (.inr (by omega))
theorem gHas37 (set : Nat) : hasB set 37 = false := by
 cases h : hasB set 37
 ·rfl
 ·exact absurd rfl (gHasB_out set 37 (by omega) h).1
theorem gEncB_clean (set : Nat) (c : UInt8) : ∀ x ∈ encB set c, hasB set x.toNat = false := by
 intro x hx
 have hc := c.toNat_lt
 cases h : hasB set c.toNat
 ·rw [encB_no h] at hx
  obtain rfl := List.mem_singleton.1 hx
  exact h
 ·rw [encB_yes h] at hx
  rcases List.mem_cons.1 hx with rfl | hx
  ·exact gHas37 set
  ·rcases List.mem_cons.1 hx with rfl | hx
   ·exact gHexD_has set _ (by omega)
   ·obtain rfl := List.mem_singleton.1 hx
    exact gHexD_has set _ (by omega)
theorem gEncL_clean (set : Nat) (l : List UInt8) : ∀ x ∈ encL set l, hasB set x.toNat = false := by
 intro x hx
 obtain ⟨c, _, h⟩ := List.mem_flatMap.1 hx
 exact gEncB_clean set c x h
theorem gEncL_same (set : Nat) (l : List UInt8) (h : ∀ x ∈ l, hasB set x.toNat = false) : encL set l = l := by
 induction l with
 | nil => rfl
 | cons c l ih =>
  rw [encL_cons, encB_no (h c List.mem_cons_self), ih fun x hx => h x (List.mem_cons_of_mem _ hx)]; rfl

/- Cuts, at what is known. -/
theorem cutP_hit {a : UInt8} {y : List UInt8} : ∀ {x : List UInt8}, (∀ c ∈ x, c ≠ a) → cutP a (x ++ a :: y) = (x, y, true)
 | [], _ => by rw [List.nil_append, cutP, if_pos rfl]
 | c :: x, h => by
  rw [List.cons_append, cutP, if_neg (h c List.mem_cons_self), cutP_hit (fun d hd => h d (List.mem_cons_of_mem _ hd))]
theorem cutP_miss {a : UInt8} : ∀ {x : List UInt8}, (∀ c ∈ x, c ≠ a) → cutP a x = (x, [], false)
 | [], _ => rfl
 | c :: x, h => by
  rw [cutP, if_neg (h c List.mem_cons_self), cutP_miss (fun d hd => h d (List.mem_cons_of_mem _ hd))]
theorem cut_hit {a : UInt8} {s : ByteArray} {x y : List UInt8} (e : s.data.toList = x ++ a :: y) (h : ∀ c ∈ x, c ≠ a) : cutA a s = asB x ∧ cutB a s = asB y ∧ cutF a s = true := by
 refine ⟨ba_of ?_, ba_of ?_, ?_⟩
 ·rw [cutA_data, e, cutP_hit h]; rfl
 ·rw [cutB_data, e, cutP_hit h]; rfl
 ·rw [cutF_eq, e, cutP_hit h]
theorem cut_miss {a : UInt8} {s : ByteArray} (h : ∀ c ∈ s.data.toList, c ≠ a) : cutA a s = s ∧ cutB a s = ⟨#[]⟩ ∧ cutF a s = false := by
 refine ⟨ba_of ?_, ba_of ?_, ?_⟩
 ·rw [cutA_data, cutP_miss h]
 ·rw [cutB_data, cutP_miss h]
 ·rw [cutF_eq, cutP_miss h]
theorem at_hit {p : ByteArray} {x y : List UInt8} (e : p.data.toList = x ++ 64 :: y) (h : ∀ c ∈ y, c ≠ 64) : atI p = (x.length : Int) := by
 have hl : x.length < p.size := by rw [← lenB, e]; simp
 have hx : p.data[x.length]! = 64 := by
  have : p.data.toList[x.length]? = some 64 := by rw [e]; simp
  rw [List.getElem?_eq_getElem (by rw [lenB]; exact hl)] at this
  rw [getElem!_pos p.data x.length hl]
  exact Option.some.inj (by rw [← this]; simp)
 have h64 : (64 : UInt8).toNat = 64 := rfl
 rcases Lib.lastIndexByte_spec p 64 with ⟨_, hn⟩ | ⟨i, hi, e2, hc, hn⟩
 ·exact absurd (by rw [hx]; rfl) (hn x.length hl)
 ·show Lib.lastIndexByte p 64 = _
  rw [e2]
  by_cases h1 : i < x.length
  ·exact absurd (by rw [hx]; rfl) (hn x.length h1 hl)
  by_cases h2 : i = x.length
  ·rw [h2]
  ·exfalso
   obtain ⟨j, rfl⟩ : ∃ j, i = x.length + 1 + j := ⟨i - x.length - 1, by omega⟩
   have h3 : p.data.toList[x.length + 1 + j]? = y[j]? := by
    rw [e, List.getElem?_append_right (by omega), show x.length + 1 + j - x.length = j + 1 by omega, List.getElem?_cons_succ]
   have hz : p.data.toList[x.length + 1 + j]? = some p.data[x.length + 1 + j]! := by
    rw [List.getElem?_eq_getElem (by rw [lenB]; exact hi), getElem!_pos p.data _ hi]; simp
   rw [hz] at h3
   exact h _ (List.mem_of_getElem? h3.symm) (UInt8.toNat_inj.1 (by omega))
theorem at_miss {p : ByteArray} (h : ∀ c ∈ p.data.toList, c ≠ 64) : atI p = -1 := by
 have h64 : (64 : UInt8).toNat = 64 := rfl
 rcases Lib.lastIndexByte_spec p 64 with ⟨e, _⟩ | ⟨i, hi, _, hc, _⟩
 ·exact e
 ·exfalso
  have hz : p.data.toList[i]? = some p.data[i]! := by
   rw [List.getElem?_eq_getElem (by rw [lenB]; exact hi), getElem!_pos p.data _ hi]; simp
  exact h _ (List.mem_of_getElem? hz) (UInt8.toNat_inj.1 (by omega))
theorem take_while {q : UInt8 → Bool} {x y : List UInt8} (h : ∀ c ∈ x, q c = true) (hy : ∀ c, y.head? = some c → q c = false) : (x ++ y).takeWhile q = x ∧ (x ++ y).dropWhile q = y := by
 induction x with
 | nil =>
  cases y with
  | nil => exact ⟨rfl, rfl⟩
  | cons c y =>
   have := hy c rfl
   simp [this]
 | cons c x ih =>
  have h1 := h c List.mem_cons_self
  obtain ⟨i1, i2⟩ := ih (fun d hd => h d (List.mem_cons_of_mem _ hd))
  simp [h1, i1, i2]

/- What is dropped of a text without blanks. -/
theorem drop_self {l : List UInt8} (h : ∀ c ∈ l, 33 ≤ c.toNat) : dropL l = l := by
 have hb : ∀ c ∈ l, blankB c = false := fun c hc => decide_eq_false (by have := h c hc; omega)
 have h1 : ∀ m : List UInt8, (∀ c ∈ m, blankB c = false) → m.dropWhile blankB = m := fun m hm => by
  cases m with
  | nil => rfl
  | cons c m => rw [List.dropWhile_cons, hm c List.mem_cons_self]; rfl
 have ht : trimU l = l := by
  rw [trimU, h1 l hb, h1 l.reverse (fun c hc => hb c (List.mem_reverse.1 hc)), List.reverse_reverse]
 rw [dropL, ht, List.filter_eq_self.2]
 intro c hc
 have h3 := h c hc
 have h9 : (c != 9) = true := by rw [bne_iff_ne]; rintro rfl; exact absurd h3 (by decide)
 have h10 : (c != 10) = true := by rw [bne_iff_ne]; rintro rfl; exact absurd h3 (by decide)
 have h13 : (c != 13) = true := by rw [bne_iff_ne]; rintro rfl; exact absurd h3 (by decide)
 rw [keptB, h9, h10, h13]; rfl

/- What stands in each part of an address. -/
theorem has5_tab : ∀ c : Fin 256, hasB 5 c.1 = false → 33 ≤ c.1 ∧ c.1 ≠ 35 ∧ c.1 ≠ 47 ∧ c.1 ≠ 58 ∧ c.1 ≠ 63 ∧ c.1 ≠ 64 ∧ c.1 ≠ 91 ∧ c.1 ≠ 92 ∧ c.1 ≠ 93 := by decide +kernel
theorem has4_tab : ∀ c : Fin 256, hasB 4 c.1 = false → 33 ≤ c.1 ∧ c.1 ≠ 35 ∧ c.1 ≠ 63 := by decide +kernel
theorem has3_tab : ∀ c : Fin 256, hasB 3 c.1 = false → 33 ≤ c.1 ∧ c.1 ≠ 35 := by decide +kernel
theorem has2_tab : ∀ c : Fin 256, hasB 2 c.1 = false → 33 ≤ c.1 := by decide +kernel
theorem foul_tab : ∀ c : Fin 256, foulB (UInt8.ofNat c.1) = false → 33 ≤ c.1 ∧ c.1 ≠ 35 ∧ c.1 ≠ 47 ∧ c.1 ≠ 58 ∧ c.1 ≠ 63 ∧ c.1 ≠ 64 ∧ c.1 ≠ 91 ∧ c.1 ≠ 92 ∧ c.1 ≠ 93 := by decide +kernel
theorem good_tab : ∀ c : Fin 256, goodC (UInt8.ofNat c.1) = true → 48 ≤ c.1 ∧ c.1 ≠ 63 ∧ c.1 ≠ 64 ∧ c.1 ≠ 91 ∧ c.1 ≠ 92 ∧ c.1 ≠ 93 := by decide +kernel
theorem has5 {c : UInt8} (h : hasB 5 c.toNat = false) : 33 ≤ c.toNat ∧ c.toNat ≠ 35 ∧ c.toNat ≠ 47 ∧ c.toNat ≠ 58 ∧ c.toNat ≠ 63 ∧ c.toNat ≠ 64 ∧ c.toNat ≠ 91 ∧ c.toNat ≠ 92 ∧ c.toNat ≠ 93 := has5_tab ⟨c.toNat, c.toNat_lt⟩ h
theorem has4 {c : UInt8} (h : hasB 4 c.toNat = false) : 33 ≤ c.toNat ∧ c.toNat ≠ 35 ∧ c.toNat ≠ 63 := has4_tab ⟨c.toNat, c.toNat_lt⟩ h
theorem has3 {c : UInt8} (h : hasB 3 c.toNat = false) : 33 ≤ c.toNat ∧ c.toNat ≠ 35 := has3_tab ⟨c.toNat, c.toNat_lt⟩ h
theorem has2 {c : UInt8} (h : hasB 2 c.toNat = false) : 33 ≤ c.toNat := has2_tab ⟨c.toNat, c.toNat_lt⟩ h
theorem foul_out {c : UInt8} (h : foulB c = false) : 33 ≤ c.toNat ∧ c.toNat ≠ 35 ∧ c.toNat ≠ 47 ∧ c.toNat ≠ 58 ∧ c.toNat ≠ 63 ∧ c.toNat ≠ 64 ∧ c.toNat ≠ 91 ∧ c.toNat ≠ 92 ∧ c.toNat ≠ 93 := foul_tab ⟨c.toNat, c.toNat_lt⟩ (by simpa using h)
theorem good_out {c : UInt8} (h : goodC c = true) : 48 ≤ c.toNat ∧ c.toNat ≠ 63 ∧ c.toNat ≠ 64 ∧ c.toNat ≠ 91 ∧ c.toNat ≠ 92 ∧ c.toNat ≠ 93 := good_tab ⟨c.toNat, c.toNat_lt⟩ (by simpa using h)
theorem ok_good : ∀ (l : List UInt8) (p : Bool), okS p l = true → ∀ c ∈ l, goodC c = true
 | [], _, _, _, h => by cases h
 | a :: l, p, h, c, hc => by
  rw [okS, Bool.and_eq_true, Bool.and_eq_true] at h
  rcases List.mem_cons.1 hc with rfl | hc
  ·exact h.1.1
  ·exact ok_good l _ h.2 c hc
/-- A host that may be. -/
def HostX (h : ByteArray) : Prop := NameX h ∨ BrX h
/-- What no host has, and where it ends. -/
theorem HostX.out {h : ByteArray} (hx : HostX h) : (∀ c ∈ h.data.toList, 33 ≤ c.toNat ∧ c ≠ 35 ∧ c ≠ 47 ∧ c ≠ 63 ∧ c ≠ 64 ∧ c ≠ 92) ∧ hostT h = (h, 0) ∧ h.size ≤ 253 ∧ h.data.toList ≠ [] ∧
  ∀ t : List UInt8, (t = [] ∨ t.head? = some 58) → hEndL (h.data.toList ++ t) false = h.data.toList.length := by
 have ne : ∀ {c d : UInt8}, c.toNat ≠ d.toNat → c ≠ d := fun h e => h (by rw [e])
 have tail : ∀ t : List UInt8, (t = [] ∨ t.head? = some 58) → hEndL t false = 0 := fun t ht => by
  cases t with
  | nil => rfl
  | cons c t =>
   rcases ht with ht | ht
   ·cases ht
   ·obtain rfl : c = 58 := by simpa using ht
    rw [hEndL, if_neg (by decide), if_neg (by decide), if_pos ⟨rfl, rfl⟩]
 rcases hx with hx | hx
 ·have hf : ∀ c ∈ h.data.toList, 33 ≤ c.toNat ∧ c.toNat ≠ 35 ∧ c.toNat ≠ 47 ∧ c.toNat ≠ 58 ∧ c.toNat ≠ 63 ∧ c.toNat ≠ 64 ∧ c.toNat ≠ 91 ∧ c.toNat ≠ 92 ∧ c.toNat ≠ 93 := fun c hc => foul_out (hx.no c hc)
  have hz : h.size ≤ 253 := by obtain ⟨_, _, _, _, _, hz, _⟩ := hx; exact hz
  refine ⟨fun c hc => ?_, ?_, hz, hx.ne, fun t ht => ?_⟩
  ·obtain ⟨a, b, d, e, f, g, i, j, k⟩ := hf c hc
   exact ⟨a, ne b, ne d, ne f, ne g, ne j⟩
  ·rw [hostT, if_neg (by omega), hx.host.1]
  ·have : ∀ l : List UInt8, (∀ c ∈ l, c.toNat ≠ 58 ∧ c.toNat ≠ 91 ∧ c.toNat ≠ 93) → hEndL (l ++ t) false = l.length := fun l => by
    induction l with
    | nil => intro _; exact tail t ht
    | cons c l ih =>
     intro hl
     obtain ⟨h1, h2, h3⟩ := hl c List.mem_cons_self
     rw [List.cons_append, hEndL, if_neg h2, if_neg h3, if_neg (fun q => h1 q.1), ih (fun d hd => hl d (List.mem_cons_of_mem _ hd))]; rfl
   exact this _ (fun c hc => by obtain ⟨a, b, d, e, f, g, i, j, k⟩ := hf c hc; exact ⟨e, i, k⟩)
 ·obtain ⟨b1, b2, b3⟩ := hx.brack
  obtain ⟨l, hl, hb, e⟩ := hx
  have hd : h.data.toList = 91 :: (textD true l ++ [93]) := by rw [e]; simp [asB]
  have hg : ∀ c ∈ textD true l, 48 ≤ c.toNat ∧ c.toNat ≠ 63 ∧ c.toNat ≠ 64 ∧ c.toNat ≠ 91 ∧ c.toNat ≠ 92 ∧ c.toNat ≠ 93 := fun c hc => good_out (ok_good _ _ (six_made l hb).1 c hc)
  refine ⟨fun c hc => ?_, ?_, by omega, by rw [hd]; simp, fun t ht => ?_⟩
  ·rw [hd] at hc
   rcases List.mem_cons.1 hc with rfl | hc
   ·decide
   rcases List.mem_append.1 hc with hc | hc
   ·obtain ⟨a, b, d, e, f, g⟩ := hg c hc
    have n35 : c.toNat ≠ (35 : UInt8).toNat := by have : (35 : UInt8).toNat = 35 := rfl; omega
    have n47 : c.toNat ≠ (47 : UInt8).toNat := by have : (47 : UInt8).toNat = 47 := rfl; omega
    exact ⟨by omega, ne n35, ne n47, ne b, ne d, ne f⟩
   ·obtain rfl : c = 93 := by simpa using hc
    decide
  ·rw [hostT, if_neg (by omega), b1]
  ·have : ∀ m : List UInt8, (∀ c ∈ m, c.toNat ≠ 91 ∧ c.toNat ≠ 93) → hEndL (m ++ 93 :: t) true = m.length + 1 := fun m => by
    induction m with
    | nil => intro _; rw [List.nil_append, hEndL, if_neg (by decide), if_pos (by decide), tail t ht]; rfl
    | cons c m ih =>
     intro hm
     obtain ⟨h2, h3⟩ := hm c List.mem_cons_self
     rw [List.cons_append, hEndL, if_neg h2, if_neg h3, if_neg (fun q => by cases q.2), ih (fun d hd => hm d (List.mem_cons_of_mem _ hd))]; rfl
   rw [hd, List.cons_append, hEndL, if_pos (by decide), List.append_assoc, List.singleton_append, this _ (fun c hc => by obtain ⟨a, b, d, e, f, g⟩ := hg c hc; exact ⟨e, g⟩)]
   simp

/- The digits of a port. -/
theorem dg_small {n : Nat} (h : n < 10) : Lib.decDigits n = [UInt8.ofNat (48 + n)] := by
 rw [Lib.decDigits, dif_pos h]
theorem dg_great {n : Nat} (h : ¬ n < 10) : Lib.decDigits n = Lib.decDigits (n / 10) ++ [UInt8.ofNat (48 + n % 10)] := by
 conv => lhs; rw [Lib.decDigits, dif_neg h]
theorem dg_one (k : Nat) (h : k < 10) : (UInt8.ofNat (48 + k)).toNat = 48 + k := by
 rw [UInt8.toNat_ofNat']; omega
theorem dg_num : ∀ (f n : Nat), n < f → allR 48 57 (Lib.decDigits n) = true ∧ num (Lib.decDigits n) = (n : Int) ∧ Lib.decDigits n ≠ [] ∧ ∀ c ∈ Lib.decDigits n, 48 ≤ c.toNat ∧ c.toNat ≤ 57
 | 0, _, h => absurd h (Nat.not_lt_zero _)
 | f + 1, n, h => by
  by_cases hn : n < 10
  ·rw [dg_small hn]
   have h1 := dg_one n hn
   refine ⟨?_, ?_, by simp, fun c hc => ?_⟩
   ·simp only [allR, List.all_cons, List.all_nil, Bool.and_true, inR_true]; omega
   ·simp only [num, List.foldl_cons, List.foldl_nil]; omega
   ·obtain rfl : c = _ := List.mem_singleton.1 hc
    omega
  ·obtain ⟨i1, i2, i3, i4⟩ := dg_num f (n / 10) (by omega)
   have h1 := dg_one (n % 10) (Nat.mod_lt _ (by omega))
   rw [dg_great hn]
   refine ⟨?_, ?_, by simp, fun c hc => ?_⟩
   ·rw [allR, List.all_append, Bool.and_eq_true]
    refine ⟨i1, ?_⟩
    simp only [List.all_cons, List.all_nil, Bool.and_true, inR_true]; omega
   ·rw [num_snoc, i2, h1]; omega
   ·rcases List.mem_append.1 hc with hc | hc
    ·exact i4 c hc
    ·obtain rfl : c = _ := List.mem_singleton.1 hc
     omega
theorem itoa_dig {p : Int} (h : 0 ≤ p) : itoaB p = asB (Lib.decDigits p.toNat) := by
 obtain ⟨n, rfl⟩ : ∃ n : Nat, p = n := ⟨p.toNat, by omega⟩
 rw [itoaB, Lib.itoa_nonneg]; rfl
theorem prt_back {p : Int} (h0 : 0 ≤ p) (h1 : p ≤ 65535) : prtD (itoaB p).data.toList = some p ∧ (itoaB p).data.toList ≠ [] ∧ ∀ c ∈ (itoaB p).data.toList, 48 ≤ c.toNat ∧ c.toNat ≤ 57 := by
 rw [itoa_dig h0]
 obtain ⟨i1, i2, i3, i4⟩ := dg_num (p.toNat + 1) p.toNat (Nat.lt_succ_self _)
 refine ⟨?_, i3, i4⟩
 show prtD (Lib.decDigits p.toNat) = _
 rw [prtD, if_pos ⟨i1, by omega⟩, i2]
 congr 1; omega

/-- A path that stays as it is. -/
def PathX (p : ByteArray) : Prop := ∃ S : List ByteArray, S ≠ [] ∧ p = slJ S ∧ ∀ x ∈ S, ptN x.data.toList = 0 ∧ ∀ c ∈ x.data.toList, hasB 4 c.toNat = false ∧ slB c = false
theorem pathB_keep : ∀ (S P : List ByteArray), (∀ x ∈ P, ptN x.data.toList = 0 ∧ ∀ c ∈ x.data.toList, hasB 4 c.toNat = false) → pathB (encS 4) S P = S ++ P
 | S, [], _ => by rw [pathB, List.append_nil]
 | S, p :: P, h => by
  obtain ⟨h1, h2⟩ := h p List.mem_cons_self
  have e : encS 4 p = p := ba_of (gEncL_same 4 _ h2)
  rw [pathB, if_pos h1, e, pathB_keep _ P (fun x hx => h x (List.mem_cons_of_mem _ hx)), List.append_assoc]; rfl
theorem ptsS_snoc {x : List UInt8} (hx : ∀ c ∈ x, slB c = false) (l : List UInt8) : ptsS (x ++ 47 :: l) = x :: ptsS l := by
 induction x with
 | nil => rw [List.nil_append, ptsS, if_pos (by decide)]
 | cons c x ih =>
  rw [List.cons_append, ptsS, if_neg (by rw [hx c List.mem_cons_self]; simp), ih (fun d hd => hx d (List.mem_cons_of_mem _ hd))]; rfl
theorem ptsS_one {x : List UInt8} (hx : ∀ c ∈ x, slB c = false) : ptsS x = [x] := by
 induction x with
 | nil => rfl
 | cons c x ih =>
  rw [ptsS, if_neg (by rw [hx c List.mem_cons_self]; simp), ih (fun d hd => hx d (List.mem_cons_of_mem _ hd))]; rfl
theorem ptsS_back : ∀ S : List ByteArray, S ≠ [] → (∀ x ∈ S, ∀ c ∈ x.data.toList, slB c = false) → (ptsS (slJ S).data.toList.tail).map asB = S
 | [], h, _ => absurd rfl h
 | [x], _, h => by
  rw [slJ_data, List.flatMap_cons, List.flatMap_nil, List.append_nil, List.tail_cons, ptsS_one (h x List.mem_cons_self)]; rfl
 | x :: y :: S, _, h => by
  have ih := ptsS_back (y :: S) (by simp) (fun z hz => h z (List.mem_cons_of_mem _ hz))
  rw [slJ_data, List.flatMap_cons, List.cons_append, List.tail_cons] at ih
  rw [slJ_data, List.flatMap_cons, List.flatMap_cons, List.cons_append, List.tail_cons, List.cons_append, ptsS_snoc (h x List.mem_cons_self), List.map_cons, ih]; rfl
theorem PathX.again {p : ByteArray} (h : PathX p) : slJ (pathB (encS 4) [] ((ptsS p.data.toList.tail).map asB)) = p ∧ p.data.toList.head? = some 47 ∧ ∀ c ∈ p.data.toList, 33 ≤ c.toNat ∧ c ≠ 35 ∧ c ≠ 63 := by
 obtain ⟨S, hne, rfl, hS⟩ := h
 refine ⟨?_, ?_, fun c hc => ?_⟩
 ·rw [ptsS_back S hne (fun x hx c hc => ((hS x hx).2 c hc).2), pathB_keep [] S (fun x hx => ⟨(hS x hx).1, fun c hc => ((hS x hx).2 c hc).1⟩), List.nil_append]
 ·cases S with
  | nil => exact absurd rfl hne
  | cons x S => rw [slJ_data, List.flatMap_cons]; rfl
 ·rw [slJ_data] at hc
  obtain ⟨x, hx, hc⟩ := List.mem_flatMap.1 hc
  rcases List.mem_cons.1 hc with rfl | hc
  ·decide
  ·obtain ⟨a, b, d⟩ := has4 ((hS x hx).2 c hc).1
   exact ⟨a, fun e => b (by rw [e]; rfl), fun e => d (by rw [e]; rfl)⟩

/-- An address that may be. -/
structure Gd (u : UrS) : Prop where
 sch : u.sch = ⟨#[104, 116, 116, 112]⟩ ∨ u.sch = ⟨#[104, 116, 116, 112, 115]⟩
 usr : ∀ c ∈ u.usr.data.toList, hasB 5 c.toNat = false
 pas : ∀ c ∈ u.pas.data.toList, hasB 5 c.toNat = false
 hst : HostX u.hst
 prt : (u.prt = -1 ∨ 0 ≤ u.prt) ∧ u.prt ≤ 65535 ∧ u.prt ≠ (ownP u.sch : Int)
 pth : PathX u.pth
 qry : (∀ c ∈ u.qry.data.toList, hasB 3 c.toNat = false) ∧ (u.hq = false → u.qry = ⟨#[]⟩)
 mrk : (∀ c ∈ u.mrk.data.toList, hasB 2 c.toNat = false) ∧ (u.hm = false → u.mrk = ⟨#[]⟩)
 siz : (textT u).size ≤ 4096

end Go.Proofs.YtcphokaamkalfaaGreatDoor
namespace Go.Proofs.YtcphokaamkalfaaGreatDoor
open Go.RowKit

def utL (u : UrS) : List UInt8 := if u.pas.size = 0 then (if u.usr.size = 0 then [] else u.usr.data.toList ++ [64]) else u.usr.data.toList ++ 58 :: (u.pas.data.toList ++ [64])
def ptL (u : UrS) : List UInt8 := if 0 ≤ u.prt then 58 :: (itoaB u.prt).data.toList else []
def qrL (u : UrS) : List UInt8 := if u.hq = true then 63 :: u.qry.data.toList else []
def mkL (u : UrS) : List UInt8 := if u.hm = true then 35 :: u.mrk.data.toList else []
/-- What stands ahead of the path. -/
def ahdL (u : UrS) : List UInt8 := utL u ++ (u.hst.data.toList ++ ptL u)
theorem nil_of {x : ByteArray} (h : x.size = 0) : x.data.toList = [] := List.eq_nil_of_length_eq_zero (by rw [lenB]; exact h)
theorem app_data (x y : ByteArray) : (x ++ y).data.toList = x.data.toList ++ y.data.toList := by rw [ByteArray.data_append, Array.toList_append]
theorem ut_data (u : UrS) : (userTextT u).data.toList = utL u := by
 unfold userTextT utL
 split
 ·split
  ·next h => exact nil_of h
  ·rw [app_data]
 ·rw [app_data, app_data, app_data]
  simp
theorem text_data (u : UrS) : (textT u).data.toList = u.sch.data.toList ++ 58 :: (47 :: 47 :: (ahdL u ++ (u.pth.data.toList ++ (qrL u ++ mkL u)))) := by
 have t : (targetT u).data.toList = u.pth.data.toList ++ qrL u := by
  unfold targetT qrL
  split
  ·rw [app_data, app_data, List.append_assoc]; rfl
  ·rw [List.append_nil]
 unfold textT ahdL ptL mkL
 dsimp only
 split
 ·split
  ·simp only [app_data, t, ut_data, List.append_assoc]; rfl
  ·simp only [app_data, t, ut_data, List.append_assoc, List.nil_append]; rfl
 ·split
  ·simp only [app_data, t, ut_data, List.append_assoc, List.append_nil]; rfl
  ·simp only [app_data, t, ut_data, List.append_assoc, List.append_nil]; rfl
theorem toN {c d : UInt8} (h : c.toNat ≠ d.toNat) : c ≠ d := fun e => h (by rw [e])
theorem pt_dig {u : UrS} (h : Gd u) : ∀ c ∈ ptL u, c = 58 ∨ (48 ≤ c.toNat ∧ c.toNat ≤ 57) := fun c hc => by
 unfold ptL at hc
 split at hc
 ·next h0 =>
  rcases List.mem_cons.1 hc with rfl | hc
  ·exact .inl rfl
  ·exact .inr ((prt_back h0 h.prt.2.1).2.2 c hc)
 ·cases hc
theorem ut_sgn {u : UrS} (h : Gd u) : ∀ c ∈ utL u, c = 58 ∨ c = 64 ∨ hasB 5 c.toNat = false := fun c hc => by
 unfold utL at hc
 split at hc
 ·split at hc
  ·cases hc
  ·rcases List.mem_append.1 hc with hc | hc
   ·exact .inr (.inr (h.usr c hc))
   ·exact .inr (.inl (List.mem_singleton.1 hc))
 ·rcases List.mem_append.1 hc with hc | hc
  ·exact .inr (.inr (h.usr c hc))
  rcases List.mem_cons.1 hc with rfl | hc
  ·exact .inl rfl
  rcases List.mem_append.1 hc with hc | hc
  ·exact .inr (.inr (h.pas c hc))
  ·exact .inr (.inl (List.mem_singleton.1 hc))
theorem pl_sgn {u : UrS} (h : Gd u) : ∀ c ∈ ahdL u, 33 ≤ c.toNat ∧ c ≠ 35 ∧ c ≠ 47 ∧ c ≠ 63 ∧ c ≠ 92 := fun c hc => by
 rcases List.mem_append.1 hc with hc | hc
 ·rcases ut_sgn h c hc with rfl | rfl | h5
  ·decide
  ·decide
  ·obtain ⟨a, b, d, e, f, g, i, j, k⟩ := has5 h5
   exact ⟨a, toN b, toN d, toN f, toN j⟩
 rcases List.mem_append.1 hc with hc | hc
 ·obtain ⟨a, b, d, f, g, i⟩ := h.hst.out.1 c hc
  exact ⟨a, b, d, f, i⟩
 ·rcases pt_dig h c hc with rfl | ⟨h1, h2⟩
  ·decide
  ·refine ⟨by omega, toN ?_, toN ?_, toN ?_, toN ?_⟩
   ·have : (35 : UInt8).toNat = 35 := rfl
    omega
   ·have : (47 : UInt8).toNat = 47 := rfl
    omega
   ·have : (63 : UInt8).toNat = 63 := rfl
    omega
   ·have : (92 : UInt8).toNat = 92 := rfl
    omega
theorem pl_ne {u : UrS} (h : Gd u) : ahdL u ≠ [] := fun e => by
 unfold ahdL at e
 rw [List.append_eq_nil_iff, List.append_eq_nil_iff] at e
 exact h.hst.out.2.2.2.1 e.2.1
theorem sl_no {c : UInt8} (h1 : c ≠ 47) (h2 : c ≠ 92) : slB c = false := by
 unfold slB
 rw [decide_eq_false (p := c.toNat = 47) (fun e => h1 (UInt8.toNat_inj.1 e)), decide_eq_false (p := c.toNat = 92) (fun e => h2 (UInt8.toNat_inj.1 e))]; rfl
theorem sch_sgn {u : UrS} (h : Gd u) : (∀ c ∈ u.sch.data.toList, c ≠ 58 ∧ 33 ≤ c.toNat) ∧ schOk u.sch.data.toList = true ∧ lowS u.sch = u.sch ∧ ownP u.sch ≠ 0 := by
 rcases h.sch with e | e
 all_goals
  rw [e]
  decide +kernel
theorem text_clean {u : UrS} (h : Gd u) : ∀ c ∈ (textT u).data.toList, 33 ≤ c.toNat := fun c hc => by
 rw [text_data] at hc
 rcases List.mem_append.1 hc with hc | hc
 ·exact ((sch_sgn h).1 c hc).2
 rcases List.mem_cons.1 hc with rfl | hc
 ·decide
 rcases List.mem_cons.1 hc with rfl | hc
 ·decide
 rcases List.mem_cons.1 hc with rfl | hc
 ·decide
 rcases List.mem_append.1 hc with hc | hc
 ·exact (pl_sgn h c hc).1
 rcases List.mem_append.1 hc with hc | hc
 ·exact (h.pth.again.2.2 c hc).1
 rcases List.mem_append.1 hc with hc | hc
 ·unfold qrL at hc
  split at hc
  ·rcases List.mem_cons.1 hc with rfl | hc
   ·decide
   ·exact (has3 (h.qry.1 c hc)).1
  ·cases hc
 ·unfold mkL at hc
  split at hc
  ·rcases List.mem_cons.1 hc with rfl | hc
   ·decide
   ·exact has2 (h.mrk.1 c hc)
  ·cases hc
theorem enc_nil (k : Nat) : encS k ⟨#[]⟩ = ⟨#[]⟩ := rfl
theorem enc_same {k : Nat} {x : ByteArray} (h : ∀ c ∈ x.data.toList, hasB k c.toNat = false) : encS k x = x := ba_of (gEncL_same k _ h)
theorem tail_back3 {u t : UrS} (h : Gd u) : tailT t (asB (47 :: 47 :: (ahdL u ++ (u.pth.data.toList ++ (qrL u ++ mkL u))))) = { t with mrk := u.mrk, hm := u.hm, qry := u.qry, hq := u.hq } ∧
  (cutA 63 (cutA 35 (asB (47 :: 47 :: (ahdL u ++ (u.pth.data.toList ++ (qrL u ++ mkL u))))))).data.toList.dropWhile slB = ahdL u ++ u.pth.data.toList ∧
  (cutA 63 (cutA 35 (asB (47 :: 47 :: (ahdL u ++ (u.pth.data.toList ++ (qrL u ++ mkL u))))))).data.toList = 47 :: 47 :: (ahdL u ++ u.pth.data.toList) := by
 have h35 : ∀ c ∈ 47 :: 47 :: (ahdL u ++ (u.pth.data.toList ++ qrL u)), c ≠ 35 := fun c hc => by
  rcases List.mem_cons.1 hc with rfl | hc
  ·decide
  rcases List.mem_cons.1 hc with rfl | hc
  ·decide
  rcases List.mem_append.1 hc with hc | hc
  ·exact (pl_sgn h c hc).2.1
  rcases List.mem_append.1 hc with hc | hc
  ·exact (h.pth.again.2.2 c hc).2.1
  ·unfold qrL at hc
   split at hc
   ·rcases List.mem_cons.1 hc with rfl | hc
    ·decide
    ·exact toN (has3 (h.qry.1 c hc)).2
   ·cases hc
 have h63 : ∀ c ∈ 47 :: 47 :: (ahdL u ++ u.pth.data.toList), c ≠ 63 := fun c hc => by
  rcases List.mem_cons.1 hc with rfl | hc
  ·decide
  rcases List.mem_cons.1 hc with rfl | hc
  ·decide
  rcases List.mem_append.1 hc with hc | hc
  ·exact (pl_sgn h c hc).2.2.2.1
  ·exact (h.pth.again.2.2 c hc).2.2
 have m1 : cutA 35 (asB (47 :: 47 :: (ahdL u ++ (u.pth.data.toList ++ (qrL u ++ mkL u))))) = asB (47 :: 47 :: (ahdL u ++ (u.pth.data.toList ++ qrL u))) ∧ encS 2 (cutB 35 (asB (47 :: 47 :: (ahdL u ++ (u.pth.data.toList ++ (qrL u ++ mkL u)))))) = u.mrk ∧
   cutF 35 (asB (47 :: 47 :: (ahdL u ++ (u.pth.data.toList ++ (qrL u ++ mkL u))))) = u.hm := by
  cases hm : u.hm with
  | true =>
   have e : (asB (47 :: 47 :: (ahdL u ++ (u.pth.data.toList ++ (qrL u ++ mkL u))))).data.toList = (47 :: 47 :: (ahdL u ++ (u.pth.data.toList ++ qrL u))) ++ 35 :: u.mrk.data.toList := by
    rw [asB_data, mkL, if_pos hm]; simp
   obtain ⟨a, b, c⟩ := cut_hit e h35
   exact ⟨a, by rw [b, asB_back]; exact enc_same h.mrk.1, c⟩
  | false =>
   have e : mkL u = [] := by rw [mkL, hm]; rfl
   rw [e, List.append_nil]
   obtain ⟨a, b, c⟩ := cut_miss (s := asB (47 :: 47 :: (ahdL u ++ (u.pth.data.toList ++ qrL u)))) h35
   exact ⟨a, by rw [b, h.mrk.2 hm]; rfl, c⟩
 have m2 : cutA 63 (asB (47 :: 47 :: (ahdL u ++ (u.pth.data.toList ++ qrL u)))) = asB (47 :: 47 :: (ahdL u ++ u.pth.data.toList)) ∧ encS 3 (cutB 63 (asB (47 :: 47 :: (ahdL u ++ (u.pth.data.toList ++ qrL u))))) = u.qry ∧
   cutF 63 (asB (47 :: 47 :: (ahdL u ++ (u.pth.data.toList ++ qrL u)))) = u.hq := by
  cases hm : u.hq with
  | true =>
   have e : (asB (47 :: 47 :: (ahdL u ++ (u.pth.data.toList ++ qrL u)))).data.toList = (47 :: 47 :: (ahdL u ++ u.pth.data.toList)) ++ 63 :: u.qry.data.toList := by
    rw [asB_data, qrL, if_pos hm]; simp
   obtain ⟨a, b, c⟩ := cut_hit e h63
   exact ⟨a, by rw [b, asB_back]; exact enc_same h.qry.1, c⟩
  | false =>
   have e : qrL u = [] := by rw [qrL, hm]; rfl
   rw [e, List.append_nil]
   obtain ⟨a, b, c⟩ := cut_miss (s := asB (47 :: 47 :: (ahdL u ++ u.pth.data.toList))) h63
   exact ⟨a, by rw [b, h.qry.2 hm]; rfl, c⟩
 refine ⟨?_, ?_, by rw [m1.1, m2.1, asB_data]⟩
 ·unfold tailT
  rw [m1.1, m1.2.1, m1.2.2, m2.2.1, m2.2.2]
 ·rw [m1.1, m2.1, asB_data, List.dropWhile_cons, if_pos (by decide), List.dropWhile_cons, if_pos (by decide)]
  have hne := pl_ne h
  have hsg := pl_sgn h
  cases hp : ahdL u with
  | nil => exact absurd hp hne
  | cons c l =>
   have hc := hsg c (by rw [hp]; exact List.mem_cons_self)
   rw [List.cons_append, List.dropWhile_cons, if_neg (by rw [sl_no hc.2.2.1 hc.2.2.2.2]; simp)]
theorem tail_back {u t : UrS} (h : Gd u) : tailT t (asB (47 :: 47 :: (ahdL u ++ (u.pth.data.toList ++ (qrL u ++ mkL u))))) = { t with mrk := u.mrk, hm := u.hm, qry := u.qry, hq := u.hq } ∧
  (cutA 63 (cutA 35 (asB (47 :: 47 :: (ahdL u ++ (u.pth.data.toList ++ (qrL u ++ mkL u))))))).data.toList.dropWhile slB = ahdL u ++ u.pth.data.toList := ⟨(tail_back3 h).1, (tail_back3 (t := t) h).2.1⟩
theorem two_cut {u : UrS} (h : Gd u) : (cutA 63 (cutA 35 (asB (47 :: 47 :: (ahdL u ++ (u.pth.data.toList ++ (qrL u ++ mkL u))))))).data.toList = 47 :: 47 :: (ahdL u ++ u.pth.data.toList) := (tail_back3 (t := u0) h).2.2
theorem place_cut {u : UrS} (h : Gd u) : placL (ahdL u ++ u.pth.data.toList) = ahdL u ∧ restL (ahdL u ++ u.pth.data.toList) = u.pth.data.toList.tail := by
 have h1 := take_while (q := fun c => !slB c) (x := ahdL u) (y := u.pth.data.toList) (fun c hc => by
  have := pl_sgn h c hc
  rw [sl_no this.2.2.1 this.2.2.2.2]; rfl) (fun c hc => by
  rw [h.pth.again.2.1] at hc
  rw [← Option.some.inj hc]; rfl)
 exact ⟨h1.1, by unfold restL; rw [h1.2]⟩
theorem usr_back {u t : UrS} (h : Gd u) (h0 : t.usr = ⟨#[]⟩) (h1 : t.pas = ⟨#[]⟩) : usrT t (asB (ahdL u)) = { t with usr := u.usr, pas := u.pas } ∧ hstT (asB (ahdL u)) = asB (u.hst.data.toList ++ ptL u) := by
 have n64 : ∀ c ∈ u.hst.data.toList ++ ptL u, c ≠ 64 := fun c hc => by
  rcases List.mem_append.1 hc with hc | hc
  ·exact (h.hst.out.1 c hc).2.2.2.2.1
  ·rcases pt_dig h c hc with rfl | ⟨a, b⟩
   ·decide
   ·exact toN (by have : (64 : UInt8).toNat = 64 := rfl; omega)
 have n58 : ∀ c ∈ u.usr.data.toList, c ≠ 58 := fun c hc => toN (has5 (h.usr c hc)).2.2.2.1
 have key : ∀ x : List UInt8, ahdL u = x ++ 64 :: (u.hst.data.toList ++ ptL u) → cutA 58 (asB x) = u.usr → cutB 58 (asB x) = u.pas → usrT t (asB (ahdL u)) = { t with usr := u.usr, pas := u.pas } ∧ hstT (asB (ahdL u)) = asB (u.hst.data.toList ++ ptL u) := fun x e ca cb => by
  have ha := at_hit (p := asB (ahdL u)) (x := x) (y := u.hst.data.toList ++ ptL u) e n64
  have hx : (asB (ahdL u)).extract 0 (x.length : Int).toNat = asB x := ba_of (by
   rw [extract_data, asB_data, e]; simp [asB])
  have hy : (asB (ahdL u)).extract ((x.length : Int).toNat + 1) (asB (ahdL u)).size = asB (u.hst.data.toList ++ ptL u) := ba_of (by
   rw [extract_tail, asB_data, e]
   show List.drop (x.length + 1) _ = _
   rw [List.drop_append, List.drop_of_length_le (by omega), List.nil_append, show x.length + 1 - x.length = 1 by omega]; rfl)
  refine ⟨?_, ?_⟩
  ·unfold usrT
   rw [ha, if_neg (by omega), hx, ca, cb, enc_same h.usr, enc_same h.pas]
  ·unfold hstT
   rw [ha, if_neg (by omega), hy]
 by_cases hp : u.pas.size = 0
 ·have ep : u.pas = ⟨#[]⟩ := ba_of (nil_of hp)
  by_cases hu : u.usr.size = 0
  ·have eu : u.usr = ⟨#[]⟩ := ba_of (nil_of hu)
   have e : ahdL u = u.hst.data.toList ++ ptL u := by rw [ahdL, utL, if_pos hp, if_pos hu, List.nil_append]
   have ha := at_miss (p := asB (ahdL u)) (by rw [asB_data, e]; exact n64)
   refine ⟨?_, ?_⟩
   ·unfold usrT
    rw [ha, if_pos (by decide), eu, ep, ← h0]
    obtain ⟨a, b, c, d, f, g, i, j, k, l⟩ := t
    obtain rfl : b = ⟨#[]⟩ := h0
    obtain rfl : c = ⟨#[]⟩ := h1
    rfl
   ·unfold hstT
    rw [ha, if_pos (by decide), e]
  ·obtain ⟨a, b, _⟩ := cut_miss (a := 58) (s := u.usr) n58
   refine key u.usr.data.toList ?_ ?_ ?_
   ·rw [ahdL, utL, if_pos hp, if_neg hu, List.append_assoc]; rfl
   ·rw [asB_back, a]
   ·rw [asB_back, b, ep]
 ·obtain ⟨a, b, _⟩ := cut_hit (a := 58) (s := asB (u.usr.data.toList ++ 58 :: u.pas.data.toList)) (asB_data _) n58
  refine key (u.usr.data.toList ++ 58 :: u.pas.data.toList) ?_ ?_ ?_
  ·rw [ahdL, utL, if_neg hp]; simp
  ·rw [a, asB_back]
  ·rw [b, asB_back]
theorem hp_back {u t : UrS} (h : Gd u) (hs : t.sch = u.sch) : hpT t (asB (u.hst.data.toList ++ ptL u)) = .ok { t with hst := u.hst, prt := u.prt } := by
 obtain ⟨_, h2, _, _, h5⟩ := h.hst.out
 have hpt : ptL u = [] ∨ (ptL u).head? = some 58 := by
  unfold ptL
  split
  ·exact .inr rfl
  ·exact .inl rfl
 have he : hEndL (asB (u.hst.data.toList ++ ptL u)).data.toList false = u.hst.data.toList.length := by rw [asB_data]; exact h5 _ hpt
 have hx : (asB (u.hst.data.toList ++ ptL u)).extract 0 u.hst.data.toList.length = u.hst := ba_of (by
  rw [extract_data, asB_data]; simp)
 have hd : (asB (u.hst.data.toList ++ ptL u)).data.toList.drop (u.hst.data.toList.length + 1) = (ptL u).tail := by
  rw [asB_data, List.drop_append, List.drop_of_length_le (by omega), List.nil_append, show u.hst.data.toList.length + 1 - u.hst.data.toList.length = 1 by omega, List.drop_one]
 have hp : portT t.sch (ptL u).tail = some u.prt := by
  rw [hs]
  unfold ptL portT
  by_cases h0 : 0 ≤ u.prt
  ·obtain ⟨b1, b2, _⟩ := prt_back h0 h.prt.2.1
   rw [if_pos h0, List.tail_cons, if_neg b2, b1, Option.map_some, if_neg h.prt.2.2]
  ·rw [if_neg h0, List.tail_nil, if_pos rfl]
   rcases h.prt.1 with e | e
   ·rw [e]
   ·exact absurd e h0
 unfold hpT
 rw [he, hx, h2, if_pos rfl, hd, hp]
theorem Gd.alone {u : UrS} (h : Gd u) : aloneT (textT u) = .ok u := by
 obtain ⟨s1, s2, s3, s4⟩ := sch_sgn h
 obtain ⟨c1, c2, c3⟩ := cut_hit (a := 58) (text_data u) (fun c hc => (s1 c hc).1)
 obtain ⟨t1, t2⟩ := tail_back (t := { u0 with sch := u.sch }) h
 obtain ⟨p1, p2⟩ := place_cut h
 obtain ⟨w1, w2⟩ := usr_back (t := { u0 with sch := u.sch, mrk := u.mrk, hm := u.hm, qry := u.qry, hq := u.hq }) h rfl rfl
 have w3 := hp_back (t := { u0 with sch := u.sch, mrk := u.mrk, hm := u.hm, qry := u.qry, hq := u.hq, usr := u.usr, pas := u.pas }) h rfl
 have hsc : schT (textT u) = true := by
  unfold schT
  rw [c1, c3, asB_back, s2]; rfl
 have hp : placeT { u0 with sch := u.sch, mrk := u.mrk, hm := u.hm, qry := u.qry, hq := u.hq } (ahdL u ++ u.pth.data.toList) = .ok u := by
  unfold placeT
  rw [p1, p2, w1, w2, w3]
  show Except.ok (pthT _ [] _) = _
  unfold pthT
  rw [h.pth.again.1]
 unfold aloneT
 rw [if_pos hsc, c1, asB_back, s3, if_neg s4, c2, t1, t2]
 dsimp only at hp ⊢
 rw [hp]
 show (if 4096 < (textT u).size then Except.error 3 else Except.ok u) = _
 rw [if_neg (by have := h.siz; omega)]
theorem drpS_self {s : ByteArray} (h : ∀ c ∈ s.data.toList, 33 ≤ c.toNat) : drpS s 3 = s := ba_of (by rw [drpS_data, drop_self h])
/-- Its text says it. -/
theorem Gd.back {u : UrS} (h : Gd u) : paT (textT u) = (u, 0) := by
 unfold paT
 rw [if_neg (by have := h.siz; omega), drpS_self (text_clean h), h.alone]; rfl
theorem Gd.may {u : UrS} (h : Gd u) : ckT u = true := by
 unfold ckT
 rw [h.back]
 dsimp only
 rw [eqC_self]; rfl

end Go.Proofs.YtcphokaamkalfaaGreatDoor
namespace Go.Proofs.YtcphokaamkalfaaGreatDoor
open Go.RowKit

theorem own_sch {x : ByteArray} (h : ¬ ownP x = 0) : x = ⟨#[104, 116, 116, 112]⟩ ∨ x = ⟨#[104, 116, 116, 112, 115]⟩ := by
 unfold ownP at h
 split at h
 ·next e => exact .inl e
 ·split at h
  ·next e => exact .inr e
  ·exact absurd rfl h
theorem cutP_none {a : UInt8} : ∀ {l : List UInt8}, (cutP a l).2.2 = false → (cutP a l).2.1 = []
 | [], _ => rfl
 | c :: l, h => by
  rw [cutP] at h ⊢
  split at h
  ·cases h
  ·next hc => rw [if_neg hc]; exact cutP_none h
theorem cut_none {a : UInt8} {s : ByteArray} (h : cutF a s = false) : cutB a s = ⟨#[]⟩ := ba_of (by
 rw [cutF_eq] at h
 rw [cutB_data, cutP_none h])
theorem enc_clean (k : Nat) (x : ByteArray) : ∀ c ∈ (encS k x).data.toList, hasB k c.toNat = false := gEncL_clean k _
theorem port_made {sch : ByteArray} {q : List UInt8} {p : Int} (h : portT sch q = some p) : (p = -1 ∨ 0 ≤ p) ∧ p ≤ 65535 ∧ p ≠ (ownP sch : Int) := by
 unfold portT at h
 split at h
 ·obtain rfl : -1 = p := by injection h
  exact ⟨.inl rfl, by decide, by omega⟩
 ·cases hq : prtD q with
  | none => rw [hq] at h; cases h
  | some n =>
   rw [hq, Option.map_some] at h
   injection h with h
   unfold prtD at hq
   split at hq
   ·next ha =>
    injection hq with hq
    have := (num_bd q ha.1).1
    split at h
    ·exact ⟨.inl h.symm, by omega, by omega⟩
    ·next hne => exact ⟨.inr (by omega), by omega, fun e => hne (by rw [h]; exact e)⟩
   ·cases hq
theorem host_of {x : ByteArray} (hx : x.size ≤ 10000) (h : (hostT x).2 = 0) : HostX (hostT x).1 := by
 unfold hostT at h ⊢
 rw [if_neg (by omega)] at h ⊢
 cases e : hostO x with
 | none => rw [e] at h; cases h
 | some y => exact host_made hx e

/- Paths. -/
theorem dot_enc : ∀ c : Fin 256, hasB 4 c.1 = true → ¬ ((hexD (c.1 / 16)).toNat = 50 ∧ (low (hexD (c.1 % 16))).toNat = 101) := by decide +kernel
theorem dot37 {h d : UInt8} {r : List UInt8} (hn : ¬ (h.toNat = 50 ∧ (low d).toNat = 101)) : dotN (37 :: h :: d :: r) = none := by
 rw [dotN, if_neg (by decide), if_neg (fun e => hn e.2)]
theorem enc_first {x : UInt8} {l : List UInt8} {d : UInt8} {r : List UInt8} (h : encL 4 (x :: l) = d :: r) (hd : d.toNat ≠ 37) : hasB 4 x.toNat = false ∧ x = d ∧ encL 4 l = r := by
 rw [encL_cons] at h
 cases hx : hasB 4 x.toNat with
 | true =>
  rw [encB_yes hx] at h
  exact absurd (congrArg UInt8.toNat (List.cons.inj h).1).symm hd
 | false =>
  rw [encB_no hx] at h
  exact ⟨rfl, (List.cons.inj h).1, (List.cons.inj h).2⟩
theorem dot_clean : ∀ (f : Nat) (l : List UInt8) (n : Nat), l.length ≤ f → dotN (encL 4 l) = some n → ∀ c ∈ l, hasB 4 c.toNat = false
 | _, [], _, _, _, _, hc => by cases hc
 | 0, _ :: _, _, h, _, _, _ => absurd h (by simp)
 | f + 1, c :: l, n, hl, h, y, hy => by
  have hl' : l.length ≤ f := by simpa using hl
  cases hc : hasB 4 c.toNat with
  | true =>
   rw [encL_cons, encB_yes hc, List.cons_append, List.cons_append, List.cons_append, dot37 (dot_enc ⟨c.toNat, c.toNat_lt⟩ hc)] at h
   cases h
  | false =>
   rw [encL_cons, encB_no hc, List.cons_append, List.nil_append] at h
   have rest : ∀ z ∈ l, hasB 4 z.toNat = false := by
    by_cases h46 : c.toNat = 46
    ·rw [dotN_pt h46] at h
     cases hd : dotN (encL 4 l) with
     | none => rw [hd] at h; cases h
     | some m => exact dot_clean f l m hl' hd
    ·by_cases h3 : ∃ b d r, encL 4 l = b :: d :: r ∧ (c.toNat = 37 ∧ b.toNat = 50 ∧ (low d).toNat = 101)
     ·obtain ⟨b, d, r, e, h3⟩ := h3
      rw [e, dotN_three h46 h3] at h
      cases hd : dotN r with
      | none => rw [hd] at h; cases h
      | some m =>
       have hd37 : d.toNat ≠ 37 := fun q => by
        have : d = 37 := UInt8.toNat_inj.1 q
        rw [this] at h3
        exact absurd h3.2.2 (by decide)
       match l, e with
       | [], e => cases e
       | x :: l, e =>
        obtain ⟨a1, _, a3⟩ := enc_first e (by omega)
        match l, a3 with
        | [], a3 => cases a3
        | x2 :: l2, a3 =>
         obtain ⟨b1, _, b3⟩ := enc_first a3 hd37
         have := dot_clean f l2 m (by simp at hl'; omega) (by rw [b3]; exact hd)
         intro z hz
         rcases List.mem_cons.1 hz with rfl | hz
         ·exact a1
         rcases List.mem_cons.1 hz with rfl | hz
         ·exact b1
         ·exact this z hz
     ·rw [dotN_else h46 (fun b d r e h => h3 ⟨b, d, r, e, h⟩)] at h
      cases h
   rcases List.mem_cons.1 hy with rfl | hy
   ·exact hc
   ·exact rest y hy
theorem pt_enc {l : List UInt8} (h : ptN l = 0) : ptN (encL 4 l) = 0 := by
 cases hd : dotN (encL 4 l) with
 | none => rw [ptN, hd]
 | some n => rw [gEncL_same 4 l (dot_clean l.length l n (Nat.le_refl _) hd)]; exact h
theorem hexD_sl : ∀ n : Fin 16, slB (hexD n.1) = false := by decide +kernel
theorem enc_sl {k : Nat} {l : List UInt8} (h : ∀ c ∈ l, slB c = false) : ∀ c ∈ encL k l, slB c = false := fun c hc => by
 obtain ⟨x, hx, hc⟩ := List.mem_flatMap.1 hc
 cases hk : hasB k x.toNat with
 | true =>
  rw [encB_yes hk] at hc
  have hlt := x.toNat_lt
  rcases List.mem_cons.1 hc with rfl | hc
  ·decide
  rcases List.mem_cons.1 hc with rfl | hc
  ·exact hexD_sl ⟨x.toNat / 16, by omega⟩
  ·obtain rfl := List.mem_singleton.1 hc
   exact hexD_sl ⟨x.toNat % 16, by omega⟩
 | false =>
  rw [encB_no hk] at hc
  rw [List.mem_singleton.1 hc]; exact h x hx
def PartX (x : ByteArray) : Prop := ptN x.data.toList = 0 ∧ ∀ c ∈ x.data.toList, hasB 4 c.toNat = false ∧ slB c = false
theorem pathB_made : ∀ (S P : List ByteArray), (∀ x ∈ S, PartX x) → (∀ x ∈ P, ∀ c ∈ x.data.toList, slB c = false) → ∀ x ∈ pathB (encS 4) S P, PartX x
 | S, [], hS, _ => by rw [pathB]; exact hS
 | S, p :: P, hS, hP => by
  have hP2 : ∀ x ∈ P, ∀ c ∈ x.data.toList, slB c = false := fun x hx => hP x (List.mem_cons_of_mem _ hx)
  have hd : ∀ x ∈ (if ptN p.data.toList = 2 then S.dropLast else S), PartX x := fun x hx => by
   split at hx
   ·exact hS x (List.dropLast_subset S hx)
   ·exact hS x hx
  rw [pathB]
  split
  ·next h0 =>
   refine pathB_made _ P (fun x hx => ?_) hP2
   rcases List.mem_append.1 hx with hx | hx
   ·exact hS x hx
   ·obtain rfl := List.mem_singleton.1 hx
    exact ⟨pt_enc h0, fun c hc => ⟨enc_clean 4 p c hc, enc_sl (hP p List.mem_cons_self) c hc⟩⟩
  split
  ·intro x hx
   rcases List.mem_append.1 hx with hx | hx
   ·exact hd x hx
   ·obtain rfl := List.mem_singleton.1 hx
    exact ⟨rfl, fun c hc => by cases hc⟩
  ·exact pathB_made _ P hd hP2
theorem ptsS_sl : ∀ (l p : List UInt8), p ∈ ptsS l → ∀ c ∈ p, slB c = false
 | [], p, hp, c, hc => by
  obtain rfl := List.mem_singleton.1 hp
  cases hc
 | a :: l, p, hp, c, hc => by
  rw [ptsS] at hp
  split at hp
  ·rcases List.mem_cons.1 hp with rfl | hp
   ·cases hc
   ·exact ptsS_sl l p hp c hc
  ·next ha =>
   have ih := ptsS_sl l
   have hne := ptsS_ne l
   cases hl : ptsS l with
   | nil => exact absurd hl hne
   | cons x L =>
    rw [hl] at hp ih
    rcases List.mem_cons.1 hp with rfl | hp
    ·rcases List.mem_cons.1 hc with rfl | hc
     ·simpa using ha
     ·exact ih x List.mem_cons_self c hc
    ·exact ih p (List.mem_cons_of_mem _ hp) c hc
theorem path_made (r : List UInt8) : PathX (slJ (pathB (encS 4) [] ((ptsS r).map asB))) := by
 refine ⟨_, pathB_ne _ _ _ (.inl (fun e => ptsS_ne r (List.map_eq_nil_iff.1 e))), rfl, pathB_made [] _ (fun x hx => by cases hx) (fun x hx => ?_)⟩
 obtain ⟨p, hp, rfl⟩ := List.mem_map.1 hx
 exact ptsS_sl r p hp

theorem usr_made (t : UrS) (p : ByteArray) (h0 : t.usr = ⟨#[]⟩) (h1 : t.pas = ⟨#[]⟩) : (∀ c ∈ (usrT t p).usr.data.toList, hasB 5 c.toNat = false) ∧ (∀ c ∈ (usrT t p).pas.data.toList, hasB 5 c.toNat = false) ∧
  (usrT t p).sch = t.sch ∧ (usrT t p).mrk = t.mrk ∧ (usrT t p).hm = t.hm ∧ (usrT t p).qry = t.qry ∧ (usrT t p).hq = t.hq := by
 unfold usrT
 split
 ·rw [h0, h1]
  exact ⟨fun c hc => (by cases hc), fun c hc => (by cases hc), rfl, rfl, rfl, rfl, rfl⟩
 ·exact ⟨enc_clean 5 _, enc_clean 5 _, rfl, rfl, rfl, rfl, rfl⟩
/-- What is told of a text may be. -/
theorem alone_made {r : ByteArray} {u : UrS} (hr : r.size ≤ 10000) (h : aloneT r = .ok u) : Gd u := by
 unfold aloneT at h
 split at h
 rotate_left
 ·cases h
 split at h
 ·cases h
 next hsc hown =>
 obtain ⟨t, ht⟩ : ∃ t, tailT { u0 with sch := lowS (cutA 58 r) } (cutB 58 r) = t := ⟨_, rfl⟩
 obtain ⟨l, hl⟩ : ∃ l, (cutA 63 (cutA 35 (cutB 58 r))).data.toList.dropWhile slB = l := ⟨_, rfl⟩
 rw [ht, hl] at h
 have hls : l.length ≤ 10000 := by
  rw [← hl]
  have h1 := dropw_le (cutA 63 (cutA 35 (cutB 58 r))).data.toList
  have h2 := cutA_size 63 (cutA 35 (cutB 58 r))
  have h3 := cutA_size 35 (cutB 58 r)
  have h4 := cutB_size 58 r
  rw [lenB] at h1
  omega
 unfold measT at h
 cases hp : placeT t l with
 | error c => rw [hp] at h; cases h
 | ok v =>
  rw [hp] at h
  dsimp only at h
  split at h
  ·cases h
  next hsz =>
  obtain rfl : v = u := by injection h
  unfold placeT at hp
  cases hq : hpT (usrT t (asB (placL l))) (hstT (asB (placL l))) with
  | error c => rw [hq] at hp; cases hp
  | ok w =>
   rw [hq] at hp
   dsimp only at hp
   obtain rfl : pthT w [] (restL l) = v := by injection hp
   unfold hpT at hq
   split at hq
   rotate_left
   ·cases hq
   next hh =>
   cases hpt : portT (usrT t (asB (placL l))).sch ((hstT (asB (placL l))).data.toList.drop (hEndL (hstT (asB (placL l))).data.toList false + 1)) with
   | none => rw [hpt] at hq; cases hq
   | some p =>
    rw [hpt] at hq
    dsimp only at hq
    injection hq with hq
    obtain ⟨u1, u2, u3, u4, u5, u6, u7⟩ := usr_made t (asB (placL l)) (by rw [← ht]; rfl) (by rw [← ht]; rfl)
    have hx := host_of (by
     have h5 := hst_size (asB (placL l))
     have h6 := plac_le l
     rw [asB_size] at h5
     rw [ByteArray.size_extract]; omega) hh
    have hpm := port_made hpt
    rw [u3] at hpm
    generalize (hostT ((hstT (asB (placL l))).extract 0 (hEndL (hstT (asB (placL l))).data.toList false))).1 = H at hx hq
    subst hq
    have ts : t.sch = lowS (cutA 58 r) := by rw [← ht]; rfl
    refine ⟨?_, u1, u2, hx, ?_, path_made _, ⟨?_, ?_⟩, ⟨?_, ?_⟩, ?_⟩
    ·show (usrT t (asB (placL l))).sch = _ ∨ (usrT t (asB (placL l))).sch = _
     rw [u3, ts]; exact own_sch hown
    ·show _ ∧ _ ∧ p ≠ (ownP (usrT t (asB (placL l))).sch : Int)
     rw [u3]; exact hpm
    ·show ∀ c ∈ (usrT t (asB (placL l))).qry.data.toList, _
     rw [u6, ← ht]; exact enc_clean 3 _
    ·show (usrT t (asB (placL l))).hq = false → (usrT t (asB (placL l))).qry = _
     rw [u6, u7, ← ht]
     intro e
     show encS 3 (cutB 63 (cutA 35 (cutB 58 r))) = _
     rw [cut_none e]; rfl
    ·show ∀ c ∈ (usrT t (asB (placL l))).mrk.data.toList, _
     rw [u4, ← ht]; exact enc_clean 2 _
    ·show (usrT t (asB (placL l))).hm = false → (usrT t (asB (placL l))).mrk = _
     rw [u4, u5, ← ht]
     intro e
     show encS 2 (cutB 35 (cutB 58 r)) = _
     rw [cut_none e]; rfl
    ·omega
/-- What is answered of a text may be, or it is nothing. -/
theorem pa_made (s : ByteArray) : Gd (paT s).1 ∨ (paT s).1 = u0 := by
 unfold paT
 split
 ·exact .inr rfl
 ·next hs =>
  cases e : aloneT (drpS s 3) with
  | ok v => exact .inl (alone_made (by have := drpS_size s 3; omega) e)
  | error c => exact .inr rfl
theorem eqC_eq {u v : UrS} (h : eqC u v = true) : u = v := by
 obtain ⟨a, b, c, d, e, f, g, i, j, k⟩ := u
 obtain ⟨a', b', c', d', e', f', g', i', j', k'⟩ := v
 simp only [eqC, Bool.and_eq_true, beq_iff_eq, ByteArray.toList_eq] at h
 obtain ⟨h0, h1, h2, h3, h4, h5, h6, h7, h8, h9⟩ := h
 rw [ba_of h0, ba_of h1, ba_of h2, ba_of h3, h4, ba_of h5, ba_of h6, h7, ba_of h8, h9]
theorem ck_made {u : UrS} (h : ckT u = true) : Gd u := by
 unfold ckT at h
 rw [Bool.and_eq_true, beq_iff_eq] at h
 obtain ⟨h1, h2⟩ := h
 have e := eqC_eq h2
 unfold paT at h1 e
 split at h1
 ·exact absurd h1 (by decide)
 ·next hs =>
  rw [if_neg hs] at e
  cases e1 : aloneT (drpS (textT u) 3) with
  | ok v =>
   rw [e1] at e
   obtain rfl : v = u := e
   exact alone_made (by have := drpS_size (textT v) 3; omega) e1
  | error c =>
   exfalso
   rw [e1] at h1 e
   have hc : c = 0 := h1
   have hu : u0 = u := e
   rw [← hu, hc] at e1
   have h9 : (ansU (aloneT (drpS (textT u0) 3))).2 ≠ 0 := by decide +kernel
   rw [e1] at h9
   exact h9 rfl
theorem ck_iff {u : UrS} : ckT u = true ↔ Gd u := ⟨ck_made, Gd.may⟩

end Go.Proofs.YtcphokaamkalfaaGreatDoor
namespace Go.Proofs.YtcphokaamkalfaaGreatDoor
open Go.RowKit

theorem cutP_sum (a : UInt8) : ∀ l : List UInt8, (cutP a l).1.length + (cutP a l).2.1.length ≤ l.length
 | [] => Nat.le_refl _
 | c :: l => by
  have ih := cutP_sum a l
  rw [cutP]
  split
  ·simp
  ·simp only [List.length_cons]; omega
theorem cut_sum (a : UInt8) (s : ByteArray) : (cutA a s).size + (cutB a s).size ≤ s.size := by
 have := cutP_sum a s.data.toList
 rw [← cutA_data, ← cutB_data, lenB, lenB, lenB] at this; exact this
theorem encS_le3 (k : Nat) (x : ByteArray) : (encS k x).size ≤ 3 * x.size := by
 have := encL_len k x.data.toList
 rw [lenB] at this; exact this
theorem ptsS_wgt3 : ∀ l : List UInt8, ((ptsS l).map fun p => 3 * p.length + 1).sum ≤ 3 * l.length + 1
 | [] => by simp [ptsS]
 | c :: l => by
  have ih := ptsS_wgt3 l
  rw [ptsS]
  split
  ·simp only [List.map_cons, List.length_nil, List.sum_cons, List.length_cons]; omega
  ·rw [wgt_ahd c _ (ptsS_ne l), List.length_cons]; omega
theorem path_len (r : List UInt8) : (slJ (pathB (encS 4) [] ((ptsS r).map asB))).size ≤ 3 * r.length + 1 := by
 have h1 := pathB_sum [] ((ptsS r).map asB)
 have h2 := ptsS_wgt3 r
 have h3 : wgtS ((ptsS r).map asB) = ((ptsS r).map fun p => 3 * p.length + 1).sum := by
  unfold wgtS
  rw [List.map_map]; rfl
 have h0 : (slJ []).size = 0 := rfl
 omega
theorem place_sum (l : List UInt8) : (placL l).length + (restL l).length ≤ l.length := by
 unfold placL restL
 have h := congrArg List.length (List.takeWhile_append_dropWhile (p := fun c => !slB c) (l := l))
 rw [List.length_append] at h
 rw [List.length_tail]; omega
/-- How long what is told is, but for the host and the port. -/
def bodyN (u : UrS) : Nat := u.usr.size + u.pas.size + u.pth.size + u.qry.size + u.mrk.size
theorem usr_len (t : UrS) (p : ByteArray) (h0 : t.usr = ⟨#[]⟩) (h1 : t.pas = ⟨#[]⟩) : (usrT t p).usr.size + (usrT t p).pas.size ≤ 3 * p.size := by
 unfold usrT
 split
 ·rw [h0, h1]; exact Nat.zero_le _
 ·show (encS 5 (cutA 58 _)).size + (encS 5 (cutB 58 _)).size ≤ _
  have h2 := encS_le3 5 (cutA 58 (p.extract 0 (atI p).toNat))
  have h3 := encS_le3 5 (cutB 58 (p.extract 0 (atI p).toNat))
  have h4 := cut_sum 58 (p.extract 0 (atI p).toNat)
  rw [ByteArray.size_extract] at h4
  omega
theorem alone_len {r : ByteArray} {u : UrS} (h : aloneT r = .ok u) : bodyN u ≤ 3 * r.size + 1 := by
 unfold aloneT at h
 split at h
 rotate_left
 ·cases h
 split at h
 ·cases h
 obtain ⟨t, ht⟩ : ∃ t, tailT { u0 with sch := lowS (cutA 58 r) } (cutB 58 r) = t := ⟨_, rfl⟩
 obtain ⟨l, hl⟩ : ∃ l, (cutA 63 (cutA 35 (cutB 58 r))).data.toList.dropWhile slB = l := ⟨_, rfl⟩
 rw [ht, hl] at h
 have h1 := dropw_le (cutA 63 (cutA 35 (cutB 58 r))).data.toList
 rw [hl, lenB] at h1
 have h2 := cut_sum 63 (cutA 35 (cutB 58 r))
 have h3 := cut_sum 35 (cutB 58 r)
 have h4 := cutB_size 58 r
 have h5 := encS_le3 3 (cutB 63 (cutA 35 (cutB 58 r)))
 have h6 := encS_le3 2 (cutB 35 (cutB 58 r))
 have tq : t.qry = encS 3 (cutB 63 (cutA 35 (cutB 58 r))) := by rw [← ht]; rfl
 have tm : t.mrk = encS 2 (cutB 35 (cutB 58 r)) := by rw [← ht]; rfl
 have h7 := place_sum l
 have h8 := path_len (restL l)
 have h9 := usr_len t (asB (placL l)) (by rw [← ht]; rfl) (by rw [← ht]; rfl)
 obtain ⟨-, -, -, u4, -, u6, -⟩ := usr_made t (asB (placL l)) (by rw [← ht]; rfl) (by rw [← ht]; rfl)
 rw [asB_size] at h9
 unfold measT at h
 cases hp : placeT t l with
 | error c => rw [hp] at h; cases h
 | ok v =>
  rw [hp] at h
  dsimp only at h
  split at h
  ·cases h
  obtain rfl : v = u := by injection h
  unfold placeT at hp
  cases hq : hpT (usrT t (asB (placL l))) (hstT (asB (placL l))) with
  | error c => rw [hq] at hp; cases hp
  | ok w =>
   rw [hq] at hp
   dsimp only at hp
   obtain rfl : pthT w [] (restL l) = v := by injection hp
   unfold hpT at hq
   split at hq
   rotate_left
   ·cases hq
   generalize (hostT ((hstT (asB (placL l))).extract 0 (hEndL (hstT (asB (placL l))).data.toList false))).1 = H at hq
   split at hq
   rotate_left
   ·cases hq
   injection hq with hq
   subst hq
   show (usrT t (asB (placL l))).usr.size + (usrT t (asB (placL l))).pas.size + (slJ (pathB (encS 4) [] ((ptsS (restL l)).map asB))).size + (usrT t (asB (placL l))).qry.size + (usrT t (asB (placL l))).mrk.size ≤ _
   rw [u4, u6, tq, tm]
   omega
theorem pa_len {s : ByteArray} (hs : s.size ≤ 1000) : bodyN (paT s).1 ≤ 3001 := by
 unfold paT
 rw [if_neg (by omega)]
 cases e : aloneT (drpS s 3) with
 | ok v =>
  have h1 := alone_len e
  have h2 := drpS_size s 3
  show bodyN v ≤ _
  omega
 | error c => exact (by decide : bodyN u0 ≤ 3001)
theorem pt_len {u : UrS} (h : u.prt ≤ 65535) : (ptL u).length ≤ 22 := by
 unfold ptL
 split
 ·next h0 =>
  have := Lib.itoa_length_le u.prt (by omega) (by omega)
  rw [List.length_cons]
  show (Lib.itoa u.prt).length + 1 ≤ 22
  omega
 ·exact Nat.zero_le _
theorem ut_len (u : UrS) : (utL u).length ≤ u.usr.size + u.pas.size + 2 := by
 unfold utL
 split
 ·split
  ·exact Nat.zero_le _
  ·rw [List.length_append, lenB]; simp; omega
 ·rw [List.length_append, List.length_cons, List.length_append, lenB, lenB]; simp; omega
theorem text_len {u : UrS} (hs : u.sch.size ≤ 5) (hh : u.hst.size ≤ 253) (hp : u.prt ≤ 65535) : (textT u).size ≤ bodyN u + 290 := by
 rw [← lenB, text_data, ahdL]
 have h1 := pt_len hp
 have h2 := ut_len u
 have h3 : (qrL u).length ≤ u.qry.size + 1 := by
  unfold qrL
  split
  ·rw [List.length_cons, lenB]; exact Nat.le_refl _
  ·exact Nat.zero_le _
 have h4 : (mkL u).length ≤ u.mrk.size + 1 := by
  unfold mkL
  split
  ·rw [List.length_cons, lenB]; exact Nat.le_refl _
  ·exact Nat.zero_le _
 simp only [List.length_append, List.length_cons, lenB]
 unfold bodyN
 omega
theorem Gd.sch5 {u : UrS} (h : Gd u) : u.sch.size ≤ 5 := by
 rcases h.sch with e | e <;> rw [e] <;> decide
theorem Gd.small {u : UrS} (h : Gd u) : Sm u ∧ u.hst.size ≤ 253 := by
 have hz := h.siz
 rw [← lenB, text_data, ahdL] at hz
 have h1 := h.sch5
 have h3 := h.hst.out.2.2.1
 have hu : u.usr.size ≤ (utL u).length ∧ u.pas.size ≤ (utL u).length := by
  unfold utL
  split
  ·split
   ·omega
   ·rw [List.length_append, lenB]; omega
  ·rw [List.length_append, List.length_cons, List.length_append, lenB, lenB]; omega
 have hq : u.qry.size ≤ (qrL u).length := by
  unfold qrL
  split
  ·rw [List.length_cons, lenB]; omega
  ·next e => rw [h.qry.2 (by simpa using e)]; exact Nat.zero_le _
 have hm : u.mrk.size ≤ (mkL u).length := by
  unfold mkL
  split
  ·rw [List.length_cons, lenB]; omega
  ·next e => rw [h.mrk.2 (by simpa using e)]; exact Nat.zero_le _
 simp only [List.length_append, List.length_cons, lenB] at hz
 have hp := h.prt.2.1
 exact ⟨⟨by omega, by omega, by omega, by omega, by omega, by omega, by omega, by omega⟩, h3⟩
theorem pa_sm (s : ByteArray) : Sm (paT s).1 ∧ (paT s).1.hst.size ≤ 1000 := by
 rcases pa_made s with h | h
 ·exact ⟨h.small.1, by have := h.small.2; omega⟩
 ·rw [h]; exact ⟨sm_u0, by decide⟩
/-- With another port. -/
def withP (u : UrS) (p : Int) : UrS := { u with prt := p }
/-- With other parts. -/
def otherV (u : UrS) : UrS := { u with usr := ⟨#[117]⟩, pas := ⟨#[112]⟩, pth := ⟨#[47, 120]⟩, qry := ⟨#[113]⟩, hq := true, mrk := ⟨#[109]⟩, hm := true }
theorem Gd.port {u : UrS} (h : Gd u) (hb : bodyN u ≤ 3001) {p : Int} (h0 : 0 ≤ p) (h1 : p ≤ 65535) (h2 : p ≠ (ownP u.sch : Int)) : Gd (withP u p) := by
 refine ⟨h.sch, h.usr, h.pas, h.hst, ⟨.inr h0, h1, h2⟩, h.pth, h.qry, h.mrk, ?_⟩
 have := text_len (u := withP u p) h.sch5 h.hst.out.2.2.1 h1
 have hb2 : bodyN (withP u p) = bodyN u := rfl
 omega
theorem not_port {u : UrS} {p : Int} (h2 : p = (ownP u.sch : Int)) : ckT (withP u p) = false := by
 rw [Bool.eq_false_iff]
 intro h
 exact (ck_made h).prt.2.2 h2
theorem Gd.other {u : UrS} (h : Gd u) : Gd (otherV u) := by
 refine ⟨h.sch, ?_, ?_, h.hst, h.prt, ?_, ⟨?_, fun e => by cases e⟩, ⟨?_, fun e => by cases e⟩, ?_⟩
 ·show ∀ c ∈ [(117 : UInt8)], hasB 5 c.toNat = false
  decide +kernel
 ·show ∀ c ∈ [(112 : UInt8)], hasB 5 c.toNat = false
  decide +kernel
 ·refine ⟨[⟨#[120]⟩], by simp, rfl, fun x hx => ?_⟩
  obtain rfl := List.mem_singleton.1 hx
  exact ⟨by decide +kernel, by show ∀ c ∈ [(120 : UInt8)], _; decide +kernel⟩
 ·show ∀ c ∈ [(113 : UInt8)], hasB 3 c.toNat = false
  decide +kernel
 ·show ∀ c ∈ [(109 : UInt8)], hasB 2 c.toNat = false
  decide +kernel
 ·have := text_len (u := otherV u) h.sch5 h.hst.out.2.2.1 h.prt.2.1
  have hb2 : bodyN (otherV u) = 6 := rfl
  omega
theorem pt_inj {u v : UrS} (hu : (u.prt = -1 ∨ 0 ≤ u.prt) ∧ u.prt ≤ 65535) (hv : (v.prt = -1 ∨ 0 ≤ v.prt) ∧ v.prt ≤ 65535) (h : ptL u = ptL v) : u.prt = v.prt := by
 unfold ptL at h
 by_cases h1 : 0 ≤ u.prt
 ·by_cases h2 : 0 ≤ v.prt
  ·rw [if_pos h1, if_pos h2] at h
   have a := (prt_back h1 hu.2).1
   have b := (prt_back h2 hv.2).1
   rw [(List.cons.inj h).2, b] at a
   exact (Option.some.inj a).symm
  ·rw [if_pos h1, if_neg h2] at h; cases h
 ·by_cases h2 : 0 ≤ v.prt
  ·rw [if_neg h1, if_pos h2] at h; cases h
  ·rcases hu.1 with e | e
   ·rcases hv.1 with f | f
    ·rw [e, f]
    ·exact absurd f h2
   ·exact absurd e h1

end Go.Proofs.YtcphokaamkalfaaGreatDoor
