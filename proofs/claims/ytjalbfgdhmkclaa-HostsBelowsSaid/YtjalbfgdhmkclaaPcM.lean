/-
  Plain words on bytes as three signs: sets, encoding, decoding. Of no program.
-/
import Derived.Test.YtjalbfgdhmkclaaMath
namespace Go.Proofs.Ytjalbfgdhmkclaa
open Go.RowKit

/-- The control bytes below k. -/
def ctlL (k : Nat) : List Nat := (List.range k).filter fun c => decide (c < 32) || decide (126 < c)
theorem ctlL_yes (k : Nat) (h : k < 32 ∨ 126 < k) : ctlL (k + 1) = ctlL k ++ [k] := by
  rw [ctlL, List.range_succ, List.filter_append, ctlL]
  rcases h with h | h <;> simp [h]
theorem ctlL_no (k : Nat) (h0 : 32 ≤ k) (h : k ≤ 126) : ctlL (k + 1) = ctlL k := by
  rw [ctlL, List.range_succ, List.filter_append, ctlL]
  simp; omega
def fragL : List Nat := [32, 34, 60, 62, 96]
def pathL : List Nat := [35, 63, 94, 123, 125]
def userL : List Nat := [47, 58, 59, 61, 64, 91, 92, 93, 124]
def queryL : List Nat := [32, 34, 35, 60, 62, 39]
/-- The places of a set, as the program writes them. -/
def setL : Nat → List Nat
  | 1 => ctlL 256
  | 2 => fragL ++ ctlL 256
  | 3 => queryL ++ ctlL 256
  | 4 => pathL ++ fragL ++ ctlL 256
  | 5 => userL ++ pathL ++ fragL ++ ctlL 256
  | _ => []
/-- Has a set a byte? -/
def hasB (set c : Nat) : Bool := decide (c ∈ setL set)
theorem setL_none (set : Nat) (h : set = 0 ∨ 5 < set) : setL set = [] := by
  match set, h with
  | 0, _ => rfl
  | n + 6, _ => rfl
  | 1, h => omega
  | 2, h => omega
  | 3, h => omega
  | 4, h => omega
  | 5, h => omega
theorem hasB_none (set c : Nat) (h : set = 0 ∨ 5 < set) : hasB set c = false := by rw [hasB, setL_none set h]; simp
theorem mem_ctl (c : Nat) (h : c < 256) : c ∈ ctlL 256 ↔ (c < 32 ∨ 126 < c) := by
  simp [ctlL, h]
/-- As the document says it. -/
theorem hasB_eq (set c : Nat) (h1 : 1 ≤ set) (h5 : set ≤ 5) (hc : c < 256) : hasB set c = (decide (c < 32) || decide (126 < c) || (if set = 2 then decide (c ∈ [32, 34, 60, 62, 96]) else if set = 3 then decide (c ∈ [32, 34, 35, 60, 62, 39]) else if set = 4 then decide (c ∈ [32, 34, 35, 60, 62, 63, 94, 123, 125, 96]) else if set = 5 then decide (c ∈ [32, 34, 35, 60, 62, 63, 94, 123, 125, 96, 47, 58, 59, 61, 64, 91, 92, 93, 124]) else false)) := by
  have hm := mem_ctl c hc
  rw [Bool.eq_iff_iff]
  match set, h1, h5 with
  | 1, _, _ => simp [hasB, setL, hm]
  | 2, _, _ => simp [hasB, setL, fragL, hm]; omega
  | 3, _, _ => simp [hasB, setL, queryL, hm]; omega
  | 4, _, _ => simp [hasB, setL, fragL, pathL, hm]; omega
  | 5, _, _ => simp [hasB, setL, fragL, pathL, userL, hm]; omega
  | n + 6, _, h => omega
theorem hasB_table : ∀ set : Fin 6, ∀ c : Fin 256, hasB set.1 c.1 = true → c.1 ≠ 37 ∧ ¬ (48 ≤ c.1 ∧ c.1 ≤ 57) ∧ ¬ (65 ≤ c.1 ∧ c.1 ≤ 90) ∧ ¬ (97 ≤ c.1 ∧ c.1 ≤ 122) := by decide +kernel
theorem hasB_out (set c : Nat) (hc : c < 256) (h : hasB set c = true) : c ≠ 37 ∧ ¬ (48 ≤ c ∧ c ≤ 57) ∧ ¬ (65 ≤ c ∧ c ≤ 90) ∧ ¬ (97 ≤ c ∧ c ≤ 122) := by
  by_cases hs : set < 6
  · exact hasB_table ⟨set, hs⟩ ⟨c, hc⟩ h
  · rw [hasB_none set c (.inr (by omega))] at h; cases h
theorem hasB_path : ∀ c : Fin 256, hasB 4 c.1 = true → hasB 5 c.1 = true := by decide +kernel
theorem hasB_ctl : ∀ c : Fin 256, hasB 1 c.1 = (decide (c.1 < 32) || decide (126 < c.1)) := by decide +kernel
theorem hasB_all : ∀ set : Fin 6, ∀ c : Fin 256, set.1 ≠ 0 → hasB 1 c.1 = true → hasB set.1 c.1 = true := by decide +kernel

/-- A digit in hexadecimal, great. -/
def hexT : List UInt8 := [48, 49, 50, 51, 52, 53, 54, 55, 56, 57, 65, 66, 67, 68, 69, 70]
def hexs : List UInt8 := [48, 49, 50, 51, 52, 53, 54, 55, 56, 57, 97, 98, 99, 100, 101, 102]
def hexD (n : Nat) : UInt8 := hexT.getD n 0
/-- What a digit tells; 16: it is none. -/
def hexV (c : UInt8) : Nat := if 48 ≤ c.toNat ∧ c.toNat ≤ 57 then c.toNat - 48 else if 65 ≤ c.toNat ∧ c.toNat ≤ 70 then c.toNat - 55 else if 97 ≤ c.toNat ∧ c.toNat ≤ 102 then c.toNat - 87 else 16
theorem hexV_le (c : UInt8) : hexV c ≤ 16 := by unfold hexV; split <;> (try split) <;> (try split) <;> omega
theorem hexV_D : ∀ n : Fin 16, hexV (hexD n.1) = n.1 := by decide +kernel
theorem hexV_s : ∀ n : Fin 16, hexV (hexs.getD n.1 0) = n.1 := by decide +kernel
theorem hexD_out : ∀ set : Fin 6, ∀ n : Fin 16, hasB set.1 (hexD n.1).toNat = false := by decide +kernel
theorem hexD_has (set n : Nat) (hn : n < 16) : hasB set (hexD n).toNat = false := by
  by_cases hs : set < 6
  · exact hexD_out ⟨set, hs⟩ ⟨n, hn⟩
  · exact hasB_none _ _ (.inr (by omega))
theorem has37 (set : Nat) : hasB set 37 = false := by
  cases h : hasB set 37
  · rfl
  · exact absurd rfl (hasB_out set 37 (by omega) h).1

/-- A byte as three signs, if the set has it. -/
def encB (set : Nat) (c : UInt8) : List UInt8 := if hasB set c.toNat then [37, hexD (c.toNat / 16), hexD (c.toNat % 16)] else [c]
def encL (set : Nat) (l : List UInt8) : List UInt8 := l.flatMap (encB set)
theorem encB_yes {set : Nat} {c : UInt8} (h : hasB set c.toNat = true) : encB set c = [37, hexD (c.toNat / 16), hexD (c.toNat % 16)] := by rw [encB, if_pos h]
theorem encB_no {set : Nat} {c : UInt8} (h : hasB set c.toNat = false) : encB set c = [c] := by rw [encB, h]; rfl
theorem encL_append (set : Nat) (a b : List UInt8) : encL set (a ++ b) = encL set a ++ encL set b := by simp [encL]
theorem encL_snoc (set : Nat) (l : List UInt8) (c : UInt8) : encL set (l ++ [c]) = encL set l ++ encB set c := by simp [encL]
theorem encL_cons (set : Nat) (c : UInt8) (l : List UInt8) : encL set (c :: l) = encB set c ++ encL set l := by simp [encL]
theorem encB_len (set : Nat) (c : UInt8) : (encB set c).length ≤ 3 := by unfold encB; split <;> simp
theorem encL_len (set : Nat) (l : List UInt8) : (encL set l).length ≤ 3 * l.length := by
  induction l with
  | nil => simp [encL]
  | cons c l ih => rw [encL_cons, List.length_append, List.length_cons]; have := encB_len set c; omega
/-- How many bytes of a text a set has. -/
def cntH (set : Nat) (l : List UInt8) : Nat := (l.filter fun c => hasB set c.toNat).length
theorem cntH_le (set : Nat) (l : List UInt8) : cntH set l ≤ l.length := List.length_filter_le _ _
theorem cntH_snoc_yes {set : Nat} {l : List UInt8} {c : UInt8} (h : hasB set c.toNat = true) : cntH set (l ++ [c]) = cntH set l + 1 := by simp [cntH, h]
theorem cntH_snoc_no {set : Nat} {l : List UInt8} {c : UInt8} (h : hasB set c.toNat = false) : cntH set (l ++ [c]) = cntH set l := by simp [cntH, h]
theorem encL_count (set : Nat) (l : List UInt8) : (encL set l).length = l.length + 2 * cntH set l := by
  induction l with
  | nil => simp [encL, cntH]
  | cons c l ih =>
    rw [encL_cons, List.length_append, ih, List.length_cons]
    cases h : hasB set c.toNat
    · rw [encB_no h, show cntH set (c :: l) = cntH set l by simp [cntH, h]]; simp; omega
    · rw [encB_yes h, show cntH set (c :: l) = cntH set l + 1 by simp [cntH, h]]; simp; omega
theorem encB_clean (set : Nat) (c : UInt8) : ∀ x ∈ encB set c, hasB set x.toNat = false := by
  intro x hx
  have hc := c.toNat_lt
  cases h : hasB set c.toNat
  · rw [encB_no h] at hx
    obtain rfl := List.mem_singleton.1 hx
    exact h
  · rw [encB_yes h] at hx
    rcases List.mem_cons.1 hx with rfl | hx
    · exact has37 set
    · rcases List.mem_cons.1 hx with rfl | hx
      · exact hexD_has set _ (by omega)
      · obtain rfl := List.mem_singleton.1 hx
        exact hexD_has set _ (by omega)
theorem encL_clean (set : Nat) (l : List UInt8) : ∀ x ∈ encL set l, hasB set x.toNat = false := by
  intro x hx
  obtain ⟨c, _, h⟩ := List.mem_flatMap.1 hx
  exact encB_clean set c x h
theorem encL_same (set : Nat) (l : List UInt8) (h : ∀ x ∈ l, hasB set x.toNat = false) : encL set l = l := by
  induction l with
  | nil => rfl
  | cons c l ih =>
    rw [encL_cons, encB_no (h c List.mem_cons_self), ih fun x hx => h x (List.mem_cons_of_mem _ hx)]; rfl
theorem encL_again (set : Nat) (l : List UInt8) : encL set (encL set l) = encL set l := encL_same _ _ (encL_clean set l)

/-- Does a text begin with three signs? -/
def sig3 : List UInt8 → Bool
  | c :: a :: b :: _ => c == 37 && decide (hexV a < 16) && decide (hexV b < 16)
  | _ => false
/-- The byte that a text tells first. -/
def fstV : List UInt8 → UInt8
  | c :: a :: b :: r => if sig3 (c :: a :: b :: r) then UInt8.ofNat (16 * hexV a + hexV b) else c
  | c :: _ => c
  | [] => 0
def fstW (l : List UInt8) : Nat := if sig3 l then 3 else 1
theorem fstW_pos (l : List UInt8) : 1 ≤ fstW l := by unfold fstW; split <;> omega
theorem sig3_len {l : List UInt8} (h : sig3 l = true) : 3 ≤ l.length := by
  match l, h with
  | _ :: _ :: _ :: r, _ => simp
theorem fstW_le (l : List UInt8) (h : l ≠ []) : fstW l ≤ l.length := by
  unfold fstW
  split
  · exact sig3_len ‹_›
  · exact List.length_pos_iff.2 h
theorem fstV_no {c : UInt8} {r : List UInt8} (h : sig3 (c :: r) = false) : fstV (c :: r) = c := by
  match r, h with
  | [], _ => rfl
  | [_], _ => rfl
  | a :: b :: r, h => simp [fstV, h]
/-- Three signs as bytes. -/
def pc_decL : List UInt8 → List UInt8
  | [] => []
  | c :: r => fstV (c :: r) :: pc_decL ((c :: r).drop (fstW (c :: r)))
termination_by l => l.length
decreasing_by
  have := fstW_pos (c :: r)
  simp [List.length_drop]; omega
theorem pc_decL_nil : pc_decL [] = [] := by rw [pc_decL]
theorem pc_decL_step (l : List UInt8) (h : l ≠ []) : pc_decL l = fstV l :: pc_decL (l.drop (fstW l)) := by
  match l, h with
  | c :: r, _ => rw [pc_decL]
theorem pc_decL_no {c : UInt8} {r : List UInt8} (h : sig3 (c :: r) = false) : pc_decL (c :: r) = c :: pc_decL r := by
  rw [pc_decL_step _ (by simp), fstV_no h, fstW, h]; rfl
theorem sig3_ne {c : UInt8} {r : List UInt8} (h : c ≠ 37) : sig3 (c :: r) = false := by
  match r with
  | [] => rfl
  | [_] => rfl
  | a :: b :: r => simp [sig3, h]
theorem pc_decL_yes {a b : UInt8} {r : List UInt8} (ha : hexV a < 16) (hb : hexV b < 16) : pc_decL (37 :: a :: b :: r) = UInt8.ofNat (16 * hexV a + hexV b) :: pc_decL r := by
  have h : sig3 (37 :: a :: b :: r) = true := by simp [sig3, ha, hb]
  rw [pc_decL_step _ (by simp), fstW, h]
  simp [fstV, h]
theorem pc_decL_len (l : List UInt8) : (pc_decL l).length ≤ l.length := by
  generalize hn : l.length = n
  induction n using Nat.strongRecOn generalizing l with
  | _ n ih =>
    by_cases h : l = []
    · subst h; rw [pc_decL_nil]; simp
    · rw [pc_decL_step l h, List.length_cons]
      have h1 := fstW_pos l
      have h2 := fstW_le l h
      have := ih (l.drop (fstW l)).length (by rw [List.length_drop]; omega) _ rfl
      rw [List.length_drop] at this
      omega
theorem byte_back (c : UInt8) : UInt8.ofNat (16 * (c.toNat / 16) + c.toNat % 16) = c := by
  rw [Nat.div_add_mod]; simp
theorem dec_three (c : UInt8) (r : List UInt8) : pc_decL (37 :: hexD (c.toNat / 16) :: hexD (c.toNat % 16) :: r) = c :: pc_decL r := by
  have hc := c.toNat_lt
  have h1 := hexV_D ⟨c.toNat / 16, by omega⟩
  have h2 := hexV_D ⟨c.toNat % 16, by omega⟩
  simp only at h1 h2
  rw [pc_decL_yes (by omega) (by omega), h1, h2, byte_back]
theorem pc_dec_enc (set : Nat) (l : List UInt8) (h : ∀ x ∈ l, x ≠ 37) : pc_decL (encL set l) = l := by
  induction l with
  | nil => exact pc_decL_nil
  | cons c l ih =>
    have ih' := ih fun x hx => h x (List.mem_cons_of_mem _ hx)
    rw [encL_cons]
    cases hh : hasB set c.toNat
    · rw [encB_no hh, List.singleton_append, pc_decL_no (sig3_ne (h c List.mem_cons_self)), ih']
    · rw [encB_yes hh]
      show pc_decL (37 :: hexD (c.toNat / 16) :: hexD (c.toNat % 16) :: encL set l) = _
      rw [dec_three, ih']

/-- Does a text end within three signs? -/
def opn (l : List UInt8) : Bool := (l.getLast? == some 37) || (decide (2 ≤ l.length) && (l[l.length - 2]? == some 37))
theorem opn_drop (l : List UInt8) (k : Nat) (h : opn l = false) : opn (l.drop k) = false := by
  unfold opn at h ⊢
  simp only [Bool.or_eq_false_iff, Bool.and_eq_false_iff, List.length_drop, List.getLast?_drop, List.getElem?_drop] at h ⊢
  refine ⟨?_, ?_⟩
  · split
    · rfl
    · exact h.1
  · rcases h.2 with h2 | h2
    · left; simp at h2 ⊢; omega
    · by_cases hk : 2 ≤ l.length - k
      · right
        have : k + (l.length - k - 2) = l.length - 2 := by omega
        rw [this]; exact h2
      · left; simp; omega
theorem dec_join (s t : List UInt8) (h : opn s = false) : pc_decL (s ++ t) = pc_decL s ++ pc_decL t := by
  generalize hn : s.length = n
  induction n using Nat.strongRecOn generalizing s with
  | _ n ih =>
    match s, h with
    | [], _ => rw [pc_decL_nil]; rfl
    | c :: r, h =>
      have hs : sig3 (c :: r ++ t) = sig3 (c :: r) ∧ fstV (c :: r ++ t) = fstV (c :: r) := by
        match r, h with
        | [], h =>
          have hc : c ≠ 37 := by simpa [opn] using h
          rw [show [c] ++ t = c :: t from rfl, fstV_no (sig3_ne hc), sig3_ne hc]
          exact ⟨rfl, rfl⟩
        | [d], h =>
          have hc : c ≠ 37 := by simp [opn] at h; exact h.2
          rw [show [c, d] ++ t = c :: (d :: t) from rfl, fstV_no (sig3_ne hc), sig3_ne hc, sig3_ne hc]
          exact ⟨rfl, by rw [fstV_no (sig3_ne hc)]⟩
        | a :: b :: r, _ => exact ⟨rfl, rfl⟩
      have hw : fstW (c :: r ++ t) = fstW (c :: r) := by unfold fstW; rw [hs.1]
      rw [pc_decL_step (c :: r ++ t) (by simp), pc_decL_step (c :: r) (by simp), hs.2, hw]
      have h1 := fstW_pos (c :: r)
      have h2 := fstW_le (c :: r) (by simp)
      rw [List.drop_append_of_le_length h2, ih _ (by rw [List.length_drop]; omega) _ (opn_drop _ _ h) rfl]
      rfl

end Go.Proofs.Ytjalbfgdhmkclaa
