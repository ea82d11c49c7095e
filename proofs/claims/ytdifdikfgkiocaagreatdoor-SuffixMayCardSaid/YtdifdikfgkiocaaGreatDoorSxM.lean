/-
  Plain words on rules: a part, a rule, the rules that fit, how many parts a suffix has, what is answered.
-/
import Derived.Test.YtdifdikfgkiocaaGreatDoorHsP
namespace Go.Proofs.YtdifdikfgkiocaaGreatDoor
open Go.RowKit

/-- A sign of a part. -/
def sgnB (c : UInt8) : Bool := decide (0 ≤ Lib.indexByte [97, 98, 99, 100, 101, 102, 103, 104, 105, 106, 107, 108, 109, 110, 111, 112, 113, 114, 115, 116, 117, 118, 119, 120, 121, 122, 48, 49, 50, 51, 52, 53, 54, 55, 56, 57, 45] c)
theorem sgnB_eq : ∀ c : UInt8, sgnB c = (decide (48 ≤ c.toNat ∧ c.toNat ≤ 57) || decide (c.toNat = 45) || decide (97 ≤ c.toNat ∧ c.toNat ≤ 122)) := by
  have h : ∀ n : Fin 256, sgnB (UInt8.ofNat n.1) = (decide (48 ≤ (UInt8.ofNat n.1).toNat ∧ (UInt8.ofNat n.1).toNat ≤ 57) || decide ((UInt8.ofNat n.1).toNat = 45) || decide (97 ≤ (UInt8.ofNat n.1).toNat ∧ (UInt8.ofNat n.1).toNat ≤ 122)) := by decide +kernel
  intro c
  have := h ⟨c.toNat, c.toNat_lt⟩
  simpa only [UInt8.ofNat_toNat] using this
def partB (p : ByteArray) : Bool := p.data.toList.all sgnB && (decide (0 < p.size) && decide (p.size ≤ 63))
def partsB (s : ByteArray) : Bool := decide (s.size ≤ 253) && (rawB 46 s).all partB
/-- Does a rule begin with an exclamation mark? -/
def exB (s : ByteArray) : Bool := Lib.hasPrefix s.data.toList [33]
def bareS (s : ByteArray) : ByteArray := ⟨(Lib.trimPrefix s.data.toList [33]).toArray⟩
def starS (s : ByteArray) : ByteArray := ⟨(Lib.trimPrefix s.data.toList [42, 46]).toArray⟩
def pointB (s : ByteArray) : Bool := decide (0 ≤ Lib.indexByte s.data.toList 46)
def ruleB (s : ByteArray) : Bool := if exB s then partsB (bareS s) && pointB (bareS s) else partsB (starS s)
def rulesB (R : List ByteArray) : Bool := decide (R.length ≤ 1024) && R.all ruleB
/-- A rule's parts. -/
def bareL (s : ByteArray) : List ByteArray := rawB 46 (bareS s)
/-- Do a host's last parts fit a rule's? -/
def fitsB (P H : List ByteArray) : Bool := decide (P.length ≤ H.length) && (List.range P.length).all fun j => decide (P[j]? = some ⟨#[42]⟩) || decide (P[j]? = H[H.length - P.length + j]?)
def fit1 (H : List ByteArray) (r : ByteArray) : List (Nat × Bool) := if fitsB (bareL r) H then [((bareL r).length, exB r)] else []
/-- The rules that fit: how many parts each has, and whether it excepts. -/
def fitL (R H : List ByteArray) : List (Nat × Bool) := R.flatMap (fit1 H)
def sufN : List (Nat × Bool) → Nat → Nat
  | [], m => m
  | (n, true) :: _, _ => n - 1
  | (n, false) :: r, m => sufN r (max m n)
/-- How many parts a suffix has. -/
def manyN (R H : List ByteArray) : Nat := sufN (fitL R H) 1
def nameB (h : ByteArray) : Bool := decide (hostO h = some h) && !machB h
def lastB (L : List ByteArray) (n : Nat) : ByteArray := dotJ (L.drop (L.length - n))
/-- What is answered: the suffix, and so many parts more. -/
def sufT (R : List ByteArray) (h : ByteArray) (more : Nat) : ByteArray × Int :=
  if rulesB R = false then (⟨#[]⟩, 1) else if nameB h = false then (⟨#[]⟩, 5) else
  if (rawB 46 h).length < manyN R (rawB 46 h) + more then (⟨#[]⟩, 0) else (lastB (rawB 46 h) (manyN R (rawB 46 h) + more), 0)

theorem bareS_size (s : ByteArray) : (bareS s).size ≤ s.size := by
  have h := lenB s
  show (Lib.trimPrefix s.data.toList [33]).toArray.size ≤ _
  rw [List.size_toArray, Lib.trimPrefix]
  split
  · rw [List.length_drop]; omega
  · omega
theorem starS_size (s : ByteArray) : (starS s).size ≤ s.size := by
  have h := lenB s
  show (Lib.trimPrefix s.data.toList [42, 46]).toArray.size ≤ _
  rw [List.size_toArray, Lib.trimPrefix]
  split
  · rw [List.length_drop]; omega
  · omega
theorem partB_no {p : ByteArray} {k : Nat} (h : k < p.size) (hc : sgnB p[k] = false) : partB p = false := by
  rw [partB]
  have : p.data.toList.all sgnB = false := by
    rw [← Bool.not_eq_true, List.all_eq_true]
    intro hall
    have h2 : p[k] ∈ p.data.toList := by
      have : k < p.data.toList.length := by rw [lenB]; exact h
      exact (show p.data.toList[k] = p[k] from rfl) ▸ List.getElem_mem this
    rw [hall _ h2] at hc; cases hc
  rw [this]; rfl
theorem partB_all {p : ByteArray} (h : ∀ k (hk : k < p.size), sgnB p[k] = true) : partB p = (decide (0 < p.size) && decide (p.size ≤ 63)) := by
  rw [partB]
  have : p.data.toList.all sgnB = true := by
    rw [List.all_eq_true]
    intro c hc
    obtain ⟨k, hk, rfl⟩ := List.getElem_of_mem hc
    exact h k (by rw [← lenB]; exact hk)
  rw [this]; rfl
theorem all_no {f : ByteArray → Bool} {L : List ByteArray} {k : Nat} (h : k < L.length) (hf : f L[k] = false) : L.all f = false := by
  rw [← Bool.not_eq_true, List.all_eq_true]
  intro hall
  rw [hall _ (List.getElem_mem h)] at hf; cases hf
theorem all_yes {f : ByteArray → Bool} {L : List ByteArray} (h : ∀ k (hk : k < L.length), f L[k] = true) : L.all f = true := by
  rw [List.all_eq_true]
  intro c hc
  obtain ⟨k, hk, rfl⟩ := List.getElem_of_mem hc
  exact h k hk

/- The rules that fit, one by one. -/
theorem fitL_take (R H : List ByteArray) (k : Nat) (h : k < R.length) : fitL (R.take (k + 1)) H = fitL (R.take k) H ++ fit1 H R[k] := by
  rw [List.take_succ_eq_append_getElem h, fitL, fitL, List.flatMap_append, List.flatMap_cons, List.flatMap_nil, List.append_nil]
theorem fitL_pre (R H : List ByteArray) (k : Nat) : fitL (R.take k) H <+: fitL R H := by
  refine ⟨fitL (R.drop k) H, ?_⟩
  rw [fitL, fitL, fitL, ← List.flatMap_append, List.take_append_drop]
theorem fit1_len (H : List ByteArray) (r : ByteArray) : (fit1 H r).length ≤ 1 := by
  rw [fit1]; split <;> simp
theorem fitL_len (H : List ByteArray) : ∀ R : List ByteArray, (fitL R H).length ≤ R.length
  | [] => Nat.le_refl _
  | r :: R => by
    have h1 := fit1_len H r
    have h2 := fitL_len H R
    rw [fitL] at h2 ⊢
    rw [List.flatMap_cons, List.length_append, List.length_cons]; omega
theorem fits_len {P H : List ByteArray} (h : fitsB P H = true) : P.length ≤ H.length := by
  rw [fitsB, Bool.and_eq_true] at h
  exact of_decide_eq_true h.1
theorem fitL_mem {R H : List ByteArray} {x : Nat × Bool} (h : x ∈ fitL R H) : ∃ r ∈ R, fitsB (bareL r) H = true ∧ x = ((bareL r).length, exB r) := by
  rw [fitL, List.mem_flatMap] at h
  obtain ⟨r, hr, hx⟩ := h
  rw [fit1] at hx
  split at hx
  · rename_i hf
    exact ⟨r, hr, hf, by simpa using hx⟩
  · cases hx
theorem sufN_app : ∀ (A B : List (Nat × Bool)) (m : Nat), (∀ x ∈ A, x.2 = false) → sufN (A ++ B) m = sufN B (sufN A m)
  | [], _, _, _ => rfl
  | (n, true) :: A, B, m, h => by have := h (n, true) List.mem_cons_self; cases this
  | (n, false) :: A, B, m, h => by
    rw [List.cons_append, sufN, sufN, sufN_app A B _ (fun x hx => h x (List.mem_cons_of_mem _ hx))]
theorem sufN_stop (A B : List (Nat × Bool)) (n m : Nat) (h : ∀ x ∈ A, x.2 = false) : sufN (A ++ (n, true) :: B) m = n - 1 := by
  rw [sufN_app A _ m h, sufN]
theorem sufN_one (A : List (Nat × Bool)) (n m : Nat) (h : ∀ x ∈ A, x.2 = false) : sufN (A ++ [(n, false)]) m = max (sufN A m) n := by
  rw [sufN_app A _ m h, sufN, sufN]
theorem sufN_le (N : Nat) : ∀ (A : List (Nat × Bool)) (m : Nat), (∀ x ∈ A, x.1 ≤ N) → m ≤ N → sufN A m ≤ N
  | [], _, _, h => h
  | (n, true) :: A, m, h, _ => by have := h (n, true) List.mem_cons_self; rw [sufN]; omega
  | (n, false) :: A, m, h, hm => by
    rw [sufN]
    exact sufN_le N A _ (fun x hx => h x (List.mem_cons_of_mem _ hx)) (by have := h (n, false) List.mem_cons_self; simp at this; omega)
theorem sufN_pos : ∀ (A : List (Nat × Bool)) (m : Nat), (∀ x ∈ A, x.2 = true → 2 ≤ x.1) → 1 ≤ m → 1 ≤ sufN A m
  | [], _, _, h => h
  | (n, true) :: A, m, h, _ => by have := h (n, true) List.mem_cons_self rfl; rw [sufN]; simp at this; omega
  | (n, false) :: A, m, h, hm => by
    rw [sufN]
    exact sufN_pos A _ (fun x hx => h x (List.mem_cons_of_mem _ hx)) (by omega)
theorem manyN_le (R H : List ByteArray) (h : H ≠ []) : manyN R H ≤ H.length := by
  refine sufN_le _ _ _ (fun x hx => ?_) (by have := List.length_pos_iff.2 h; omega)
  obtain ⟨r, _, hf, rfl⟩ := fitL_mem hx
  exact fits_len hf
theorem pts_two {a : UInt8} {l : List UInt8} (h : a ∈ l) : 2 ≤ (pts a l).length := by
  obtain ⟨x, y, rfl⟩ := List.append_of_mem h
  rw [pts_append, List.length_append]
  have h1 := List.length_pos_iff.2 (pts_ne a x)
  have h2 := List.length_pos_iff.2 (pts_ne a y)
  omega
theorem pts_one {a : UInt8} {l : List UInt8} (h : a ∉ l) : pts a l = [l] := pts_none a l (fun _ hc e => h (e ▸ hc))
theorem ix_mem (a : UInt8) : ∀ l : List UInt8, 0 ≤ Lib.indexByte l a ↔ a ∈ l
  | [] => by simp [Lib.indexByte]
  | c :: l => by
    have ih := ix_mem a l
    rw [List.mem_cons, Lib.indexByte]
    by_cases h : c = a
    · subst h; simp
    · have h1 : (c == a) = false := beq_eq_false_iff_ne.2 h
      rw [h1]
      by_cases h2 : Lib.indexByte l a = -1
      · rw [h2] at ih ⊢
        simp only [Bool.false_eq_true, if_false]
        constructor
        · intro h3; simp at h3
        · rintro (h3 | h3)
          · exact absurd h3.symm h
          · have := ih.2 h3; omega
      · have h4 : (Lib.indexByte l a == -1) = false := beq_eq_false_iff_ne.2 h2
        simp only [h4, Bool.false_eq_true, if_false]
        constructor
        · intro h3
          exact .inr (ih.1 (by have := Lib.indexByte_ge l a; omega))
        · rintro (h3 | h3)
          · exact absurd h3.symm h
          · have := ih.2 h3; omega
theorem raw_two (s : ByteArray) : 2 ≤ (rawB 46 s).length ↔ pointB s = true := by
  rw [rawB_eq, List.length_map, pointB, decide_eq_true_eq, ix_mem]
  constructor
  · intro h
    by_cases hm : 46 ∈ s.data.toList
    · exact hm
    · rw [pts_one hm] at h; simp at h
  · exact pts_two
theorem manyN_pos {R : List ByteArray} (H : List ByteArray) (h : rulesB R = true) : 1 ≤ manyN R H := by
  refine sufN_pos _ _ (fun x hx hb => ?_) (Nat.le_refl _)
  obtain ⟨r, hr, hf, rfl⟩ := fitL_mem hx
  rw [rulesB, Bool.and_eq_true, List.all_eq_true] at h
  have h2 := h.2 r hr
  have hb' : exB r = true := hb
  rw [ruleB, hb', if_pos rfl, Bool.and_eq_true] at h2
  exact (raw_two _).2 h2.2
theorem rule_size {s : ByteArray} (h : ruleB s = true) : s.size ≤ 255 := by
  have hl := lenB s
  have key : ∀ (t : ByteArray) (p : List UInt8), p.length ≤ 2 → t = ⟨(Lib.trimPrefix s.data.toList p).toArray⟩ → partsB t = true → s.size ≤ 255 := fun t p hp ht hb => by
    rw [partsB, Bool.and_eq_true, decide_eq_true_eq] at hb
    have h1 := hb.1
    have h2 : t.size = (Lib.trimPrefix s.data.toList p).length := by rw [ht]; exact List.size_toArray ..
    rw [h2, Lib.trimPrefix] at h1
    split at h1
    · rw [List.length_drop] at h1; omega
    · omega
  rw [ruleB] at h
  split at h
  · rw [Bool.and_eq_true] at h
    exact key _ [33] (by simp) rfl h.1
  · exact key _ [42, 46] (by simp) rfl h
theorem fits_long {P H : List ByteArray} (h : H.length < P.length) : fitsB P H = false := by
  rw [fitsB, decide_eq_false (by omega), Bool.false_and]
theorem fits_no {P H : List ByteArray} {j : Nat} {p x : ByteArray} (hj : j < P.length) (hp : P[j]? = some p) (hx : H[H.length - P.length + j]? = some x) (h1 : p ≠ ⟨#[42]⟩) (h2 : p ≠ x) : fitsB P H = false := by
  rw [fitsB]
  have : ((List.range P.length).all fun j => decide (P[j]? = some ⟨#[42]⟩) || decide (P[j]? = H[H.length - P.length + j]?)) = false := by
    rw [← Bool.not_eq_true, List.all_eq_true]
    intro hall
    have := hall j (List.mem_range.2 hj)
    rw [hp, hx, Bool.or_eq_true, decide_eq_true_eq, decide_eq_true_eq] at this
    rcases this with h | h
    · exact h1 (Option.some.inj h)
    · exact h2 (Option.some.inj h)
  rw [this, Bool.and_false]
theorem fits_yes {P H : List ByteArray} (hl : P.length ≤ H.length) (h : ∀ j, j < P.length → P[j]? = some ⟨#[42]⟩ ∨ P[j]? = H[H.length - P.length + j]?) : fitsB P H = true := by
  rw [fitsB, decide_eq_true hl, Bool.true_and, List.all_eq_true]
  intro j hj
  rw [Bool.or_eq_true, decide_eq_true_eq, decide_eq_true_eq]
  exact h j (List.mem_range.1 hj)

end Go.Proofs.YtdifdikfgkiocaaGreatDoor
