/-
  Package heads, plain words: cuts at known places; a head that was put is read again.
-/
import Derived.Test.YtbfnbjffobhllaaDoorHdM
import Derived.Lib.IndexLaws
import Derived.Lib.IndexBytes
namespace Go.Proofs.YtbfnbjffobhllaaDoor
open Go.RowKit

theorem ix_hit (s l : List UInt8) (h : s.isPrefixOf l = true) : Lib.index l s = 0 := by
  cases l with
  | nil => cases s with
    | nil => rfl
    | cons a s => cases h
  | cons b l => unfold Lib.index; rw [if_pos h]
theorem ix_cons (s : List UInt8) (c : UInt8) (l : List UInt8) (h : s.isPrefixOf (c :: l) = false) : Lib.index (c :: l) s = if Lib.index l s = -1 then -1 else Lib.index l s + 1 := by
  rw [Lib.index, h]
  by_cases e : Lib.index l s = -1
  · simp [e]
  · simp [e]
/-- Bytes that a text may not begin with are passed over. -/
theorem ix_skip (a : UInt8) (s : List UInt8) : ∀ (x r : List UInt8), a ∉ x → Lib.index (x ++ r) (a :: s) = if Lib.index r (a :: s) = -1 then -1 else Lib.index r (a :: s) + (x.length : Int)
  | [], r, _ => by by_cases e : Lib.index r (a :: s) = -1 <;> simp [e]
  | c :: x, r, h => by
    have hc : a ≠ c := fun e => h (e ▸ List.mem_cons_self ..)
    have hx : a ∉ x := fun e => h (List.mem_cons_of_mem _ e)
    rw [List.cons_append, ix_cons _ _ _ (by show ((a == c) && _) = false; rw [beq_eq_false_iff_ne.2 hc]; rfl), ix_skip a s x r hx]
    have hge := Lib.index_ge r (a :: s)
    by_cases e : Lib.index r (a :: s) = -1
    · simp [e]
    · rw [if_neg e, if_neg (by omega), if_neg e, List.length_cons]
      omega
theorem ix_none (a : UInt8) (s : List UInt8) (x : List UInt8) (h : a ∉ x) : Lib.index x (a :: s) = -1 := by
  have := ix_skip a s x [] h
  rw [List.append_nil] at this
  rw [this]; rfl
theorem cut_hit (a : UInt8) (s x r : List UInt8) (h : a ∉ x) : Lib.cut (x ++ (a :: s ++ r)) (a :: s) = (x, r, true) := by
  have h1 : Lib.index (a :: s ++ r) (a :: s) = 0 := ix_hit _ _ (by simp)
  have h2 : Lib.index (x ++ (a :: s ++ r)) (a :: s) = (x.length : Int) := by rw [ix_skip _ _ _ _ h, h1]; simp
  unfold Lib.cut
  rw [h2, if_pos (by omega)]
  refine Prod.ext ?_ (Prod.ext ?_ rfl)
  · show List.take _ _ = x
    rw [Int.toNat_natCast, List.take_left']; rfl
  · show List.drop _ _ = r
    rw [Int.toNat_natCast, List.drop_append, List.drop_of_length_le (by omega), List.nil_append, show x.length + (a :: s).length - x.length = (a :: s).length by omega]
    exact List.drop_left' rfl
theorem cut_none (a : UInt8) (s x : List UInt8) (h : a ∉ x) : Lib.cut x (a :: s) = (x, [], false) := by
  unfold Lib.cut
  rw [ix_none _ _ _ h, if_neg (by omega)]
theorem cut_one (a : UInt8) (x r : List UInt8) (h : a ∉ x) : Lib.cut (x ++ a :: r) [a] = (x, r, true) := cut_hit a [] x r h
/-- No line's end stands within a text. -/
def noCL : List UInt8 → Bool
  | [] => true
  | c :: l => !((c == 13) && (l.head? == some 10)) && noCL l
theorem noCL_13 : ∀ {l : List UInt8}, (13 : UInt8) ∉ l → noCL l = true
  | [], _ => rfl
  | c :: l, h => by
    have hc : c ≠ 13 := fun e => h (e ▸ List.mem_cons_self ..)
    unfold noCL
    rw [beq_eq_false_iff_ne.2 hc, noCL_13 fun hm => h (List.mem_cons_of_mem _ hm)]; rfl
theorem noCL_10 : ∀ {l : List UInt8}, (10 : UInt8) ∉ l → noCL l = true
  | [], _ => rfl
  | c :: l, h => by
    have h2 : (10 : UInt8) ∉ l := fun hm => h (List.mem_cons_of_mem _ hm)
    have hc : (l.head? == some 10) = false := by
      cases l with
      | nil => rfl
      | cons d l =>
        have : d ≠ 10 := fun e => h2 (e ▸ List.mem_cons_self ..)
        simp [this]
    unfold noCL
    rw [hc, Bool.and_false, noCL_10 h2]; rfl
theorem ix_skipC (s : List UInt8) : ∀ (x r : List UInt8), noCL x = true → r.head? ≠ some 10 → Lib.index (x ++ r) (13 :: 10 :: s) = if Lib.index r (13 :: 10 :: s) = -1 then -1 else Lib.index r (13 :: 10 :: s) + (x.length : Int)
  | [], r, _, _ => by by_cases e : Lib.index r (13 :: 10 :: s) = -1 <;> simp [e]
  | c :: x, r, h, hr => by
    unfold noCL at h
    rw [Bool.and_eq_true, Bool.not_eq_true'] at h
    have hp : (13 :: 10 :: s).isPrefixOf (c :: (x ++ r)) = false := by
      show ((13 == c) && (10 :: s).isPrefixOf (x ++ r)) = false
      by_cases hc : c = 13
      · subst hc
        have h1 : (x.head? == some 10) = false := by simpa using h.1
        have h2 : (x ++ r).head? ≠ some 10 := by
          cases x with
          | nil => exact hr
          | cons d x => exact beq_eq_false_iff_ne.1 h1
        cases hx : x ++ r with
        | nil => rfl
        | cons d y =>
          rw [hx] at h2
          have : (10 : UInt8) ≠ d := fun e => h2 (e ▸ rfl)
          show (_ && ((10 == d) && _)) = false
          rw [beq_eq_false_iff_ne.2 this]; simp
      · rw [beq_eq_false_iff_ne.2 (Ne.symm hc)]; rfl
    rw [List.cons_append, ix_cons _ _ _ hp, ix_skipC s x r h.2 hr]
    have hge := Lib.index_ge r (13 :: 10 :: s)
    by_cases e : Lib.index r (13 :: 10 :: s) = -1
    · simp [e]
    · rw [if_neg e, if_neg (by omega), if_neg e, List.length_cons]
      omega
theorem cut_crlf (x r : List UInt8) (h : noCL x = true) : Lib.cut (x ++ crlf ++ r) crlf = (x, r, true) := by
  have h1 : Lib.index (13 :: 10 :: r) (13 :: 10 :: []) = 0 := ix_hit _ _ (by simp)
  have h2 : Lib.index (x ++ crlf ++ r) crlf = (x.length : Int) := by
    have := ix_skipC [] x (13 :: 10 :: r) h (by simp)
    rw [h1] at this
    rw [List.append_assoc]
    show Lib.index (x ++ (13 :: 10 :: r)) [13, 10] = _
    rw [this]; simp
  unfold Lib.cut
  rw [h2, if_pos (by omega)]
  have e : x ++ crlf ++ r = x ++ (crlf ++ r) := List.append_assoc ..
  refine Prod.ext ?_ (Prod.ext ?_ rfl)
  · show List.take _ _ = x
    rw [Int.toNat_natCast, e, List.take_left']; rfl
  · show List.drop _ _ = r
    rw [Int.toNat_natCast]
    have := List.drop_left' (l₁ := x ++ crlf) (l₂ := r) (i := x.length + crlf.length) (by rw [List.length_append])
    exact this
/-- Lines in which no line's end stands are the lines of what they make. -/
theorem join_ne {l : List UInt8} {L : List (List UInt8)} : joinP (l :: L) ≠ [] := by
  rw [joinP_cons]
  intro h
  have := congrArg List.length h
  simp [crlf] at this
theorem linT_join : ∀ L : List (List UInt8), (∀ l ∈ L, noCL l = true) → linT (joinP L) = L
  | [], _ => rfl
  | l :: L, h => by
    rw [linT_eq join_ne, joinP_cons, cut_crlf _ _ (h l (List.mem_cons_self ..))]
    show l :: linT (joinP L) = _
    rw [linT_join L fun x hx => h x (List.mem_cons_of_mem _ hx)]
/-- The first empty line. -/
theorem ix_end : ∀ (L : List (List UInt8)) (r : List UInt8), L ≠ [] → (∀ l ∈ L, noCL l = true ∧ l ≠ []) → Lib.index (joinP L ++ (crlf ++ r)) crlf2 + 2 = ((joinP L).length : Int)
  | [], _, h, _ => absurd rfl h
  | [l], r, _, h => by
    have e : joinP [l] ++ (crlf ++ r) = l ++ (13 :: [10, 13, 10] ++ r) := by simp [joinP, crlf]
    rw [e]
    have h1 : Lib.index (13 :: [10, 13, 10] ++ r) (13 :: [10, 13, 10]) = 0 := ix_hit _ _ (by simp)
    show Lib.index _ (13 :: [10, 13, 10]) + 2 = _
    rw [ix_skipC _ _ _ (h l (List.mem_singleton.2 rfl)).1 (by simp), h1]
    simp [joinP, crlf]
  | l :: k :: L, r, _, h => by
    have ih := ix_end (k :: L) r (by simp) fun x hx => h x (List.mem_cons_of_mem _ hx)
    obtain ⟨hk, hk0⟩ := h k (List.mem_cons_of_mem _ (List.mem_cons_self ..))
    have e : joinP (l :: k :: L) ++ (crlf ++ r) = l ++ (13 :: 10 :: (joinP (k :: L) ++ (crlf ++ r))) := by rw [joinP_cons]; simp [crlf]
    cases k with
    | nil => exact absurd rfl hk0
    | cons c k =>
      obtain ⟨T, hT⟩ : ∃ T, joinP ((c :: k) :: L) ++ (crlf ++ r) = c :: T := ⟨_, by rw [joinP_cons]; rfl⟩
      have hT2 : c = 13 → T.head? ≠ some 10 := by
        intro hc
        unfold noCL at hk
        rw [hc, Bool.and_eq_true, Bool.not_eq_true'] at hk
        have h1 : (k.head? == some 10) = false := by simpa using hk.1
        have e2 : T = k ++ (13 :: 10 :: (joinP L ++ (crlf ++ r))) := by
          have : c :: T = c :: (k ++ (13 :: 10 :: (joinP L ++ (crlf ++ r)))) := by rw [← hT, joinP_cons]; simp [crlf]
          exact (List.cons.inj this).2
        rw [e2]
        cases k with
        | nil => simp
        | cons d k => exact beq_eq_false_iff_ne.1 h1
      have h3 : 0 < (joinP ((c :: k) :: L)).length := List.length_pos_iff.2 join_ne
      have h4 : 2 < (joinP ((c :: k) :: L)).length := by rw [joinP_cons]; simp [crlf]; omega
      rw [e]
      rw [hT] at ih ⊢
      show Lib.index _ (13 :: [10, 13, 10]) + 2 = _
      rw [ix_skipC _ _ _ (h l (List.mem_cons_self ..)).1 (by simp)]
      have p1 : (crlf2.isPrefixOf (13 :: 10 :: c :: T)) = false := by
        show ((13 == (13 : UInt8)) && ((10 == (10 : UInt8)) && (((13 : UInt8) == c) && (10 :: []).isPrefixOf T))) = false
        by_cases hc : c = 13
        · have := hT2 hc
          cases T with
          | nil => simp
          | cons d T =>
            have hd : (10 : UInt8) ≠ d := fun e => this (e ▸ rfl)
            show (_ && (_ && (_ && ((10 == d) && _)))) = false
            rw [beq_eq_false_iff_ne.2 hd]; simp
        · rw [beq_eq_false_iff_ne.2 (Ne.symm hc)]; rfl
      have p2 : (crlf2.isPrefixOf (10 :: c :: T)) = false := rfl
      have q2 := ix_cons crlf2 10 (c :: T) p2
      rw [if_neg (by omega)] at q2
      have q1 := ix_cons crlf2 13 (10 :: c :: T) p1
      rw [if_neg (by omega)] at q1
      have q0 : Lib.index (13 :: 10 :: c :: T) (13 :: [10, 13, 10]) = Lib.index (c :: T) crlf2 + 1 + 1 := by rw [← q2]; exact q1
      rw [q0, if_neg (by omega), joinP_cons]
      simp only [List.length_append, crlf, List.length_cons, List.length_nil] at *
      omega
/-- Without the byte 10 no head ends. -/
theorem idx_no {b : List UInt8} (h : (10 : UInt8) ∉ b) : idx2 b = -1 := by
  unfold idx2
  have h2 : (10 : UInt8) ∉ b.take 65536 := fun hm => h (List.mem_of_mem_take hm)
  have := ix_skipC [13, 10] (b.take 65536) [] (noCL_10 h2) (by simp)
  rw [List.append_nil] at this
  show Lib.index _ (13 :: 10 :: [13, 10]) = _
  rw [this]; rfl

section
variable {L : List (List UInt8)} {r : List UInt8}
/-- A head of lines. -/
structure HdL (L : List (List UInt8)) : Prop where
  ne : L ≠ []
  cl : ∀ l ∈ L, noCL l = true ∧ l ≠ []
  le : (joinP L).length + 2 ≤ 65536
theorem HdL.big (h : HdL L) : 2 < (joinP L).length := by
  obtain ⟨l, K, rfl⟩ := List.exists_cons_of_ne_nil h.ne
  have := List.length_pos_iff.2 (h.cl l (List.mem_cons_self ..)).2
  rw [joinP_cons]; simp [crlf]; omega
theorem HdL.idx (h : HdL L) (r : List UInt8) : idx2 (joinP L ++ (crlf ++ r)) + 2 = ((joinP L).length : Int) := by
  unfold idx2
  have e : (joinP L ++ (crlf ++ r)).take 65536 = joinP L ++ (crlf ++ r.take (65536 - ((joinP L).length + 2))) := by
    have := h.le
    rw [List.take_append, List.take_of_length_le (by omega), List.take_append, List.take_of_length_le (by simp [crlf]; omega)]
    congr 3
  rw [e]
  exact ix_end L _ h.ne h.cl
theorem HdL.body (h : HdL L) (r : List UInt8) : bodyT (joinP L ++ (crlf ++ r)) = joinP L := by
  have := h.idx r
  have := h.big
  unfold bodyT
  rw [show (idx2 (joinP L ++ (crlf ++ r))).toNat + 2 = (joinP L).length by omega]
  exact List.take_left' rfl
theorem HdL.head (h : HdL L) (r : List UInt8) : headT (joinP L ++ (crlf ++ r)) = joinP L ++ crlf := by
  have := h.idx r
  have := h.big
  unfold headT
  rw [show (idx2 (joinP L ++ (crlf ++ r))).toNat + 4 = (joinP L ++ crlf).length by rw [List.length_append, show crlf.length = 2 from rfl]; omega, ← List.append_assoc]
  exact List.take_left' rfl
theorem HdL.lin (h : HdL L) (r : List UInt8) : linT (bodyT (joinP L ++ (crlf ++ r))) = L := by
  rw [h.body]; exact linT_join L fun l hl => (h.cl l hl).1
theorem HdL.err (h : HdL L) (r : List UInt8) : aheadE (joinP L ++ (crlf ++ r)) = 0 := by
  have := h.idx r
  have := h.big
  unfold aheadE
  rw [if_pos (by omega)]
theorem HdL.read (h : HdL L) (r : List UInt8) (rd : List UInt8 → Option Fst12) : readD rd (joinP L ++ (crlf ++ r)) = match msgD rd L with
    | none => (msg0, 0, 8)
    | some m => if 256 < m.2.length then (msg0, 0, 3) else (m, ((joinP L).length : Int) + 2, 0) := by
  unfold readD
  rw [if_neg (by rw [h.err]; simp), h.lin, h.head]
  have : (((joinP L ++ crlf).length : Nat) : Int) = ((joinP L).length : Int) + 2 := by rw [List.length_append]; simp [crlf]
  rw [this]
  cases msgD rd L <;> rfl
/-- What is found in a beginning is found in all of it. -/
theorem ix_take (s l : List UInt8) (k : Nat) (i : Nat) (h : Lib.index (l.take k) s = i) : Lib.index l s = i ∧ i + s.length ≤ k := by
  have hr := Lib.index_room (l.take k) s (by omega)
  rw [h] at hr
  have hk : (l.take k).length ≤ k := List.length_take_le ..
  rcases Lib.index_spec (l.take k) s with ⟨h1, _⟩ | ⟨j, h1, h2, h3, h4⟩
  · omega
  · obtain rfl : j = i := by omega
    have hle : (l.take k).length ≤ l.length := List.length_take_le' ..
    refine ⟨Lib.index_first (by omega) ?_ ?_, by omega⟩
    · have e := Lib.occAt_iff_take (l.take k) s j (by omega)
      rw [Lib.occAt_iff_take l s j (by omega)]
      rw [e] at h3
      rw [← h3, List.drop_take, List.take_take, Nat.min_eq_left (by omega)]
    · intro q hq
      have e := h4 q hq
      cases hb : Lib.occAt l s q with
      | false => rfl
      | true =>
        rw [Lib.occAt_iff_take l s q (by omega)] at hb
        rw [Lib.occAt_iff_take _ s q (by omega), List.drop_take, List.take_take, Nat.min_eq_left (by omega), hb] at e
        cases e
theorem HdL.short (h : HdL L) (k : Nat) (hk : k < (joinP L).length + 2) : aheadE ((joinP L ++ crlf).take k) = 7 := by
  have hl := h.le
  have hb := h.big
  have hlen : ((joinP L ++ crlf).take k).length = k := by rw [List.length_take, List.length_append]; simp only [crlf, List.length_cons, List.length_nil]; omega
  have hx : idx2 ((joinP L ++ crlf).take k) = -1 := by
    unfold idx2
    rw [List.take_of_length_le (by omega)]
    have hge := Lib.index_ge ((joinP L ++ crlf).take k) crlf2
    refine Decidable.byContradiction fun hn => ?_
    obtain ⟨i, hi⟩ : ∃ i : Nat, Lib.index ((joinP L ++ crlf).take k) crlf2 = i := ⟨(Lib.index ((joinP L ++ crlf).take k) crlf2).toNat, by omega⟩
    obtain ⟨h1, h2⟩ := ix_take crlf2 _ k i hi
    have h3 := ix_end L [] h.ne h.cl
    rw [List.append_nil] at h3
    have : crlf2.length = 4 := rfl
    omega
  unfold aheadE
  rw [hx, hlen, if_neg (by decide), if_neg (by omega)]
end
/-- Bytes that go on: a head that is whole stays. -/
theorem more_idx {b more : List UInt8} (hb : b.length ≤ 60000) (h : 0 ≤ idx2 b) : idx2 (b ++ more) = idx2 b ∧ idx2 b + 4 ≤ b.length := by
  obtain ⟨i, hi⟩ : ∃ i : Nat, idx2 b = i := ⟨(idx2 b).toNat, by omega⟩
  have e1 : b.take 65536 = b := List.take_of_length_le (by omega)
  have e2 : ((b ++ more).take 65536).take b.length = b := by
    rw [List.take_take, Nat.min_eq_left (by omega)]
    exact List.take_left' rfl
  have hi' := hi
  unfold idx2 at hi'
  rw [e1] at hi'
  obtain ⟨h1, h2⟩ := ix_take crlf2 ((b ++ more).take 65536) b.length i (by rw [e2]; exact hi')
  have : crlf2.length = 4 := rfl
  refine ⟨?_, by omega⟩
  rw [hi]; exact h1
theorem more_read {b more : List UInt8} (rd : List UInt8 → Option Fst12) (hb : b.length ≤ 60000) (h : (readD rd b).2.2 ≠ 7) : readD rd (b ++ more) = readD rd b ∧ (readD rd b).2.1 ≤ (b.length : Int) := by
  by_cases h0 : 0 ≤ idx2 b
  · obtain ⟨h1, h2⟩ := more_idx (more := more) hb h0
    have e1 : aheadE (b ++ more) = 0 := by unfold aheadE; rw [h1, if_pos h0]
    have e2 : aheadE b = 0 := by unfold aheadE; rw [if_pos h0]
    have e3 : bodyT (b ++ more) = bodyT b := by unfold bodyT; rw [h1]; exact List.take_append_of_le_length (by omega)
    have e4 : headT (b ++ more) = headT b := by unfold headT; rw [h1]; exact List.take_append_of_le_length (by omega)
    unfold readD
    rw [e1, e2, e3, e4]
    refine ⟨rfl, ?_⟩
    rw [if_neg (by simp)]
    split
    · show (0 : Int) ≤ _; omega
    · split
      · show (0 : Int) ≤ _; omega
      · show ((headT b).length : Int) ≤ _
        unfold headT
        have := List.length_take_le ((idx2 b).toNat + 4) b
        omega
  · exfalso
    apply h
    have : aheadE b = 7 := by unfold aheadE; rw [if_neg h0, if_neg (by omega)]
    unfold readD
    rw [this, if_pos (by decide)]
theorem read_err (rd : List UInt8 → Option Fst12) (b : List UInt8) : (readD rd b).2.2 = 0 ∨ ((readD rd b).1 = msg0 ∧ (readD rd b).2.1 = 0 ∧ ((readD rd b).2.2 = 3 ∨ (readD rd b).2.2 = 7 ∨ (readD rd b).2.2 = 8)) := by
  unfold readD
  split
  · rename_i h
    unfold aheadE at h ⊢
    split
    · rename_i h2; rw [if_pos h2] at h; exact absurd rfl h
    · right; refine ⟨rfl, rfl, ?_⟩
      split
      · exact .inl rfl
      · exact .inr (.inl rfl)
  · split
    · right; exact ⟨rfl, rfl, .inr (.inr rfl)⟩
    · split
      · right; exact ⟨rfl, rfl, .inl rfl⟩
      · left; rfl

end Go.Proofs.YtbfnbjffobhllaaDoor
