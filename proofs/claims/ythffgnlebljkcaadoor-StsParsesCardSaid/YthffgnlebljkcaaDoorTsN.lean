/-
  Package sts, plain words: names twice, other directives, the other forms, a mark that is not closed.
-/
import Derived.Test.YthffgnlebljkcaaDoorTsL
namespace Go.Proofs.YthffgnlebljkcaaDoor
open Go.RowKit

theorem low_tok : ∀ k : Fin 256, tokB k.1 = true → tokB (low (UInt8.ofNat k.1)).toNat = true := by decide +kernel
theorem low_low : ∀ k : Fin 256, low (low (UInt8.ofNat k.1)) = low (UInt8.ofNat k.1) := by decide +kernel
theorem u8_back (c : UInt8) : UInt8.ofNat c.toNat = c := by simp
theorem tok_low {n : List UInt8} (h : tokS n = true) : tokS (n.map low) = true := by
  refine tokS_of (fun e => tokS_ne h (List.map_eq_nil_iff.1 e)) fun c hc => ?_
  obtain ⟨x, hx, rfl⟩ := List.mem_map.1 hc
  have := low_tok ⟨x.toNat, x.toNat_lt⟩ (tokS_all h x hx)
  simp only [u8_back] at this
  exact this
theorem map_low (n : List UInt8) : (n.map low).map low = n.map low := by
  rw [List.map_map]
  refine List.map_congr_left fun c _ => ?_
  have := low_low ⟨c.toNat, c.toNat_lt⟩
  simp only [u8_back] at this
  exact this
theorem says_tok {n : List UInt8} (h : tokS n = true) : SaysX n (n.map low, false, []) := by
  have := says_name (p := []) (n := n) (q := []) (fun _ h => (by cases h)) (fun _ h => (by cases h)) h
  simpa using this
theorem says_one {n : List UInt8} (h : tokS n = true) : SaysX (n ++ [61, 49]) (n.map low, true, [49]) := by
  have := says_eq (p := []) (n := n) (q := []) (fun _ h => (by cases h)) (fun _ h => (by cases h)) h (val_tok (v := [49]) (by decide +kernel))
  simpa using this
theorem ent_twice (D n : List UInt8) (f : Bool) : twiceB n (entW D f) = (decide (nAge = n) || (f && decide (nSub = n))) := by
  cases f <;> simp [entW, twiceB]
section
variable {a : Int} {f : Bool} {n : List UInt8}
theorem run_txt1 (h0 : 0 ≤ a) (hn : tokS n = true) : runT (txtW a f ++ 59 :: n) [] = if twiceB (n.map low) (entW (Lib.itoa a) f) = true then none else some (entW (Lib.itoa a) f ++ [(n.map low, false, [])]) := by
  rw [run_txt (xs := [some (n.map low, false, [])]) h0 (fun T => run_one (x := some _) (says_tok hn) T) [], tell_append, tell_ent]
  rfl
theorem once_twice (h0 : 0 ≤ a) (h1 : a ≤ 2147483647) (hn : tokS n = true) (hl : n.length ≤ 1000) : badW (asB (txtW a f ++ 59 :: (n ++ 59 :: n.map low))) = true := by
  have ht := txt_len (f := f) h0 h1
  refine badW_of ?_ ?_
  · simp only [List.length_append, List.length_cons, List.length_map]; omega
  · have hn2 := says_tok (tok_low hn)
    rw [map_low] at hn2
    rw [run_txt (xs := [some (n.map low, false, []), some (n.map low, false, [])]) h0 (fun T => run_more (x := some _) (says_tok hn) T _ _ fun T => run_one (x := some _) hn2 T) [], tell_append, tell_ent]
    have : tellD [some (n.map low, false, []), some (n.map low, false, [])] (entW (Lib.itoa a) f) = none := by
      unfold tellD
      split
      · rfl
      · unfold tellD
        rw [if_pos (by rw [twice_app, twice_one]; simp)]
    rw [Option.bind_some, this]; rfl
theorem once_same (h0 : 0 ≤ a) (h1 : a ≤ 2147483647) (hn : tokS n = true) (hl : n.length ≤ 1000) (h : n.map low = nAge ∨ (n.map low = nSub ∧ f = true)) : badW (asB (txtW a f ++ 59 :: n)) = true := by
  have ht := txt_len (f := f) h0 h1
  refine badW_of ?_ ?_
  · simp only [List.length_append, List.length_cons]; omega
  · rw [run_txt1 h0 hn, ent_twice]
    rcases h with h | ⟨h, rfl⟩
    · rw [h]; simp
    · rw [h]; simp
theorem once_is (h0 : 0 ≤ a) (h1 : a ≤ 2147483647) (hn : tokS n = true) (hl : n.length ≤ 1000) (h2 : n.map low ≠ nAge) (h3 : ¬ (n.map low = nSub ∧ f = true)) : isW (asB (txtW a f ++ 59 :: n)) a (f || decide (n.map low = nSub)) = true := by
  have ht := txt_len (f := f) h0 h1
  have hr : runT (txtW a f ++ 59 :: n) [] = some (entW (Lib.itoa a) f ++ [(n.map low, false, [])]) := by
    rw [run_txt1 h0 hn, ent_twice, if_neg]
    intro h
    simp only [Bool.or_eq_true, decide_eq_true_eq, Bool.and_eq_true] at h
    rcases h with h | ⟨h4, h5⟩
    · exact h2 h.symm
    · exact h3 ⟨h5.symm, h4⟩
  refine isW_of (by simp only [List.length_append, List.length_cons]; omega) hr ?_
  have hag := (itoa_facts h0 h1).1
  have hs1 : sayT nAge (entW (Lib.itoa a) f ++ [(n.map low, false, [])]) = some (true, Lib.itoa a) := by cases f <;> exact say_here (nAge, true, Lib.itoa a) _
  by_cases hs : n.map low = nSub
  · have hf : f = false := by cases f with | false => rfl | true => exact absurd ⟨hs, rfl⟩ h3
    subst hf
    have h5 : sayT nSub (entW (Lib.itoa a) false ++ [(n.map low, false, [])]) = some (false, []) := by
      show sayT nSub ((nAge, true, Lib.itoa a) :: [(n.map low, false, [])]) = _
      rw [say_skip age_sub, hs, say_here (nSub, false, []) []]
    have := wish_of hs1 h5 rfl hag
    rw [this]; simp [hs]
  · have h5 : sayT nSub (entW (Lib.itoa a) f ++ [(n.map low, false, [])]) = if f then some (false, []) else none := by
      cases f with
      | false =>
        show sayT nSub ((nAge, true, Lib.itoa a) :: [(n.map low, false, [])]) = _
        rw [say_skip age_sub, say_skip hs]; rfl
      | true =>
        show sayT nSub ((nAge, true, Lib.itoa a) :: (nSub, false, []) :: [(n.map low, false, [])]) = _
        rw [say_skip age_sub, say_here (nSub, false, [])]; rfl
    have := wish_of hs1 h5 (by cases f <;> rfl) hag
    rw [this]
    cases f <;> simp [hs]
theorem once_alone (hn : tokS n = true) (hl : n.length ≤ 1000) (h2 : n.map low ≠ nAge) : badW (asB n) = true := by
  refine badW_of (by omega) ?_
  rw [run_one (x := some _) (says_tok hn) []]
  show wishT [(n.map low, false, [])] = none
  unfold wishT
  rw [say_skip (n := nAge) h2]
  by_cases hs : n.map low = nSub
  · rw [hs, say_here (nSub, false, []) []]; rfl
  · rw [say_skip (n := nSub) hs]; rfl
theorem once_eq (hn : tokS n = true) (hl : n.length ≤ 1000) : badW (asB (n ++ [61, 49] ++ 59 :: (n.map low ++ [61, 49]))) = true := by
  refine badW_of (by simp only [List.length_append, List.length_cons, List.length_map, List.length_nil]; omega) ?_
  have hn2 := says_one (tok_low hn)
  rw [map_low] at hn2
  rw [run_more (x := some _) (says_one hn) [] _ _ fun T => run_one (x := some _) hn2 T]
  have : tellD [some (n.map low, true, [49]), some (n.map low, true, [49])] [] = none := by
    unfold tellD
    rw [if_neg (by rw [twice_nil]; decide)]
    unfold tellD
    rw [if_pos (by rw [twice_app, twice_one]; simp)]
  rw [this]; rfl
end
theorem x_age : ([120] : List UInt8) ≠ nAge := by decide
theorem x_sub : ([120] : List UInt8) ≠ nSub := by decide
/-- Other directives make no difference. -/
theorem esc_len (l : List UInt8) : (escQ l).length ≤ 2 * l.length := by
  induction l with
  | nil => exact Nat.le_refl _
  | cons c l ih =>
    have e : escQ (c :: l) = (if c = 34 ∨ c = 92 then [92, c] else [c]) ++ escQ l := rfl
    rw [e, List.length_append, List.length_cons]
    split <;> simp <;> omega
def xPre : List UInt8 := [120, 61, 34]
def yzL : List UInt8 := [59, 32, 121, 59, 32, 122, 61, 116]
theorem others_is {a : Int} {f : Bool} {v : List UInt8} (h0 : 0 ≤ a) (h1 : a ≤ 2147483647) (hv : ∀ c ∈ v, okQ c = true) (hl : v.length ≤ 30000) :
    isW (asB (xPre ++ escQ v ++ [34, 59] ++ txtW a f ++ yzL)) a f = true := by
  have ht := txt_len (f := f) h0 h1
  have he := esc_len v
  have hX : SaysX (xPre ++ escQ v ++ [34]) ([120], true, v) := by
    have := says_eq (p := []) (n := [120]) (q := []) (fun _ h => (by cases h)) (fun _ h => (by cases h)) (by decide +kernel) (val_quo (p := []) (fun _ h => (by cases h)) hv)
    have e2 : [] ++ [120] ++ [] ++ 61 :: ([] ++ 34 :: (escQ v ++ [34])) = xPre ++ escQ v ++ [34] := by simp [xPre]
    rw [e2] at this
    exact this
  have hY : SaysX [32, 121] ([121], false, []) := says_name (p := [32]) (n := [121]) (q := []) (by decide) (fun _ h => (by cases h)) (by decide +kernel)
  have hZ : SaysX [32, 122, 61, 116] ([122], true, [116]) := says_eq (p := [32]) (n := [122]) (q := []) (by decide) (fun _ h => (by cases h)) (by decide +kernel) (val_tok (v := [116]) (by decide +kernel))
  have e : xPre ++ escQ v ++ [34, 59] ++ txtW a f ++ yzL = (xPre ++ escQ v ++ [34]) ++ 59 :: (txtW a f ++ 59 :: ([32, 121] ++ 59 :: [32, 122, 61, 116])) := by simp [yzL]
  have hr : runT (xPre ++ escQ v ++ [34, 59] ++ txtW a f ++ yzL) [] = some (([120], true, v) :: (entW (Lib.itoa a) f ++ [([121], false, []), ([122], true, [116])])) := by
    rw [e, run_more (x := some _) hX [] _ _ fun T => run_txt (xs := [some ([121], false, []), some ([122], true, [116])]) h0 (fun T => run_more (x := some _) hY T _ _ fun T => run_one (x := some _) hZ T) T]
    have := tell_all (([120], true, v) :: (entW (Lib.itoa a) f ++ [([121], false, []), ([122], true, [116])])) [] (fun _ _ => rfl) (by
      cases f <;> simp [entW, nAge, nSub])
    simpa using this
  refine isW_of (by simp only [List.length_append, List.length_cons, List.length_nil, xPre, yzL]; omega) hr ?_
  have hag := (itoa_facts h0 h1).1
  have hs1 : sayT nAge (([120], true, v) :: (entW (Lib.itoa a) f ++ [([121], false, []), ([122], true, [116])])) = some (true, Lib.itoa a) := by
    rw [say_skip x_age]
    cases f <;> exact say_here (nAge, true, Lib.itoa a) _
  have hs2 : sayT nSub (([120], true, v) :: (entW (Lib.itoa a) f ++ [([121], false, []), ([122], true, [116])])) = if f then some (false, []) else none := by
    rw [say_skip x_sub]
    cases f with
    | false =>
      show sayT nSub ((nAge, true, Lib.itoa a) :: [([121], false, []), ([122], true, [116])]) = _
      rw [say_skip age_sub, say_skip (by decide), say_skip (by decide)]; rfl
    | true =>
      show sayT nSub ((nAge, true, Lib.itoa a) :: (nSub, false, []) :: [([121], false, []), ([122], true, [116])]) = _
      rw [say_skip age_sub, say_here (nSub, false, [])]; rfl
  have := wish_of hs1 hs2 (by cases f <;> rfl) hag
  rw [this]
  cases f <;> rfl
/-- A mark that is not closed. -/
theorem quoD_cnt : ∀ (l a t r : List UInt8), quoD l a = some (t, r) → ∃ d, l = d ++ r ∧ 1 ≤ d.count 34
  | [], a, t, r, h => by simp [quoD] at h
  | [c], a, t, r, h => by
    unfold quoD at h
    split at h
    · rename_i hc
      split at h
      · simp only [Option.some.injEq, Prod.mk.injEq] at h
        refine ⟨c :: upT en1 [], ?_, by rw [hc]; simp⟩
        rw [← h.2, List.cons_append, upT_frT]
      · cases h
    · split at h
      · simp at h
      · split at h
        · simp [quoD] at h
        · cases h
  | c :: d :: l, a, t, r, h => by
    unfold quoD at h
    split at h
    · rename_i hc
      split at h
      · simp only [Option.some.injEq, Prod.mk.injEq] at h
        refine ⟨c :: upT en1 (d :: l), ?_, by rw [hc]; simp⟩
        rw [← h.2, List.cons_append, upT_frT]
      · cases h
    · split at h
      · simp only at h
        split at h
        · obtain ⟨e, h1, h2⟩ := quoD_cnt _ _ _ _ h
          refine ⟨c :: d :: e, by rw [h1]; rfl, ?_⟩
          rw [List.count_cons, List.count_cons]; omega
        · cases h
      · split at h
        · obtain ⟨e, h1, h2⟩ := quoD_cnt _ _ _ _ h
          refine ⟨c :: e, by rw [h1]; rfl, ?_⟩
          rw [List.count_cons]; omega
        · cases h
theorem trim_cnt (l : List UInt8) : (trimL l).count 34 = l.count 34 := by
  have h1 : ∀ l : List UInt8, (cutL l).count 34 = l.count 34 := by
    intro l
    induction l with
    | nil => rfl
    | cons c l ih =>
      unfold cutL at ih ⊢
      rw [List.dropWhile_cons]
      by_cases h : bl c = true
      · rw [if_pos h, ih, List.count_cons]
        have : c ≠ 34 := by rcases (bl_iff c).1 h with rfl | rfl <;> decide
        simp [this]
      · rw [if_neg h]
  have h2 : ∀ l : List UInt8, (cutR l).count 34 = l.count 34 := by
    intro l
    unfold cutR
    rw [List.count_reverse]
    have := h1 l.reverse
    unfold cutL at this
    rw [this, List.count_reverse]
  rw [trimL_eq, h1, h2]
theorem tok_cnt {l : List UInt8} (h : tokS (trimL l) = true) : l.count 34 = 0 := by
  rw [← trim_cnt, List.count_eq_zero]
  intro hm
  exact (tok_byte (tokS_all h 34 hm)).2.2.1 rfl
theorem valD_cnt {l t r : List UInt8} (h : valD l = some (t, r)) : ∃ d, l = d ++ r ∧ d.count 34 ≠ 1 := by
  unfold valD at h
  obtain ⟨p, hp, hpc⟩ : ∃ p, l = p ++ cutL l ∧ p.count 34 = 0 := by
    refine ⟨l.takeWhile bl, List.takeWhile_append_dropWhile.symm, ?_⟩
    have : ∀ m : List UInt8, (m.takeWhile bl).count 34 = 0 := by
      intro m
      induction m with
      | nil => rfl
      | cons c m ih =>
        rw [List.takeWhile_cons]
        split
        · rename_i hc
          have : c ≠ 34 := by rcases (bl_iff c).1 hc with rfl | rfl <;> decide
          rw [List.count_cons, ih]; simp [this]
        · rfl
    exact this l
  split at h
  · rename_i h34
    obtain ⟨d, h1, h2⟩ := quoD_cnt _ _ _ _ h
    refine ⟨p ++ 34 :: d, ?_, ?_⟩
    · have : cutL l = 34 :: (cutL l).drop 1 := by
        cases hc : cutL l with
        | nil => rw [hc] at h34; cases h34
        | cons c x => rw [hc] at h34; injection h34 with h34; rw [h34]; rfl
      rw [List.append_assoc, List.cons_append, ← h1, ← this]
      exact hp
    · rw [List.count_append, List.count_cons, hpc]; simp; omega
  · split at h
    · rename_i ht
      simp only [Option.some.injEq, Prod.mk.injEq] at h
      refine ⟨p ++ upT en1 (cutL l), ?_, ?_⟩
      · rw [List.append_assoc, ← h.2, upT_frT]; exact hp
      · rw [List.count_append, hpc, tok_cnt ht]; decide
    · cases h
theorem dirD_cnt {l r : List UInt8} {T T' : List TsE} (h : dirD l T = some (r, T')) : ∃ d, l = d ++ r ∧ d.count 34 ≠ 1 := by
  have h0 := upT_frT en2 l
  unfold dirD at h
  split at h
  · rename_i h61
    split at h
    · cases h
    · rename_i hn
      have htk : tokS (trimL (upT en2 l)) = true := by
        cases hx : tokS (trimL (upT en2 l)) with
        | true => rfl
        | false => exact absurd (.inl hx) hn
      split at h
      · cases h
      · rename_i hv
        simp only [Option.some.injEq, Prod.mk.injEq] at h
        obtain ⟨d, h1, h2⟩ := valD_cnt hv
        refine ⟨upT en2 l ++ 61 :: d, ?_, ?_⟩
        · have : frT en2 l = 61 :: (frT en2 l).drop 1 := by
            cases hc : frT en2 l with
            | nil => rw [hc] at h61; cases h61
            | cons c x => rw [hc] at h61; injection h61 with h61; rw [h61]; rfl
          rw [List.append_assoc, List.cons_append, ← h.1, ← h1, ← this, h0]
        · rw [List.count_append, tok_cnt htk, List.count_cons]; simp; exact h2
  · split at h
    · rename_i hn
      simp only [Option.some.injEq, Prod.mk.injEq] at h
      refine ⟨upT en2 l, by rw [← h.1, h0], ?_⟩
      rw [← trim_cnt, hn]; decide
    · split at h
      · cases h
      · rename_i hn
        have htk : tokS (trimL (upT en2 l)) = true := by
          cases hx : tokS (trimL (upT en2 l)) with
          | true => rfl
          | false => exact absurd (.inl hx) hn
        simp only [Option.some.injEq, Prod.mk.injEq] at h
        refine ⟨upT en2 l, by rw [← h.1, h0], ?_⟩
        rw [tok_cnt htk]; decide
theorem fr1_end (l : List UInt8) : frT en1 l = [] ∨ (frT en1 l).head? = some 59 := by
  induction l with
  | nil => exact .inl rfl
  | cons c l ih =>
    unfold frT at ih ⊢
    rw [List.dropWhile_cons]
    by_cases hc : c = 59
    · rw [hc]; exact .inr rfl
    · rw [if_pos (by simp [en1, hc])]; exact ih
theorem fr2_end (l : List UInt8) (h : (frT en2 l).head? ≠ some 61) : frT en2 l = [] ∨ (frT en2 l).head? = some 59 := by
  induction l with
  | nil => exact .inl rfl
  | cons c l ih =>
    unfold frT at ih h ⊢
    rw [List.dropWhile_cons] at h ⊢
    by_cases h1 : c = 59
    · rw [h1]; exact .inr rfl
    · by_cases h2 : c = 61
      · rw [h2] at h; exact absurd rfl h
      · rw [if_pos (by simp [en2, h1, h2])] at h ⊢; exact ih h
theorem quo_end : ∀ (l a t r : List UInt8), quoD l a = some (t, r) → r = [] ∨ r.head? = some 59
  | [], a, t, r, h => by simp [quoD] at h
  | [c], a, t, r, h => by
    unfold quoD at h
    split at h
    · split at h
      · simp only [Option.some.injEq, Prod.mk.injEq] at h
        rw [← h.2]; exact fr1_end _
      · cases h
    · split at h
      · simp at h
      · split at h
        · simp [quoD] at h
        · cases h
  | c :: d :: l, a, t, r, h => by
    unfold quoD at h
    split at h
    · split at h
      · simp only [Option.some.injEq, Prod.mk.injEq] at h
        rw [← h.2]; exact fr1_end _
      · cases h
    · split at h
      · simp only at h
        split at h
        · exact quo_end _ _ _ _ h
        · cases h
      · split at h
        · exact quo_end _ _ _ _ h
        · cases h
theorem dir_end {l r : List UInt8} {T T' : List TsE} (h : dirD l T = some (r, T')) : r = [] ∨ r.head? = some 59 := by
  unfold dirD at h
  split at h
  · split at h
    · cases h
    · split at h
      · cases h
      · rename_i hv
        simp only [Option.some.injEq, Prod.mk.injEq] at h
        rw [← h.1]
        unfold valD at hv
        split at hv
        · exact quo_end _ _ _ _ hv
        · split at hv
          · simp only [Option.some.injEq, Prod.mk.injEq] at hv
            rw [← hv.2]; exact fr1_end _
          · cases hv
  · rename_i h61
    split at h
    · simp only [Option.some.injEq, Prod.mk.injEq] at h
      rw [← h.1]; exact fr2_end l h61
    · split at h
      · cases h
      · simp only [Option.some.injEq, Prod.mk.injEq] at h
        rw [← h.1]; exact fr2_end l h61
theorem run_cnt : ∀ (k : Nat) (l : List UInt8) (T T' : List TsE), l.length < k → runT l T = some T' → l.count 34 ≠ 1
  | 0, _, _, _, h, _ => absurd h (Nat.not_lt_zero _)
  | k + 1, l, T, T', hk, h => by
    rw [runT_eq] at h
    cases hd : dirD l T with
    | none => rw [hd] at h; cases h
    | some x =>
      obtain ⟨r, T1⟩ := x
      rw [hd] at h
      obtain ⟨d, h1, h2⟩ := dirD_cnt hd
      have hl := dirD_le hd
      rcases dir_end hd with rfl | h59
      · rw [h1, List.append_nil]; exact h2
      · simp only [if_pos h59] at h
        have hs := head_drop h59
        have ih := run_cnt k (r.drop 1) T1 T' (by omega) h
        have hr : r = 59 :: r.drop 1 := by
          cases r with
          | nil => cases h59
          | cons c x => injection h59 with h59; rw [h59]; rfl
        rw [h1, hr, List.count_append, List.count_cons]
        have e0 : (if (59 : UInt8) == 34 then 1 else 0) = 0 := rfl
        rw [e0]
        omega
/-- A text with one mark is refused. -/
theorem open_bad {l : List UInt8} (h : l.count 34 = 1) (hl : l.length ≤ 65536) : badW (asB l) = true := by
  refine badW_of hl ?_
  cases hr : runT l [] with
  | none => rfl
  | some T => exact absurd h (run_cnt (l.length + 1) l [] T (by omega) hr)

end Go.Proofs.YthffgnlebljkcaaDoor
