/-
  Package sts, plain words: all parts of a text, and what they wish.
-/
import Derived.Test.YthffgnlebljkcaaDoorTdM
namespace Go.Proofs.YthffgnlebljkcaaDoor
open Go.RowKit

def prts : Nat → List UInt8 → List (List UInt8)
  | 0, _ => []
  | n + 1, l => (pfst l false).1 :: (match (pfst l false).2 with
    | none => []
    | some l' => prts n l')
def prt (l : List UInt8) : List (List UInt8) := prts (l.length + 1) l
theorem pfst_less {l l' : List UInt8} {b : Bool} (h : (pfst l b).2 = some l') : l'.length < l.length := by
  have := congrArg List.length (pfst_split l b)
  rw [h, List.length_append] at this
  simp only [sepO, List.length_cons] at this
  omega
theorem prts_more : ∀ (n m : Nat) (l : List UInt8), l.length < n → l.length < m → prts n l = prts m l
  | 0, _, _, h, _ => absurd h (Nat.not_lt_zero _)
  | _ + 1, 0, _, _, h => absurd h (Nat.not_lt_zero _)
  | n + 1, m + 1, l, h1, h2 => by
    unfold prts
    cases hp : (pfst l false).2 with
    | none => rfl
    | some l' =>
      have := pfst_less hp
      simp only
      rw [prts_more n m l' (by omega) (by omega)]
theorem prt_eq (l : List UInt8) : prt l = (pfst l false).1 :: (match (pfst l false).2 with
    | none => []
    | some l' => prt l') := by
  unfold prt
  conv => { lhs; unfold prts }
  cases hp : (pfst l false).2 with
  | none => rfl
  | some l' =>
    have := pfst_less hp
    simp only
    rw [prts_more l.length (l'.length + 1) l' (by omega) (by omega)]
/-- What the parts say; with each one's own conditions. -/
def chk (x : TsE) : Bool := (if x.1 = nAge then (ageD x.2.2).isSome else true) && (if x.1 = nSub then !x.2.1 else true)
def tellQ : List (List UInt8) → List TsE → Option (List TsE)
  | [], T => some T
  | p :: ps, T => if trimL p = [] then tellQ ps T else match refD (trimL p) with
    | none => none
    | some x => if twiceB x.1 T = true then none else tellQ ps (T ++ [x])
def tellC : List (List UInt8) → List TsE → Option (List TsE)
  | [], T => some T
  | p :: ps, T => if trimL p = [] then tellC ps T else match refD (trimL p) with
    | none => none
    | some x => if twiceB x.1 T = true ∨ chk x = false then none else tellC ps (T ++ [x])
def finT (T : List TsE) : Option (Int × Bool) := match sayT nAge T with
  | none => none
  | some v => (ageD v.2).map fun a => (a, (sayT nSub T).isSome)
theorem run_parts : ∀ (k : Nat) (l : List UInt8), l.length < k → ∀ T, runT l T = tellQ (prt l) T
  | 0, _, h, _ => absurd h (Nat.not_lt_zero _)
  | k + 1, l, hk, T => by
    have hrest : ∀ T', (if (sepO (pfst l false).2).head? = some 59 then runT ((sepO (pfst l false).2).drop 1) T' else some T') = tellQ (match (pfst l false).2 with | none => [] | some l' => prt l') T' := by
      intro T'
      cases hp : (pfst l false).2 with
      | none => rfl
      | some l' =>
        have := pfst_less hp
        exact run_parts k l' (by omega) T'
    rw [runT_eq, prt_eq, dirD_ref]
    unfold tellQ
    by_cases h0 : trimL (pfst l false).1 = []
    · rw [if_pos h0, if_pos h0]
      exact hrest T
    · rw [if_neg h0, if_neg h0]
      cases refD (trimL (pfst l false).1) with
      | none => rfl
      | some x =>
        simp only
        by_cases ht : twiceB x.1 T = true
        · rw [if_pos ht, if_pos ht]
        · rw [if_neg ht, if_neg ht]
          exact hrest _
theorem tellQ_keep : ∀ (ps : List (List UInt8)) (T T' : List TsE) (n : List UInt8) (v : Bool × List UInt8), tellQ ps T = some T' → sayT n T = some v → sayT n T' = some v
  | [], T, T', n, v, h, hs => by
    have : T = T' := by simpa [tellQ] using h
    rw [← this]; exact hs
  | p :: ps, T, T', n, v, h, hs => by
    unfold tellQ at h
    split at h
    · exact tellQ_keep ps T T' n v h hs
    · split at h
      · cases h
      · split at h
        · cases h
        · exact tellQ_keep ps _ T' n v h (by rw [sayT_app, hs])
/-- What is known of all that is told. -/
structure GdC (T : List TsE) : Prop where
  u : UniqT T
  c : ∀ x ∈ T, chk x = true
theorem GdC.age {T : List TsE} (h : GdC T) {v : Bool × List UInt8} (hs : sayT nAge T = some v) : ∃ a, ageD v.2 = some a := by
  have := h.c _ (say_mem hs)
  unfold chk at this
  rw [Bool.and_eq_true] at this
  have h1 := this.1
  rw [if_pos rfl] at h1
  exact Option.isSome_iff_exists.1 h1
theorem GdC.sub {T : List TsE} (h : GdC T) {v : Bool × List UInt8} (hs : sayT nSub T = some v) : v.1 = false := by
  have := h.c _ (say_mem hs)
  unfold chk at this
  rw [Bool.and_eq_true] at this
  have h1 := this.2
  rw [if_pos rfl] at h1
  simpa using h1
theorem GdC.add {T : List TsE} (h : GdC T) {x : TsE} (h1 : twiceB x.1 T = false) (h2 : chk x = true) : GdC (T ++ [x]) :=
  ⟨h.u.add h1, fun y hy => by
    rcases List.mem_append.1 hy with hy | hy
    · exact h.c y hy
    · rw [List.mem_singleton.1 hy]; exact h2⟩
theorem wish_fin {T : List TsE} (h : GdC T) : wishT T = finT T := by
  unfold wishT finT
  have hs : ((sayT nSub T).getD (false, [])).1 = false := by
    cases hq : sayT nSub T with
    | none => rfl
    | some v => exact h.sub hq
  rw [hs]
  cases hq : sayT nAge T with
  | none => rfl
  | some v =>
    obtain ⟨a, ha⟩ := h.age hq
    simp [ha]
theorem wish_bad {T : List TsE} {x : TsE} (hs : sayT x.1 T = some x.2) (hc : chk x = false) : wishT T = none := by
  unfold chk at hc
  rw [Bool.and_eq_false_iff] at hc
  unfold wishT
  rcases hc with hc | hc
  · split at hc
    · rename_i hn
      rw [hn] at hs
      have : ageD x.2.2 = none := by simpa using hc
      rw [hs]
      simp [this]
    · cases hc
  · split at hc
    · rename_i hn
      rw [hn] at hs
      have : x.2.1 = true := by simpa using hc
      rw [hs]
      simp [this]
    · cases hc
theorem tell_fin : ∀ (ps : List (List UInt8)) (T : List TsE), GdC T → (tellQ ps T).bind wishT = (tellC ps T).bind finT
  | [], T, h => wish_fin h
  | p :: ps, T, h => by
    unfold tellQ tellC
    by_cases h0 : trimL p = []
    · rw [if_pos h0, if_pos h0]; exact tell_fin ps T h
    · rw [if_neg h0, if_neg h0]
      cases refD (trimL p) with
      | none => rfl
      | some x =>
        simp only
        cases ht : twiceB x.1 T with
        | true => simp
        | false =>
          cases hc : chk x with
          | true =>
            simp only [Bool.false_eq_true, if_false, or_self, Bool.true_eq_false]
            exact tell_fin ps _ (h.add ht hc)
          | false =>
            simp only [Bool.false_eq_true, if_false, or_true, if_true]
            cases hq : tellQ ps (T ++ [x]) with
            | none => rfl
            | some T' =>
              have hs : sayT x.1 (T ++ [x]) = some x.2 := by
                rw [sayT_app]
                have : sayT x.1 T = none := by
                  rw [twice_say] at ht
                  cases hs : sayT x.1 T with
                  | none => rfl
                  | some z => rw [hs] at ht; cases ht
                rw [this]; simp
              exact wish_bad (tellQ_keep ps _ T' _ _ hq hs) hc
/-- What a text wishes, part by part. -/
theorem prsT_doc (l : List UInt8) : prsT l = match (tellC (prt l) []).bind finT with
    | none => ((0, false), 4)
    | some x => (x, 0) := by
  unfold prsT
  rw [run_parts (l.length + 1) l (by omega) [], tell_fin _ _ ⟨fun _ h => (by cases h), fun _ h => (by cases h)⟩]
  cases (tellC (prt l) []).bind finT <;> rfl

end Go.Proofs.YthffgnlebljkcaaDoor
