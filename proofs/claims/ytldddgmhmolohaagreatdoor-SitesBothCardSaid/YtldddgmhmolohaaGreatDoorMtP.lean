/-
  Plain words on paths of sites: when a path matches another one, and its usual one.
  Contracts: sites.Path, sites.Usual; Domain; the document's.
-/
import Derived.Test.YtldddgmhmolohaaGreatDoorMpA
import Derived.Test.YtldddgmhmolohaaGreatDoorMhK
import Derived.Test.YtldddgmhmolohaaGreatDoorShelfA
import Derived.Test.YtldddgmhmolohaaGreatDoorShelfS
namespace Go.Proofs.YtldddgmhmolohaaGreatDoor

/-- Whether a path matches another one. -/
def pmchL (p c : List UInt8) : Bool :=
  decide (p = c) || (decide (c <+: p) && (decide (c.length < p.length) && (decide (c.getLast? = some 47) || decide (p[c.length]? = some 47))))
/-- The last slash among the first ones, nought if there is none. -/
def lastK (p : List UInt8) : Nat → Nat
  | 0 => 0
  | k + 1 => if p[k]? = some 47 then k else lastK p k
/-- The usual one of a path. -/
def usualL (p : List UInt8) : List UInt8 :=
  if p.head? = some 47 ∧ lastK p p.length ≠ 0 then p.take (lastK p p.length) else [47]

theorem lastK_lt (p : List UInt8) : ∀ k, lastK p k ≠ 0 → lastK p k < k ∧ p[lastK p k]? = some 47
  | 0, h => absurd rfl h
  | k + 1, h => by
    rw [lastK] at h ⊢
    by_cases e : p[k]? = some 47
    · rw [if_pos e]; exact ⟨Nat.lt_succ_self _, e⟩
    · rw [if_neg e] at h ⊢
      have := lastK_lt p k h
      exact ⟨Nat.lt_succ_of_lt this.1, this.2⟩
theorem lastK_none (p : List UInt8) (k : Nat) (h : ∀ j, j < k → p[j]? ≠ some 47) : lastK p k = 0 := by
  induction k with
  | zero => rfl
  | succ k ih => rw [lastK, if_neg (h k (Nat.lt_succ_self _))]; exact ih (fun j hj => h j (Nat.lt_succ_of_lt hj))
/-- The last slash, told by what stands behind it. -/
theorem lastK_at (p : List UInt8) (i : Nat) (hi : p[i]? = some 47) : ∀ k, i < k → (∀ j, i < j → j < k → p[j]? ≠ some 47) → lastK p k = i
  | 0, h, _ => absurd h (Nat.not_lt_zero _)
  | k + 1, h, hn => by
    rw [lastK]
    by_cases e : i = k
    · subst e; rw [if_pos hi]
    · rw [if_neg (hn k (by omega) (Nat.lt_succ_self _))]
      exact lastK_at p i hi k (by omega) (fun j h1 h2 => hn j h1 (Nat.lt_succ_of_lt h2))

theorem pmchL_iff (p c : List UInt8) : pmchL p c = true ↔ p = c ∨ (c <+: p ∧ c.length < p.length ∧ (c.getLast? = some 47 ∨ p[c.length]? = some 47)) := by
  simp [pmchL]
theorem pmchL_self (p : List UInt8) : pmchL p p = true := (pmchL_iff p p).2 (.inl rfl)
theorem pmchL_slash {p : List UInt8} (h : p.head? = some 47) : pmchL p [47] = true := by
  cases p with
  | nil => cases h
  | cons a t =>
    obtain rfl : a = 47 := by simpa using h
    cases t with
    | nil => exact pmchL_self _
    | cons b t => exact (pmchL_iff _ _).2 (.inr ⟨⟨b :: t, rfl⟩, by simp, .inl rfl⟩)
theorem usualL_head (p : List UInt8) : (usualL p).head? = some 47 := by
  unfold usualL
  split
  · next h =>
    cases p with
    | nil => cases h.1
    | cons a t =>
      have : a = 47 := by simpa using h.1
      subst this
      cases e : lastK (47 :: t) (47 :: t : List UInt8).length with
      | zero => exact absurd e h.2
      | succ k => rfl
  · rfl
theorem usualL_le (p : List UInt8) : (usualL p).length ≤ max p.length 1 := by
  unfold usualL
  split
  · rw [List.length_take]; omega
  · simp; omega
theorem pmchL_usual {p : List UInt8} (h : p.head? = some 47) : pmchL p (usualL p) = true := by
  unfold usualL
  split
  · next hl =>
    obtain ⟨h1, h2⟩ := lastK_lt p p.length hl.2
    refine (pmchL_iff _ _).2 (.inr ⟨List.take_prefix _ _, ?_, .inr ?_⟩)
    · rw [List.length_take]; omega
    · rw [List.length_take, Nat.min_eq_left (by omega)]; exact h2
  · exact pmchL_slash h
theorem pmchL_trans {a b c : List UInt8} (h1 : pmchL a b = true) (h2 : pmchL b c = true) : pmchL a c = true := by
  rcases (pmchL_iff _ _).1 h1 with rfl | ⟨p1, l1, _⟩
  · exact h2
  rcases (pmchL_iff _ _).1 h2 with rfl | ⟨p2, l2, e2⟩
  · exact h1
  refine (pmchL_iff _ _).2 (.inr ⟨p2.trans p1, by omega, e2.imp id fun h => ?_⟩)
  obtain ⟨t, rfl⟩ := p1
  rw [List.getElem?_append_left l2]; exact h
theorem pmchL_behind (p m : List UInt8) : pmchL (p ++ m) p = (decide (m = []) || (decide (p.getLast? = some 47) || decide (m.head? = some 47))) := by
  rw [Bool.eq_iff_iff, pmchL_iff]
  simp only [Bool.or_eq_true, decide_eq_true_eq, List.append_right_eq_self, List.length_append, List.getElem?_append_right (Nat.le_refl _), Nat.sub_self, List.head?_eq_getElem?]
  constructor
  · rintro (h | ⟨_, _, h⟩)
    · exact .inl h
    · exact .inr h
  · rintro (h | h)
    · exact .inl h
    · by_cases hm : m = []
      · exact .inl hm
      · have := List.length_pos_iff.2 hm
        exact .inr ⟨List.prefix_append _ _, by omega, h⟩
theorem pmchL_cut (p m : List UInt8) : pmchL (p ++ 47 :: m) p = true := by
  rw [pmchL_behind]; simp
theorem pmchL_cut2 (p m : List UInt8) : pmchL (p ++ 47 :: m) (p ++ [47]) = true := by
  have : p ++ 47 :: m = (p ++ [47]) ++ m := by simp
  rw [this, pmchL_behind]; simp
theorem pmchL_short {p : List UInt8} (h : 0 < p.length) : pmchL (p.take (p.length - 1)) p = false := by
  rw [Bool.eq_false_iff]
  intro e
  have hl : (p.take (p.length - 1)).length = p.length - 1 := by rw [List.length_take]; omega
  rcases (pmchL_iff _ _).1 e with h1 | ⟨_, h1, _⟩
  · rw [h1] at hl; omega
  · omega

/-- Whether two addresses belong to one site: `ok` the rules may be, `f` tells a host's own name (none: the empty text), `x` and `y` may be, by schemes and hosts. -/
def sameP (ok : Bool) (f : ByteArray → ByteArray) (x y : Bool) (sx hx sy hy : ByteArray) : Bool :=
  ok && (x && (y && (decide (sx = sy) && (decide (hx = hy) || (decide (f hx ≠ ⟨#[]⟩) && decide (f hx = f hy))))))
theorem sameP_iff (ok : Bool) (f : ByteArray → ByteArray) (x y : Bool) (sx hx sy hy : ByteArray) : sameP ok f x y sx hx sy hy = true ↔ ok = true ∧ x = true ∧ y = true ∧ sx = sy ∧ (hx = hy ∨ f hx ≠ ⟨#[]⟩ ∧ f hx = f hy) := by
  simp [sameP]
theorem sameP_self (ok : Bool) (f : ByteArray → ByteArray) (x : Bool) (sx hx : ByteArray) : sameP ok f x x sx hx sx hx = (ok && x) := by
  cases ok <;> cases x <;> simp [sameP]
theorem sameP_comm (ok : Bool) (f : ByteArray → ByteArray) (x y : Bool) (sx hx sy hy : ByteArray) : sameP ok f x y sx hx sy hy = sameP ok f y x sy hy sx hx := by
  rw [Bool.eq_iff_iff, sameP_iff, sameP_iff]
  constructor
  · rintro ⟨h1, h2, h3, h4, h5⟩
    exact ⟨h1, h3, h2, h4.symm, h5.imp Eq.symm (fun ⟨p, q⟩ => ⟨fun e => p (q.trans e), q.symm⟩)⟩
  · rintro ⟨h1, h2, h3, h4, h5⟩
    exact ⟨h1, h3, h2, h4.symm, h5.imp Eq.symm (fun ⟨p, q⟩ => ⟨fun e => p (q.trans e), q.symm⟩)⟩
theorem sameP_trans {ok : Bool} {f : ByteArray → ByteArray} {x y z : Bool} {sx hx sy hy sz hz : ByteArray} (h1 : sameP ok f x y sx hx sy hy = true) (h2 : sameP ok f y z sy hy sz hz = true) : sameP ok f x z sx hx sz hz = true := by
  rw [sameP_iff] at h1 h2 ⊢
  obtain ⟨a1, a2, a3, a4, a5⟩ := h1
  obtain ⟨b1, b2, b3, b4, b5⟩ := h2
  refine ⟨a1, a2, b3, a4.trans b4, ?_⟩
  rcases a5 with rfl | ⟨a5, a6⟩
  · exact b5
  · rcases b5 with rfl | ⟨b5, b6⟩
    · exact .inr ⟨a5, a6⟩
    · exact .inr ⟨a5, a6.trans b6⟩

end Go.Proofs.YtldddgmhmolohaaGreatDoor
namespace Go.Proofs.YtldddgmhmolohaaGreatDoor
open Go.RowKit

theorem suf_slash (l : List UInt8) : Lib.hasSuffix l [47] = decide (l.getLast? = some 47) := by
  rw [Bool.eq_iff_iff, decide_eq_true_eq, Lib.hasSuffix, List.isSuffixOf_iff_suffix]
  constructor
  · rintro ⟨t, rfl⟩; simp
  · intro h
    obtain ⟨t, rfl⟩ := List.getLast?_eq_some_iff.1 h
    exact ⟨t, rfl⟩
theorem ret_usl {a b : ByteArray} (h : a = b) : Ending.returned (.string a) = .returned (.string b) := by rw [h]
/-- The usual path, as a text. -/
def usB (p : ByteArray) : ByteArray := ⟨(usualL p.data.toList).toArray⟩
theorem usB_one {p : ByteArray} (h : ¬ (p.data.toList.head? = some 47 ∧ lastK p.data.toList p.size ≠ 0)) : usB p = ⟨#[47]⟩ := by
  refine ba_of ?_
  show usualL p.data.toList = [47]
  rw [usualL, lenB, if_neg h]
theorem usB_cut {p : ByteArray} {i : Nat} (h : p.data.toList.head? = some 47) (hi : lastK p.data.toList p.size = i) (h0 : i ≠ 0) : usB p = p.extract 0 i := by
  refine ba_of ?_
  show usualL p.data.toList = _
  rw [usualL, lenB, hi, if_pos ⟨h, h0⟩]
  simp

set_option maxRecDepth 100000 in
set_option maxHeartbeats 1000000 in
theorem SPath_any (p c : ByteArray) (w : World) (hc : c.size ≤ 140737488355328) :
    Calls Tryz.prog 20 #[.string p, .string c] w fun e w' => e = .returned (.bool (pmchL p.data.toList c.data.toList)) ∧ w' = w := by
  obtain ⟨R, HR⟩ : ∃ R, Hid (pmchL p.data.toList c.data.toList = R) := ⟨_, Lib.hid rfl⟩
  rw [HR.out]
  by_cases hx : c.data.toList <+: p.data.toList
  · obtain ⟨m, hm⟩ := hx
    have C1 : Hid (Calls Tryz.prog 34 #[.string p, .string c] w fun e w' => e = .returned (.tuple #[.string ⟨m.toArray⟩, .bool true]) ∧ w' = w) := Lib.hid (by
      have := Tryz.strings_CutPrefix p c w
      have h1 : Lib.hasPrefix p.data.toList c.data.toList = true := by
        rw [Lib.hasPrefix, List.isPrefixOf_iff_prefix]; exact ⟨m, hm⟩
      rw [Lib.trimPrefix, h1, if_pos rfl, show p.data.toList.drop c.data.toList.length = m by rw [← hm]; simp] at this
      exact this)
    obtain ⟨M, HM⟩ : ∃ M : ByteArray, Hid ((⟨m.toArray⟩ : ByteArray) = M) := ⟨_, Lib.hid rfl⟩
    have hml : m = M.data.toList := by rw [← HM.out]
    rw [HM.out] at C1
    have HV : Hid (R = (decide (M.data.toList = []) || (decide (c.data.toList.getLast? = some 47) || decide (M.data.toList.head? = some 47)))) := Lib.hid (by
      rw [← HR.out, ← hm, pmchL_behind, hml])
    clear hm hml HR HM
    by_cases h0 : M.size = 0
    · have hem := emT h0
      have HV2 : Hid (R = true) := Lib.hid (by
        have : M.data.toList = [] := List.eq_nil_of_length_eq_zero (by rw [lenB]; exact h0)
        rw [HV.out, this]; rfl)
      clear HV h0
      go_enter Tryz.func20, Tryz.ntmps20
      go_wp2_with fail
      refine C1.out.mono ?_
      rintro e w0 ⟨rfl, rfl⟩
      go_wp2
      go_ret
      exact ⟨ret_bool HV2.out.symm, rfl⟩
    · have hem := emF (s := M) (by omega)
      obtain ⟨a, Ha⟩ : ∃ a, Hid (decide (c.data.toList.getLast? = some 47) = a) := ⟨_, Lib.hid rfl⟩
      obtain ⟨b, Hb⟩ : ∃ b, Hid (decide (M.data.toList.head? = some 47) = b) := ⟨_, Lib.hid rfl⟩
      have HV2 : Hid (R = (a || b)) := Lib.hid (by
        have : M.data.toList ≠ [] := fun e => h0 (by rw [← lenB, e]; rfl)
        rw [HV.out, decide_eq_false this, Ha.out, Hb.out, Bool.false_or])
      have CS : Hid (∀ w, Calls Tryz.prog 35 #[.string c, .string ⟨#[47]⟩] w fun e w' => e = .returned (.bool a) ∧ w' = w) := Lib.hid (fun w => by
        have := Tryz.strings_HasSuffix c ⟨#[47]⟩ w (by omega)
        rwa [show Lib.hasSuffix c.data.toList (⟨#[47]⟩ : ByteArray).data.toList = a from (suf_slash _).trans Ha.out] at this)
      have CP : Hid (∀ w, Calls Tryz.prog 33 #[.string M, .string ⟨#[47]⟩] w fun e w' => e = .returned (.bool b) ∧ w' = w) := Lib.hid (fun w => by
        have := Tryz.strings_HasPrefix M ⟨#[47]⟩ w
        rwa [show Lib.hasPrefix M.data.toList (⟨#[47]⟩ : ByteArray).data.toList = b from (pre_one _ _).trans Hb.out] at this)
      clear HV h0 Ha Hb
      cases a
      · have HV3 : Hid (R = b) := Lib.hid (by rw [HV2.out]; rfl)
        go_enter Tryz.func20, Tryz.ntmps20
        go_wp2_with fail
        refine C1.out.mono ?_
        rintro e w0 ⟨rfl, rfl⟩
        go_wp2_with fail
        refine (CS.out _).mono ?_
        rintro e w1 ⟨rfl, rfl⟩
        go_wp2_with fail
        refine (CP.out _).mono ?_
        rintro e w2 ⟨rfl, rfl⟩
        go_wp2
        go_ret
        exact ⟨ret_bool HV3.out.symm, rfl⟩
      · have HV3 : Hid (R = true) := Lib.hid (by rw [HV2.out]; rfl)
        go_enter Tryz.func20, Tryz.ntmps20
        go_wp2_with fail
        refine C1.out.mono ?_
        rintro e w0 ⟨rfl, rfl⟩
        go_wp2_with fail
        refine (CS.out _).mono ?_
        rintro e w1 ⟨rfl, rfl⟩
        go_wp2
        go_ret
        exact ⟨ret_bool HV3.out.symm, rfl⟩
  · have C1 : Hid (Calls Tryz.prog 34 #[.string p, .string c] w fun e w' => e = .returned (.tuple #[.string p, .bool false]) ∧ w' = w) := Lib.hid (by
      have := Tryz.strings_CutPrefix p c w
      have h1 : Lib.hasPrefix p.data.toList c.data.toList = false := by
        rw [Bool.eq_false_iff, Lib.hasPrefix]; exact fun e => hx (List.isPrefixOf_iff_prefix.1 e)
      rw [Lib.trimPrefix, h1, if_neg (by simp)] at this
      exact this)
    have HV : Hid (R = false) := Lib.hid (by
      rw [← HR.out, Bool.eq_false_iff]
      intro e
      rcases (pmchL_iff _ _).1 e with e | ⟨e, _⟩
      · exact hx (by rw [e]; exact List.prefix_refl _)
      · exact hx e)
    clear hx HR
    go_enter Tryz.func20, Tryz.ntmps20
    go_wp2_with fail
    refine C1.out.mono ?_
    rintro e w0 ⟨rfl, rfl⟩
    go_wp2
    go_ret
    exact ⟨ret_bool HV.out.symm, rfl⟩

theorem bang_at (p : ByteArray) (j : Nat) (hj : j < p.size) : p.data.toList[j]? = some p.data[j]! := by
  rw [List.getElem?_eq_getElem (by rw [lenB]; exact hj), getElem!_pos p.data j hj]; simp
theorem last_slash (p : ByteArray) : (Lib.lastIndexByte p 47 = -1 ∧ lastK p.data.toList p.size = 0) ∨ ∃ i : Nat, i < p.size ∧ Lib.lastIndexByte p 47 = (i : Int) ∧ lastK p.data.toList p.size = i := by
  have h47 : (47 : UInt8).toNat = 47 := rfl
  rcases Lib.lastIndexByte_spec p 47 with ⟨e, hn⟩ | ⟨i, hi, e, hc, hn⟩
  · refine .inl ⟨e, lastK_none _ _ fun j hj h => hn j hj ?_⟩
    rw [bang_at p j hj] at h
    rw [Option.some.inj h]; rfl
  · refine .inr ⟨i, hi, e, lastK_at _ i ?_ _ hi fun j h1 h2 h => hn j h1 h2 ?_⟩
    · rw [bang_at p i hi]
      exact congrArg some (UInt8.toNat_inj.1 (by omega))
    · rw [bang_at p j h2] at h
      rw [Option.some.inj h]; rfl

set_option maxRecDepth 100000 in
set_option maxHeartbeats 1000000 in
theorem SUsual_any (p : ByteArray) (w : World) (hp : p.size ≤ 140737488355328) :
    Calls Tryz.prog 19 #[.string p] w fun e w' => e = .returned (.string (usB p)) ∧ w' = w := by
  obtain ⟨R, HR⟩ : ∃ R, Hid (usB p = R) := ⟨_, Lib.hid rfl⟩
  obtain ⟨q, Hq⟩ : ∃ q, Hid (decide (p.data.toList.head? = some 47) = q) := ⟨_, Lib.hid rfl⟩
  rw [HR.out]
  have CP : Hid (∀ w, Calls Tryz.prog 33 #[.string p, .string ⟨#[47]⟩] w fun e w' => e = .returned (.bool q) ∧ w' = w) := Lib.hid (fun w => by
    have := Tryz.strings_HasPrefix p ⟨#[47]⟩ w
    rwa [show Lib.hasPrefix p.data.toList (⟨#[47]⟩ : ByteArray).data.toList = q from (pre_one _ _).trans Hq.out] at this)
  rcases last_slash p with ⟨e, hk⟩ | ⟨i, hi, e, hk⟩
  · have CL : Hid (∀ w, Calls Tryz.prog 32 #[.string p, .string ⟨#[47]⟩] w fun e w' => e = .returned (.int .i64 (-1)) ∧ w' = w) := Lib.hid (fun w => (Tryz.strings_LastIndex_one p ⟨#[47]⟩ rfl (by omega) w).mono fun _ _ ⟨he, hw⟩ => ⟨by rw [he, ← e]; rfl, hw⟩)
    have HV : Hid (R = ⟨#[47]⟩) := Lib.hid (by rw [← HR.out]; exact usB_one (fun h => h.2 hk))
    clear HR Hq e hk
    go_enter Tryz.func19, Tryz.ntmps19
    go_wp2_with fail
    refine (CL.out _).mono ?_
    rintro e w0 ⟨rfl, rfl⟩
    go_wp2
    go_ret
    exact ⟨ret_usl HV.out.symm, rfl⟩
  · have CL : Hid (∀ w, Calls Tryz.prog 32 #[.string p, .string ⟨#[47]⟩] w fun e w' => e = .returned (.int .i64 (i : Int)) ∧ w' = w) := Lib.hid (fun w => (Tryz.strings_LastIndex_one p ⟨#[47]⟩ rfl (by omega) w).mono fun _ _ ⟨he, hw⟩ => ⟨by rw [he, ← e]; rfl, hw⟩)
    by_cases h0 : i = 0
    · have HV : Hid (R = ⟨#[47]⟩) := Lib.hid (by rw [← HR.out]; exact usB_one (fun h => h.2 (hk.trans h0)))
      clear HR Hq e hk
      subst h0
      go_enter Tryz.func19, Tryz.ntmps19
      go_wp2_with fail
      refine (CL.out _).mono ?_
      rintro e w0 ⟨rfl, rfl⟩
      go_wp2
      go_ret
      exact ⟨ret_usl HV.out.symm, rfl⟩
    · have h1 : 0 < i := by omega
      cases q
      · have HV : Hid (R = ⟨#[47]⟩) := Lib.hid (by rw [← HR.out]; exact usB_one (fun h => by have := Hq.out; rw [decide_eq_true h.1] at this; cases this))
        clear HR Hq e hk
        go_enter Tryz.func19, Tryz.ntmps19
        go_wp2_with fail
        refine (CL.out _).mono ?_
        rintro e w0 ⟨rfl, rfl⟩
        go_wp2_with fail
        refine (CP.out _).mono ?_
        rintro e w1 ⟨rfl, rfl⟩
        go_wp2
        go_ret
        exact ⟨ret_usl HV.out.symm, rfl⟩
      · have HV : Hid (R = p.extract 0 i) := Lib.hid (by rw [← HR.out]; exact usB_cut (of_decide_eq_true Hq.out) hk h0)
        clear HR Hq e hk
        go_enter Tryz.func19, Tryz.ntmps19
        go_wp2_with fail
        refine (CL.out _).mono ?_
        rintro e w0 ⟨rfl, rfl⟩
        go_wp2_with fail
        refine (CP.out _).mono ?_
        rintro e w1 ⟨rfl, rfl⟩
        go_wp2
        go_ret
        exact ⟨ret_usl HV.out.symm, rfl⟩

set_option maxHeartbeats 1000000 in
theorem Domain_any (a b : ByteArray) (w : World) (ha : a.size ≤ 1048600) (hb : b.size ≤ 1048600) :
    Calls Tryz.prog 31 #[.string a, .string b] w fun e w' => e = .returned (.bool (decide (0 < b.size) && belowB a b)) ∧ Below w.heap.size w w' := by
  obtain ⟨R, HR⟩ : ∃ R, Hid (belowB a b = R) := ⟨_, Lib.hid rfl⟩
  have C1 : Hid (Calls Tryz.prog 46 #[.string a, .string b] w fun e w' => e = .returned (.bool R) ∧ Below w.heap.size w w') := Lib.hid (by rw [← HR.out]; exact Below5_any a b w ha hb)
  rw [HR.out]
  by_cases h0 : b.size = 0
  · have hem := emT h0
    have HF : Hid ((decide (0 < b.size) && R) = false) := Lib.hid (by rw [h0]; rfl)
    rw [HF.out]
    clear HF h0
    go_enter Tryz.func31, Tryz.ntmps31
    go_wp2
    go_ret
    exact ⟨rfl, Below.refl _ _⟩
  · have hem := emF (s := b) (by omega)
    have HF : Hid ((decide (0 < b.size) && R) = R) := Lib.hid (by rw [decide_eq_true (by omega : 0 < b.size), Bool.true_and])
    rw [HF.out]
    clear HF h0
    go_enter Tryz.func31, Tryz.ntmps31
    go_wp2_with fail
    refine C1.out.mono ?_
    rintro e w1 ⟨rfl, b1⟩
    have B1 := Lib.hid b1; clear b1
    go_wp2
    go_ret
    exact ⟨rfl, B1.out⟩

end Go.Proofs.YtldddgmhmolohaaGreatDoor
