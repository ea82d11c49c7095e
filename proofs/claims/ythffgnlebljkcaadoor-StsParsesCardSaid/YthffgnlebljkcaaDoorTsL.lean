/-
  Package sts, plain words: what the law's texts wish.
-/
import Derived.Test.YthffgnlebljkcaaDoorTsK
namespace Go.Proofs.YthffgnlebljkcaaDoor
open Go.RowKit

theorem isW_of {l : List UInt8} {a : Int} {f : Bool} {T : List TsE} (hl : l.length ≤ 65536) (h1 : runT l [] = some T) (h2 : wishT T = some (a, f)) : isW (asB l) a f = true := by
  unfold isW prsW
  rw [if_neg (by rw [asB_size]; omega), asB_data]
  unfold prsT
  rw [h1, Option.bind_some, h2]
  simp
theorem badW_of {l : List UInt8} (hl : l.length ≤ 65536) (h : (runT l []).bind wishT = none) : badW (asB l) = true := by
  unfold badW prsW
  rw [if_neg (by rw [asB_size]; omega), asB_data]
  unfold prsT
  rw [h]
  simp
/-- Digits. -/
theorem dd_facts (n : Nat) : num (Lib.decDigits n) = (n : Int) ∧ allR 48 57 (Lib.decDigits n) = true ∧ Lib.decDigits n ≠ [] := by
  induction n using Nat.strongRecOn with
  | ind n ih =>
    rw [dd_split]
    have hb : (UInt8.ofNat (48 + n % 10)).toNat = 48 + n % 10 := by
      rw [UInt8.toNat_ofNat']
      omega
    have hr : inR 48 57 (UInt8.ofNat (48 + n % 10)).toNat = true := by
      rw [hb]; simp [inR]; omega
    unfold pre10
    by_cases h : 10 ≤ n
    · obtain ⟨h1, h2, h3⟩ := ih (n / 10) (by omega)
      rw [if_pos h]
      refine ⟨?_, ?_, by simp⟩
      · rw [num_snoc, h1, hb]; omega
      · rw [allR_snoc, h2, hr]; rfl
    · rw [if_neg h]
      refine ⟨?_, ?_, by simp⟩
      · simp only [List.nil_append, num, List.foldl_cons, List.foldl_nil, hb]; omega
      · unfold allR
        rw [List.nil_append, List.all_cons, hr]; rfl
theorem dig_tok : ∀ k : Fin 256, inR 48 57 k.1 = true → tokB k.1 = true := by decide +kernel
theorem all_tok {l : List UInt8} (h : allR 48 57 l = true) (h0 : l ≠ []) : tokS l = true :=
  tokS_of h0 fun c hc => dig_tok ⟨c.toNat, c.toNat_lt⟩ (by unfold allR at h; exact List.all_eq_true.1 h c hc)
theorem ageD_of {l : List UInt8} (h : allR 48 57 l = true) (h0 : l ≠ []) : ageD l = some (min (num l) 2147483647) := by
  unfold ageD
  rw [if_neg (by rw [h]; simp [h0]), capN_num l h]
theorem nought_all (k : Nat) {l : List UInt8} (h : allR 48 57 l = true) : allR 48 57 (List.replicate k 48 ++ l) = true := by
  induction k with
  | zero => exact h
  | succ k ih =>
    rw [List.replicate_succ, List.cons_append]
    unfold allR at ih ⊢
    rw [List.all_cons, ih]; rfl
theorem nought_num (k : Nat) (l : List UInt8) : num (List.replicate k 48 ++ l) = num l := by
  induction k with
  | zero => rfl
  | succ k ih =>
    rw [List.replicate_succ, List.cons_append, ← ih]
    simp [num]
/-- The pieces that the laws use. -/
def subL : List UInt8 := [105, 110, 99, 108, 117, 100, 101, 83, 117, 98, 68, 111, 109, 97, 105, 110, 115]
theorem pre_eq (v : List UInt8) : preA ++ v = [] ++ nAge ++ [] ++ 61 :: v := by simp [preA, nAge]
theorem nAge_low : nAge.map low = nAge := by decide
theorem nSub_low : subL.map low = nSub := by decide
theorem says_age {D : List UInt8} (h : tokS D = true) : SaysX (preA ++ D) (nAge, true, D) := by
  rw [pre_eq]
  have := says_eq (p := []) (n := nAge) (q := []) (fun _ h => (by cases h)) (fun _ h => (by cases h)) (by decide +kernel) (val_tok h)
  rw [nAge_low] at this
  exact this
theorem says_sub : SaysX (32 :: subL) (nSub, false, []) := by
  have := says_name (p := [32]) (n := subL) (q := []) (by decide) (fun _ h => (by cases h)) (by decide +kernel)
  rw [nSub_low] at this
  exact this
/-- What a wish's text says, and other pieces behind it. -/
def entW (D : List UInt8) (f : Bool) : List TsE := if f then [(nAge, true, D), (nSub, false, [])] else [(nAge, true, D)]
theorem age_sub : nAge ≠ nSub := by decide
theorem run_txt {a : Int} {f : Bool} {r : List UInt8} {xs : List (Option TsE)} (h0 : 0 ≤ a) (hr : ∀ T, runT r T = tellD xs T) (T : List TsE) :
    runT (txtW a f ++ 59 :: r) T = tellD ((entW (Lib.itoa a) f).map some ++ xs) T := by
  have hi : Lib.itoa a = Lib.decDigits a.toNat := by unfold Lib.itoa; rw [if_neg (by omega)]
  obtain ⟨_, d2, d3⟩ := dd_facts a.toNat
  have hA := says_age (all_tok d2 d3)
  rw [← hi] at hA
  cases f with
  | false =>
    have e : txtW a false ++ 59 :: r = (preA ++ Lib.itoa a) ++ 59 :: r := by unfold txtW; simp
    rw [e]
    exact run_more (x := some _) hA T r xs hr
  | true =>
    have e : txtW a true ++ 59 :: r = (preA ++ Lib.itoa a) ++ 59 :: ((32 :: subL) ++ 59 :: r) := by unfold txtW sufS subL; simp
    rw [e]
    exact run_more (x := some _) hA T _ _ fun T => run_more (x := some _) says_sub T r xs hr
theorem run_txt0 {a : Int} {f : Bool} (h0 : 0 ≤ a) (T : List TsE) : runT (txtW a f) T = tellD ((entW (Lib.itoa a) f).map some) T := by
  have hi : Lib.itoa a = Lib.decDigits a.toNat := by unfold Lib.itoa; rw [if_neg (by omega)]
  obtain ⟨_, d2, d3⟩ := dd_facts a.toNat
  have hA := says_age (all_tok d2 d3)
  rw [← hi] at hA
  cases f with
  | false =>
    have e : txtW a false = preA ++ Lib.itoa a := by unfold txtW; simp
    rw [e]
    exact run_one (x := some _) hA T
  | true =>
    have e : txtW a true = (preA ++ Lib.itoa a) ++ 59 :: (32 :: subL) := by unfold txtW sufS subL; simp
    rw [e]
    exact run_more (x := some _) hA T _ _ fun T => run_one (x := some _) says_sub T
theorem itoa_facts {a : Int} (h0 : 0 ≤ a) (h1 : a ≤ 2147483647) : ageD (Lib.itoa a) = some a ∧ (Lib.itoa a).length ≤ 10 := by
  have hi : Lib.itoa a = Lib.decDigits a.toNat := by unfold Lib.itoa; rw [if_neg (by omega)]
  obtain ⟨d1, d2, d3⟩ := dd_facts a.toNat
  constructor
  · rw [hi, ageD_of d2 d3, d1]
    congr 1
    omega
  · rw [hi]
    exact dgs11 _ 10 (by omega) (by decide)
theorem txt_len {a : Int} {f : Bool} (h0 : 0 ≤ a) (h1 : a ≤ 2147483647) : (txtW a f).length ≤ 37 := by
  have := (itoa_facts h0 h1).2
  unfold txtW
  rw [List.length_append, List.length_append]
  cases f <;> simp [preA, sufS] <;> omega
/-- What is told, seen from the two names. -/
theorem wish_of {T : List TsE} {D : List UInt8} {a : Int} {o : Option (Bool × List UInt8)} (h1 : sayT nAge T = some (true, D)) (h2 : sayT nSub T = o) (h3 : (o.getD (false, [])).1 = false) (h4 : ageD D = some a) : wishT T = some (a, o.isSome) := by
  unfold wishT
  rw [h1, h2, h3]
  simp [h4]
theorem say_skip {n : List UInt8} {x : TsE} {T : List TsE} (h : x.1 ≠ n) : sayT n (x :: T) = sayT n T := by
  conv => { lhs; unfold sayT }
  rw [if_neg h]
theorem say_here (x : TsE) (T : List TsE) : sayT x.1 (x :: T) = some x.2 := by
  conv => { lhs; unfold sayT }
  rw [if_pos rfl]
theorem twice_nil (n : List UInt8) : twiceB n [] = false := rfl
theorem twice_app (n : List UInt8) (S T : List TsE) : twiceB n (S ++ T) = (twiceB n S || twiceB n T) := by unfold twiceB; rw [List.any_append]
theorem twice_one (n : List UInt8) (x : TsE) : twiceB n [x] = decide (x.1 = n) := by unfold twiceB; simp
/-- All names told once: all is told. -/
theorem tell_all : ∀ (S T : List TsE), (∀ x ∈ S, twiceB x.1 T = false) → S.Pairwise (fun x y => x.1 ≠ y.1) → tellD (S.map some) T = some (T ++ S)
  | [], T, _, _ => by rw [List.append_nil]; rfl
  | x :: S, T, h, hp => by
    have hx := h x (List.mem_cons_self ..)
    obtain ⟨hp1, hp2⟩ := List.pairwise_cons.1 hp
    have ih := tell_all S (T ++ [x]) (fun y hy => by
      rw [twice_app, h y (List.mem_cons_of_mem _ hy), twice_one, decide_eq_false (hp1 y hy)]; rfl) hp2
    show (if twiceB x.1 T = true then none else tellD (S.map some) (T ++ [x])) = _
    rw [if_neg (by rw [hx]; decide), ih, List.append_assoc]
    rfl
theorem tell_append : ∀ (xs ys : List (Option TsE)) (T : List TsE), tellD (xs ++ ys) T = (tellD xs T).bind (tellD ys)
  | [], _, _ => rfl
  | none :: xs, ys, T => tell_append xs ys T
  | some x :: xs, ys, T => by
    show (if twiceB x.1 T = true then none else tellD (xs ++ ys) (T ++ [x])) = _
    have ih := tell_append xs ys (T ++ [x])
    rw [ih]
    conv => { rhs; unfold tellD }
    split <;> rfl
theorem tell_ent (D : List UInt8) (f : Bool) : tellD ((entW D f).map some) [] = some (entW D f) := by
  have := tell_all (entW D f) [] (fun _ _ => rfl) (by
    cases f
    · exact List.pairwise_singleton _ _
    · exact List.pairwise_pair.2 age_sub)
  exact this

/-- A directive with an equals sign. -/
theorem dirD_eq {n v : List UInt8} (hn : tokS n = true) (T : List TsE) : dirD (n ++ 61 :: v) T = if twiceB (n.map low) T = true then none else match valD v with
    | none => none
    | some (t, r) => some (r, T ++ [(n.map low, true, t)]) := by
  have hb := tokS_all hn
  obtain ⟨h1, h2⟩ := upto2 (l := n) (r := 61 :: v) (fun c hc => ⟨(tok_byte (hb c hc)).1, (tok_byte (hb c hc)).2.1⟩) (fun c t e => by injection e with e; exact .inl e.symm)
  have h3 : trimL n = n := nobl_trim fun c hc => (tok_byte (hb c hc)).2.2.2.1
  unfold dirD
  rw [h1, h2, h3, hn]
  cases hv : valD v with
  | none => simp [hv]
  | some x => simp [hv]
theorem quoD_none : ∀ (l a : List UInt8), (∀ c ∈ l, c ≠ 34) → quoD l a = none
  | [], _, _ => rfl
  | [c], a, h => by
    have hc := h c (List.mem_cons_self ..)
    conv => { lhs; unfold quoD }
    rw [if_neg hc]
    split
    · rfl
    · split
      · rfl
      · rfl
  | c :: d :: l, a, h => by
    have hc := h c (List.mem_cons_self ..)
    conv => { lhs; unfold quoD }
    rw [if_neg hc]
    split
    · show (if okQ d = true then quoD l (a ++ [d]) else none) = none
      split
      · exact quoD_none l _ fun x hx => h x (List.mem_cons_of_mem _ (List.mem_cons_of_mem _ hx))
      · rfl
    · split
      · exact quoD_none (d :: l) _ fun x hx => h x (List.mem_cons_of_mem _ hx)
      · rfl
/-- An age with a byte that is no digit among its digits. -/
theorem age_bad {a b : List UInt8} {c : UInt8} (ha : allR 48 57 a = true) (hb : allR 48 57 b = true) (hc : inR 48 57 c.toNat = false) (h1 : bl c = false) (h2 : c ≠ 59) : (runT (preA ++ (a ++ c :: b)) []).bind wishT = none := by
  have hda : ∀ x ∈ a, tokB x.toNat = true := fun x hx => dig_tok ⟨x.toNat, x.toNat_lt⟩ (by unfold allR at ha; exact List.all_eq_true.1 ha x hx)
  have hdb : ∀ x ∈ b, tokB x.toNat = true := fun x hx => dig_tok ⟨x.toNat, x.toNat_lt⟩ (by unfold allR at hb; exact List.all_eq_true.1 hb x hx)
  have hnb : ∀ x ∈ a ++ c :: b, bl x = false ∧ x ≠ 59 := fun x hx => by
    rcases List.mem_append.1 hx with hx | hx
    · exact ⟨(tok_byte (hda x hx)).2.2.2.1, (tok_byte (hda x hx)).2.1⟩
    · rcases List.mem_cons.1 hx with rfl | hx
      · exact ⟨h1, h2⟩
      · exact ⟨(tok_byte (hdb x hx)).2.2.2.1, (tok_byte (hdb x hx)).2.1⟩
  have hcut : cutL (a ++ c :: b) = a ++ c :: b := cutL_of fun x hx => (hnb x (List.mem_of_mem_head? hx)).1
  have hno : allR 48 57 (a ++ c :: b) = false := by
    unfold allR
    rw [List.all_append, List.all_cons, hc]
    simp
  have hv : valD (a ++ c :: b) = none ∨ valD (a ++ c :: b) = some (a ++ c :: b, []) := by
    unfold valD
    rw [hcut]
    split
    · rename_i h34
      refine .inl (quoD_none _ _ fun x hx => ?_)
      cases a with
      | nil => exact (tok_byte (hdb x hx)).2.2.1
      | cons y a =>
        have e : y = 34 := by simpa using h34
        exact absurd e (tok_byte (hda y (List.mem_cons_self ..))).2.2.1
    · obtain ⟨u1, u2⟩ := upto1 (l := a ++ c :: b) (r := []) (fun x hx => (hnb x hx).2) (fun _ _ e => (by cases e))
      rw [List.append_nil] at u1 u2
      rw [u1, u2, nobl_trim fun x hx => (hnb x hx).1]
      split
      · exact .inr rfl
      · exact .inl rfl
  have hp : preA ++ (a ++ c :: b) = nAge ++ 61 :: (a ++ c :: b) := rfl
  rw [runT_eq, hp, dirD_eq (by decide +kernel), nAge_low]
  rcases hv with hv | hv
  · rw [hv]; rfl
  · rw [hv]
    show wishT [(nAge, true, a ++ c :: b)] = none
    unfold wishT
    rw [say_skip age_sub, say_here (nAge, true, a ++ c :: b) []]
    have : ageD (a ++ c :: b) = none := by unfold ageD; rw [hno]; simp
    simp [sayT, this]
end Go.Proofs.YthffgnlebljkcaaDoor
