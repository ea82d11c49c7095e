/-
  Contracts: readerOf, whole, either; the ways that they make; plain: what looks like four bytes.
-/
import Derived.Test.YtjalbfgdhmkclaaRdG
namespace Go.Proofs.Ytjalbfgdhmkclaa
open Go.RowKit

theorem low_small (c : UInt8) : ¬ (65 ≤ (low c).toNat ∧ (low c).toNat ≤ 90) := by
  have : ∀ n : Fin 256, ¬ (65 ≤ (low (UInt8.ofNat n.1)).toNat ∧ (low (UInt8.ofNat n.1)).toNat ≤ 90) := by decide +kernel
  have h := this ⟨c.toNat, c.toNat_lt⟩
  simpa using h
theorem lowS_sml (s : ByteArray) : Sml (lowS s).data.toList := by
  intro c hc
  have : c ∈ s.data.toList.map low := hc
  obtain ⟨x, _, rfl⟩ := List.mem_map.1 this
  exact low_small x
theorem sml_88 {l : List UInt8} (h : Sml l) : ∀ c ∈ l, c ≠ 88 := fun c hc e => h c hc (by rw [e]; decide)

set_option maxHeartbeats 400000 in
theorem readerOf_any (s : ByteArray) (w : World) (hs : s.size ≤ maxLen) :
    Calls Try.prog 16 #[.string s] w fun e w' => ∃ b, w.heap.size ≤ b ∧ e = .returned (.pointer (some ⟨b, 0, none⟩)) ∧ Rd w' b (lowS s) ∧ Below w.heap.size w w' := by
  go_enter Try.func16, Try.ntmps16
  go_wp2_with fail
  refine (Lower_any s _ hs).mono ?_
  rintro e w1 ⟨rfl, b1⟩
  have B1 := Lib.hid b1; clear b1
  go_wp2
  go_ret
  exact ⟨w1.heap.size, B1.out.size, rfl, Holds1.new w1 _ _, B1.out.alloc B1.out.size _⟩

set_option maxHeartbeats 400000 in
theorem whole_any (rv fv : Value) (w : World) (h1 : rv.oneCell' = true) (h2 : fv.oneCell' = true) (h3 : ∃ a, rv = .pointer a) (h4 : ∃ F f c, fv = .func F f c) :
    Calls Try.prog 27 #[rv, fv] w fun e w' => e = .returned (.func (.func 39) #[] #[.pointer (some ⟨w.heap.size + 1, 0, none⟩), .pointer (some ⟨w.heap.size, 0, none⟩)]) ∧ (w.alloc (.cells #[rv] 32)).alloc (.cells #[fv] 47) = w' := by
  obtain ⟨a, rfl⟩ := h3
  obtain ⟨F, f, c, rfl⟩ := h4
  have hmf := mkfK
  clear h1 h2
  go_enter Try.func27, Try.ntmps27
  go_wp2
  go_ret
  exact ⟨rfl, rfl⟩
set_option maxHeartbeats 400000 in
theorem either_any (a g : Option Addr) (n k : Nat) (w : World) :
    Calls Try.prog 26 #[.pointer a, .slice g n k] w fun e w' => e = .returned (.func (.func 38) #[] #[.pointer (some ⟨w.heap.size, 0, none⟩), .pointer (some ⟨w.heap.size + 1, 0, none⟩)]) ∧ (w.alloc (.cells #[.pointer a] 32)).alloc (.cells #[.slice g n k] 60) = w' := by
  have hmf := mkfK
  go_enter Try.func26, Try.ntmps26
  go_wp2
  go_ret
  exact ⟨rfl, rfl⟩

theorem two_new {w w' : World} {t1 t2 : TypeId} {v1 v2 : Value} (h : (w.alloc (.cells #[v1] t1)).alloc (.cells #[v2] t2) = w') : Holds1 w' w.heap.size t1 v1 ∧ Holds1 w' (w.heap.size + 1) t2 v2 ∧ w'.heap.size = w.heap.size + 2 ∧ Below w.heap.size w w' := by
  subst h
  refine ⟨(Holds1.new w t1 v1).alloc _, ?_, by simp, ((Below.refl _ _).alloc (Nat.le_refl _) _).alloc (by simp) _⟩
  have := Holds1.new (w.alloc (.cells #[v1] t1)) t2 v2
  simpa using this
theorem orElse_some {o1 o2 : List UInt8 → Option (List Nat × List UInt8)} {l : List UInt8} {x : List Nat × List UInt8} (h : orElse o1 o2 l = some x) : o1 l = some x ∨ o2 l = some x := by
  unfold orElse at h
  split at h
  · rename_i y hy; injection h with h; subst h; exact .inl hy
  · exact .inr h
theorem whole1_some {o : List UInt8 → Option (List Nat × List UInt8)} {l : List UInt8} {x : List Nat × List UInt8} (h : whole1 o l = some x) : o l = some x ∧ x.2 = [] := by
  unfold whole1 at h
  split at h
  · rename_i ns u hy
    split at h
    · rename_i hu; injection h with h; subst h; exact ⟨hy, hu⟩
    · cases h
  · cases h
theorem way_whole {b p q : Nat} {F : FuncId} {f c : Array Value} {o : List UInt8 → Option (List Nat × List UInt8)} {W : World} (hp : Holds1 W p 47 (.func (.func F) f c)) (hq : Holds1 W q 32 (.pointer (some ⟨b, 0, none⟩))) (hpb : p ≠ b) (hqb : q ≠ b) (hW : Way b F f c o W) :
    Way b 39 #[] #[.pointer (some ⟨p, 0, none⟩), .pointer (some ⟨q, 0, none⟩)] (whole1 o) W :=
  ⟨enters_of Try.func39 (by kernel_rfl) rfl, fun w t k h hs hsm => wholeC_any b p q F f c o t w (hp.kept k hpb) (hq.kept k hqb) hqb (hW.later k) h hs hsm, fun l ns u h => hW.suf l ns u (whole1_some h).1, fun l ns u h => hW.num l ns u (whole1_some h).1⟩
theorem way_either {b p q g : Nat} {F1 F2 : FuncId} {f1 c1 f2 c2 : Array Value} {o1 o2 : List UInt8 → Option (List Nat × List UInt8)} {W : World}
    (hp : Holds1 W p 32 (.pointer (some ⟨b, 0, none⟩))) (hq : Holds1 W q 60 (.slice (some ⟨g, 0, none⟩) 2 2))
    (hg : W.heap[g]? = some (.cells #[.func (.func F1) f1 c1, .func (.func F2) f2 c2] 47 (0, 0)))
    (hpb : p ≠ b) (hqb : q ≠ b) (hgb : g ≠ b) (hW1 : Way b F1 f1 c1 o1 W) (hW2 : Way b F2 f2 c2 o2 W) :
    Way b 38 #[] #[.pointer (some ⟨p, 0, none⟩), .pointer (some ⟨q, 0, none⟩)] (orElse o1 o2) W :=
  ⟨enters_of Try.func38 (by kernel_rfl) rfl, fun w t k h hs hsm => eitherC_any b p q g F1 F2 f1 c1 f2 c2 o1 o2 t w (hp.kept k hpb) (hq.kept k hqb) (k.at hg hgb) hpb hqb hgb (hW1.later k) (hW2.later k) h hs hsm,
   fun l ns u h => (orElse_some h).elim (hW1.suf l ns u) (hW2.suf l ns u), fun l ns u h => (orElse_some h).elim (hW1.num l ns u) (hW2.num l ns u)⟩

/-- Great letters make no difference. -/
theorem low_eqs : ∀ n : Fin 256, hexV (low (UInt8.ofNat n.1)) = hexV (UInt8.ofNat n.1) ∧ (low (UInt8.ofNat n.1) = 46 ↔ UInt8.ofNat n.1 = 46) ∧ (low (UInt8.ofNat n.1) = 58 ↔ UInt8.ofNat n.1 = 58) ∧ (low (UInt8.ofNat n.1) = 48 ↔ UInt8.ofNat n.1 = 48) ∧ ((low (UInt8.ofNat n.1) = 120 ∨ low (UInt8.ofNat n.1) = 88) ↔ (UInt8.ofNat n.1 = 120 ∨ UInt8.ofNat n.1 = 88)) := by decide +kernel
theorem low_hex (c : UInt8) : hexV (low c) = hexV c := by have := (low_eqs ⟨c.toNat, c.toNat_lt⟩).1; simpa using this
theorem low_46 (c : UInt8) : low c = 46 ↔ c = 46 := by have := (low_eqs ⟨c.toNat, c.toNat_lt⟩).2.1; simpa using this
theorem low_58 (c : UInt8) : low c = 58 ↔ c = 58 := by have := (low_eqs ⟨c.toNat, c.toNat_lt⟩).2.2.1; simpa using this
theorem low_48 (c : UInt8) : low c = 48 ↔ c = 48 := by have := (low_eqs ⟨c.toNat, c.toNat_lt⟩).2.2.2.1; simpa using this
theorem low_x (c : UInt8) : (low c = 120 ∨ low c = 88) ↔ (c = 120 ∨ c = 88) := by have := (low_eqs ⟨c.toNat, c.toNat_lt⟩).2.2.2.2; simpa using this
theorem pts_low (a : UInt8) (h : ∀ c, low c = a ↔ c = a) : ∀ l : List UInt8, pts a (l.map low) = (pts a l).map (List.map low)
  | [] => rfl
  | c :: l => by
    rw [List.map_cons, pts, pts, pts_low a h l]
    by_cases hc : c = a
    · rw [if_pos hc, if_pos ((h c).2 hc)]; rfl
    · rw [if_neg hc, if_neg (fun e => hc ((h c).1 e))]
      cases pts a l <;> rfl
theorem fol_low (b : Nat) (l : List UInt8) : fol b (l.map low) = fol b l := by
  unfold fol
  rw [List.foldl_map]
  congr 1
  funext n c
  unfold stp; rw [low_hex]
theorem all_low (b : Nat) (l : List UInt8) : (l.map low).all (dig b) = l.all (dig b) := by
  rw [List.all_map]; congr 1; funext c; simp [dig, low_hex]
theorem cnt_low (b : Nat) (l : List UInt8) : cnt b (l.map low) = cnt b l := by
  unfold cnt; rw [all_low, fol_low]
theorem isX_low (l : List UInt8) : isX (l.map low) = isX l := by
  match l with
  | [] => rfl
  | [_] => rfl
  | a :: b :: r =>
    have h1 := low_48 a
    have h2 := low_x b
    simp only [List.map_cons, isX]
    rw [Bool.eq_iff_iff]
    simp only [Bool.and_eq_true, Bool.or_eq_true, decide_eq_true_eq, h1, h2]
theorem numD_low (l : List UInt8) : numD (l.map low) = numD l := by
  unfold numD
  rw [isX_low, ← List.map_drop, cnt_low, ← List.map_drop, cnt_low, cnt_low, List.length_map]
  have h1 : (l.map low).head? = some 48 ↔ l.head? = some 48 := by
    cases l with
    | nil => simp
    | cons c l => simp [low_48]
  have h2 : l.map low = [] ↔ l = [] := by simp
  simp only [h1, h2]
theorem looksQ_low (l : List UInt8) : looksQ (l.map low) = looksQ l := by
  unfold looksQ
  rw [isX_low, numD_low, all_low]
  cases l <;> rfl
theorem looks_ways (q : List UInt8) (hq : ∀ c ∈ q, c ≠ 46) (hx : ∀ c ∈ q, c ≠ 88) : (orElse (whole1 rpart) (whole1 rdec) q).isSome = looksQ q := by
  have h1 := part_reads q [] hq hx endy_nil (by simp)
  unfold Reads num1 at h1
  rw [List.append_nil] at h1
  have hw : (whole1 rpart q).isSome = (numD q).isSome := by
    cases hn : numD q with
    | none =>
      rw [hn] at h1
      rcases h1 with h | ⟨ns, c, r, h, _⟩
      · simp [whole1, h]
      · simp [whole1, h]
    | some n =>
      rw [hn] at h1
      simp [whole1, h1.1]
  have hd : (whole1 rdec q).isSome = (!q.isEmpty && q.all (dig 10)) := by
    by_cases hne : q = []
    · subst hne; rfl
    have h2 := dec_reads q [] 46 hq endy_nil hne
    rw [List.append_nil] at h2
    cases ha : q.all (dig 10)
    · rw [cnt_no ha] at h2
      rcases h2 with h | ⟨ns, c, r, h, _⟩
      · simp [whole1, h]
      · simp [whole1, h]
    · rw [cnt_all ha] at h2
      simp only at h2
      simp [whole1, h2, hne]
  have ho : (orElse (whole1 rpart) (whole1 rdec) q).isSome = ((whole1 rpart q).isSome || (whole1 rdec q).isSome) := by
    unfold orElse
    cases whole1 rpart q <;> simp
  rw [ho, hw, hd]
  unfold looksQ
  cases hX : isX q
  · cases hn : numD q with
    | none => simp
    | some n =>
      have : (!q.isEmpty && q.all (dig 10)) = true := by
        unfold numD at hn
        rw [hX] at hn
        simp only [Bool.false_eq_true, if_false] at hn
        split at hn
        · rename_i h8
          obtain ⟨h81, h82⟩ := h8
          cases q with
          | nil => simp at h81
          | cons c q =>
            have hc : c = 48 := by simpa using h82
            subst hc
            unfold cnt at hn
            split at hn
            · rename_i hall
              simp only [List.drop_succ_cons, List.drop_zero, List.all_eq_true] at hall
              have : dig 10 48 = true := by decide
              simp only [List.isEmpty_cons, Bool.not_false, Bool.true_and, List.all_cons, this, List.all_eq_true]
              intro x hx
              have := hall x hx
              simp [dig] at this ⊢; omega
            · cases hn
        · split at hn
          · cases hn
          · rename_i hne
            unfold cnt at hn
            split at hn
            · rename_i hall
              cases q with
              | nil => contradiction
              | cons c q => simpa using hall
            · cases hn
      simp [this]
  · cases hn : numD q <;> cases (!q.isEmpty && q.all (dig 10)) <;> rfl

end Go.Proofs.Ytjalbfgdhmkclaa
