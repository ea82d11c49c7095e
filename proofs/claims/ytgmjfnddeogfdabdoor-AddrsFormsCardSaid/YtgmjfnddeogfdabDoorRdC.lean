/-
  Contracts: what the reader reads: part, decimal, piece, small.
-/
import Derived.Test.YtgmjfnddeogfdabDoorRdB
namespace Go.Proofs.YtgmjfnddeogfdabDoor
open Go.RowKit

/-- A slice of just these ints, in a block of its own. -/
def NumsAt (w : World) (base : Nat) (v : Value) (ns : List Nat) : Prop := ∃ g, base ≤ g ∧ v = .slice (some ⟨g, 0, none⟩) ns.length ns.length ∧ w.heap[g]? = some (.cells (ns.map iv).toArray 3 (0, 0))
/-- What a way to read leaves: the numbers and the rest, or whatever, and some rest. -/
def Reads1 (b : Nat) (o : Option (List Nat × List UInt8)) (w : World) (e : Ending) (w' : World) : Prop :=
  ∃ (v : Value) (r : ByteArray), Rd w' b r ∧ Kp (Only b) w w' ∧ (∀ ns u, o = some (ns, u) → e = .returned (.tuple #[v, .bool true]) ∧ NumsAt w' w.heap.size v ns ∧ r = asB u) ∧ (o = none → e = .returned (.tuple #[v, .bool false]))
theorem Reads1.yes {b : Nat} {ns : List Nat} {u : List UInt8} {w w' : World} {e : Ending} (v : Value) (h1 : Rd w' b (asB u)) (h2 : Kp (Only b) w w') (h3 : NumsAt w' w.heap.size v ns) (he : e = .returned (.tuple #[v, .bool true])) : Reads1 b (some (ns, u)) w e w' :=
  ⟨v, asB u, h1, h2, (fun ns' u' h => by injection h with h; injection h with h4 h5; subst h4; subst h5; exact ⟨he, h3, rfl⟩), (fun h => by cases h)⟩
theorem Reads1.no {b : Nat} {w w' : World} {e : Ending} (v : Value) (r : ByteArray) (h1 : Rd w' b r) (h2 : Kp (Only b) w w') (he : e = .returned (.tuple #[v, .bool false])) : Reads1 b none w e w' :=
  ⟨v, r, h1, h2, (fun ns' u' h => by cases h), (fun _ => he)⟩
theorem nums_one (w w1 : World) (n : Nat) (b : Nat) (k : Kp (Only b) w w1) : NumsAt (w1.alloc (.cells #[.int .i64 (n : Int)] 3)) w.heap.size (.slice (some ⟨w1.heap.size, 0, none⟩) 1 1) [n] :=
  ⟨_, k.size, rfl, heap_alloc_new w1 _⟩

set_option maxHeartbeats 1000000 in
theorem decimal_any (b : Nat) (t : ByteArray) (w : World) (h : Rd w b t) (hs : t.size ≤ 1048600) (hsm : Sml t.data.toList) :
    Calls Tryd.prog 35 #[.pointer (some ⟨b, 0, none⟩)] w (Reads1 b (rdec t.data.toList) w) := by
  obtain ⟨D, HD⟩ : ∃ D, Hid (dgs 10 t.data.toList = D) := ⟨_, Lib.hid rfl⟩
  have HC : Hid (Calls Tryd.prog 36 #[.pointer (some ⟨b, 0, none⟩), .int .i64 10] w fun e w' => e = .returned (.tuple #[.int .i64 (fol 10 D), .int .i64 (D.length : Int)]) ∧ Rd w' b (asB (t.data.toList.dropWhile (dig 10))) ∧ Kp (Only b) w w') := Lib.hid (by
    have := digits_any b 10 t w h hs (by omega) hsm
    rw [HD.out] at this; exact this)
  by_cases hD : D = []
  · have HR : Hid (rdec t.data.toList = none) := Lib.hid (by rw [rdec, HD.out, if_pos hD])
    have h0 : D.length = 0 := by rw [hD]; rfl
    rw [HR.out]
    clear hD
    have hc0 : decide ((0 : Int) < (D.length : Int)) = false := by simp [h0]
    go_enter Tryd.func35, Tryd.ntmps35
    go_wp2_with fail
    refine HC.out.mono ?_
    rintro e w1 ⟨rfl, r1, k1⟩
    have R1 := Lib.hid r1; have K1 := Lib.hid k1; clear r1 k1
    go_wp2
    go_ret2
    exact Reads1.no _ _ (R1.out.alloc _) (K1.out.alloc _) rfl
  · have HR : Hid (rdec t.data.toList = some ([fol 10 D], t.data.toList.dropWhile (dig 10))) := Lib.hid (by rw [rdec, HD.out, if_neg hD])
    have h0 : 0 < D.length := List.length_pos_iff.2 hD
    rw [HR.out]
    clear hD
    go_enter Tryd.func35, Tryd.ntmps35
    go_wp2_with fail
    refine HC.out.mono ?_
    rintro e w1 ⟨rfl, r1, k1⟩
    have R1 := Lib.hid r1; have K1 := Lib.hid k1; clear r1 k1
    go_wp2
    go_ret2
    exact Reads1.yes _ (R1.out.alloc _) (K1.out.alloc _) (nums_one w w1 _ b K1.out) rfl

set_option maxHeartbeats 1000000 in
theorem piece_any (b : Nat) (t : ByteArray) (w : World) (h : Rd w b t) (hs : t.size ≤ 1048600) (hsm : Sml t.data.toList) :
    Calls Tryd.prog 28 #[.pointer (some ⟨b, 0, none⟩)] w (Reads1 b (rpiece t.data.toList) w) := by
  obtain ⟨D, HD⟩ : ∃ D, Hid (dgs 16 t.data.toList = D) := ⟨_, Lib.hid rfl⟩
  have HC : Hid (Calls Tryd.prog 36 #[.pointer (some ⟨b, 0, none⟩), .int .i64 16] w fun e w' => e = .returned (.tuple #[.int .i64 (fol 16 D), .int .i64 (D.length : Int)]) ∧ Rd w' b (asB (t.data.toList.dropWhile (dig 16))) ∧ Kp (Only b) w w') := Lib.hid (by
    have := digits_any b 16 t w h hs (by omega) hsm
    rw [HD.out] at this; exact this)
  obtain ⟨m, HM⟩ : ∃ m, Hid (m = D.length) := ⟨_, Lib.hid rfl⟩
  rw [← HM.out] at HC
  by_cases h1 : 1 ≤ m
  · by_cases h4 : m ≤ 4
    · have HR : Hid (rpiece t.data.toList = some ([fol 16 D], t.data.toList.dropWhile (dig 16))) := Lib.hid (by rw [rpiece, HD.out, ← HM.out, if_pos ⟨h1, h4⟩])
      rw [HR.out]
      have hb4 : decide ((m : Int) ≤ 4) = true := by simp; omega
      go_enter Tryd.func28, Tryd.ntmps28
      go_wp2_with fail
      refine HC.out.mono ?_
      rintro e w1 ⟨rfl, r1, k1⟩
      have R1 := Lib.hid r1; have K1 := Lib.hid k1; clear r1 k1
      go_wp2
      go_ret2
      exact Reads1.yes _ (R1.out.alloc _) (K1.out.alloc _) (nums_one w w1 _ b K1.out) rfl
    · have HR : Hid (rpiece t.data.toList = none) := Lib.hid (by rw [rpiece, HD.out, ← HM.out, if_neg (fun h => h4 h.2)])
      rw [HR.out]
      have hb4 : decide ((m : Int) ≤ 4) = false := by simp; omega
      go_enter Tryd.func28, Tryd.ntmps28
      go_wp2_with fail
      refine HC.out.mono ?_
      rintro e w1 ⟨rfl, r1, k1⟩
      have R1 := Lib.hid r1; have K1 := Lib.hid k1; clear r1 k1
      go_wp2
      go_ret2
      exact Reads1.no _ _ (R1.out.alloc _) (K1.out.alloc _) rfl
  · have HR : Hid (rpiece t.data.toList = none) := Lib.hid (by rw [rpiece, HD.out, ← HM.out, if_neg (fun h => h1 h.1)])
    rw [HR.out]
    go_enter Tryd.func28, Tryd.ntmps28
    go_wp2_with fail
    refine HC.out.mono ?_
    rintro e w1 ⟨rfl, r1, k1⟩
    have R1 := Lib.hid r1; have K1 := Lib.hid k1; clear r1 k1
    go_wp2
    all_goals
      go_ret2
      exact Reads1.no _ _ (R1.out.alloc _) (K1.out.alloc _) rfl

set_option maxHeartbeats 1000000 in
theorem small_any (b : Nat) (t : ByteArray) (w : World) (h : Rd w b t) (hs : t.size ≤ 1048600) (hsm : Sml t.data.toList) :
    Calls Tryd.prog 42 #[.pointer (some ⟨b, 0, none⟩)] w (Reads1 b (rsmall t.data.toList) w) := by
  have hc := h.cell
  obtain ⟨D, HD⟩ : ∃ D, Hid (dgs 10 t.data.toList = D) := ⟨_, Lib.hid rfl⟩
  obtain ⟨m, HM⟩ : ∃ m, Hid (m = D.length) := ⟨_, Lib.hid rfl⟩
  obtain ⟨n, HN⟩ : ∃ n, Hid (n = fol 10 D) := ⟨_, Lib.hid rfl⟩
  have HC : Hid (Calls Tryd.prog 36 #[.pointer (some ⟨b, 0, none⟩), .int .i64 10] w fun e w' => e = .returned (.tuple #[.int .i64 (n : Int), .int .i64 (m : Int)]) ∧ Rd w' b (asB (t.data.toList.dropWhile (dig 10))) ∧ Kp (Only b) w w') := Lib.hid (by
    have := digits_any b 10 t w h hs (by omega) hsm
    rw [HD.out, ← HM.out, ← HN.out] at this; exact this)
  obtain ⟨p, HP⟩ : ∃ p, Hid (Lib.hasPrefix t.data.toList [48] = p) := ⟨_, Lib.hid rfl⟩
  have HHP : Hid (∀ w, Calls Tryd.prog 55 #[.string t, .string ⟨#[48]⟩] w fun e w' => e = .returned (.bool p) ∧ w = w') := Lib.hid (fun w => (Tryd.strings_HasPrefix t ⟨#[48]⟩ w).mono fun e w' ⟨he, hw⟩ => ⟨by rw [he, ← HP.out], hw.symm⟩)
  have HP2 : Hid (p = true ↔ t.data.toList.head? = some 48) := Lib.hid (by
    rw [← HP.out]
    cases t.data.toList with
    | nil => simp [Lib.hasPrefix, List.isPrefixOf]
    | cons c l =>
      by_cases hc : c = 48
      · subst hc; simp [Lib.hasPrefix, List.isPrefixOf]
      · simp [Lib.hasPrefix, List.isPrefixOf, hc, Ne.symm hc])
  have HR : Hid (rsmall t.data.toList = if (p = true ∧ 1 < m) ∨ 255 < n then none else if m = 0 then none else some ([n], t.data.toList.dropWhile (dig 10))) := Lib.hid (by
    rw [rsmall, HD.out, ← HM.out, ← HN.out]
    have e1 : (t.data.toList.head? = some 48 ∧ 1 < m) ↔ (p = true ∧ 1 < m) := by rw [HP2.out]
    have e2 : D = [] ↔ m = 0 := by rw [HM.out]; exact List.length_eq_zero_iff.symm
    simp only [e1, e2])
  rw [HR.out]
  clear HR HP2
  by_cases h1 : p = true ∧ 1 < m
  · rw [if_pos (.inl h1)]
    obtain ⟨rfl, h1⟩ := h1
    go_enter Tryd.func42, Tryd.ntmps42
    go_wp2_with fail
    refine (HHP.out _).mono ?_
    rintro e w0 ⟨rfl, rfl⟩
    go_wp2_with fail
    refine HC.out.mono ?_
    rintro e w1 ⟨rfl, r1, k1⟩
    have R1 := Lib.hid r1; have K1 := Lib.hid k1; clear r1 k1
    go_wp2
    go_ret2
    exact Reads1.no _ _ R1.out K1.out rfl
  · by_cases h2 : 255 < n
    · rw [if_pos (.inr h2)]
      cases p
      · clear h1
        go_enter Tryd.func42, Tryd.ntmps42
        go_wp2_with fail
        refine (HHP.out _).mono ?_
        rintro e w0 ⟨rfl, rfl⟩
        go_wp2_with fail
        refine HC.out.mono ?_
        rintro e w1 ⟨rfl, r1, k1⟩
        have R1 := Lib.hid r1; have K1 := Lib.hid k1; clear r1 k1
        go_wp2
        go_ret2
        exact Reads1.no _ _ R1.out K1.out rfl
      · have h1' : ¬ 1 < m := fun h => h1 ⟨rfl, h⟩
        clear h1
        go_enter Tryd.func42, Tryd.ntmps42
        go_wp2_with fail
        refine (HHP.out _).mono ?_
        rintro e w0 ⟨rfl, rfl⟩
        go_wp2_with fail
        refine HC.out.mono ?_
        rintro e w1 ⟨rfl, r1, k1⟩
        have R1 := Lib.hid r1; have K1 := Lib.hid k1; clear r1 k1
        go_wp2
        all_goals
          go_ret2
          exact Reads1.no _ _ R1.out K1.out rfl
    · rw [if_neg (by rintro (h | h); exact h1 h; exact h2 h)]
      have h2' : n ≤ 255 := by omega
      have hpm : Hid (p = true → m ≤ 1) := Lib.hid (fun h => Nat.le_of_not_lt fun hm => h1 ⟨h, hm⟩)
      clear h1 h2
      by_cases h3 : m = 0
      · rw [if_pos h3]
        have h3' : m ≤ 0 := by omega
        have hd0 : decide (0 < m) = false := by simp; omega
        have hd1 : decide ((0 : Int) < (m : Int)) = false := by simp; omega
        clear h3
        cases p <;> (have hp := hpm.out; clear hpm) <;>
        · try (have hp' := hp rfl)
          clear hp
          go_enter Tryd.func42, Tryd.ntmps42
          go_wp2_with fail
          refine (HHP.out _).mono ?_
          rintro e w0 ⟨rfl, rfl⟩
          go_wp2_with fail
          refine HC.out.mono ?_
          rintro e w1 ⟨rfl, r1, k1⟩
          have R1 := Lib.hid r1; have K1 := Lib.hid k1; clear r1 k1
          go_wp2
          all_goals
            go_ret2
            exact Reads1.no _ _ (R1.out.alloc _) (K1.out.alloc _) rfl
      · rw [if_neg h3]
        have h3' : 0 < m := by omega
        clear h3
        cases p <;> (have hp := hpm.out; clear hpm) <;>
        · try (have hp' := hp rfl)
          clear hp
          go_enter Tryd.func42, Tryd.ntmps42
          go_wp2_with fail
          refine (HHP.out _).mono ?_
          rintro e w0 ⟨rfl, rfl⟩
          go_wp2_with fail
          refine HC.out.mono ?_
          rintro e w1 ⟨rfl, r1, k1⟩
          have R1 := Lib.hid r1; have K1 := Lib.hid k1; clear r1 k1
          go_wp2
          all_goals
            go_ret2
            exact Reads1.yes _ (R1.out.alloc _) (K1.out.alloc _) (nums_one w w1 _ b K1.out) rfl

end Go.Proofs.YtgmjfnddeogfdabDoor
