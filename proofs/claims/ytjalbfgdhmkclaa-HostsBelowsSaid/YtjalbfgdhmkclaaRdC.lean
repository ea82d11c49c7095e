/-
  Contracts: what the reader reads: part, decimal, piece, small.
-/
import Derived.Test.YtjalbfgdhmkclaaRdB
namespace Go.Proofs.Ytjalbfgdhmkclaa
open Go.RowKit

/-- A slice of just these ints, in a block of its own. -/
def NumsAt (w : World) (base : Nat) (v : Value) (ns : List Nat) : Prop := ∃ g, base ≤ g ∧ v = .slice (some ⟨g, 0, none⟩) ns.length ns.length ∧ w.heap[g]? = some (.cells (ns.map k_iv).toArray 3 (0, 0))
/-- What a way to read leaves: the numbers and the rest, or whatever, and some rest. -/
def Reads1 (b : Nat) (o : Option (List Nat × List UInt8)) (w : World) (e : Ending) (w' : World) : Prop :=
  ∃ (v : Value) (r : ByteArray), Rd w' b r ∧ Kp (Only b) w w' ∧ (∀ ns u, o = some (ns, u) → e = .returned (.tuple #[v, .bool true]) ∧ NumsAt w' w.heap.size v ns ∧ r = asB u) ∧ (o = none → e = .returned (.tuple #[v, .bool false]))
theorem Reads1.yes {b : Nat} {ns : List Nat} {u : List UInt8} {w w' : World} {e : Ending} (v : Value) (h1 : Rd w' b (asB u)) (h2 : Kp (Only b) w w') (h3 : NumsAt w' w.heap.size v ns) (he : e = .returned (.tuple #[v, .bool true])) : Reads1 b (some (ns, u)) w e w' :=
  ⟨v, asB u, h1, h2, (fun ns' u' h => by injection h with h; injection h with h4 h5; subst h4; subst h5; exact ⟨he, h3, rfl⟩), (fun h => by cases h)⟩
theorem Reads1.no {b : Nat} {w w' : World} {e : Ending} (v : Value) (r : ByteArray) (h1 : Rd w' b r) (h2 : Kp (Only b) w w') (he : e = .returned (.tuple #[v, .bool false])) : Reads1 b none w e w' :=
  ⟨v, r, h1, h2, (fun ns' u' h => by cases h), (fun _ => he)⟩
theorem nums_one (w w1 : World) (n : Nat) (b : Nat) (k : Kp (Only b) w w1) : NumsAt (w1.alloc (.cells #[.int .i64 (n : Int)] 3)) w.heap.size (.slice (some ⟨w1.heap.size, 0, none⟩) 1 1) [n] :=
  ⟨_, k.size, rfl, heap_alloc_new w1 _⟩

set_option maxHeartbeats 1000000 in
theorem decimal_any (b : Nat) (t : ByteArray) (w : World) (h : Rd w b t) (hs : t.size ≤ 1048600) (hsm : Sml t.data.toList) :
    Calls Try.prog 28 #[.pointer (some ⟨b, 0, none⟩)] w (Reads1 b (rdec t.data.toList) w) := by
  obtain ⟨D, HD⟩ : ∃ D, Hid (dgs 10 t.data.toList = D) := ⟨_, Lib.hid rfl⟩
  have HC : Hid (Calls Try.prog 30 #[.pointer (some ⟨b, 0, none⟩), .int .i64 10] w fun e w' => e = .returned (.tuple #[.int .i64 (fol 10 D), .int .i64 (D.length : Int)]) ∧ Rd w' b (asB (t.data.toList.dropWhile (dig 10))) ∧ Kp (Only b) w w') := Lib.hid (by
    have := rd_digits_any b 10 t w h hs (by omega) hsm
    rw [HD.out] at this; exact this)
  by_cases hD : D = []
  · have HR : Hid (rdec t.data.toList = none) := Lib.hid (by rw [rdec, HD.out, if_pos hD])
    have h0 : D.length = 0 := by rw [hD]; rfl
    rw [HR.out]
    clear hD
    have hc0 : decide ((0 : Int) < (D.length : Int)) = false := by simp [h0]
    go_enter Try.func28, Try.ntmps28
    go_wp2_with fail
    refine HC.out.mono ?_
    rintro e w1 ⟨rfl, r1, k1⟩
    have R1 := Lib.hid r1; have K1 := Lib.hid k1; clear r1 k1
    go_wp2
    go_ret2
    exact Reads1.no _ _ (R1.out.alloc _) (K1.out.alloc _) rfl
  · have HR : Hid (rdec t.data.toList = some ([fol 10 D], t.data.toList.dropWhile (dig 10))) := Lib.hid (by rw [rdec, HD.out, if_neg hD])
    have h0 : 0 < D.length := List.length_pos_iff.2 hD
    rw [HR.out]
    clear hD
    go_enter Try.func28, Try.ntmps28
    go_wp2_with fail
    refine HC.out.mono ?_
    rintro e w1 ⟨rfl, r1, k1⟩
    have R1 := Lib.hid r1; have K1 := Lib.hid k1; clear r1 k1
    go_wp2
    go_ret2
    exact Reads1.yes _ (R1.out.alloc _) (K1.out.alloc _) (nums_one w w1 _ b K1.out) rfl

end Go.Proofs.Ytjalbfgdhmkclaa
