/-
  Ways to read: part, decimal, piece, small as function values; contract: the reader's four.
-/
import Derived.Test.YtjalbfgdhmkclaaRdE
import Derived.Laws.Bits64b
import Derived.Shelf.Abstract
namespace Go.Proofs.Ytjalbfgdhmkclaa
open Go.RowKit

theorem dgs_split (b : Nat) (l : List UInt8) : l = dgs b l ++ l.dropWhile (dig b) := (List.takeWhile_append_dropWhile (p := dig b) (l := l)).symm
theorem rdec_suf {l : List UInt8} {ns : List Nat} {u : List UInt8} (h : rdec l = some (ns, u)) : (∃ p, l = p ++ u ∧ p ≠ []) ∧ ns.length = 1 := by
  unfold rdec at h
  split at h
  · cases h
  · rename_i hne
    injection h with h; injection h with h1 h2
    subst h1; subst h2
    exact ⟨⟨_, dgs_split 10 l, hne⟩, rfl⟩
theorem rpiece_suf {l : List UInt8} {ns : List Nat} {u : List UInt8} (h : rpiece l = some (ns, u)) : (∃ p, l = p ++ u ∧ p ≠ []) ∧ ns.length = 1 := by
  unfold rpiece at h
  split at h
  · rename_i hl
    injection h with h; injection h with h1 h2
    subst h1; subst h2
    exact ⟨⟨_, dgs_split 16 l, by intro h0; rw [h0] at hl; simp at hl⟩, rfl⟩
  · cases h
theorem rsmall_suf {l : List UInt8} {ns : List Nat} {u : List UInt8} (h : rsmall l = some (ns, u)) : (∃ p, l = p ++ u ∧ p ≠ []) ∧ ns.length = 1 ∧ ∀ n ∈ ns, n ≤ 255 := by
  unfold rsmall at h
  split at h
  · cases h
  · rename_i h3
    split at h
    · cases h
    · rename_i hne
      injection h with h; injection h with h1 h2
      subst h1; subst h2
      refine ⟨⟨_, dgs_split 10 l, hne⟩, rfl, fun n hn => ?_⟩
      rw [List.mem_singleton.1 hn]
      exact Nat.le_of_not_lt fun h => h3 (.inr h)
theorem rpart_suf {l : List UInt8} {ns : List Nat} {u : List UInt8} (h : rpart l = some (ns, u)) : (∃ p, l = p ++ u ∧ p ≠ []) ∧ ns.length = 1 := by
  unfold rpart at h
  split at h
  · rename_i hp
    obtain ⟨r, rfl⟩ := List.isPrefixOf_iff_prefix.1 hp
    injection h with h; injection h with h1 h2
    subst h1; subst h2
    refine ⟨⟨[48, 120] ++ dgs 16 r, ?_, by simp⟩, rfl⟩
    show [48, 120] ++ r = [48, 120] ++ dgs 16 r ++ r.dropWhile (dig 16)
    rw [List.append_assoc, ← dgs_split]
  · split at h
    · rename_i hp
      obtain ⟨r, rfl⟩ := List.isPrefixOf_iff_prefix.1 hp
      injection h with h; injection h with h1 h2
      subst h1; subst h2
      refine ⟨⟨[48] ++ dgs 8 r, ?_, by simp⟩, rfl⟩
      show [48] ++ r = [48] ++ dgs 8 r ++ r.dropWhile (dig 8)
      rw [List.append_assoc, ← dgs_split]
    · exact rdec_suf h

theorem Way.later {b : Nat} {F : FuncId} {first caps : Array Value} {o : List UInt8 → Option (List Nat × List UInt8)} {W0 W1 : World} (h : Way b F first caps o W0) (k : Kp (Only b) W0 W1) : Way b F first caps o W1 :=
  ⟨h.ent, fun w t hk => h.go w t (k.trans hk), h.suf, h.num⟩
theorem way_part (b : Nat) (W : World) : Way b 18 #[.pointer (some ⟨b, 0, none⟩)] #[] rpart W :=
  ⟨enters_of Try.func18 (by kernel_rfl) rfl, fun w t _ h hs hsm => part_any b t w h hs hsm, fun l ns u h => (rpart_suf h).1, fun l ns u h => by rw [(rpart_suf h).2]; exact ⟨Nat.le_refl _, by omega⟩⟩
theorem way_decimal (b : Nat) (W : World) : Way b 28 #[.pointer (some ⟨b, 0, none⟩)] #[] rdec W :=
  ⟨enters_of Try.func28 (by kernel_rfl) rfl, fun w t _ h hs hsm => decimal_any b t w h hs hsm, fun l ns u h => (rdec_suf h).1, fun l ns u h => by rw [(rdec_suf h).2]; exact ⟨Nat.le_refl _, by omega⟩⟩
theorem row_small_le (most : Nat) : ∀ (f : Nat) (out : List Nat) (l : List UInt8), (∀ n ∈ out, n ≤ 255) → ∀ n ∈ (rowG rsmall 46 most f out l).1, n ≤ 255
  | 0, out, l, h => h
  | f + 1, out, l, h => by
    rw [rowG]
    split
    · exact h
    · split
      · exact h
      · rename_i ns r h2
        split
        · exact h
        · exact row_small_le most f _ r fun n hn => by
            rcases List.mem_append.1 hn with hn | hn
            · exact h n hn
            · exact (rsmall_suf h2).2.2 n hn
theorem or_byte (a b : Nat) (ha : a < 1099511627776) (hb : b < 256) : bits .or .i64 ((a : Int) * 256) (b : Int) = ((256 * a + b : Nat) : Int) := by
  have h0 : a * 256 ||| b = a * 256 + b := by
    have := Nat.two_pow_add_eq_or_of_lt (i := 8) (b := b) (by omega) a
    rw [Nat.mul_comm a 256]; exact this.symm
  have h1 : (BitVec.ofInt 64 ((a : Int) * 256)).toNat = a * 256 := by
    rw [show (a : Int) * 256 = ((a * 256 : Nat) : Int) by simp, BitVec.ofInt_natCast, BitVec.toNat_ofNat]; exact Nat.mod_eq_of_lt (by omega)
  have h2 : (BitVec.ofInt 64 (b : Int)).toNat = b := by
    rw [BitVec.ofInt_natCast, BitVec.toNat_ofNat]; exact Nat.mod_eq_of_lt (by omega)
  show IntKind.i64.wrap ((BitVec.ofInt 64 ((a : Int) * 256) ||| BitVec.ofInt 64 (b : Int)).toNat : Int) = _
  rw [BitVec.toNat_or, h1, h2, h0]
  rw [show ((256 * a + b : Nat) : Int) = ((a * 256 + b : Nat) : Int) by rw [Nat.mul_comm]]
  exact IntWalk.i64_in _ (by omega)

end Go.Proofs.Ytjalbfgdhmkclaa
