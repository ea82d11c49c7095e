/-
  Ways to read: part, decimal, piece, small as function values; contract: the reader's four.
-/
import Derived.Test.YtgmjfnddeogfdabDoorRdE
import Derived.Laws.Bits64b
import Derived.Shelf.Abstract
namespace Go.Proofs.YtgmjfnddeogfdabDoor
open Go.RowKit

theorem dgs_split (b : Nat) (l : List UInt8) : l = dgs b l ++ l.dropWhile (dig b) := (List.takeWhile_append_dropWhile (p := dig b) (l := l)).symm
theorem rdec_suf {l : List UInt8} {ns : List Nat} {u : List UInt8} (h : rdec l = some (ns, u)) : (∃ p, l = p ++ u ∧ p ≠ []) ∧ ns.length = 1 := by
  unfold rdec at h
  split at h
  · cases h
  · rename_i hne
    injection h with h; injection h with h1 h2
    subst h1; subst h2
    exact ⟨⟨_, dgs_split 10 l, hne⟩, rfl⟩
theorem rpiece_suf {l : List UInt8} {ns : List Nat} {u : List UInt8} (h : rpiece l = some (ns, u)) : (∃ p, l = p ++ u ∧ p ≠ []) ∧ ns.length = 1 := by
  unfold rpiece at h
  split at h
  · rename_i hl
    injection h with h; injection h with h1 h2
    subst h1; subst h2
    exact ⟨⟨_, dgs_split 16 l, by intro h0; rw [h0] at hl; simp at hl⟩, rfl⟩
  · cases h
theorem rsmall_suf {l : List UInt8} {ns : List Nat} {u : List UInt8} (h : rsmall l = some (ns, u)) : (∃ p, l = p ++ u ∧ p ≠ []) ∧ ns.length = 1 ∧ ∀ n ∈ ns, n ≤ 255 := by
  unfold rsmall at h
  split at h
  · cases h
  · rename_i h3
    split at h
    · cases h
    · rename_i hne
      injection h with h; injection h with h1 h2
      subst h1; subst h2
      refine ⟨⟨_, dgs_split 10 l, hne⟩, rfl, fun n hn => ?_⟩
      rw [List.mem_singleton.1 hn]
      exact Nat.le_of_not_lt fun h => h3 (.inr h)
theorem rpart_suf {l : List UInt8} {ns : List Nat} {u : List UInt8} (h : rpart l = some (ns, u)) : (∃ p, l = p ++ u ∧ p ≠ []) ∧ ns.length = 1 := by
  unfold rpart at h
  split at h
  · rename_i hp
    obtain ⟨r, rfl⟩ := List.isPrefixOf_iff_prefix.1 hp
    injection h with h; injection h with h1 h2
    subst h1; subst h2
    refine ⟨⟨[48, 120] ++ dgs 16 r, ?_, by simp⟩, rfl⟩
    show [48, 120] ++ r = [48, 120] ++ dgs 16 r ++ r.dropWhile (dig 16)
    rw [List.append_assoc, ← dgs_split]
  · split at h
    · rename_i hp
      obtain ⟨r, rfl⟩ := List.isPrefixOf_iff_prefix.1 hp
      injection h with h; injection h with h1 h2
      subst h1; subst h2
      refine ⟨⟨[48] ++ dgs 8 r, ?_, by simp⟩, rfl⟩
      show [48] ++ r = [48] ++ dgs 8 r ++ r.dropWhile (dig 8)
      rw [List.append_assoc, ← dgs_split]
    · exact rdec_suf h

theorem Way.later {b : Nat} {F : FuncId} {first caps : Array Value} {o : List UInt8 → Option (List Nat × List UInt8)} {W0 W1 : World} (h : Way b F first caps o W0) (k : Kp (Only b) W0 W1) : Way b F first caps o W1 :=
  ⟨h.ent, fun w t hk => h.go w t (k.trans hk), h.suf, h.num⟩
theorem way_part (b : Nat) (W : World) : Way b 22 #[.pointer (some ⟨b, 0, none⟩)] #[] rpart W :=
  ⟨enters_of Tryd.func22 (by kernel_rfl) rfl, fun w t _ h hs hsm => part_any b t w h hs hsm, fun l ns u h => (rpart_suf h).1, fun l ns u h => by rw [(rpart_suf h).2]; exact ⟨Nat.le_refl _, by omega⟩⟩
theorem way_decimal (b : Nat) (W : World) : Way b 35 #[.pointer (some ⟨b, 0, none⟩)] #[] rdec W :=
  ⟨enters_of Tryd.func35 (by kernel_rfl) rfl, fun w t _ h hs hsm => decimal_any b t w h hs hsm, fun l ns u h => (rdec_suf h).1, fun l ns u h => by rw [(rdec_suf h).2]; exact ⟨Nat.le_refl _, by omega⟩⟩
theorem way_piece (b : Nat) (W : World) : Way b 28 #[.pointer (some ⟨b, 0, none⟩)] #[] rpiece W :=
  ⟨enters_of Tryd.func28 (by kernel_rfl) rfl, fun w t _ h hs hsm => piece_any b t w h hs hsm, fun l ns u h => (rpiece_suf h).1, fun l ns u h => by rw [(rpiece_suf h).2]; exact ⟨Nat.le_refl _, by omega⟩⟩
theorem way_small (b : Nat) (W : World) : Way b 42 #[.pointer (some ⟨b, 0, none⟩)] #[] rsmall W :=
  ⟨enters_of Tryd.func42 (by kernel_rfl) rfl, fun w t _ h hs hsm => small_any b t w h hs hsm, fun l ns u h => (rsmall_suf h).1, fun l ns u h => by rw [(rsmall_suf h).2.1]; exact ⟨Nat.le_refl _, by omega⟩⟩

theorem row_small_le (most : Nat) : ∀ (f : Nat) (out : List Nat) (l : List UInt8), (∀ n ∈ out, n ≤ 255) → ∀ n ∈ (rowG rsmall 46 most f out l).1, n ≤ 255
  | 0, out, l, h => h
  | f + 1, out, l, h => by
    rw [rowG]
    split
    · exact h
    · split
      · exact h
      · rename_i ns r h2
        split
        · exact h
        · exact row_small_le most f _ r fun n hn => by
            rcases List.mem_append.1 hn with hn | hn
            · exact h n hn
            · exact (rsmall_suf h2).2.2 n hn
theorem or_byte (a b : Nat) (ha : a < 1099511627776) (hb : b < 256) : bits .or .i64 ((a : Int) * 256) (b : Int) = ((256 * a + b : Nat) : Int) := by
  have h0 : a * 256 ||| b = a * 256 + b := by
    have := Nat.two_pow_add_eq_or_of_lt (i := 8) (b := b) (by omega) a
    rw [Nat.mul_comm a 256]; exact this.symm
  have h1 : (BitVec.ofInt 64 ((a : Int) * 256)).toNat = a * 256 := by
    rw [show (a : Int) * 256 = ((a * 256 : Nat) : Int) by simp, BitVec.ofInt_natCast, BitVec.toNat_ofNat]; exact Nat.mod_eq_of_lt (by omega)
  have h2 : (BitVec.ofInt 64 (b : Int)).toNat = b := by
    rw [BitVec.ofInt_natCast, BitVec.toNat_ofNat]; exact Nat.mod_eq_of_lt (by omega)
  show IntKind.i64.wrap ((BitVec.ofInt 64 ((a : Int) * 256) ||| BitVec.ofInt 64 (b : Int)).toNat : Int) = _
  rw [BitVec.toNat_or, h1, h2, h0]
  rw [show ((256 * a + b : Nat) : Int) = ((a * 256 + b : Nat) : Int) by rw [Nat.mul_comm]]
  exact IntWalk.i64_in _ (by omega)

set_option maxRecDepth 100000 in
set_option maxHeartbeats 2000000 in
theorem four_any (b : Nat) (t : ByteArray) (w : World) (h : Rd w b t) (hs : t.size ≤ 1048600) (hsm : Sml t.data.toList) :
    Calls Tryd.prog 27 #[.pointer (some ⟨b, 0, none⟩)] w (Reads1 b (rfour t.data.toList) w) := by
  obtain ⟨R, HR⟩ : ∃ R, Hid (rowG rsmall 46 4 (t.size + 2) [] t.data.toList = R) := ⟨_, Lib.hid rfl⟩
  have HC : Hid (Calls Tryd.prog 21 #[.pointer (some ⟨b, 0, none⟩), .func (.func 42) #[.pointer (some ⟨b, 0, none⟩)] #[], .string ⟨#[46]⟩, .int .i64 4] w (RowPost b R w)) := Lib.hid (by
    have := row_any b _ _ _ rsmall 46 4 t w (way_small b w) h hs hsm (by omega)
    rw [HR.out] at this; exact this)
  have HF : Hid (rfour t.data.toList = if R.2 = [] then match two4 R.1 with | some ns => some (ns, []) | none => none else none) := Lib.hid (by rw [rfour, lenB, HR.out]; rfl)
  have HLe : Hid (∀ n ∈ R.1, n ≤ 255) := Lib.hid (by rw [← HR.out]; exact row_small_le 4 _ _ _ (by simp))
  have hmf := mkfK
  have Hh := Lib.hid h
  rw [HF.out]
  obtain ⟨A, B⟩ := R
  clear HR h hsm
  by_cases h4 : A.length = 4
  · obtain ⟨n0, n1, n2, n3, rfl⟩ : ∃ n0 n1 n2 n3, A = [n0, n1, n2, n3] := by
      match A, h4 with
      | [a, b, c, d], _ => exact ⟨a, b, c, d, rfl⟩
    clear h4
    have l0 : n0 ≤ 255 := HLe.out _ (by simp)
    have l1 : n1 ≤ 255 := HLe.out _ (by simp)
    have l2 : n2 ≤ 255 := HLe.out _ (by simp)
    have l3 : n3 ≤ 255 := HLe.out _ (by simp)
    cases B with
    | cons x B =>
      rw [if_neg (by simp)]
      have hem : (asB (x :: B)).toList.isEmpty = false := by rw [ByteArray.toList_eq]; rfl
      go_enter Tryd.func27, Tryd.ntmps27
      go_wp2_with fail
      refine HC.out.mono ?_
      rintro e w1 ⟨v, rfl, own1, r1, k1⟩
      obtain ⟨a, cap, rfl, hob⟩ := slice_own own1
      have hc1 := r1.cell
      have R1 := Lib.hid r1; have K1 := Lib.hid k1
      clear own1 hob r1 k1
      go_wp2
      go_ret2
      exact Reads1.no _ _ R1.out K1.out rfl
    | nil =>
      rw [if_pos rfl]
      change Calls _ _ _ _ (Reads1 b (some ([256 * n0 + n1, 256 * n2 + n3], [])) w)
      have o1 := Lib.hid (or_byte n0 n1 (by omega) (by omega))
      have o2 := Lib.hid (or_byte n2 n3 (by omega) (by omega))
      have hem : (asB []).toList.isEmpty = true := by rw [ByteArray.toList_eq]; rfl
      go_enter Tryd.func27, Tryd.ntmps27
      go_wp2_with fail
      refine HC.out.mono ?_
      rintro e w1 ⟨v, rfl, own1, r1, k1⟩
      have hc1 := r1.cell
      have R1 := Lib.hid r1; have K1 := Lib.hid k1
      clear r1 k1
      rcases own1.2 with ⟨_, h0⟩ | ⟨g, cap, cur, rfl, hg, hrest⟩
      · simp at h0
      have hcs := own1.cellAt
      have c0 : w1.cell? ⟨g, 0, none⟩ = some (.int .i64 n0) := hcs 0 (by simp)
      have c1 : w1.cell? ⟨g, 1, none⟩ = some (.int .i64 n1) := hcs 1 (by simp)
      have c2 : w1.cell? ⟨g, 2, none⟩ = some (.int .i64 n2) := hcs 2 (by simp)
      have c3 : w1.cell? ⟨g, 3, none⟩ = some (.int .i64 n3) := hcs 3 (by simp)
      clear hcs own1 hrest
      go_wp2
      go_region
      all_goals
        go_wp2
        go_ret2
        refine Reads1.yes _ ?_ ?_ ⟨_, K1.out.size, rfl, ?_⟩ rfl
        · exact R1.out.alloc _
        · exact (K1.out.alloc _).drew
        · show _ = some (Obj.cells #[.int .i64 ((256 * n0 + n1 : Nat) : Int), .int .i64 ((256 * n2 + n3 : Nat) : Int)] 3 (0, 0))
          rw [← o1.out, ← o2.out]
          exact heap_alloc_new w1 _
  · have hn : two4 A = none := by
      match A, h4 with
      | [], _ => rfl
      | [_], _ => rfl
      | [_, _], _ => rfl
      | [_, _, _], _ => rfl
      | [_, _, _, _], h4 => simp at h4
      | _ :: _ :: _ :: _ :: _ :: _, _ => rfl
    have HN : Hid ((if (A, B).2 = [] then match two4 (A, B).1 with | some ns => some (ns, []) | none => none else none) = (none : Option (List Nat × List UInt8))) := Lib.hid (by
      simp only [hn]; split <;> rfl)
    rw [HN.out]
    obtain ⟨m, HM⟩ : ∃ m, Hid (m = A.length) := ⟨_, Lib.hid rfl⟩
    have h4I : ((m : Int) == 4) = false := beq_eq_false_iff_ne.2 (by rw [HM.out]; omega)
    have h4J : ((m : Int) != 4) = true := by simp [bne, h4I]
    clear hn h4
    go_enter Tryd.func27, Tryd.ntmps27
    go_wp2_with fail
    refine HC.out.mono ?_
    rintro e w1 ⟨v, rfl, own1, r1, k1⟩
    obtain ⟨a, cap, rfl, hob⟩ := slice_own own1
    have hc1 := r1.cell
    have R1 := Lib.hid r1; have K1 := Lib.hid k1
    clear own1 hob r1 k1
    simp only
    rw [← HM.out]
    go_wp2
    all_goals
      go_ret2
      exact Reads1.no _ _ R1.out K1.out rfl

end Go.Proofs.YtgmjfnddeogfdabDoor
