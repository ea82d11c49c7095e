/-
  Contracts: the document's among, Has.
-/
import Derived.Test.YtamcdpgjgpohpaaBase
import Derived.Test.YtamcdpgjgpohpaaPcM
namespace Go.Proofs.Ytamcdpgjgpohpaa
open Go.RowKit

def amongB (l : List Nat) (c : Nat) : Bool := decide (c ∈ l)
theorem natsR_take (s : ByteArray) (k : Nat) (h : k < s.size) : (s.data.toList.map UInt8.toNat).take (k + 1) = (s.data.toList.map UInt8.toNat).take k ++ [s[k].toNat] := by
  rw [← List.map_take, ← List.map_take, take_snoc s k h, List.map_append]; rfl

set_option maxRecDepth 100000 in
set_option maxHeartbeats 400000 in
theorem among_any (s : ByteArray) (c : Nat) (w : World) (hs : s.size ≤ 100) :
    Calls Try.prog 20 #[.string s, .int .u8 c] w fun e w' => e = .returned (.bool (amongB (s.data.toList.map UInt8.toNat) c)) ∧ w = w' := by
  go_enter Try.func20, Try.ntmps20
  go_wp2
  go_loop [5] (fun i => ∃ k : Nat, k ≤ s.size ∧ i = .int .i64 k ∧ Hid (c ∉ (s.data.toList.map UInt8.toNat).take k)) (fun i => s.size - (intOf i).toNat)
  case atStart => exact ⟨0, Nat.zero_le _, rfl, Lib.hid (by simp)⟩
  case round =>
    obtain ⟨k, hk, rfl, HN⟩ := hrel
    by_cases hlt : k < s.size
    · have hby := byte_lt s[k]
      have HT := Lib.hid (natsR_take s k hlt)
      by_cases he : s[k].toNat = c
      · have HR : Hid (amongB (s.data.toList.map UInt8.toNat) c = true) := Lib.hid (by
          unfold amongB
          refine decide_eq_true ?_
          refine List.mem_of_mem_take (i := k + 1) ?_
          rw [HT.out, he]; simp)
        have heI : ((s[k].toNat : Int) == (c : Int)) = true := by rw [he]; simp
        clear he
        go_wp2
        go_ret
        exact ⟨ret_bool HR.out.symm, rfl⟩
      · have heI : ((s[k].toNat : Int) == (c : Int)) = false := beq_eq_false_iff_ne.2 (by omega)
        have HN' : Hid (c ∉ (s.data.toList.map UInt8.toNat).take (k + 1)) := Lib.hid (by
          rw [HT.out]; simp only [List.mem_append, List.mem_singleton, not_or]; exact ⟨HN.out, fun h => he h.symm⟩)
        clear he
        go_wp2
        go_round
        case rel => exact ⟨k + 1, by omega, by go_num, HN'⟩
        case measure => simp [intOf]; omega
    · have HR : Hid (amongB (s.data.toList.map UInt8.toNat) c = false) := Lib.hid (by
        unfold amongB
        refine decide_eq_false ?_
        have h := HN.out
        rwa [List.take_of_length_le (by simp; omega)] at h)
      go_wp2
      go_ret
      exact ⟨ret_bool HR.out.symm, rfl⟩

set_option maxRecDepth 100000 in
set_option maxHeartbeats 1000000 in
theorem RefHas_any (set c : Nat) (w : World) (hset : set < 256) (hc : c < 256) :
    Calls Try.prog 12 #[.int .u8 set, .int .u8 c] w fun e w' => e = .returned (.bool (hasB set c)) ∧ w = w' := by
  by_cases h0 : set = 0
  · have HR : Hid (hasB set c = false) := Lib.hid (hasB_none set c (.inl h0))
    subst h0
    go_enter Try.func12, Try.ntmps12
    go_wp2
    go_ret
    exact ⟨ret_bool HR.out.symm, rfl⟩
  by_cases h6 : 5 < set
  · have HR : Hid (hasB set c = false) := Lib.hid (hasB_none set c (.inr h6))
    have g0 : ((set : Int) == 0) = false := beq_eq_false_iff_ne.2 (by omega)
    clear h0
    go_enter Try.func12, Try.ntmps12
    go_wp2
    go_ret
    exact ⟨ret_bool HR.out.symm, rfl⟩
  have HE := Lib.hid (hasB_eq set c (by omega) (by omega) hc)
  have g0 : ((set : Int) == 0) = false := beq_eq_false_iff_ne.2 (by omega)
  have g6 : set ≤ 5 := by omega
  by_cases c1 : c < 32
  · have HR : Hid (hasB set c = true) := Lib.hid (by rw [HE.out]; simp [c1])
    clear h0 h6
    go_enter Try.func12, Try.ntmps12
    go_wp2
    go_ret
    exact ⟨ret_bool HR.out.symm, rfl⟩
  by_cases c2 : 126 < c
  · have HR : Hid (hasB set c = true) := Lib.hid (by rw [HE.out]; simp [c2])
    clear h0 h6
    go_enter Try.func12, Try.ntmps12
    go_wp2
    go_ret
    exact ⟨ret_bool HR.out.symm, rfl⟩
  have c1' : 32 ≤ c := by omega
  have c2' : c ≤ 126 := by omega
  have HF : Hid (hasB set c = (if set = 2 then decide (c ∈ [32, 34, 60, 62, 96]) else if set = 3 then decide (c ∈ [32, 34, 35, 60, 62, 39]) else if set = 4 then decide (c ∈ [32, 34, 35, 60, 62, 63, 94, 123, 125, 96]) else if set = 5 then decide (c ∈ [32, 34, 35, 60, 62, 63, 94, 123, 125, 96, 47, 58, 59, 61, 64, 91, 92, 93, 124]) else false)) := Lib.hid (by
    rw [HE.out, decide_eq_false c1, decide_eq_false c2]; rfl)
  clear c1 c2 HE
  by_cases e2 : set = 2
  · subst e2
    clear h0 h6 g0 g6
    have HR : Hid (hasB 2 c = amongB (({ data := #[32, 34, 60, 62, 96] } : ByteArray).data.toList.map UInt8.toNat) c) := Lib.hid HF.out
    go_enter Try.func12, Try.ntmps12
    go_wp2_with fail
    refine (among_any _ c _ (by decide)).mono ?_
    rw [← HR.out]
    rintro e w1 ⟨rfl, rfl⟩
    go_wp2
    go_ret
    exact ⟨rfl, rfl⟩
  by_cases e3 : set = 3
  · subst e3
    clear h0 h6 g0 g6 e2
    have HR : Hid (hasB 3 c = amongB (({ data := #[32, 34, 35, 60, 62, 39] } : ByteArray).data.toList.map UInt8.toNat) c) := Lib.hid HF.out
    go_enter Try.func12, Try.ntmps12
    go_wp2_with fail
    refine (among_any _ c _ (by decide)).mono ?_
    rw [← HR.out]
    rintro e w1 ⟨rfl, rfl⟩
    go_wp2
    go_ret
    exact ⟨rfl, rfl⟩
  by_cases e4 : set = 4
  · subst e4
    clear h0 h6 g0 g6 e2 e3
    have HR : Hid (hasB 4 c = amongB (({ data := #[32, 34, 35, 60, 62, 63, 94, 123, 125, 96] } : ByteArray).data.toList.map UInt8.toNat) c) := Lib.hid HF.out
    go_enter Try.func12, Try.ntmps12
    go_wp2_with fail
    refine (among_any _ c _ (by decide)).mono ?_
    rw [← HR.out]
    rintro e w1 ⟨rfl, rfl⟩
    go_wp2
    go_ret
    exact ⟨rfl, rfl⟩
  by_cases e5 : set = 5
  · subst e5
    clear h0 h6 g0 g6 e2 e3 e4
    have HR : Hid (hasB 5 c = amongB (({ data := #[32, 34, 35, 60, 62, 63, 94, 123, 125, 96, 47, 58, 59, 61, 64, 91, 92, 93, 124] } : ByteArray).data.toList.map UInt8.toNat) c) := Lib.hid HF.out
    go_enter Try.func12, Try.ntmps12
    go_wp2_with fail
    refine (among_any _ c _ (by decide)).mono ?_
    rw [← HR.out]
    rintro e w1 ⟨rfl, rfl⟩
    go_wp2
    go_ret
    exact ⟨rfl, rfl⟩
  obtain rfl : set = 1 := by omega
  have HR : Hid (hasB 1 c = false) := Lib.hid HF.out
  clear h0 h6 g0 g6 e2 e3 e4 e5
  go_enter Try.func12, Try.ntmps12
  go_wp2
  go_ret
  exact ⟨ret_bool HR.out.symm, rfl⟩

end Go.Proofs.Ytamcdpgjgpohpaa
