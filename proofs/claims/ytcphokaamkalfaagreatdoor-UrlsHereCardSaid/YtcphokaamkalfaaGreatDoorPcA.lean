/-
  Contracts: what adds signs to a set, the controls, members and its closure, Has.
-/
import Derived.Test.YtcphokaamkalfaaGreatDoorMaG
import Derived.Test.YtcphokaamkalfaaGreatDoorMaA
namespace Go.Proofs.YtcphokaamkalfaaGreatDoor
open Go.RowKit

theorem pc_info92 : (Tryz.prog.info? 92).map (fun i => (i.zero, i.size)) = some (some (.agg (pc_tabOf [])), 256) := by kernel_rfl

/-- The bytes of a text as numbers. -/
def natsOf (s : ByteArray) : List Nat := s.data.toList.map UInt8.toNat
theorem natsOf_len (s : ByteArray) : (natsOf s).length = s.size := by simp [natsOf]
theorem natsOf_take (s : ByteArray) (k : Nat) (h : k < s.size) : (natsOf s).take (k + 1) = (natsOf s).take k ++ [s[k].toNat] := by
  unfold natsOf
  rw [← List.map_take, ← List.map_take, take_snoc s k h, List.map_append]; rfl

set_option maxHeartbeats 400000 in
theorem pc_add_any (s : ByteArray) (l : List Nat) (w : World) (hs : s.size ≤ 100) :
    Calls Tryz.prog 119 #[.string s, .pointer (some ⟨w.heap.size, 0, none⟩)] (w.alloc (.cells (pc_tabOf l) 92)) fun e w' => e = .returned (.tuple #[]) ∧ w.alloc (.cells (pc_tabOf (l ++ natsOf s)) 92) = w' := by
  go_enter Tryz.func119, Tryz.ntmps119
  go_wp2
  go_loopw [3, 6] (fun _ i wr => ∃ k : Nat, k ≤ s.size ∧ i = .int .i64 k ∧ wr = w.alloc (.cells (pc_tabOf (l ++ (natsOf s).take k)) 92)) (fun _ i _ => s.size - (intOf i).toNat)
  case atStart => exact ⟨0, Nat.zero_le _, rfl, by simp⟩
  case round =>
    obtain ⟨k, hk, rfl, rfl⟩ := hrel
    by_cases hlt : k < s.size
    · obtain ⟨T, HT⟩ : ∃ T, Hid (T = pc_tabOf (l ++ (natsOf s).take k)) := ⟨_, Lib.hid rfl⟩
      rw [← HT.out]
      have hby := byte_lt s[k]
      obtain ⟨b, hT⟩ : ∃ b, T[s[k].toNat]? = some (.bool b) := ⟨_, by rw [HT.out]; exact pc_tabOf_at _ _ (by omega)⟩
      go_wp2
      refine ⟨⟨k + 1, by omega, by go_num, ?_⟩, by simp [intOf]; omega⟩
      rw [natsOf_take s k hlt, ← List.append_assoc, pc_tabOf_snoc, HT.out]
    · have HE : Hid ((natsOf s).take k = natsOf s) := Lib.hid (List.take_of_length_le (by rw [natsOf_len]; omega))
      rw [HE.out]
      go_wp2
      go_end0
      exact ⟨rfl, rfl⟩

set_option maxHeartbeats 1000000 in
set_option maxRecDepth 100000 in
theorem controls_any (l : List Nat) (w : World) :
    Calls Tryz.prog 120 #[.pointer (some ⟨w.heap.size, 0, none⟩)] (w.alloc (.cells (pc_tabOf l) 92)) fun e w' => e = .returned (.tuple #[]) ∧ w.alloc (.cells (pc_tabOf (l ++ ctlL 256)) 92) = w' := by
  go_enter Tryz.func120, Tryz.ntmps120
  go_wp2
  go_loopw [2, 3] (fun _ i wr => ∃ k : Nat, k ≤ 256 ∧ i = .int .i64 k ∧ wr = w.alloc (.cells (pc_tabOf (l ++ ctlL k)) 92)) (fun _ i _ => 256 - (intOf i).toNat)
  case atStart => exact ⟨0, Nat.zero_le _, rfl, by simp [ctlL]⟩
  case round =>
    obtain ⟨k, hk, rfl, rfl⟩ := hrel
    by_cases hlt : k < 256
    · obtain ⟨T, HT⟩ : ∃ T, Hid (T = pc_tabOf (l ++ ctlL k)) := ⟨_, Lib.hid rfl⟩
      rw [← HT.out]
      obtain ⟨b, hT⟩ : ∃ b, T[k]? = some (.bool b) := ⟨_, by rw [HT.out]; exact pc_tabOf_at _ _ (by omega)⟩
      by_cases h1 : k < 32
      · have HC := Lib.hid (ctlL_yes k (.inl h1))
        go_wp2
        refine ⟨⟨k + 1, by omega, by go_num, ?_⟩, by simp [intOf]; omega⟩
        rw [HC.out, ← List.append_assoc, pc_tabOf_snoc, HT.out]
      · by_cases h2 : 126 < k
        · have HC := Lib.hid (ctlL_yes k (.inr h2))
          go_wp2
          refine ⟨⟨k + 1, by omega, by go_num, ?_⟩, by simp [intOf]; omega⟩
          rw [HC.out, ← List.append_assoc, pc_tabOf_snoc, HT.out]
        · have HC := Lib.hid (ctlL_no k (by omega) (by omega))
          go_wp2
          refine ⟨⟨k + 1, by omega, by go_num, ?_⟩, by simp [intOf]; omega⟩
          rw [HC.out, HT.out]
    · obtain rfl : k = 256 := by omega
      go_wp2
      go_end0
      exact ⟨rfl, rfl⟩

/-- The function of a set. -/
def setF (g : Nat) : Value := .func (.func 121) #[] #[.pointer (some ⟨g, 0, none⟩)]

set_option maxHeartbeats 1000000 in
set_option maxRecDepth 100000 in
theorem members_any (set : Nat) (w : World) (hset : set < 256) :
    Calls Tryz.prog 76 #[.int .u8 set] w fun e w' => e = .returned (setF w.heap.size) ∧ w.alloc (.cells (pc_tabOf (setL set)) 92) = w' := by
  obtain ⟨hz, hi⟩ := zero_of_info pc_info92
  clear hi
  have hmf := pc_mkf
  by_cases e3 : set = 3
  · subst e3
    have HL : Hid (setL 3 = [] ++ natsOf ⟨#[32, 34, 35, 60, 62, 39]⟩ ++ ctlL 256) := Lib.hid rfl
    rw [HL.out]
    go_enter Tryz.func76, Tryz.ntmps76
    go_wp2_with fail
    refine (pc_add_any _ _ _ (by decide)).mono ?_
    rintro e w1 ⟨rfl, rfl⟩
    go_wp2_with fail
    refine (controls_any _ _).mono ?_
    rintro e w1 ⟨rfl, rfl⟩
    go_wp2
    go_ret
    exact ⟨rfl, rfl⟩
  by_cases e5 : set = 5
  · subst e5
    have HL : Hid (setL 5 = [] ++ natsOf ⟨#[47, 58, 59, 61, 64, 91, 92, 93, 124]⟩ ++ natsOf ⟨#[35, 63, 94, 123, 125]⟩ ++ natsOf ⟨#[32, 34, 60, 62, 96]⟩ ++ ctlL 256) := Lib.hid rfl
    rw [HL.out]
    go_enter Tryz.func76, Tryz.ntmps76
    go_wp2_with fail
    refine (pc_add_any _ _ _ (by decide)).mono ?_
    rintro e w1 ⟨rfl, rfl⟩
    go_wp2_with fail
    refine (pc_add_any _ _ _ (by decide)).mono ?_
    rintro e w1 ⟨rfl, rfl⟩
    go_wp2_with fail
    refine (pc_add_any _ _ _ (by decide)).mono ?_
    rintro e w1 ⟨rfl, rfl⟩
    go_wp2_with fail
    refine (controls_any _ _).mono ?_
    rintro e w1 ⟨rfl, rfl⟩
    go_wp2
    go_ret
    exact ⟨rfl, rfl⟩
  by_cases e4 : set = 4
  · subst e4
    have HL : Hid (setL 4 = [] ++ natsOf ⟨#[35, 63, 94, 123, 125]⟩ ++ natsOf ⟨#[32, 34, 60, 62, 96]⟩ ++ ctlL 256) := Lib.hid rfl
    rw [HL.out]
    go_enter Tryz.func76, Tryz.ntmps76
    go_wp2_with fail
    refine (pc_add_any _ _ _ (by decide)).mono ?_
    rintro e w1 ⟨rfl, rfl⟩
    go_wp2_with fail
    refine (pc_add_any _ _ _ (by decide)).mono ?_
    rintro e w1 ⟨rfl, rfl⟩
    go_wp2_with fail
    refine (controls_any _ _).mono ?_
    rintro e w1 ⟨rfl, rfl⟩
    go_wp2
    go_ret
    exact ⟨rfl, rfl⟩
  by_cases e2 : set = 2
  · subst e2
    have HL : Hid (setL 2 = [] ++ natsOf ⟨#[32, 34, 60, 62, 96]⟩ ++ ctlL 256) := Lib.hid rfl
    rw [HL.out]
    go_enter Tryz.func76, Tryz.ntmps76
    go_wp2_with fail
    refine (pc_add_any _ _ _ (by decide)).mono ?_
    rintro e w1 ⟨rfl, rfl⟩
    go_wp2_with fail
    refine (controls_any _ _).mono ?_
    rintro e w1 ⟨rfl, rfl⟩
    go_wp2
    go_ret
    exact ⟨rfl, rfl⟩
  by_cases e1 : set = 1
  · subst e1
    have HL : Hid (setL 1 = [] ++ ctlL 256) := Lib.hid rfl
    rw [HL.out]
    go_enter Tryz.func76, Tryz.ntmps76
    go_wp2_with fail
    refine (controls_any _ _).mono ?_
    rintro e w1 ⟨rfl, rfl⟩
    go_wp2
    go_ret
    exact ⟨rfl, rfl⟩
  have HL : Hid (setL set = []) := Lib.hid (setL_none set (by omega))
  rw [HL.out]
  have g1 : ((set : Int) == 1) = false := beq_eq_false_iff_ne.2 (by omega)
  have g2 : ((set : Int) == 2) = false := beq_eq_false_iff_ne.2 (by omega)
  have g3 : ((set : Int) == 3) = false := beq_eq_false_iff_ne.2 (by omega)
  have g4 : ((set : Int) == 4) = false := beq_eq_false_iff_ne.2 (by omega)
  have g5 : ((set : Int) == 5) = false := beq_eq_false_iff_ne.2 (by omega)
  clear e1 e2 e3 e4 e5
  go_enter Tryz.func76, Tryz.ntmps76
  go_wp2
  go_ret
  exact ⟨rfl, rfl⟩

set_option maxHeartbeats 400000 in
theorem setC_any (set : Nat) (c : Nat) (g : Nat) (w : World) (hc : c < 256) (hg : w.heap[g]? = some (.cells (pc_tabOf (setL set)) 92 (0, 0))) :
    Calls Tryz.prog 121 #[.int .u8 c, .pointer (some ⟨g, 0, none⟩)] w fun e w' => e = .returned (.bool (hasB set c)) ∧ w = w' := by
  have hcl : w.cell? ⟨g, c, none⟩ = some (.bool (hasB set c)) := by
    rw [cell_of_row w g _ _ _ _ hg]; exact pc_tabOf_at _ _ hc
  clear hg
  go_enter Tryz.func121, Tryz.ntmps121
  go_wp2
  go_ret
  exact ⟨rfl, rfl⟩

end Go.Proofs.YtcphokaamkalfaaGreatDoor
