/-
  The contract of Beyond, at one length and at two.
-/
import Derived.Test.YtldddgmhmolohaaMaG
namespace Go.Proofs.Ytldddgmhmolohaa
open Go.RowKit

set_option maxHeartbeats 400000 in
theorem pc_Beyond2_yes (p : Nat) (n m : Nat) (w : World) (hp : w.cell? ⟨p, 0, none⟩ = some (.int .i64 n)) (hq : w.cell? ⟨p, 1, none⟩ = some (.int .i64 m)) (h : 1048576 < n + m) (hs : n + m ≤ maxLen) :
    Calls Try.prog 5 #[.slice (some ⟨p, 0, none⟩) 2 2] w fun e w' => e = .returned (.bool true) ∧ w = w' := by
  unfold maxLen at hs
  by_cases h1 : 1048576 < n
  · go_enter Try.func5, Try.ntmps5
    go_wp2
    refine wp_loop_rounds 1 ?_
    rw [rounds_succ]
    go_wp2
    go_ret
    exact ⟨rfl, rfl⟩
  · go_enter Try.func5, Try.ntmps5
    go_wp2
    refine wp_loop_rounds 2 ?_
    rw [rounds_succ]
    go_wp2
    rw [rounds_succ]
    go_wp2
    go_ret
    exact ⟨rfl, rfl⟩

set_option maxHeartbeats 400000 in
theorem pc_Beyond2_no (p : Nat) (n m : Nat) (w : World) (hp : w.cell? ⟨p, 0, none⟩ = some (.int .i64 n)) (hq : w.cell? ⟨p, 1, none⟩ = some (.int .i64 m)) (h : n + m ≤ 1048576) :
    Calls Try.prog 5 #[.slice (some ⟨p, 0, none⟩) 2 2] w fun e w' => e = .returned (.bool false) ∧ w = w' := by
  have h1 : n ≤ 1048576 := by omega
  go_enter Try.func5, Try.ntmps5
  go_wp2
  refine wp_loop_rounds 3 ?_
  rw [rounds_succ]
  go_wp2
  rw [rounds_succ]
  go_wp2
  rw [rounds_succ]
  go_wp2
  go_ret
  exact ⟨rfl, rfl⟩

end Go.Proofs.Ytldddgmhmolohaa
