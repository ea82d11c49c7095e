/-
  Contract: the document's Bytes: the text of signs.
-/
import Derived.Test.YtldddgmhmolohaaMpC
namespace Go.Proofs.Ytldddgmhmolohaa
open Go.RowKit

def iv (n : Nat) : Value := .int .i64 (n : Int)
def bv (c : UInt8) : Value := .int .u8 (c.toNat : Int)
theorem bvN {n : Nat} (h : n < 256) : bv (UInt8.ofNat n) = .int .u8 (n : Int) := by
  simp [bv, Nat.mod_eq_of_lt h]
theorem infoB : (Try.prog.info? 5).map (fun i => (i.zero, i.size, i.bytes)) = some (some (.int .u8 0), 1, 1) := by kernel_rfl
end Go.Proofs.Ytldddgmhmolohaa
