/-
  The walk of SetcookieEnds.
-/
import Derived.Test.YtblofndehbagnaaScU
import Derived.Test.YtblofndehbagnaaBw
import Derived.ChangeSame
import Derived.WideShapes
namespace Go.Proofs.Ytblofndehbagnaa
open Go.RowKit

theorem sizeT : (Try.prog.info? 24).map (·.size) = some 11 := by kernel_rfl
set_option maxHeartbeats 2000000 in
set_option maxRecDepth 100000 in
theorem ends_walk (nm vl dm pa : ByteArray) (ex ag si : Int) (hx ha se hi : Bool) (n : Int) (w : World) :
    Calls Try.prog 3 #[.agg #[.string nm, .string vl, .string dm, .string pa, .int .i64 ex, .bool hx, .int .i64 ag, .bool ha, .bool se, .bool hi, .int .u8 si], .int .i64 n] w fun e w' => e = .returned (.bool true) ∧ Below w.heap.size w w' := by
  have HU := Lib.hid fun w => Until_any nm vl dm pa ex ag si hx ha se hi n w
  have HR := Lib.hid fun w => RefUntil_any nm vl dm pa ex ag si hx ha se hi n w
  obtain ⟨U, HUU⟩ : ∃ U, Hid (untP ex hx ag ha n = U) := ⟨_, Lib.hid rfl⟩
  rw [HUU.out] at HU HR
  have e1 : (U == U) = true := beq_iff_eq.2 rfl
  obtain ⟨C, HC, HS⟩ : ∃ C : Array Value, Hid (#[.string nm, .string vl, .string dm, .string pa, .int .i64 ex, .bool hx, .int .i64 ag, .bool ha, .bool se, .bool hi, .int .u8 si] = C) ∧ Hid ((Try.prog.info? 24).map (·.size) = some C.size) := ⟨_, Lib.hid rfl, Lib.hid sizeT⟩
  rw [HC.out] at HU HR ⊢
  go_enter Try.func3, Try.ntmps3
  go_wp2_with fail
  have GA : Hid ((w.alloc (.cells C 24)).heap[w.heap.size]? = some (.cells C 24 (0, 0))) := Lib.hid (heap_alloc_new w _)
  have HB0 : Hid (Below w.heap.size w (w.alloc (.cells C 24))) := Lib.hid ((Below.refl _ _).alloc (Nat.le_refl _) _)
  obtain ⟨W, HW⟩ : ∃ W, Hid (w.alloc (.cells C 24) = W) := ⟨_, Lib.hid rfl⟩
  rw [HW.out] at GA HB0 ⊢
  refine bw_region (by kernel_rfl) (by kernel_rfl) ?_
  repeat (first
    | (refine bw_load rfl 24 _ rfl w.heap.size C ?_ 24 (0, 0) _ ?_ Try.underlying24 rfl HS.out ?_; (exact rfl); (intro w hw; obtain ⟨p, rfl⟩ := hw; exact BW.at GA.out p))
    | (quiet_step ((first
      | (with_reducible exact Calls.bw_of (HU.out _))
      | (with_reducible exact Calls.bw_of (HR.out _))))))
  refine wpQuiet_nil ?_
  intro _ hw'
  obtain ⟨⟨wq, hwq⟩, rfl⟩ := hw'
  go_wp2_with fail
  go_ret
  exact ⟨rfl, HB0.out.trans (Below.mono hwq HB0.out.size)⟩

end Go.Proofs.Ytblofndehbagnaa
