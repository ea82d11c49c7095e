/-
  footmanlaw11.StsParses: what the program reads is what the document reads.
-/
import Derived.Test.YthffgnlebljkcaaDoorTdF
import Derived.Test.YthffgnlebljkcaaDoorTsH
import Derived.Test.YthffgnlebljkcaaDoorBeyond
namespace Go.Proofs.YthffgnlebljkcaaDoor
open Go.RowKit Go.Lib

set_option maxRecDepth 100000 in
set_option maxHeartbeats 4000000 in
theorem wparses_walk (s : ByteArray) (w : World) (hs : s.size ≤ maxLen) :
    Calls Tryd.prog 3 #[.string s] w fun e w' => e = .returned (.bool true) ∧ Below w.heap.size w w' := by
  obtain ⟨W1, HW1⟩ : ∃ W, Hid (w.alloc (.cells #[.int .i64 (s.size : Int)] 3) = W) := ⟨_, Lib.hid rfl⟩
  have hb1 : Below w.heap.size w W1 := by rw [← HW1.out]; exact (Below.refl _ _).alloc (Nat.le_refl _) _
  have hc1 : W1.cell? ⟨w.heap.size, 0, none⟩ = some (.int .i64 (s.size : Int)) := by rw [← HW1.out, World.cell?_alloc_at _ _ _ _ rfl]; rfl
  have HB1 := Lib.hid hb1
  by_cases hbig : 1048576 < s.size
  · have HY := Lib.hid (Beyond1_yes w.heap.size s.size W1 hs hc1 hbig)
    clear hb1 hc1 hbig hs
    go_enter Tryd.func3, Tryd.ntmps3
    go_wp2_with fail
    rw [HW1.out]
    refine HY.out.mono ?_
    rintro e w2 ⟨rfl, rfl⟩
    go_wp2
    go_ret
    exact ⟨rfl, HB1.out⟩
  · have HNo := Lib.hid (Beyond1_no w.heap.size s.size W1 hc1 (by omega))
    have HP := Lib.hid fun w => tsParse_any s w
    have HR := Lib.hid fun w => RefParse_any s w
    have HI := Lib.hid infoWish
    obtain ⟨U, HU⟩ : ∃ U, Hid (prsW s = U) := ⟨_, Lib.hid rfl⟩
    rw [HU.out] at HP HR
    obtain ⟨⟨x, g⟩, c⟩ := U
    have HE : Hid (∀ w, (binOp .eql 24 (.agg #[.int .i64 x, .bool g]) (.agg #[.int .i64 x, .bool g])).run Tryd.prog w = .ok (.bool true) w) := Lib.hid fun w => by
      have := eqW x x g g w
      rw [show (x == x && g == g) = true by simp] at this
      exact this
    have HGd := Lib.hid fun (p q : Operand) (w : World) => gd_W .eql p q #[.int .i64 x, .bool g] #[.int .i64 x, .bool g] w
    obtain ⟨V, HV⟩ : ∃ V, Hid (Value.agg #[.int .i64 x, .bool g] = V) := ⟨_, Lib.hid rfl⟩
    rw [HV.out] at HE HGd
    have HZ : Hid (∀ w1 : World, (w1.alloc (.cells #[.int .i64 x, .bool g] 24)).heap[w1.heap.size]? = some (.cells #[.int .i64 x, .bool g] 24 (0, 0))) := Lib.hid fun w1 => heap_alloc_new w1 _
    clear hb1 hc1 hbig hs
    go_enter Tryd.func3, Tryd.ntmps3
    go_wp2_with fail
    rw [HW1.out]
    refine HNo.out.mono ?_
    rintro e w2 ⟨rfl, rfl⟩
    go_wp2_with fail
    refine (HP.out W1).mono ?_
    rintro e w2 ⟨rfl, b2⟩
    have HB2 := Lib.hid (HB1.out.trans (b2.mono HB1.out.size))
    clear b2
    go_wp2_with fail
    obtain ⟨W3, HW3⟩ : ∃ W, Hid (w2.alloc (.cells #[.int .i64 x, .bool g] 24) = W) := ⟨_, Lib.hid rfl⟩
    have HB3 : Hid (Below w.heap.size w W3) := Lib.hid (by rw [← HW3.out]; exact HB2.out.alloc HB2.out.size _)
    have HZ3 : Hid (W3.heap[w2.heap.size]? = some (.cells #[.int .i64 x, .bool g] 24 (0, 0))) := Lib.hid (by rw [← HW3.out]; exact HZ.out w2)
    rw [HW3.out]
    refine (HR.out W3).mono ?_
    rintro e w4 ⟨rfl, b4⟩
    have HB4 := Lib.hid (HB3.out.trans (b4.mono HB3.out.size))
    have HZ4 : Hid ((w4.alloc (.cells #[.int .i64 x, .bool g] 24)).heap[w2.heap.size]? = some (.cells #[.int .i64 x, .bool g] 24 (0, 0))) := Lib.hid (by
      have h4 := (b4.block _ (lt_of_block HZ3.out)).trans HZ3.out
      exact ((Kp.refl (fun _ => False) _).alloc _).at h4 id)
    have hgd := HGd.out
    have hne := HE.out
    clear b4
    go_wp2_with (first
      | (refine tcW_load rfl 24 _ rfl w2.heap.size ?_ 24 #[.int .i64 x, .bool g] (0, 0) _ ?_ Tryd.underlying24 rfl ?_ V HV.out ?_; (exact rfl); (exact HZ4.out); (exact HI.out))
      | (refine tcW_load rfl 24 _ rfl w4.heap.size ?_ 24 #[.int .i64 x, .bool g] (0, 0) _ ?_ Tryd.underlying24 rfl ?_ V HV.out ?_; (exact rfl); (exact HZ.out w4); (exact HI.out)))
    go_ret
    exact ⟨rfl, HB4.out.alloc HB4.out.size _⟩

end Go.Proofs.YthffgnlebljkcaaDoor
