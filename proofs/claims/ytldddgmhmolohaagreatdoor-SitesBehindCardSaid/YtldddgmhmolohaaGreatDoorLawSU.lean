/-
  The walks of SitesUsual, SitesThree, SitesBehind.
-/
import Derived.Test.YtldddgmhmolohaaGreatDoorMtA
import Derived.Test.YtldddgmhmolohaaGreatDoorBey
namespace Go.Proofs.YtldddgmhmolohaaGreatDoor
open Go.RowKit

theorem i47 (x : UInt8) : ((x.toNat : Int) == 47) = decide (x = 47) := by
 rw [Bool.eq_iff_iff, beq_iff_eq, decide_eq_true_eq]
 constructor
 ·intro e; exact UInt8.toNat_inj.1 (by have : (47 : UInt8).toNat = 47 := rfl; omega)
 ·rintro rfl; rfl
theorem head0 {p : ByteArray} (h : 0 < p.size) : p.data.toList.head? = some p[0] := by
 rw [List.head?_eq_getElem?, List.getElem?_eq_getElem (by rw [lenB]; exact h)]; rfl
theorem usB_data (p : ByteArray) : (usB p).data.toList = usualL p.data.toList := rfl
theorem usB_pos (p : ByteArray) : 0 < (usB p).size := by
 have h := usualL_head p.data.toList
 rw [← usB_data] at h
 by_cases e : (usB p).size = 0
 ·have hn : (usB p).data.toList = [] := List.eq_nil_of_length_eq_zero (by rw [lenB]; exact e)
  rw [hn] at h; cases h
 ·omega
theorem usB_le (p : ByteArray) : (usB p).size ≤ max p.size 1 := by
 have h := usualL_le p.data.toList
 rw [← usB_data, lenB, lenB] at h; exact h
theorem usB_0 (p : ByteArray) : (usB p)[0]'(usB_pos p) = 47 := by
 have h := usualL_head p.data.toList
 rw [← usB_data, head0 (usB_pos p)] at h
 exact Option.some.inj h
theorem path_q (p c : ByteArray) (b : Bool) (h : pmchL p.data.toList c.data.toList = b) (hc : c.size ≤ 140737488355328) (w : World) : Calls Tryz.prog 20 #[.string p, .string c] w fun e w' => e = .returned (.bool b) ∧ w' = w := by
 have := SPath_any p c w hc
 rwa [h] at this
set_option maxRecDepth 100000 in
set_option maxHeartbeats 2000000 in
theorem susual_walk (p : ByteArray) (w : World) (hp : p.size ≤ 140737488351232) (hW : Uw w) :
  Calls Tryz.prog 4 #[.string p] w fun e w' => e = .returned (.bool true) ∧ Below w.heap.size w w' := by
 have HAl : Hid (∀ w', Below w.heap.size w w' → Calls Tryz.prog 17 #[] w' fun e w'' => e = .returned (.bool true) ∧ Below w'.heap.size w' w'') := Lib.hid (fun w' hb => alive9_any w' (hW.later hb))
 clear hW
 by_cases hbg : 1048576 < p.size
 ·go_enter Tryz.func4, Tryz.ntmps4
  go_wp2_with fail
  refine (HAl.out w (Below.refl _ _)).mono ?_
  rintro e w1 ⟨rfl, b1⟩
  have B1 := Lib.hid b1; clear b1
  go_wp2_with fail
  refine (pc_Beyond1_yes w1.heap.size p.size _ (by unfold maxLen; omega) (by simp) hbg).mono ?_
  rintro e w2 ⟨rfl, rfl⟩
  have B2 : Hid (Below w.heap.size w (w1.alloc (.cells #[.int .i64 (p.size : Int)] 3))) := Lib.hid (B1.out.alloc B1.out.size _)
  go_wp2_with fail
  refine (HAl.out _ B2.out).mono ?_
  rintro e w3 ⟨rfl, b3⟩
  have B3 : Hid (Below w.heap.size w w3) := Lib.hid (keepW B2.out b3)
  clear b3
  go_wp2
  go_ret
  exact ⟨rfl, B3.out⟩
 have hle : p.size ≤ 1048576 := by omega
 have CU := Lib.hid (fun w => SUsual_any p w (by omega))
 have h1 := usB_pos p
 have h2 := usB_le p
 have h3 : ∀ h : 0 < (usB p).size, (usB p)[0]'h = 47 := fun _ => usB_0 p
 have HP : Hid (p.data.toList.head? = some 47 → pmchL p.data.toList (usB p).data.toList = true) := Lib.hid (fun h => pmchL_usual h)
 generalize usB p = U at CU h1 h2 h3 HP
 clear hbg
 have hem := emF h1
 have hu0 : ((U[0].toNat : Int) == 47) = true := by rw [i47, h3 h1]; rfl
 have hun : ((U[0].toNat : Int) != 47) = false := by rw [bne, hu0]; rfl
 have hm1 : ¬ max (p.size : Int) 1 < (U.size : Int) := by omega
 have hm2 : ¬ max 1 (p.size : Int) < (U.size : Int) := by omega
 have hUs : U.size ≤ 140737488355328 := by omega
 clear h2 h3
 by_cases h0 : p.size = 0
 ·have hem2 := emT h0
  clear HP h0
  go_enter Tryz.func4, Tryz.ntmps4
  go_wp2_with fail
  refine (HAl.out w (Below.refl _ _)).mono ?_
  rintro e w1 ⟨rfl, b1⟩
  have B1 := Lib.hid b1; clear b1
  go_wp2_with fail
  refine (pc_Beyond1_no w1.heap.size p.size _ (by simp) hle).mono ?_
  rintro e w2 ⟨rfl, rfl⟩
  have B2 : Hid (Below w.heap.size w (w1.alloc (.cells #[.int .i64 (p.size : Int)] 3))) := Lib.hid (B1.out.alloc B1.out.size _)
  go_wp2_with fail
  refine (CU.out _).mono ?_
  rintro e w3 ⟨rfl, rfl⟩
  go_wp2
  go_ret
  exact ⟨rfl, B2.out⟩
 have hp0 : 0 < p.size := by omega
 have hem2 := emF hp0
 by_cases hx : p[0] = 47
 ·have hxb : ((p[0].toNat : Int) == 47) = true := by rw [i47, hx]; rfl
  have hxn : ((p[0].toNat : Int) != 47) = false := by rw [bne, hxb]; rfl
  have hh : p.data.toList.head? = some 47 := by rw [head0 hp0, hx]
  have C1 := Lib.hid (path_q p U true (HP.out hh) hUs)
  have C2 := Lib.hid (path_q p p true (pmchL_self _) (by omega))
  have C3 := Lib.hid (path_q p ⟨#[47]⟩ true (pmchL_slash hh) (by decide))
  clear HP hx hh
  go_enter Tryz.func4, Tryz.ntmps4
  go_wp2_with fail
  refine (HAl.out w (Below.refl _ _)).mono ?_
  rintro e w1 ⟨rfl, b1⟩
  have B1 := Lib.hid b1; clear b1
  go_wp2_with fail
  refine (pc_Beyond1_no w1.heap.size p.size _ (by simp) hle).mono ?_
  rintro e w2 ⟨rfl, rfl⟩
  have B2 : Hid (Below w.heap.size w (w1.alloc (.cells #[.int .i64 (p.size : Int)] 3))) := Lib.hid (B1.out.alloc B1.out.size _)
  go_wp2_with fail
  refine (CU.out _).mono ?_
  rintro e w3 ⟨rfl, rfl⟩
  go_wp2_with fail
  refine (C1.out _).mono ?_
  rintro e w4 ⟨rfl, rfl⟩
  go_wp2_with fail
  refine (C2.out _).mono ?_
  rintro e w5 ⟨rfl, rfl⟩
  go_wp2_with fail
  refine (C3.out _).mono ?_
  rintro e w6 ⟨rfl, rfl⟩
  go_wp2
  go_ret
  exact ⟨rfl, B2.out⟩
 ·have hxb : ((p[0].toNat : Int) == 47) = false := by rw [i47, decide_eq_false hx]
  have hxn : ((p[0].toNat : Int) != 47) = true := by rw [bne, hxb]; rfl
  clear HP hx
  go_enter Tryz.func4, Tryz.ntmps4
  go_wp2_with fail
  refine (HAl.out w (Below.refl _ _)).mono ?_
  rintro e w1 ⟨rfl, b1⟩
  have B1 := Lib.hid b1; clear b1
  go_wp2_with fail
  refine (pc_Beyond1_no w1.heap.size p.size _ (by simp) hle).mono ?_
  rintro e w2 ⟨rfl, rfl⟩
  have B2 : Hid (Below w.heap.size w (w1.alloc (.cells #[.int .i64 (p.size : Int)] 3))) := Lib.hid (B1.out.alloc B1.out.size _)
  go_wp2_with fail
  refine (CU.out _).mono ?_
  rintro e w3 ⟨rfl, rfl⟩
  go_wp2
  go_ret
  exact ⟨rfl, B2.out⟩

set_option maxHeartbeats 400000 in
theorem pc_Beyond3_yes (p : Nat) (n m k : Nat) (w : World) (hp : w.cell? ⟨p, 0, none⟩ = some (.int .i64 n)) (hq : w.cell? ⟨p, 1, none⟩ = some (.int .i64 m)) (hr : w.cell? ⟨p, 2, none⟩ = some (.int .i64 k)) (h : 1048576 < n + m + k) (hs : n + m + k ≤ maxLen) :
  Calls Tryz.prog 18 #[.slice (some ⟨p, 0, none⟩) 3 3] w fun e w' => e = .returned (.bool true) ∧ w = w' := by
 unfold maxLen at hs
 by_cases h1 : 1048576 < n
 ·go_enter Tryz.func18, Tryz.ntmps18
  go_wp2
  refine wp_loop_rounds 1 ?_
  rw [rounds_succ]
  go_wp2
  go_ret
  exact ⟨rfl, rfl⟩
 by_cases h2 : 1048576 < n + m
 ·go_enter Tryz.func18, Tryz.ntmps18
  go_wp2
  refine wp_loop_rounds 2 ?_
  rw [rounds_succ]
  go_wp2
  rw [rounds_succ]
  go_wp2
  go_ret
  exact ⟨rfl, rfl⟩
 ·go_enter Tryz.func18, Tryz.ntmps18
  go_wp2
  refine wp_loop_rounds 3 ?_
  rw [rounds_succ]
  go_wp2
  rw [rounds_succ]
  go_wp2
  rw [rounds_succ]
  go_wp2
  go_ret
  exact ⟨rfl, rfl⟩
set_option maxHeartbeats 400000 in
theorem pc_Beyond3_no (p : Nat) (n m k : Nat) (w : World) (hp : w.cell? ⟨p, 0, none⟩ = some (.int .i64 n)) (hq : w.cell? ⟨p, 1, none⟩ = some (.int .i64 m)) (hr : w.cell? ⟨p, 2, none⟩ = some (.int .i64 k)) (h : n + m + k ≤ 1048576) :
  Calls Tryz.prog 18 #[.slice (some ⟨p, 0, none⟩) 3 3] w fun e w' => e = .returned (.bool false) ∧ w = w' := by
 have h1 : n ≤ 1048576 := by omega
 have h2 : n + m ≤ 1048576 := by omega
 go_enter Tryz.func18, Tryz.ntmps18
 go_wp2
 refine wp_loop_rounds 4 ?_
 rw [rounds_succ]
 go_wp2
 rw [rounds_succ]
 go_wp2
 rw [rounds_succ]
 go_wp2
 rw [rounds_succ]
 go_wp2
 go_ret
 exact ⟨rfl, rfl⟩
set_option maxRecDepth 100000 in
set_option maxHeartbeats 8000000 in
theorem sthree_walk (a b c : ByteArray) (w : World) (ha : a.size ≤ 140737488351232) (hb : b.size ≤ 140737488351232) (hc : c.size ≤ 140737488351232) (hW : Uw w) :
  Calls Tryz.prog 5 #[.string a, .string b, .string c] w fun e w' => e = .returned (.bool true) ∧ Below w.heap.size w w' := by
 have HAl : Hid (∀ w', Below w.heap.size w w' → Calls Tryz.prog 17 #[] w' fun e w'' => e = .returned (.bool true) ∧ Below w'.heap.size w' w'') := Lib.hid (fun w' hb => alive9_any w' (hW.later hb))
 clear hW
 by_cases hbg : 1048576 < a.size + b.size + c.size
 ·go_enter Tryz.func5, Tryz.ntmps5
  go_wp2_with fail
  refine (HAl.out w (Below.refl _ _)).mono ?_
  rintro e w1 ⟨rfl, b1⟩
  have B1 := Lib.hid b1; clear b1
  go_wp2_with fail
  refine (pc_Beyond3_yes w1.heap.size a.size b.size c.size _ (by simp) (by simp) (by simp) hbg (by unfold maxLen; omega)).mono ?_
  rintro e w2 ⟨rfl, rfl⟩
  have B2 : Hid (Below w.heap.size w (w1.alloc (.cells #[.int .i64 (a.size : Int), .int .i64 (b.size : Int), .int .i64 (c.size : Int)] 3))) := Lib.hid (B1.out.alloc B1.out.size _)
  go_wp2_with fail
  refine (HAl.out _ B2.out).mono ?_
  rintro e w3 ⟨rfl, b3⟩
  have B3 : Hid (Below w.heap.size w w3) := Lib.hid (keepW B2.out b3)
  clear b3
  go_wp2
  go_ret
  exact ⟨rfl, B3.out⟩
 have hle : a.size + b.size + c.size ≤ 1048576 := by omega
 obtain ⟨x, Hx⟩ : ∃ x, Hid (pmchL a.data.toList b.data.toList = x) := ⟨_, Lib.hid rfl⟩
 obtain ⟨y, Hy⟩ : ∃ x, Hid (pmchL b.data.toList c.data.toList = x) := ⟨_, Lib.hid rfl⟩
 obtain ⟨z, Hz⟩ : ∃ x, Hid (pmchL a.data.toList c.data.toList = x) := ⟨_, Lib.hid rfl⟩
 have CX := Lib.hid (path_q a b x Hx.out (by omega))
 have CY := Lib.hid (path_q b c y Hy.out (by omega))
 have CZ := Lib.hid (path_q a c z Hz.out (by omega))
 have hxyz : x = true → y = true → z = true := fun h1 h2 => by rw [← Hz.out]; exact pmchL_trans (Hx.out.trans h1) (Hy.out.trans h2)
 clear Hx Hy Hz hbg
 by_cases h0a : a.size = 0
 ·have hema := emT h0a
  clear h0a hxyz
  go_enter Tryz.func5, Tryz.ntmps5
  go_wp2_with fail
  refine (HAl.out w (Below.refl _ _)).mono ?_
  rintro e w1 ⟨rfl, b1⟩
  have B1 := Lib.hid b1; clear b1
  go_wp2_with fail
  refine (pc_Beyond3_no w1.heap.size a.size b.size c.size _ (by simp) (by simp) (by simp) hle).mono ?_
  rintro e w2 ⟨rfl, rfl⟩
  have B2 : Hid (Below w.heap.size w (w1.alloc (.cells #[.int .i64 (a.size : Int), .int .i64 (b.size : Int), .int .i64 (c.size : Int)] 3))) := Lib.hid (B1.out.alloc B1.out.size _)
  go_wp2
  go_ret
  exact ⟨rfl, B2.out⟩
 have hpa : 0 < a.size := by omega
 have hema := emF hpa
 by_cases h0b : b.size = 0
 ·have hemb := emT h0b
  clear h0b hxyz
  go_enter Tryz.func5, Tryz.ntmps5
  go_wp2_with fail
  refine (HAl.out w (Below.refl _ _)).mono ?_
  rintro e w1 ⟨rfl, b1⟩
  have B1 := Lib.hid b1; clear b1
  go_wp2_with fail
  refine (pc_Beyond3_no w1.heap.size a.size b.size c.size _ (by simp) (by simp) (by simp) hle).mono ?_
  rintro e w2 ⟨rfl, rfl⟩
  have B2 : Hid (Below w.heap.size w (w1.alloc (.cells #[.int .i64 (a.size : Int), .int .i64 (b.size : Int), .int .i64 (c.size : Int)] 3))) := Lib.hid (B1.out.alloc B1.out.size _)
  go_wp2
  go_ret
  exact ⟨rfl, B2.out⟩
 have hpb : 0 < b.size := by omega
 have hemb := emF hpb
 by_cases h0c : c.size = 0
 ·have hemc := emT h0c
  clear h0c hxyz
  go_enter Tryz.func5, Tryz.ntmps5
  go_wp2_with fail
  refine (HAl.out w (Below.refl _ _)).mono ?_
  rintro e w1 ⟨rfl, b1⟩
  have B1 := Lib.hid b1; clear b1
  go_wp2_with fail
  refine (pc_Beyond3_no w1.heap.size a.size b.size c.size _ (by simp) (by simp) (by simp) hle).mono ?_
  rintro e w2 ⟨rfl, rfl⟩
  have B2 : Hid (Below w.heap.size w (w1.alloc (.cells #[.int .i64 (a.size : Int), .int .i64 (b.size : Int), .int .i64 (c.size : Int)] 3))) := Lib.hid (B1.out.alloc B1.out.size _)
  go_wp2
  go_ret
  exact ⟨rfl, B2.out⟩
 have hpc : 0 < c.size := by omega
 have hemc := emF hpc
 by_cases hxa : a[0] ≠ 47
 ·have hba : ((a[0].toNat : Int) == 47) = false := by rw [i47, decide_eq_false hxa]
  have hna : ((a[0].toNat : Int) != 47) = true := by rw [bne, hba]; rfl
  clear hxa hxyz
  go_enter Tryz.func5, Tryz.ntmps5
  go_wp2_with fail
  refine (HAl.out w (Below.refl _ _)).mono ?_
  rintro e w1 ⟨rfl, b1⟩
  have B1 := Lib.hid b1; clear b1
  go_wp2_with fail
  refine (pc_Beyond3_no w1.heap.size a.size b.size c.size _ (by simp) (by simp) (by simp) hle).mono ?_
  rintro e w2 ⟨rfl, rfl⟩
  have B2 : Hid (Below w.heap.size w (w1.alloc (.cells #[.int .i64 (a.size : Int), .int .i64 (b.size : Int), .int .i64 (c.size : Int)] 3))) := Lib.hid (B1.out.alloc B1.out.size _)
  go_wp2
  go_ret
  exact ⟨rfl, B2.out⟩
 have hba : ((a[0].toNat : Int) == 47) = true := by rw [i47, decide_eq_true (Decidable.not_not.1 hxa)]
 have hna : ((a[0].toNat : Int) != 47) = false := by rw [bne, hba]; rfl
 clear hxa
 by_cases hxb : b[0] ≠ 47
 ·have hbb : ((b[0].toNat : Int) == 47) = false := by rw [i47, decide_eq_false hxb]
  have hnb : ((b[0].toNat : Int) != 47) = true := by rw [bne, hbb]; rfl
  clear hxb hxyz
  go_enter Tryz.func5, Tryz.ntmps5
  go_wp2_with fail
  refine (HAl.out w (Below.refl _ _)).mono ?_
  rintro e w1 ⟨rfl, b1⟩
  have B1 := Lib.hid b1; clear b1
  go_wp2_with fail
  refine (pc_Beyond3_no w1.heap.size a.size b.size c.size _ (by simp) (by simp) (by simp) hle).mono ?_
  rintro e w2 ⟨rfl, rfl⟩
  have B2 : Hid (Below w.heap.size w (w1.alloc (.cells #[.int .i64 (a.size : Int), .int .i64 (b.size : Int), .int .i64 (c.size : Int)] 3))) := Lib.hid (B1.out.alloc B1.out.size _)
  go_wp2
  go_ret
  exact ⟨rfl, B2.out⟩
 have hbb : ((b[0].toNat : Int) == 47) = true := by rw [i47, decide_eq_true (Decidable.not_not.1 hxb)]
 have hnb : ((b[0].toNat : Int) != 47) = false := by rw [bne, hbb]; rfl
 clear hxb
 by_cases hxc : c[0] ≠ 47
 ·have hbc : ((c[0].toNat : Int) == 47) = false := by rw [i47, decide_eq_false hxc]
  have hnc : ((c[0].toNat : Int) != 47) = true := by rw [bne, hbc]; rfl
  clear hxc hxyz
  go_enter Tryz.func5, Tryz.ntmps5
  go_wp2_with fail
  refine (HAl.out w (Below.refl _ _)).mono ?_
  rintro e w1 ⟨rfl, b1⟩
  have B1 := Lib.hid b1; clear b1
  go_wp2_with fail
  refine (pc_Beyond3_no w1.heap.size a.size b.size c.size _ (by simp) (by simp) (by simp) hle).mono ?_
  rintro e w2 ⟨rfl, rfl⟩
  have B2 : Hid (Below w.heap.size w (w1.alloc (.cells #[.int .i64 (a.size : Int), .int .i64 (b.size : Int), .int .i64 (c.size : Int)] 3))) := Lib.hid (B1.out.alloc B1.out.size _)
  go_wp2
  go_ret
  exact ⟨rfl, B2.out⟩
 have hbc : ((c[0].toNat : Int) == 47) = true := by rw [i47, decide_eq_true (Decidable.not_not.1 hxc)]
 have hnc : ((c[0].toNat : Int) != 47) = false := by rw [bne, hbc]; rfl
 clear hxc
 clear h0a h0b h0c
 cases x
 ·clear hxyz
  go_enter Tryz.func5, Tryz.ntmps5
  go_wp2_with fail
  refine (HAl.out w (Below.refl _ _)).mono ?_
  rintro e w1 ⟨rfl, b1⟩
  have B1 := Lib.hid b1; clear b1
  go_wp2_with fail
  refine (pc_Beyond3_no w1.heap.size a.size b.size c.size _ (by simp) (by simp) (by simp) hle).mono ?_
  rintro e w2 ⟨rfl, rfl⟩
  have B2 : Hid (Below w.heap.size w (w1.alloc (.cells #[.int .i64 (a.size : Int), .int .i64 (b.size : Int), .int .i64 (c.size : Int)] 3))) := Lib.hid (B1.out.alloc B1.out.size _)
  go_wp2_with fail
  refine (CX.out _).mono ?_
  rintro e w3 ⟨rfl, rfl⟩
  go_wp2
  go_ret
  exact ⟨rfl, B2.out⟩
 cases y
 ·clear hxyz
  go_enter Tryz.func5, Tryz.ntmps5
  go_wp2_with fail
  refine (HAl.out w (Below.refl _ _)).mono ?_
  rintro e w1 ⟨rfl, b1⟩
  have B1 := Lib.hid b1; clear b1
  go_wp2_with fail
  refine (pc_Beyond3_no w1.heap.size a.size b.size c.size _ (by simp) (by simp) (by simp) hle).mono ?_
  rintro e w2 ⟨rfl, rfl⟩
  have B2 : Hid (Below w.heap.size w (w1.alloc (.cells #[.int .i64 (a.size : Int), .int .i64 (b.size : Int), .int .i64 (c.size : Int)] 3))) := Lib.hid (B1.out.alloc B1.out.size _)
  go_wp2_with fail
  refine (CX.out _).mono ?_
  rintro e w3 ⟨rfl, rfl⟩
  go_wp2_with fail
  refine (CY.out _).mono ?_
  rintro e w4 ⟨rfl, rfl⟩
  go_wp2
  go_ret
  exact ⟨rfl, B2.out⟩
 obtain rfl : z = true := hxyz rfl rfl
 go_enter Tryz.func5, Tryz.ntmps5
 go_wp2_with fail
 refine (HAl.out w (Below.refl _ _)).mono ?_
 rintro e w1 ⟨rfl, b1⟩
 have B1 := Lib.hid b1; clear b1
 go_wp2_with fail
 refine (pc_Beyond3_no w1.heap.size a.size b.size c.size _ (by simp) (by simp) (by simp) hle).mono ?_
 rintro e w2 ⟨rfl, rfl⟩
 have B2 : Hid (Below w.heap.size w (w1.alloc (.cells #[.int .i64 (a.size : Int), .int .i64 (b.size : Int), .int .i64 (c.size : Int)] 3))) := Lib.hid (B1.out.alloc B1.out.size _)
 go_wp2_with fail
 refine (CX.out _).mono ?_
 rintro e w3 ⟨rfl, rfl⟩
 go_wp2_with fail
 refine (CY.out _).mono ?_
 rintro e w4 ⟨rfl, rfl⟩
 go_wp2_with fail
 refine (CZ.out _).mono ?_
 rintro e w5 ⟨rfl, rfl⟩
 go_wp2
 go_ret
 exact ⟨rfl, B2.out⟩
theorem two_data (p m : ByteArray) : (p ++ m).data.toList = p.data.toList ++ m.data.toList := by rw [ByteArray.data_append, Array.toList_append]
theorem cut_data (p m : ByteArray) : (p ++ ⟨#[47]⟩ ++ m).data.toList = p.data.toList ++ 47 :: m.data.toList := by
 rw [two_data, two_data, List.append_assoc]; rfl
theorem last47 {p : ByteArray} {k : Nat} (hk : p.size = k + 1) : p.data.toList.getLast? = some (p[k]'(by omega)) := by
 rw [List.getLast?_eq_getElem?, lenB, show p.size - 1 = k by omega, List.getElem?_eq_getElem (by rw [lenB]; omega)]; rfl
set_option maxRecDepth 100000 in
set_option maxHeartbeats 8000000 in
theorem sbehind_walk (p m : ByteArray) (w : World) (hp : p.size ≤ 140737488351232) (hm : m.size ≤ 140737488351232) (hW : Uw w) :
  Calls Tryz.prog 6 #[.string p, .string m] w fun e w' => e = .returned (.bool true) ∧ Below w.heap.size w w' := by
 have HAl : Hid (∀ w', Below w.heap.size w w' → Calls Tryz.prog 17 #[] w' fun e w'' => e = .returned (.bool true) ∧ Below w'.heap.size w' w'') := Lib.hid (fun w' hb => alive9_any w' (hW.later hb))
 clear hW
 by_cases hbg : 1048576 < p.size + m.size
 ·go_enter Tryz.func6, Tryz.ntmps6
  go_wp2_with fail
  refine (HAl.out w (Below.refl _ _)).mono ?_
  rintro e w1 ⟨rfl, b1⟩
  have B1 := Lib.hid b1; clear b1
  go_wp2_with fail
  refine (pc_Beyond2_yes w1.heap.size p.size m.size _ (by simp) (by simp) hbg (by unfold maxLen; omega)).mono ?_
  rintro e w2 ⟨rfl, rfl⟩
  have B2 : Hid (Below w.heap.size w (w1.alloc (.cells #[.int .i64 (p.size : Int), .int .i64 (m.size : Int)] 3))) := Lib.hid (B1.out.alloc B1.out.size _)
  go_wp2_with fail
  refine (HAl.out _ B2.out).mono ?_
  rintro e w3 ⟨rfl, b3⟩
  have B3 : Hid (Below w.heap.size w w3) := Lib.hid (keepW B2.out b3)
  clear b3
  go_wp2
  go_ret
  exact ⟨rfl, B3.out⟩
 have hle : p.size + m.size ≤ 1048576 := by omega
 obtain ⟨r, Hr⟩ : ∃ x, Hid (pmchL (p ++ m).data.toList p.data.toList = x) := ⟨_, Lib.hid rfl⟩
 have C1 := Lib.hid (path_q (p ++ m) p r Hr.out (by omega))
 have C2 := Lib.hid (path_q (p ++ ⟨#[47]⟩ ++ m) p true (by rw [cut_data]; exact pmchL_cut _ _) (by omega))
 have C3 := Lib.hid (path_q (p ++ ⟨#[47]⟩ ++ m) (p ++ ⟨#[47]⟩) true (by rw [cut_data, two_data]; exact pmchL_cut2 _ _) (by
  rw [ByteArray.size_append]
  have : (⟨#[47]⟩ : ByteArray).size = 1 := rfl
  omega))
 have HR : Hid (r = (decide (m.data.toList = []) || (decide (p.data.toList.getLast? = some 47) || decide (m.data.toList.head? = some 47)))) := Lib.hid (by rw [← Hr.out, two_data, pmchL_behind])
 have hz1 : ¬ 9223372036854775807 < p.size + m.size := by omega
 have hz2 : ¬ 9223372036854775807 < p.size + 1 := by omega
 have hz3 : ¬ 9223372036854775807 < p.size + 1 + m.size := by omega
 clear Hr hbg
 by_cases h0 : p.size = 0
 ·have h0I : (p.size : Int) = 0 := by omega
  have h0b : ((p.size : Int) == 0) = true := by rw [h0I]; rfl
  have h0c : ¬ (0 : Int) < (p.size : Int) := by omega
  have hn : p.data.toList = [] := List.eq_nil_of_length_eq_zero (by rw [lenB]; exact h0)
  have hd : decide (p.data.toList.getLast? = some 47) = false := by rw [hn]; rfl
  rw [hd, Bool.false_or] at HR
  clear hn hd h0I h0
  by_cases h0m : m.size = 0
  ·have hemm := emT h0m
   obtain rfl : r = true := by
    have hn : m.data.toList = [] := List.eq_nil_of_length_eq_zero (by rw [lenB]; exact h0m)
    rw [HR.out, hn]; rfl
   clear h0m HR
   go_enter Tryz.func6, Tryz.ntmps6
   go_wp2_with fail
   refine (HAl.out w (Below.refl _ _)).mono ?_
   rintro e w1 ⟨rfl, b1⟩
   have B1 := Lib.hid b1; clear b1
   go_wp2_with fail
   refine (pc_Beyond2_no w1.heap.size p.size m.size _ (by simp) (by simp) hle).mono ?_
   rintro e w2 ⟨rfl, rfl⟩
   have B2 : Hid (Below w.heap.size w (w1.alloc (.cells #[.int .i64 (p.size : Int), .int .i64 (m.size : Int)] 3))) := Lib.hid (B1.out.alloc B1.out.size _)
   go_wp2_with fail
   refine (C1.out _).mono ?_
   rintro e w3 ⟨rfl, rfl⟩
   go_wp2_with fail
   refine (C2.out _).mono ?_
   rintro e w4 ⟨rfl, rfl⟩
   go_wp2_with fail
   refine (C3.out _).mono ?_
   rintro e w5 ⟨rfl, rfl⟩
   go_wp2
   go_ret
   exact ⟨rfl, B2.out⟩
  have hpm : 0 < m.size := by omega
  have hemm := emF hpm
  have hdn : decide (m.data.toList = []) = false := decide_eq_false (fun e => h0m (by rw [← lenB, e]; rfl))
  have hdm : decide (m.data.toList.head? = some 47) = decide (m[0] = 47) := by rw [head0 hpm]; simp
  rw [hdn, hdm, Bool.false_or] at HR
  clear hdn hdm h0m
  by_cases hx : m[0] = 47
  ·have hb : ((m[0].toNat : Int) == 47) = true := by rw [i47, decide_eq_true hx]
   obtain rfl : r = true := by rw [HR.out, decide_eq_true hx]
   clear hx HR
   go_enter Tryz.func6, Tryz.ntmps6
   go_wp2_with fail
   refine (HAl.out w (Below.refl _ _)).mono ?_
   rintro e w1 ⟨rfl, b1⟩
   have B1 := Lib.hid b1; clear b1
   go_wp2_with fail
   refine (pc_Beyond2_no w1.heap.size p.size m.size _ (by simp) (by simp) hle).mono ?_
   rintro e w2 ⟨rfl, rfl⟩
   have B2 : Hid (Below w.heap.size w (w1.alloc (.cells #[.int .i64 (p.size : Int), .int .i64 (m.size : Int)] 3))) := Lib.hid (B1.out.alloc B1.out.size _)
   go_wp2_with fail
   refine (C1.out _).mono ?_
   rintro e w3 ⟨rfl, rfl⟩
   go_wp2_with fail
   refine (C2.out _).mono ?_
   rintro e w4 ⟨rfl, rfl⟩
   go_wp2_with fail
   refine (C3.out _).mono ?_
   rintro e w5 ⟨rfl, rfl⟩
   go_wp2
   go_ret
   exact ⟨rfl, B2.out⟩
  ·have hb : ((m[0].toNat : Int) == 47) = false := by rw [i47, decide_eq_false hx]
   obtain rfl : r = false := by rw [HR.out, decide_eq_false hx]
   clear hx HR
   go_enter Tryz.func6, Tryz.ntmps6
   go_wp2_with fail
   refine (HAl.out w (Below.refl _ _)).mono ?_
   rintro e w1 ⟨rfl, b1⟩
   have B1 := Lib.hid b1; clear b1
   go_wp2_with fail
   refine (pc_Beyond2_no w1.heap.size p.size m.size _ (by simp) (by simp) hle).mono ?_
   rintro e w2 ⟨rfl, rfl⟩
   have B2 : Hid (Below w.heap.size w (w1.alloc (.cells #[.int .i64 (p.size : Int), .int .i64 (m.size : Int)] 3))) := Lib.hid (B1.out.alloc B1.out.size _)
   go_wp2_with fail
   refine (C1.out _).mono ?_
   rintro e w3 ⟨rfl, rfl⟩
   go_wp2_with fail
   refine (C2.out _).mono ?_
   rintro e w4 ⟨rfl, rfl⟩
   go_wp2_with fail
   refine (C3.out _).mono ?_
   rintro e w5 ⟨rfl, rfl⟩
   go_wp2
   go_ret
   exact ⟨rfl, B2.out⟩
 obtain ⟨k, hk⟩ : ∃ k, p.size = k + 1 := ⟨p.size - 1, by omega⟩
 have hkp : k < p.size := by omega
 have hkI : (p.size : Int) - 1 = (k : Int) := by omega
 have h0b : ((p.size : Int) == 0) = false := beq_eq_false_iff_ne.2 (by omega)
 have h0c : (0 : Int) < (p.size : Int) := by omega
 have hkI2 : (k : Int) ≤ (p.size : Int) := by omega
 have C4 := Lib.hid (path_q (p.extract 0 k) p false (by
  have h1 : (p.extract 0 k).data.toList = p.data.toList.take (p.data.toList.length - 1) := by
   rw [lenB, hk, Nat.add_sub_cancel]; simp
  rw [h1]; exact pmchL_short (by rw [lenB]; omega)) (by omega))
 have hd : decide (p.data.toList.getLast? = some 47) = decide (p[k] = 47) := by rw [last47 hk]; simp
 rw [hd] at HR
 clear hd hk h0
 by_cases hs : p[k] = 47
 ·have hsb : ((p[k].toNat : Int) == 47) = true := by rw [i47, decide_eq_true hs]
  rw [decide_eq_true hs, Bool.true_or] at HR
  clear hs
  by_cases h0m : m.size = 0
  ·have hemm := emT h0m
   obtain rfl : r = true := by
    have hn : m.data.toList = [] := List.eq_nil_of_length_eq_zero (by rw [lenB]; exact h0m)
    rw [HR.out, hn]; rfl
   clear h0m HR
   go_enter Tryz.func6, Tryz.ntmps6
   go_wp2_with fail
   refine (HAl.out w (Below.refl _ _)).mono ?_
   rintro e w1 ⟨rfl, b1⟩
   have B1 := Lib.hid b1; clear b1
   go_wp2_with fail
   refine (pc_Beyond2_no w1.heap.size p.size m.size _ (by simp) (by simp) hle).mono ?_
   rintro e w2 ⟨rfl, rfl⟩
   have B2 : Hid (Below w.heap.size w (w1.alloc (.cells #[.int .i64 (p.size : Int), .int .i64 (m.size : Int)] 3))) := Lib.hid (B1.out.alloc B1.out.size _)
   go_wp2_with fail
   refine (C1.out _).mono ?_
   rintro e w3 ⟨rfl, rfl⟩
   go_wp2_with fail
   refine (C2.out _).mono ?_
   rintro e w4 ⟨rfl, rfl⟩
   go_wp2_with fail
   refine (C3.out _).mono ?_
   rintro e w5 ⟨rfl, rfl⟩
   go_wp2_with fail
   refine (C4.out _).mono ?_
   rintro e w6 ⟨rfl, rfl⟩
   go_wp2
   go_ret
   exact ⟨rfl, B2.out⟩
  have hpm : 0 < m.size := by omega
  have hemm := emF hpm
  have hdn : decide (m.data.toList = []) = false := decide_eq_false (fun e => h0m (by rw [← lenB, e]; rfl))
  have hdm : decide (m.data.toList.head? = some 47) = decide (m[0] = 47) := by rw [head0 hpm]; simp
  rw [hdn, Bool.false_or] at HR
  clear hdn hdm h0m
  by_cases hx : m[0] = 47
  ·have hb : ((m[0].toNat : Int) == 47) = true := by rw [i47, decide_eq_true hx]
   obtain rfl : r = true := HR.out
   clear hx HR
   go_enter Tryz.func6, Tryz.ntmps6
   go_wp2_with fail
   refine (HAl.out w (Below.refl _ _)).mono ?_
   rintro e w1 ⟨rfl, b1⟩
   have B1 := Lib.hid b1; clear b1
   go_wp2_with fail
   refine (pc_Beyond2_no w1.heap.size p.size m.size _ (by simp) (by simp) hle).mono ?_
   rintro e w2 ⟨rfl, rfl⟩
   have B2 : Hid (Below w.heap.size w (w1.alloc (.cells #[.int .i64 (p.size : Int), .int .i64 (m.size : Int)] 3))) := Lib.hid (B1.out.alloc B1.out.size _)
   go_wp2_with fail
   refine (C1.out _).mono ?_
   rintro e w3 ⟨rfl, rfl⟩
   go_wp2_with fail
   refine (C2.out _).mono ?_
   rintro e w4 ⟨rfl, rfl⟩
   go_wp2_with fail
   refine (C3.out _).mono ?_
   rintro e w5 ⟨rfl, rfl⟩
   go_wp2_with fail
   refine (C4.out _).mono ?_
   rintro e w6 ⟨rfl, rfl⟩
   go_wp2
   go_ret
   exact ⟨rfl, B2.out⟩
  ·have hb : ((m[0].toNat : Int) == 47) = false := by rw [i47, decide_eq_false hx]
   obtain rfl : r = true := HR.out
   clear hx HR
   go_enter Tryz.func6, Tryz.ntmps6
   go_wp2_with fail
   refine (HAl.out w (Below.refl _ _)).mono ?_
   rintro e w1 ⟨rfl, b1⟩
   have B1 := Lib.hid b1; clear b1
   go_wp2_with fail
   refine (pc_Beyond2_no w1.heap.size p.size m.size _ (by simp) (by simp) hle).mono ?_
   rintro e w2 ⟨rfl, rfl⟩
   have B2 : Hid (Below w.heap.size w (w1.alloc (.cells #[.int .i64 (p.size : Int), .int .i64 (m.size : Int)] 3))) := Lib.hid (B1.out.alloc B1.out.size _)
   go_wp2_with fail
   refine (C1.out _).mono ?_
   rintro e w3 ⟨rfl, rfl⟩
   go_wp2_with fail
   refine (C2.out _).mono ?_
   rintro e w4 ⟨rfl, rfl⟩
   go_wp2_with fail
   refine (C3.out _).mono ?_
   rintro e w5 ⟨rfl, rfl⟩
   go_wp2_with fail
   refine (C4.out _).mono ?_
   rintro e w6 ⟨rfl, rfl⟩
   go_wp2
   go_ret
   exact ⟨rfl, B2.out⟩
 ·have hsb : ((p[k].toNat : Int) == 47) = false := by rw [i47, decide_eq_false hs]
  rw [decide_eq_false hs, Bool.false_or] at HR
  clear hs
  by_cases h0m : m.size = 0
  ·have hemm := emT h0m
   obtain rfl : r = true := by
    have hn : m.data.toList = [] := List.eq_nil_of_length_eq_zero (by rw [lenB]; exact h0m)
    rw [HR.out, hn]; rfl
   clear h0m HR
   go_enter Tryz.func6, Tryz.ntmps6
   go_wp2_with fail
   refine (HAl.out w (Below.refl _ _)).mono ?_
   rintro e w1 ⟨rfl, b1⟩
   have B1 := Lib.hid b1; clear b1
   go_wp2_with fail
   refine (pc_Beyond2_no w1.heap.size p.size m.size _ (by simp) (by simp) hle).mono ?_
   rintro e w2 ⟨rfl, rfl⟩
   have B2 : Hid (Below w.heap.size w (w1.alloc (.cells #[.int .i64 (p.size : Int), .int .i64 (m.size : Int)] 3))) := Lib.hid (B1.out.alloc B1.out.size _)
   go_wp2_with fail
   refine (C1.out _).mono ?_
   rintro e w3 ⟨rfl, rfl⟩
   go_wp2_with fail
   refine (C2.out _).mono ?_
   rintro e w4 ⟨rfl, rfl⟩
   go_wp2_with fail
   refine (C3.out _).mono ?_
   rintro e w5 ⟨rfl, rfl⟩
   go_wp2_with fail
   refine (C4.out _).mono ?_
   rintro e w6 ⟨rfl, rfl⟩
   go_wp2
   go_ret
   exact ⟨rfl, B2.out⟩
  have hpm : 0 < m.size := by omega
  have hemm := emF hpm
  have hdn : decide (m.data.toList = []) = false := decide_eq_false (fun e => h0m (by rw [← lenB, e]; rfl))
  have hdm : decide (m.data.toList.head? = some 47) = decide (m[0] = 47) := by rw [head0 hpm]; simp
  rw [hdn, hdm, Bool.false_or] at HR
  clear hdn hdm h0m
  by_cases hx : m[0] = 47
  ·have hb : ((m[0].toNat : Int) == 47) = true := by rw [i47, decide_eq_true hx]
   obtain rfl : r = true := by rw [HR.out, decide_eq_true hx]
   clear hx HR
   go_enter Tryz.func6, Tryz.ntmps6
   go_wp2_with fail
   refine (HAl.out w (Below.refl _ _)).mono ?_
   rintro e w1 ⟨rfl, b1⟩
   have B1 := Lib.hid b1; clear b1
   go_wp2_with fail
   refine (pc_Beyond2_no w1.heap.size p.size m.size _ (by simp) (by simp) hle).mono ?_
   rintro e w2 ⟨rfl, rfl⟩
   have B2 : Hid (Below w.heap.size w (w1.alloc (.cells #[.int .i64 (p.size : Int), .int .i64 (m.size : Int)] 3))) := Lib.hid (B1.out.alloc B1.out.size _)
   go_wp2_with fail
   refine (C1.out _).mono ?_
   rintro e w3 ⟨rfl, rfl⟩
   go_wp2_with fail
   refine (C2.out _).mono ?_
   rintro e w4 ⟨rfl, rfl⟩
   go_wp2_with fail
   refine (C3.out _).mono ?_
   rintro e w5 ⟨rfl, rfl⟩
   go_wp2_with fail
   refine (C4.out _).mono ?_
   rintro e w6 ⟨rfl, rfl⟩
   go_wp2
   go_ret
   exact ⟨rfl, B2.out⟩
  ·have hb : ((m[0].toNat : Int) == 47) = false := by rw [i47, decide_eq_false hx]
   obtain rfl : r = false := by rw [HR.out, decide_eq_false hx]
   clear hx HR
   go_enter Tryz.func6, Tryz.ntmps6
   go_wp2_with fail
   refine (HAl.out w (Below.refl _ _)).mono ?_
   rintro e w1 ⟨rfl, b1⟩
   have B1 := Lib.hid b1; clear b1
   go_wp2_with fail
   refine (pc_Beyond2_no w1.heap.size p.size m.size _ (by simp) (by simp) hle).mono ?_
   rintro e w2 ⟨rfl, rfl⟩
   have B2 : Hid (Below w.heap.size w (w1.alloc (.cells #[.int .i64 (p.size : Int), .int .i64 (m.size : Int)] 3))) := Lib.hid (B1.out.alloc B1.out.size _)
   go_wp2_with fail
   refine (C1.out _).mono ?_
   rintro e w3 ⟨rfl, rfl⟩
   go_wp2_with fail
   refine (C2.out _).mono ?_
   rintro e w4 ⟨rfl, rfl⟩
   go_wp2_with fail
   refine (C3.out _).mono ?_
   rintro e w5 ⟨rfl, rfl⟩
   go_wp2_with fail
   refine (C4.out _).mono ?_
   rintro e w6 ⟨rfl, rfl⟩
   go_wp2
   go_ret
   exact ⟨rfl, B2.out⟩

end Go.Proofs.YtldddgmhmolohaaGreatDoor
