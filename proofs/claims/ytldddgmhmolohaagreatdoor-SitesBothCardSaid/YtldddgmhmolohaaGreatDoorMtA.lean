/-
  sites: places: their hosts, whether two are of one site.
  Contracts: sites.placeOf, Same, Origin; of of sites' statements.
  Contract: sites.Origin; alive of sites' statements.
-/
import Derived.Test.YtldddgmhmolohaaGreatDoorMpA
import Derived.Test.YtldddgmhmolohaaGreatDoorMaA
import Derived.Test.YtldddgmhmolohaaGreatDoorMhA
import Derived.Test.YtldddgmhmolohaaGreatDoorMtP
import Derived.Test.YtldddgmhmolohaaGreatDoorMsA
import Derived.Test.YtldddgmhmolohaaGreatDoorMuB
import Derived.Test.YtldddgmhmolohaaGreatDoorMpJ
namespace Go.Proofs.YtldddgmhmolohaaGreatDoor
open Go.RowKit

/-- What stands for a host. -/
def placeV (m : Bool) (h own : ByteArray) : Value := if m then .iface 62 (.string h) else .iface 60 (.agg #[.string h, .string own])
theorem hostM_any (h : ByteArray) (w : World) : Calls Tryz.prog 315 #[.string h] w fun e w' => e = .returned (.string h) ∧ Below w.heap.size w w' := by
  go_enter Tryz.func315, Tryz.ntmps315
  go_wp2
  go_ret
  exact ⟨rfl, Below.refl _ _⟩
theorem hostN_any (h own : ByteArray) (w : World) : Calls Tryz.prog 314 #[.agg #[.string h, .string own]] w fun e w' => e = .returned (.string h) ∧ Below w.heap.size w w' := by
  go_enter Tryz.func314, Tryz.ntmps314
  go_wp2
  go_ret
  exact ⟨rfl, (Below.refl _ _).alloc (Nat.le_refl _) _⟩
theorem methM (h : ByteArray) (n : Nat) (w : World) : (method (n + 1) 62 (.string h) "footman/sites.host").run Tryz.prog w = .ok (315, .string h) w := by kernel_rfl
theorem methN (h own : ByteArray) (n : Nat) (w : World) : (method (n + 1) 60 (.agg #[.string h, .string own]) "footman/sites.host").run Tryz.prog w = .ok (314, .agg #[.string h, .string own]) w := by kernel_rfl
theorem taM (h : ByteArray) (w : World) : (Instr.typeAssert (.iface 62 (.string h)) 47 60 true).run Tryz.prog w = .ok (.tuple #[.agg #[.string ⟨#[]⟩, .string ⟨#[]⟩], .bool false]) w := by kernel_rfl
theorem taN (h own : ByteArray) (w : World) : (Instr.typeAssert (.iface 60 (.agg #[.string h, .string own])) 47 60 true).run Tryz.prog w = .ok (.tuple #[.agg #[.string h, .string own], .bool true]) w := by kernel_rfl
theorem infoN : (Tryz.prog.info? 60).map (·.size) = some 2 := by kernel_rfl
/-- Are two places of one site? -/
def togB (a b : Bool) (g h x y : ByteArray) : Bool := decide (g = h) || (!a && (!b && (decide (0 < x.size) && decide (x = y))))
set_option maxRecDepth 100000 in
set_option maxHeartbeats 1000000 in
theorem together_m (b : Bool) (g h x y : ByteArray) (w : World) : Calls Tryz.prog 24 #[placeV true g x, placeV b h y] w fun e w' => e = .returned (.bool (togB true b g h x y)) ∧ Below w.heap.size w w' := by
  have m1 := methM g
  have m2 := methM h
  have m3 := methN h y
  have t1 := taM g
  have HE : ∀ r, decide (g = h) = r → (g.toList == h.toList) = r := fun r e => by
    rw [← e]
    by_cases e : g = h
    · rw [e]; simp
    · rw [neL e, decide_eq_false e]
  obtain ⟨r, Hr⟩ : ∃ r, Hid (decide (g = h) = r) := ⟨_, Lib.hid rfl⟩
  have hr := HE r Hr.out
  have HV : Hid (togB true b g h x y = r) := Lib.hid (by rw [togB, Hr.out]; simp)
  rw [HV.out]
  clear HE HV Hr
  cases b
  all_goals
    unfold placeV
    first | rw [if_pos rfl, if_pos rfl] | rw [if_pos rfl, if_neg (by decide)]
    cases r
    all_goals
      go_enter Tryz.func24, Tryz.ntmps24
      go_wp2_with fail
      refine (hostM_any g _).mono ?_
      rintro e w1 ⟨rfl, b1⟩
      have B1 := Lib.hid b1; clear b1
      go_wp2_with fail
      first | refine (hostM_any h _).mono ?_ | refine (hostN_any h y _).mono ?_
      rintro e w2 ⟨rfl, b2⟩
      have B2 : Hid (Below w.heap.size w w2) := Lib.hid (keepW B1.out b2)
      clear b2
      go_wp2
      go_ret
      exact ⟨rfl, B2.out⟩
set_option maxRecDepth 100000 in
set_option maxHeartbeats 1000000 in
theorem together_nm (g h x y : ByteArray) (w : World) : Calls Tryz.prog 24 #[placeV false g x, placeV true h y] w fun e w' => e = .returned (.bool (togB false true g h x y)) ∧ Below w.heap.size w w' := by
  have m1 := methN g x
  have m2 := methM h
  have t1 := taN g x
  have t2 := taM h
  have HE : ∀ r, decide (g = h) = r → (g.toList == h.toList) = r := fun r e => by
    rw [← e]
    by_cases e : g = h
    · rw [e]; simp
    · rw [neL e, decide_eq_false e]
  obtain ⟨r, Hr⟩ : ∃ r, Hid (decide (g = h) = r) := ⟨_, Lib.hid rfl⟩
  have hr := HE r Hr.out
  have HV : Hid (togB false true g h x y = r) := Lib.hid (by rw [togB, Hr.out]; simp)
  rw [HV.out]
  clear HE HV Hr
  unfold placeV
  rw [if_neg (by decide), if_pos rfl]
  cases r
  · go_enter Tryz.func24, Tryz.ntmps24
    go_wp2_with fail
    refine (hostN_any g x _).mono ?_
    rintro e w1 ⟨rfl, b1⟩
    have B1 := Lib.hid b1; clear b1
    go_wp2_with fail
    refine (hostM_any h _).mono ?_
    rintro e w2 ⟨rfl, b2⟩
    have B2 : Hid (Below w.heap.size w w2) := Lib.hid (keepW B1.out b2)
    clear b2
    obtain ⟨W3, HW3⟩ : ∃ W, Hid (w2.alloc (.cells #[.string g, .string x] 60) = W) := ⟨_, Lib.hid rfl⟩
    have B3 : Hid (Below w.heap.size w W3) := Lib.hid (by rw [← HW3.out]; exact B2.out.alloc B2.out.size _)
    have c3 : W3.cell? ⟨w2.heap.size, 1, none⟩ = some (.string x) := by
      rw [cell_of_row W3 _ _ _ _ _ (by rw [← HW3.out]; exact heap_alloc_new w2 _)]; rfl
    obtain ⟨W4, HW4⟩ : ∃ W, Hid (W3.alloc (.cells #[.string ⟨#[]⟩, .string ⟨#[]⟩] 60) = W) := ⟨_, Lib.hid rfl⟩
    have B4 : Hid (Below w.heap.size w W4) := Lib.hid (by rw [← HW4.out]; exact B3.out.alloc B3.out.size _)
    go_wp2_with (first
      | (refine wpL_store_row rfl 60 _ _ rfl w2.heap.size #[.string g, .string x] ?_ ?_ 60 #[.string ⟨#[]⟩, .string ⟨#[]⟩] ?_ ?_ ?_ ?_ ?_; exact rfl; exact rfl; exact heap_alloc_new w2 _; exact infoN; exact rfl; exact rfl; rw [World.setRow_alloc_new, HW3.out])
      | (refine wpL_store_row rfl 60 _ _ rfl W3.heap.size #[.string ⟨#[]⟩, .string ⟨#[]⟩] ?_ ?_ 60 #[.string ⟨#[]⟩, .string ⟨#[]⟩] ?_ ?_ ?_ ?_ ?_; exact rfl; exact rfl; exact heap_alloc_new W3 _; exact infoN; exact rfl; exact rfl; rw [World.setRow_alloc_new, HW4.out]))
    go_ret
    exact ⟨rfl, by rw [HW3.out, HW4.out]; exact B4.out⟩
  · go_enter Tryz.func24, Tryz.ntmps24
    go_wp2_with fail
    refine (hostN_any g x _).mono ?_
    rintro e w1 ⟨rfl, b1⟩
    have B1 := Lib.hid b1; clear b1
    go_wp2_with fail
    refine (hostM_any h _).mono ?_
    rintro e w2 ⟨rfl, b2⟩
    have B2 : Hid (Below w.heap.size w w2) := Lib.hid (keepW B1.out b2)
    clear b2
    go_wp2
    go_ret
    exact ⟨rfl, B2.out⟩
set_option maxRecDepth 100000 in
set_option maxHeartbeats 1000000 in
theorem together_nn (g h x y : ByteArray) (w : World) : Calls Tryz.prog 24 #[placeV false g x, placeV false h y] w fun e w' => e = .returned (.bool (togB false false g h x y)) ∧ Below w.heap.size w w' := by
  have m1 := methN g x
  have m2 := methN h y
  have t1 := taN g x
  have t2 := taN h y
  have HE : ∀ (g h : ByteArray) r, decide (g = h) = r → (g.toList == h.toList) = r := fun g h r e => by
    rw [← e]
    by_cases e : g = h
    · rw [e]; simp
    · rw [neL e, decide_eq_false e]
  obtain ⟨r, Hr⟩ : ∃ r, Hid (decide (g = h) = r) := ⟨_, Lib.hid rfl⟩
  have hr := HE g h r Hr.out
  obtain ⟨q, Hq⟩ : ∃ r, Hid (decide (x = y) = r) := ⟨_, Lib.hid rfl⟩
  have hq := HE x y q Hq.out
  obtain ⟨z, Hz⟩ : ∃ r, Hid (decide (0 < x.size) = r) := ⟨_, Lib.hid rfl⟩
  have hz : x.toList.isEmpty = !z := by
    rw [← Hz.out]
    by_cases h0 : x.size = 0
    · rw [emT h0, h0]; rfl
    · rw [emF (by omega), decide_eq_true (by omega : 0 < x.size)]; rfl
  have HV : Hid (togB false false g h x y = (r || (z && q))) := Lib.hid (by rw [togB, Hr.out, Hq.out, Hz.out]; simp)
  rw [HV.out]
  clear HE HV Hr Hq Hz
  unfold placeV
  rw [if_neg (by decide), if_neg (by decide)]
  cases r
  · obtain ⟨K, HK⟩ : ∃ K, Hid ((false || (z && q)) = K) := ⟨_, Lib.hid rfl⟩
    rw [HK.out]
    cases z
    all_goals
      go_enter Tryz.func24, Tryz.ntmps24
      go_wp2_with fail
      refine (hostN_any g x _).mono ?_
      rintro e w1 ⟨rfl, b1⟩
      have B1 := Lib.hid b1; clear b1
      go_wp2_with fail
      refine (hostN_any h y _).mono ?_
      rintro e w2 ⟨rfl, b2⟩
      have B2 : Hid (Below w.heap.size w w2) := Lib.hid (keepW B1.out b2)
      clear b2
      obtain ⟨W3, HW3⟩ : ∃ W, Hid (w2.alloc (.cells #[.string g, .string x] 60) = W) := ⟨_, Lib.hid rfl⟩
      have B3 : Hid (Below w.heap.size w W3) := Lib.hid (by rw [← HW3.out]; exact B2.out.alloc B2.out.size _)
      have g3 : W3.heap[w2.heap.size]? = some (.cells #[.string g, .string x] 60 (0, 0)) := by rw [← HW3.out]; exact heap_alloc_new w2 _
      obtain ⟨W4, HW4⟩ : ∃ W, Hid (W3.alloc (.cells #[.string h, .string y] 60) = W) := ⟨_, Lib.hid rfl⟩
      have B4 : Hid (Below w.heap.size w W4) := Lib.hid (by rw [← HW4.out]; exact B3.out.alloc B3.out.size _)
      have c4 : W4.cell? ⟨w2.heap.size, 1, none⟩ = some (.string x) := by
        rw [cell_of_row W4 _ _ _ _ _ (by rw [← HW4.out]; exact ((Kp.refl (fun _ => False) _).alloc _).at g3 id)]; rfl
      have c5 : W4.cell? ⟨W3.heap.size, 1, none⟩ = some (.string y) := by
        rw [cell_of_row W4 _ _ _ _ _ (by rw [← HW4.out]; exact heap_alloc_new W3 _)]; rfl
      clear g3
      go_wp2_with (first
        | (refine wpL_store_row rfl 60 _ _ rfl w2.heap.size #[.string g, .string x] ?_ ?_ 60 #[.string ⟨#[]⟩, .string ⟨#[]⟩] ?_ ?_ ?_ ?_ ?_; exact rfl; exact rfl; exact heap_alloc_new w2 _; exact infoN; exact rfl; exact rfl; rw [World.setRow_alloc_new, HW3.out])
        | (refine wpL_store_row rfl 60 _ _ rfl W3.heap.size #[.string h, .string y] ?_ ?_ 60 #[.string ⟨#[]⟩, .string ⟨#[]⟩] ?_ ?_ ?_ ?_ ?_; exact rfl; exact rfl; exact heap_alloc_new W3 _; exact infoN; exact rfl; exact rfl; rw [World.setRow_alloc_new, HW4.out]))
      go_ret
      exact ⟨ret_bool (by rw [← HK.out]; first | rfl | (rw [hq]; rfl)), by rw [HW3.out, HW4.out]; exact B4.out⟩
  · go_enter Tryz.func24, Tryz.ntmps24
    go_wp2_with fail
    refine (hostN_any g x _).mono ?_
    rintro e w1 ⟨rfl, b1⟩
    have B1 := Lib.hid b1; clear b1
    go_wp2_with fail
    refine (hostN_any h y _).mono ?_
    rintro e w2 ⟨rfl, b2⟩
    have B2 : Hid (Below w.heap.size w w2) := Lib.hid (keepW B1.out b2)
    clear b2
    go_wp2
    go_ret
    exact ⟨rfl, B2.out⟩

end Go.Proofs.YtldddgmhmolohaaGreatDoor
namespace Go.Proofs.YtldddgmhmolohaaGreatDoor
open Go.RowKit

set_option maxRecDepth 100000 in
set_option maxHeartbeats 4000000 in
theorem of9_any (s : ByteArray) (w : World) (hW : Uw w) :
    Calls Tryz.prog 21 #[.string s] w fun e w' => e = .returned (.agg (paT s).1.cells.toArray) ∧ Below w.heap.size w w' := by
  have HP : Hid (∀ w', Below w.heap.size w w' → Calls Tryz.prog 36 #[.string s, .agg u0.cells.toArray, .bool false] w' fun e w'' => e = .returned (.tuple #[.agg (paT s).1.cells.toArray, .int .i64 (paT s).2]) ∧ Below w'.heap.size w' w'') := Lib.hid (fun w' hb => Parse0_any _ u0 w' (paOk s) (hW.later hb))
  obtain ⟨A, c, HA⟩ : ∃ A c, Hid (paT s = (A, c)) := ⟨_, _, Lib.hid rfl⟩
  rw [HA.out] at HP ⊢
  dsimp only at HP ⊢
  have HI : Hid ((Tryz.prog.info? 24).map (·.size) = some A.cells.toArray.size) := Lib.hid infoU
  have HO : Hid (A.cells.toArray.all (·.oneCell') = true) := Lib.hid (cells_one A)
  have HS : Hid (u0.cells.toArray.size = A.cells.toArray.size) := Lib.hid rfl
  obtain ⟨V, HV⟩ : ∃ V, Hid (A.cells.toArray = V) := ⟨_, Lib.hid rfl⟩
  rw [HV.out] at HP HI HO HS ⊢
  obtain ⟨W, HWw⟩ : ∃ W, Hid (w.alloc (.cells u0.cells.toArray 24) = W) := ⟨_, Lib.hid rfl⟩
  have HB : Hid (Below w.heap.size w W) := Lib.hid (by rw [← HWw.out]; exact (Below.refl _ _).alloc (Nat.le_refl _) _)
  have HG : Hid (W.heap[w.heap.size]? = some (.cells u0.cells.toArray 24 (0, 0))) := Lib.hid (by rw [← HWw.out]; exact heap_alloc_new w _)
  clear hW
  go_enter Tryz.func21, Tryz.ntmps21
  go_wp2_with fail
  refine (show Calls Tryz.prog 36 #[.string s, .agg u0.cells.toArray, .bool false] (w.alloc (.cells u0.cells.toArray 24)) _ from by rw [HWw.out]; exact HP.out W HB.out).mono ?_
  rintro e w1 ⟨rfl, b1⟩
  have HB1 : Hid (Below w.heap.size w w1) := Lib.hid (us_keep HB.out b1)
  have HG1 : Hid (w1.heap[w.heap.size]? = some (.cells u0.cells.toArray 24 (0, 0))) := Lib.hid ((b1.block _ (lt_of_block HG.out)).trans HG.out)
  have hl1 : w.heap.size < w1.heap.size := lt_of_block HG1.out
  obtain ⟨W2, HW2⟩ : ∃ W, Hid (w1.alloc (.cells V 24) = W) := ⟨_, Lib.hid rfl⟩
  have HB2 : Hid (Below w.heap.size w W2) := Lib.hid (by rw [← HW2.out]; exact HB1.out.alloc HB1.out.size _)
  have HG2 : Hid (W2.heap[w.heap.size]? = some (.cells u0.cells.toArray 24 (0, 0))) := Lib.hid (by rw [← HW2.out]; exact ((Kp.refl (fun _ => False) _).alloc _).at HG1.out id)
  have HQ2 : Hid (W2.heap[w1.heap.size]? = some (.cells V 24 (0, 0))) := Lib.hid (by rw [← HW2.out]; exact heap_alloc_new w1 _)
  obtain ⟨W3, HW3⟩ : ∃ W, Hid (W2.setRow w.heap.size V = W) := ⟨_, Lib.hid rfl⟩
  have HA3 : Hid (W3.heap[w.heap.size]? = some (.cells V 24 (0, 0))) := Lib.hid (by rw [← HW3.out]; exact setRow_heap _ _ _ _ _ _ HG2.out)
  have HB3 : Hid (Below w.heap.size w W3) := Lib.hid (by rw [← HW3.out]; exact setRow_below HB2.out _ _ (Nat.le_refl _))
  clear b1
  go_wp2_with (first
    | (refine wpL_store_row rfl 24 _ _ rfl w1.heap.size V ?_ ?_ 24 u0.cells.toArray ?_ ?_ ?_ ?_ ?_; exact rfl; exact rfl; exact heap_alloc_new w1 _; exact HI.out; exact HS.out; exact HO.out; rw [World.setRow_alloc_new, HW2.out])
    | (refine wpL_store_row rfl 24 _ _ rfl w.heap.size V ?_ ?_ 24 u0.cells.toArray ?_ ?_ ?_ ?_ ?_; exact rfl; exact rfl; exact HG2.out; exact HI.out; exact HS.out; exact HO.out; rw [HW3.out])
    | (refine wpList_load_row rfl 24 _ rfl w1.heap.size ?_ 24 V (0, 0) _ ?_ Tryz.underlying24 rfl HI.out ?_; (exact rfl); (exact HQ2.out)))
  exact bodyPost_ret (v := .agg V) (results_cell_row (P := Tryz.prog) Tryz.results21 _ _ w.heap.size _ _ (0, 0) _ rfl HA3.out Tryz.underlying24 rfl HI.out) rfl ⟨rfl, HB3.out⟩

set_option maxRecDepth 100000 in
set_option maxHeartbeats 1000000 in
theorem placeOf_any (R : List ByteArray) (a0 : Option Addr) (b off cap : Nat) (h : ByteArray) (w : World) (hT : TxAt R a0 b off w) (hF : Fair R h) (hW : Hw w) :
    Calls Tryz.prog 25 #[.slice a0 R.length cap, .string h] w fun e w' => e = .returned (placeV (machB h) h (sufT R h 1).1) ∧ Below w.heap.size w w' := by
  have HW := Lib.hid hW; clear hW
  have HT := Lib.hid hT; clear hT
  have HF := Lib.hid hF
  have hh : h.size ≤ 1000 := hF.2.2
  clear hF
  obtain ⟨M, HM⟩ : ∃ M, Hid (machB h = M) := ⟨_, Lib.hid rfl⟩
  have CM : Hid (∀ w, Calls Tryz.prog 39 #[.string h] w fun e w' => e = .returned (.bool M) ∧ Below w.heap.size w w') := Lib.hid (fun w => by rw [← HM.out]; exact Machine_any h w (by omega))
  have CO := Lib.hid (fun w hT hW => Own_any R a0 b off cap h w hT HF.out hW)
  obtain ⟨o, c, HO⟩ : ∃ o c, Hid (sufT R h 1 = (o, c)) := ⟨_, _, Lib.hid rfl⟩
  rw [HO.out] at CO
  rw [HM.out, HO.out]
  clear HM HO HF
  obtain ⟨n, HN⟩ : ∃ n, Hid (R.length = n) := ⟨_, Lib.hid rfl⟩
  rw [HN.out] at CO ⊢
  cases M
  · go_enter Tryz.func25, Tryz.ntmps25
    go_wp2_with fail
    refine (CM.out _).mono ?_
    rintro e w1 ⟨rfl, b1⟩
    have B1 := Lib.hid b1; clear b1
    go_wp2_with fail
    refine (CO.out _ (HT.out.later B1.out) (HW.out.later B1.out)).mono ?_
    rintro e w2 ⟨rfl, b2⟩
    have B2 : Hid (Below w.heap.size w w2) := Lib.hid (keepW B1.out b2)
    clear b2
    go_wp2
    go_ret
    exact ⟨rfl, B2.out⟩
  · go_enter Tryz.func25, Tryz.ntmps25
    go_wp2_with fail
    refine (CM.out _).mono ?_
    rintro e w1 ⟨rfl, b1⟩
    have B1 := Lib.hid b1; clear b1
    go_wp2
    go_ret
    exact ⟨rfl, B1.out⟩

theorem together_any (a b : Bool) (g h x y : ByteArray) (w : World) : Calls Tryz.prog 24 #[placeV a g x, placeV b h y] w fun e w' => e = .returned (.bool (togB a b g h x y)) ∧ Below w.heap.size w w' := by
  cases a
  · cases b
    · exact together_nn g h x y w
    · exact together_nm g h x y w
  · exact together_m b g h x y w
/-- A host's own name, by rules. -/
def ownB (R : List ByteArray) (h : ByteArray) : ByteArray := (sufT R h 1).1
theorem own_mach {R : List ByteArray} {h : ByteArray} (hR : rulesB R = true) (hm : machB h = true) : ownB R h = ⟨#[]⟩ := by
  rw [ownB, sufT, if_neg (by rw [hR]; simp), if_pos (by rw [nameB, hm]; simp)]
theorem sz0 (x : ByteArray) : decide (0 < x.size) = decide (x ≠ ⟨#[]⟩) := by
  rw [Bool.eq_iff_iff, decide_eq_true_eq, decide_eq_true_eq]
  constructor
  · rintro h rfl; exact Nat.lt_irrefl _ h
  · intro h
    by_cases e : x.size = 0
    · exact absurd (ba_of (List.eq_nil_of_length_eq_zero (by rw [lenB]; exact e))) h
    · omega
theorem tog_same {R : List ByteArray} {g h : ByteArray} (hR : rulesB R = true) : togB (machB g) (machB h) g h (ownB R g) (ownB R h) = (decide (g = h) || (decide (ownB R g ≠ ⟨#[]⟩) && decide (ownB R g = ownB R h))) := by
  rw [togB, sz0]
  cases hg : machB g with
  | true => rw [own_mach hR hg]; simp
  | false =>
    cases hh : machB h with
    | true =>
      rw [own_mach hR hh]
      by_cases e : ownB R g = ⟨#[]⟩ <;> simp [e]
    | false => simp
/-- What Same answers. -/
def same9 (R : List ByteArray) (U V : UrS) : Bool := sameP (rulesB R) (ownB R) (ckT U) (ckT V) U.sch U.hst V.sch V.hst
set_option maxRecDepth 100000 in
set_option maxHeartbeats 4000000 in
theorem Same9_any (R : List ByteArray) (a0 : Option Addr) (b off cap : Nat) (U V : UrS) (w : World) (hT : TxAt R a0 b off w) (hRl : R.length ≤ 2000) (hRs : ∀ r ∈ R, r.size ≤ 50000) (hU : Sm U) (hV : Sm V)
    (hcU : ckT U = true → U.hst.size ≤ 1000) (hcV : ckT V = true → V.hst.size ≤ 1000) (hW : Uw w) :
    Calls Tryz.prog 12 #[.slice a0 R.length cap, .agg U.cells.toArray, .agg V.cells.toArray] w fun e w' => e = .returned (.bool (same9 R U V)) ∧ Below w.heap.size w w' := by
  have HW := Lib.hid hW; clear hW
  have HT := Lib.hid hT; clear hT
  obtain ⟨m, hm⟩ := HW.out.hw.ml
  have HM := Lib.hid hm; clear hm
  have CR : Hid (∀ w', Below w.heap.size w w' → Calls Tryz.prog 23 #[.slice a0 R.length cap] w' fun e w'' => e = .returned (.bool (rulesB R)) ∧ Below w'.heap.size w' w'') := Lib.hid (fun w' hb => Check_any R a0 b off cap m w' (HT.out.later hb) (by omega) hRs ((hb.cell (block_lt_of_cell HM.out)).trans HM.out))
  have CU : Hid (∀ w', Below w.heap.size w w' → Calls Tryz.prog 22 #[.agg U.cells.toArray] w' fun e w'' => e = .returned (.bool (ckT U)) ∧ Below w'.heap.size w' w'') := Lib.hid (fun w' hb => UCheck_any U w' hU (paOk _) (HW.out.later hb))
  have CV : Hid (∀ w', Below w.heap.size w w' → Calls Tryz.prog 22 #[.agg V.cells.toArray] w' fun e w'' => e = .returned (.bool (ckT V)) ∧ Below w'.heap.size w' w'') := Lib.hid (fun w' hb => UCheck_any V w' hV (paOk _) (HW.out.later hb))
  have HPA : Hid (∀ w', ckT U = true → Below w.heap.size w w' → Calls Tryz.prog 25 #[.slice a0 R.length cap, .string U.hst] w' fun e w'' => e = .returned (placeV (machB U.hst) U.hst (ownB R U.hst)) ∧ Below w'.heap.size w' w'') := Lib.hid (fun w' hc hb => placeOf_any R a0 b off cap U.hst w' (HT.out.later hb) ⟨hRl, hRs, hcU hc⟩ (HW.out.later hb).hw)
  have HPB : Hid (∀ w', ckT V = true → Below w.heap.size w w' → Calls Tryz.prog 25 #[.slice a0 R.length cap, .string V.hst] w' fun e w'' => e = .returned (placeV (machB V.hst) V.hst (ownB R V.hst)) ∧ Below w'.heap.size w' w'') := Lib.hid (fun w' hc hb => placeOf_any R a0 b off cap V.hst w' (HT.out.later hb) ⟨hRl, hRs, hcV hc⟩ (HW.out.later hb).hw)
  have HTg : Hid (∀ w', Calls Tryz.prog 24 #[placeV (machB U.hst) U.hst (ownB R U.hst), placeV (machB V.hst) V.hst (ownB R V.hst)] w' fun e w'' => e = .returned (.bool (togB (machB U.hst) (machB V.hst) U.hst V.hst (ownB R U.hst) (ownB R V.hst))) ∧ Below w'.heap.size w' w'') := Lib.hid (fun w' => together_any _ _ _ _ _ _ w')
  have HTS : Hid (rulesB R = true → togB (machB U.hst) (machB V.hst) U.hst V.hst (ownB R U.hst) (ownB R V.hst) = (decide (U.hst = V.hst) || (decide (ownB R U.hst ≠ ⟨#[]⟩) && decide (ownB R U.hst = ownB R V.hst)))) := Lib.hid tog_same
  have HSV : Hid (same9 R U V = (rulesB R && (ckT U && (ckT V && (decide (U.sch = V.sch) && (decide (U.hst = V.hst) || (decide (ownB R U.hst ≠ ⟨#[]⟩) && decide (ownB R U.hst = ownB R V.hst)))))))) := Lib.hid rfl
  obtain ⟨Z, HZ⟩ : ∃ Z, Hid (same9 R U V = Z) := ⟨_, Lib.hid rfl⟩
  obtain ⟨TG, HTG⟩ : ∃ Z, Hid (togB (machB U.hst) (machB V.hst) U.hst V.hst (ownB R U.hst) (ownB R V.hst) = Z) := ⟨_, Lib.hid rfl⟩
  obtain ⟨PA, HPAv⟩ : ∃ Z, Hid (placeV (machB U.hst) U.hst (ownB R U.hst) = Z) := ⟨_, Lib.hid rfl⟩
  obtain ⟨PB, HPBv⟩ : ∃ Z, Hid (placeV (machB V.hst) V.hst (ownB R V.hst) = Z) := ⟨_, Lib.hid rfl⟩
  rw [HZ.out] at HSV ⊢
  rw [HTG.out] at HTS HTg
  rw [HPAv.out] at HPA HTg
  rw [HPBv.out] at HPB HTg
  clear hcU hcV hU hV HZ HTG HPAv HPBv hRl hRs
  obtain ⟨ok, Hok⟩ : ∃ Z, Hid (rulesB R = Z) := ⟨_, Lib.hid rfl⟩
  obtain ⟨x, Hx⟩ : ∃ Z, Hid (ckT U = Z) := ⟨_, Lib.hid rfl⟩
  obtain ⟨y, Hy⟩ : ∃ Z, Hid (ckT V = Z) := ⟨_, Lib.hid rfl⟩
  rw [Hok.out] at CR HSV HTS
  rw [Hx.out] at CU HPA HSV
  rw [Hy.out] at CV HPB HSV
  obtain ⟨n, HN⟩ : ∃ Z, Hid (R.length = Z) := ⟨_, Lib.hid rfl⟩
  rw [HN.out] at CR HPA HPB
  rw [HN.out]
  have HI1 : Hid ((Tryz.prog.info? 24).map (·.size) = some U.cells.toArray.size) := Lib.hid infoU
  have HI2 : Hid ((Tryz.prog.info? 24).map (·.size) = some V.cells.toArray.size) := Lib.hid infoU
  have u0c : Hid (U.cells.toArray[0]? = some (.string U.sch) ∧ U.cells.toArray[3]? = some (.string U.hst)) := Lib.hid ⟨rfl, rfl⟩
  have v0c : Hid (V.cells.toArray[0]? = some (.string V.sch) ∧ V.cells.toArray[3]? = some (.string V.hst)) := Lib.hid ⟨rfl, rfl⟩
  have HSc : Hid ((U.sch.toList == V.sch.toList) = decide (U.sch = V.sch)) := Lib.hid (by
    by_cases e : U.sch = V.sch
    · rw [e]; simp
    · rw [neL e, decide_eq_false e])
  obtain ⟨su, Hsu⟩ : ∃ Z, Hid (U.sch = Z) := ⟨_, Lib.hid rfl⟩
  obtain ⟨sv, Hsv⟩ : ∃ Z, Hid (V.sch = Z) := ⟨_, Lib.hid rfl⟩
  obtain ⟨hu, Hhu⟩ : ∃ Z, Hid (U.hst = Z) := ⟨_, Lib.hid rfl⟩
  obtain ⟨hv, Hhv⟩ : ∃ Z, Hid (V.hst = Z) := ⟨_, Lib.hid rfl⟩
  obtain ⟨C, HC⟩ : ∃ Z, Hid (U.cells.toArray = Z) := ⟨_, Lib.hid rfl⟩
  obtain ⟨D, HD⟩ : ∃ Z, Hid (V.cells.toArray = Z) := ⟨_, Lib.hid rfl⟩
  rw [Hsu.out, Hsv.out] at HSc HSV
  rw [Hhu.out] at HPA HTS HSV u0c
  rw [Hhv.out] at HPB HTS HSV v0c
  rw [Hsu.out, HC.out] at u0c
  rw [Hsv.out, HD.out] at v0c
  rw [HC.out] at CU HI1
  rw [HD.out] at CV HI2
  rw [HC.out, HD.out]
  obtain ⟨q, Hq⟩ : ∃ Z, Hid (decide (su = sv) = Z) := ⟨_, Lib.hid rfl⟩
  rw [Hq.out] at HSc HSV
  have hsc := HSc.out
  clear HSc Hsu Hsv Hhu Hhv HC HD Hok Hx Hy Hq HM HN
  obtain ⟨W0, HW0⟩ : ∃ W, Hid (w.alloc (.cells C 24) = W) := ⟨_, Lib.hid rfl⟩
  have B0 : Hid (Below w.heap.size w W0) := Lib.hid (by rw [← HW0.out]; exact (Below.refl _ _).alloc (Nat.le_refl _) _)
  have G0 : Hid (W0.heap[w.heap.size]? = some (.cells C 24 (0, 0))) := Lib.hid (by rw [← HW0.out]; exact heap_alloc_new w _)
  obtain ⟨W, HWw⟩ : ∃ W, Hid (W0.alloc (.cells D 24) = W) := ⟨_, Lib.hid rfl⟩
  have BW1 : Hid (Below w.heap.size w W) := Lib.hid (by rw [← HWw.out]; exact B0.out.alloc B0.out.size _)
  have GC : Hid (W.heap[w.heap.size]? = some (.cells C 24 (0, 0))) := Lib.hid (by rw [← HWw.out]; exact ((Kp.refl (fun _ => False) _).alloc _).at G0.out id)
  have GD : Hid (W.heap[W0.heap.size]? = some (.cells D 24 (0, 0))) := Lib.hid (by rw [← HWw.out]; exact heap_alloc_new W0 _)
  have HWW : Hid ((w.alloc (.cells C 24)).alloc (.cells D 24) = W) := Lib.hid (by rw [HW0.out, HWw.out])
  have hsz : W0.heap.size = w.heap.size + 1 := by rw [← HW0.out]; simp
  rw [hsz] at GD
  clear hsz HWw HW0 B0 G0
  have first : Hid (Calls Tryz.prog 23 #[.slice a0 n cap] W fun e w' => e = .returned (.bool ok) ∧ Below W.heap.size W w') := Lib.hid (CR.out W BW1.out)
  clear CR
  cases ok
  · have HF : Hid (Z = false) := Lib.hid (by rw [HSV.out]; rfl)
    clear HSV HTS
    go_enter Tryz.func12, Tryz.ntmps12
    go_upto_region 1 with (fail)
    rw [HWW.out]
    go_wp2_with fail
    refine first.out.mono ?_
    rintro e w1 ⟨rfl, b1⟩
    have B1 : Hid (Below w.heap.size w w1) := Lib.hid (keepW BW1.out b1)
    clear b1
    go_wp2
    go_ret
    exact ⟨ret_bool HF.out.symm, B1.out⟩
  cases x
  · have HF : Hid (Z = false) := Lib.hid (by rw [HSV.out]; rfl)
    clear HSV HTS HPA HPB
    go_enter Tryz.func12, Tryz.ntmps12
    go_upto_region 1 with (fail)
    rw [HWW.out]
    go_wp2_with fail
    refine first.out.mono ?_
    rintro e w1 ⟨rfl, b1⟩
    have B1 : Hid (Below w.heap.size w w1) := Lib.hid (keepW BW1.out b1)
    have GC1 : Hid (w1.heap[w.heap.size]? = some (.cells C 24 (0, 0))) := Lib.hid ((b1.block _ (lt_of_block GC.out)).trans GC.out)
    clear b1
    go_wp2_with (refine wpW_load_row rfl 24 _ rfl w.heap.size ?_ 24 C (0, 0) _ ?_ Tryz.underlying24 rfl HI1.out ?_; (exact rfl); (exact GC1.out))
    refine (CU.out w1 B1.out).mono ?_
    rintro e w2 ⟨rfl, b2⟩
    have B2 : Hid (Below w.heap.size w w2) := Lib.hid (keepW B1.out b2)
    clear b2
    go_wp2
    go_ret
    exact ⟨ret_bool HF.out.symm, B2.out⟩
  cases y
  · have HF : Hid (Z = false) := Lib.hid (by rw [HSV.out]; rfl)
    clear HSV HTS HPA HPB
    go_enter Tryz.func12, Tryz.ntmps12
    go_upto_region 1 with (fail)
    rw [HWW.out]
    go_wp2_with fail
    refine first.out.mono ?_
    rintro e w1 ⟨rfl, b1⟩
    have B1 : Hid (Below w.heap.size w w1) := Lib.hid (keepW BW1.out b1)
    have GC1 : Hid (w1.heap[w.heap.size]? = some (.cells C 24 (0, 0))) := Lib.hid ((b1.block _ (lt_of_block GC.out)).trans GC.out)
    have GD1 : Hid (w1.heap[w.heap.size + 1]? = some (.cells D 24 (0, 0))) := Lib.hid ((b1.block _ (lt_of_block GD.out)).trans GD.out)
    clear b1
    go_wp2_with (refine wpW_load_row rfl 24 _ rfl w.heap.size ?_ 24 C (0, 0) _ ?_ Tryz.underlying24 rfl HI1.out ?_; (exact rfl); (exact GC1.out))
    refine (CU.out w1 B1.out).mono ?_
    rintro e w2 ⟨rfl, b2⟩
    have B2 : Hid (Below w.heap.size w w2) := Lib.hid (keepW B1.out b2)
    have GD2 : Hid (w2.heap[w.heap.size + 1]? = some (.cells D 24 (0, 0))) := Lib.hid ((b2.block _ (lt_of_block GD1.out)).trans GD1.out)
    clear b2
    go_wp2_with (refine wpW_load_row rfl 24 _ rfl (w.heap.size + 1) ?_ 24 D (0, 0) _ ?_ Tryz.underlying24 rfl HI2.out ?_; (exact rfl); (exact GD2.out))
    refine (CV.out w2 B2.out).mono ?_
    rintro e w3 ⟨rfl, b3⟩
    have B3 : Hid (Below w.heap.size w w3) := Lib.hid (keepW B2.out b3)
    clear b3
    go_wp2
    go_ret
    exact ⟨ret_bool HF.out.symm, B3.out⟩
  have HPA2 := Lib.hid (fun w' => HPA.out w' rfl)
  have HPB2 := Lib.hid (fun w' => HPB.out w' rfl)
  have HZq : Hid (Z = (q && TG)) := Lib.hid (by rw [HSV.out, HTS.out rfl]; simp)
  clear HPA HPB HSV HTS
  cases q
  all_goals
    go_enter Tryz.func12, Tryz.ntmps12
    go_upto_region 1 with (fail)
    rw [HWW.out]
    go_wp2_with fail
    refine first.out.mono ?_
    rintro e w1 ⟨rfl, b1⟩
    have B1 : Hid (Below w.heap.size w w1) := Lib.hid (keepW BW1.out b1)
    have GC1 : Hid (w1.heap[w.heap.size]? = some (.cells C 24 (0, 0))) := Lib.hid ((b1.block _ (lt_of_block GC.out)).trans GC.out)
    have GD1 : Hid (w1.heap[w.heap.size + 1]? = some (.cells D 24 (0, 0))) := Lib.hid ((b1.block _ (lt_of_block GD.out)).trans GD.out)
    clear b1
    go_wp2_with (refine wpW_load_row rfl 24 _ rfl w.heap.size ?_ 24 C (0, 0) _ ?_ Tryz.underlying24 rfl HI1.out ?_; (exact rfl); (exact GC1.out))
    refine (CU.out w1 B1.out).mono ?_
    rintro e w2 ⟨rfl, b2⟩
    have B2 : Hid (Below w.heap.size w w2) := Lib.hid (keepW B1.out b2)
    have GC2 : Hid (w2.heap[w.heap.size]? = some (.cells C 24 (0, 0))) := Lib.hid ((b2.block _ (lt_of_block GC1.out)).trans GC1.out)
    have GD2 : Hid (w2.heap[w.heap.size + 1]? = some (.cells D 24 (0, 0))) := Lib.hid ((b2.block _ (lt_of_block GD1.out)).trans GD1.out)
    clear b2
    go_wp2_with (refine wpW_load_row rfl 24 _ rfl (w.heap.size + 1) ?_ 24 D (0, 0) _ ?_ Tryz.underlying24 rfl HI2.out ?_; (exact rfl); (exact GD2.out))
    refine (CV.out w2 B2.out).mono ?_
    rintro e w3 ⟨rfl, b3⟩
    have B3 : Hid (Below w.heap.size w w3) := Lib.hid (keepW B2.out b3)
    have GC3 : Hid (w3.heap[w.heap.size]? = some (.cells C 24 (0, 0))) := Lib.hid ((b3.block _ (lt_of_block GC2.out)).trans GC2.out)
    have GD3 : Hid (w3.heap[w.heap.size + 1]? = some (.cells D 24 (0, 0))) := Lib.hid ((b3.block _ (lt_of_block GD2.out)).trans GD2.out)
    clear b3
    have c0 : w3.cell? ⟨w.heap.size, 0, none⟩ = some (.string su) := by rw [cell_of_row w3 _ _ _ _ _ GC3.out]; exact u0c.out.1
    have d0 : w3.cell? ⟨w.heap.size + 1, 0, none⟩ = some (.string sv) := by rw [cell_of_row w3 _ _ _ _ _ GD3.out]; exact v0c.out.1
  · go_wp2
    go_ret
    exact ⟨ret_bool (by rw [HZq.out]; rfl), B3.out⟩
  · have QA : Hid (∀ p : BW w3, Calls Tryz.prog 25 #[.slice a0 n cap, .string hu] p.w fun e w'' => e = .returned PA ∧ Below p.w.heap.size p.w w'') := Lib.hid (fun p => HPA2.out p.w (keepW B3.out p.h))
    have QB : Hid (∀ p : BW w3, Calls Tryz.prog 25 #[.slice a0 n cap, .string hv] p.w fun e w'' => e = .returned PB ∧ Below p.w.heap.size p.w w'') := Lib.hid (fun p => HPB2.out p.w (keepW B3.out p.h))
    have QT : Hid (∀ p : BW w3, Calls Tryz.prog 24 #[PA, PB] p.w fun e w'' => e = .returned (.bool TG) ∧ Below p.w.heap.size p.w w'') := Lib.hid (fun p => HTg.out p.w)
    have qc : ∀ p : BW w3, p.w.cell? ⟨w.heap.size, 3, none⟩ = some (.string hu) := fun p => (BW.cell GC3.out p 3).trans u0c.out.2
    have qd : ∀ p : BW w3, p.w.cell? ⟨w.heap.size + 1, 3, none⟩ = some (.string hv) := fun p => (BW.cell GD3.out p 3).trans v0c.out.2
    clear HPA2 HPB2 HTg CU CV
    go_wp2
    refine bw_region (by kernel_rfl) (by kernel_rfl) ?_
    repeat (quiet_step ((first
      | (with_reducible exact Calls.bw_of (QA.out _))
      | (with_reducible exact Calls.bw_of (QB.out _))
      | (with_reducible exact Calls.bw_of (QT.out _)))))
    refine wpQuiet_nil ?_
    intro _ hw'
    obtain ⟨⟨wq, hwq⟩, rfl⟩ := hw'
    go_wp2_with fail
    go_ret
    exact ⟨ret_bool (by rw [HZq.out]; rfl), keepW B3.out hwq⟩

end Go.Proofs.YtldddgmhmolohaaGreatDoor
namespace Go.Proofs.YtldddgmhmolohaaGreatDoor
open Go.RowKit

/-- An origin, as it is told. -/
def orgT (U : UrS) : ByteArray := if ckT U = true then (if 0 ≤ U.prt then U.sch ++ ⟨#[58, 47, 47]⟩ ++ U.hst ++ (⟨#[58]⟩ ++ itoaB U.prt) else U.sch ++ ⟨#[58, 47, 47]⟩ ++ U.hst) else ⟨#[110, 117, 108, 108]⟩
set_option maxRecDepth 100000 in
set_option maxHeartbeats 4000000 in
theorem Origin_any (U : UrS) (w : World) (hU : Sm U) (hW : Uw w) :
    Calls Tryz.prog 14 #[.agg U.cells.toArray] w fun e w' => e = .returned (.string (orgT U)) ∧ Below w.heap.size w w' := by
  have HW := Lib.hid hW; clear hW
  have CU : Hid (∀ w', Below w.heap.size w w' → Calls Tryz.prog 22 #[.agg U.cells.toArray] w' fun e w'' => e = .returned (.bool (ckT U)) ∧ Below w'.heap.size w' w'') := Lib.hid (fun w' hb => UCheck_any U w' hU (paOk _) (HW.out.later hb))
  have hs0 := hU.h0
  have hs3 := hU.h3
  have hs7 := hU.h7
  have CI : Hid (∀ w', Below w.heap.size w w' → 0 ≤ U.prt → Calls Tryz.prog 29 #[.int .i64 U.prt] w' fun e w'' => e = .returned (.string (itoaB U.prt)) ∧ Below w'.heap.size w' w'') := Lib.hid (fun w' hb h => (HW.out.later hb).dc w' (Below.refl _ _) U.prt h hs7)
  have hi : 0 ≤ U.prt → (itoaB U.prt).size ≤ 21 := fun h0 => Lib.itoa_length_le U.prt (by omega) hs7
  have HV : Hid (orgT U = if ckT U = true then (if 0 ≤ U.prt then U.sch ++ ⟨#[58, 47, 47]⟩ ++ U.hst ++ (⟨#[58]⟩ ++ itoaB U.prt) else U.sch ++ ⟨#[58, 47, 47]⟩ ++ U.hst) else ⟨#[110, 117, 108, 108]⟩) := Lib.hid rfl
  obtain ⟨Z, HZ⟩ : ∃ Z, Hid (orgT U = Z) := ⟨_, Lib.hid rfl⟩
  obtain ⟨x, Hx⟩ : ∃ Z, Hid (ckT U = Z) := ⟨_, Lib.hid rfl⟩
  rw [HZ.out] at HV ⊢
  rw [Hx.out] at HV CU
  have HI1 : Hid ((Tryz.prog.info? 24).map (·.size) = some U.cells.toArray.size) := Lib.hid infoU
  have u0c : Hid (U.cells.toArray[0]? = some (.string U.sch) ∧ U.cells.toArray[3]? = some (.string U.hst) ∧ U.cells.toArray[4]? = some (.int .i64 U.prt)) := Lib.hid ⟨rfl, rfl, rfl⟩
  obtain ⟨su, Hsu⟩ : ∃ Z, Hid (U.sch = Z) := ⟨_, Lib.hid rfl⟩
  obtain ⟨hu, Hhu⟩ : ∃ Z, Hid (U.hst = Z) := ⟨_, Lib.hid rfl⟩
  obtain ⟨pu, Hpu⟩ : ∃ Z, Hid (U.prt = Z) := ⟨_, Lib.hid rfl⟩
  obtain ⟨iu, Hiu⟩ : ∃ Z, Hid (itoaB U.prt = Z) := ⟨_, Lib.hid rfl⟩
  obtain ⟨C, HC⟩ : ∃ Z, Hid (U.cells.toArray = Z) := ⟨_, Lib.hid rfl⟩
  rw [Hsu.out] at HV hs0 u0c
  rw [Hhu.out] at HV hs3 u0c
  rw [Hiu.out] at HV CI hi
  rw [Hpu.out] at HV CI hi hs7 u0c
  rw [HC.out] at CU HI1 u0c
  rw [HC.out]
  clear HZ Hx Hsu Hhu Hpu Hiu HC hU
  obtain ⟨W, HWw⟩ : ∃ W, Hid (w.alloc (.cells C 24) = W) := ⟨_, Lib.hid rfl⟩
  have B0 : Hid (Below w.heap.size w W) := Lib.hid (by rw [← HWw.out]; exact (Below.refl _ _).alloc (Nat.le_refl _) _)
  have GC : Hid (W.heap[w.heap.size]? = some (.cells C 24 (0, 0))) := Lib.hid (by rw [← HWw.out]; exact heap_alloc_new w _)
  have e3 : (⟨#[58, 47, 47]⟩ : ByteArray).size = 3 := rfl
  have e1 : (⟨#[58]⟩ : ByteArray).size = 1 := rfl
  have hz1 : ¬ 9223372036854775807 < su.size + 3 := by omega
  have hz2 : ¬ 9223372036854775807 < su.size + 3 + hu.size := by omega
  cases x
  · have HF : Hid (Z = ⟨#[110, 117, 108, 108]⟩) := Lib.hid (by rw [HV.out]; rfl)
    clear HV
    go_enter Tryz.func14, Tryz.ntmps14
    go_upto_region 1 with (fail)
    rw [HWw.out]
    go_wp2_with (refine wpList_load_row rfl 24 _ rfl w.heap.size ?_ 24 C (0, 0) _ ?_ Tryz.underlying24 rfl HI1.out ?_; (exact rfl); (exact GC.out))
    refine (CU.out W B0.out).mono ?_
    rintro e w1 ⟨rfl, b1⟩
    have B1 : Hid (Below w.heap.size w w1) := Lib.hid (keepW B0.out b1)
    clear b1
    go_wp2
    go_ret
    exact ⟨ret_usl HF.out.symm, B1.out⟩
  by_cases hp : 0 ≤ pu
  all_goals
    go_enter Tryz.func14, Tryz.ntmps14
    go_upto_region 1 with (fail)
    rw [HWw.out]
    go_wp2_with (refine wpList_load_row rfl 24 _ rfl w.heap.size ?_ 24 C (0, 0) _ ?_ Tryz.underlying24 rfl HI1.out ?_; (exact rfl); (exact GC.out))
    refine (CU.out W B0.out).mono ?_
    rintro e w1 ⟨rfl, b1⟩
    have B1 : Hid (Below w.heap.size w w1) := Lib.hid (keepW B0.out b1)
    have G1 : Hid (w1.heap[w.heap.size]? = some (.cells C 24 (0, 0))) := Lib.hid ((b1.block _ (lt_of_block GC.out)).trans GC.out)
    clear b1
    have c0 : w1.cell? ⟨w.heap.size, 0, none⟩ = some (.string su) := by rw [cell_of_row w1 _ _ _ _ _ G1.out]; exact u0c.out.1
    have c3 : w1.cell? ⟨w.heap.size, 3, none⟩ = some (.string hu) := by rw [cell_of_row w1 _ _ _ _ _ G1.out]; exact u0c.out.2.1
    have c4 : w1.cell? ⟨w.heap.size, 4, none⟩ = some (.int .i64 pu) := by rw [cell_of_row w1 _ _ _ _ _ G1.out]; exact u0c.out.2.2
  · have HF : Hid (Z = su ++ ⟨#[58, 47, 47]⟩ ++ hu ++ (⟨#[58]⟩ ++ iu)) := Lib.hid (by rw [HV.out, if_pos trivial, if_pos hp])
    have hii := hi hp
    have hz3 : ¬ 9223372036854775807 < 1 + iu.size := by omega
    have hz4 : ¬ 9223372036854775807 < su.size + 3 + hu.size + (1 + iu.size) := by omega
    have CI2 := Lib.hid (CI.out w1 B1.out hp)
    clear HV hi CI
    go_wp2_with fail
    refine CI2.out.mono ?_
    rintro e w2 ⟨rfl, b2⟩
    have B2 : Hid (Below w.heap.size w w2) := Lib.hid (keepW B1.out b2)
    clear b2
    go_wp2
    go_ret
    exact ⟨ret_usl HF.out.symm, B2.out⟩
  · have HF : Hid (Z = su ++ ⟨#[58, 47, 47]⟩ ++ hu) := Lib.hid (by rw [HV.out, if_pos trivial, if_neg (show ¬ 0 ≤ pu by omega)])
    clear HV hi CI
    go_wp2
    go_ret
    exact ⟨ret_usl HF.out.symm, B1.out⟩

/- What the statements' own alive asks. -/
def comL : List ByteArray := [⟨#[99, 111, 109]⟩]
def a9S : ByteArray := ⟨#[104, 116, 116, 112, 115, 58, 47, 47, 97, 46, 120, 46, 99, 111, 109, 47]⟩
def a9U : UrS := ⟨⟨#[104, 116, 116, 112, 115]⟩, ⟨#[]⟩, ⟨#[]⟩, ⟨#[97, 46, 120, 46, 99, 111, 109]⟩, -1, ⟨#[47]⟩, ⟨#[]⟩, false, ⟨#[]⟩, false⟩
theorem a9 : eqR (ansU (aloneT (drpS a9S 3))) a9U 0 = true := by decide +kernel
def b9S : ByteArray := ⟨#[104, 116, 116, 112, 115, 58, 47, 47, 120, 46, 99, 111, 109, 58, 56, 47]⟩
def b9U : UrS := ⟨⟨#[104, 116, 116, 112, 115]⟩, ⟨#[]⟩, ⟨#[]⟩, ⟨#[120, 46, 99, 111, 109]⟩, 8, ⟨#[47]⟩, ⟨#[]⟩, false, ⟨#[]⟩, false⟩
theorem b9 : eqR (ansU (aloneT (drpS b9S 3))) b9U 0 = true := by decide +kernel
def c9S : ByteArray := ⟨#[104, 116, 116, 112, 58, 47, 47, 120, 46, 99, 111, 109, 47]⟩
def c9U : UrS := ⟨⟨#[104, 116, 116, 112]⟩, ⟨#[]⟩, ⟨#[]⟩, ⟨#[120, 46, 99, 111, 109]⟩, -1, ⟨#[47]⟩, ⟨#[]⟩, false, ⟨#[]⟩, false⟩
theorem c9 : eqR (ansU (aloneT (drpS c9S 3))) c9U 0 = true := by decide +kernel
def d9S : ByteArray := ⟨#[104, 116, 116, 112, 58, 47, 47, 121, 46, 99, 111, 109, 47]⟩
def d9U : UrS := ⟨⟨#[104, 116, 116, 112]⟩, ⟨#[]⟩, ⟨#[]⟩, ⟨#[121, 46, 99, 111, 109]⟩, -1, ⟨#[47]⟩, ⟨#[]⟩, false, ⟨#[]⟩, false⟩
theorem d9 : eqR (ansU (aloneT (drpS d9S 3))) d9U 0 = true := by decide +kernel
def e9S : ByteArray := ⟨#[104, 116, 116, 112, 115, 58, 47, 47, 117, 64, 104, 58, 56, 47, 112, 63, 113]⟩
def e9U : UrS := ⟨⟨#[104, 116, 116, 112, 115]⟩, ⟨#[117]⟩, ⟨#[]⟩, ⟨#[104]⟩, 8, ⟨#[47, 112]⟩, ⟨#[113]⟩, true, ⟨#[]⟩, false⟩
theorem e9 : eqR (ansU (aloneT (drpS e9S 3))) e9U 0 = true := by decide +kernel
theorem ck_of {S : ByteArray} {U : UrS} (hT : textT U = S) (h : eqR (ansU (aloneT (drpS S 3))) U 0 = true) (hs : S.size ≤ 4096) : ckT U = true := by
  unfold ckT
  rw [hT, paT_of h hs]
  dsimp only
  rw [eqC_self]; rfl
theorem ck_a9 : ckT a9U = true := ck_of (S := a9S) (by decide +kernel) a9 (by decide)
theorem ck_b9 : ckT b9U = true := ck_of (S := b9S) (by decide +kernel) b9 (by decide)
theorem ck_c9 : ckT c9U = true := ck_of (S := c9S) (by decide +kernel) c9 (by decide)
theorem ck_d9 : ckT d9U = true := ck_of (S := d9S) (by decide +kernel) d9 (by decide)
theorem ck_e9 : ckT e9U = true := ck_of (S := e9S) (by decide +kernel) e9 (by decide)
theorem ck_u0 : ckT u0 = false := by decide +kernel
theorem same_ab9 : same9 comL a9U b9U = true := by
  unfold same9
  rw [ck_a9, ck_b9]
  decide +kernel
theorem same_cd9 : same9 comL c9U d9U = false := by
  unfold same9
  rw [ck_c9, ck_d9]
  decide +kernel
theorem org_e9 : orgT e9U = ⟨#[104, 116, 116, 112, 115, 58, 47, 47, 104, 58, 56]⟩ := by
  unfold orgT
  rw [ck_e9]
  decide +kernel
theorem org_u0 : orgT u0 = ⟨#[110, 117, 108, 108]⟩ := by
  unfold orgT
  rw [ck_u0, if_neg (by decide)]
theorem sm_a9 : Sm a9U := sm_small _ (by decide +kernel)
theorem sm_b9 : Sm b9U := sm_small _ (by decide +kernel)
theorem sm_c9 : Sm c9U := sm_small _ (by decide +kernel)
theorem sm_d9 : Sm d9U := sm_small _ (by decide +kernel)
theorem sm_e9 : Sm e9U := sm_small _ (by decide +kernel)

theorem tx_com (w : World) : TxAt comL (some ⟨w.heap.size, 0, none⟩) w.heap.size 0 (w.alloc (.cells #[.string ⟨#[99, 111, 109]⟩] 9)) := ⟨fun _ => rfl, fun j hj => by
  have hj' : j < 1 := hj
  obtain rfl : j = 0 := by omega
  rw [cell_of_row _ _ _ _ _ _ (heap_alloc_new w _)]; rfl⟩
theorem of_at {S : ByteArray} {U : UrS} (h : eqR (ansU (aloneT (drpS S 3))) U 0 = true) (hs : S.size ≤ 4096) (w : World) (hW : Uw w) : Calls Tryz.prog 21 #[.string S] w fun e w' => e = .returned (.agg U.cells.toArray) ∧ Below w.heap.size w w' := by
  have := of9_any S w hW
  rwa [paT_of h hs] at this
set_option maxRecDepth 100000 in
set_option maxHeartbeats 8000000 in
theorem alive9_any (w : World) (hW : Uw w) : Calls Tryz.prog 17 #[] w fun e w' => e = .returned (.bool true) ∧ Below w.heap.size w w' := by
  have HL : Hid (∀ w', Below w.heap.size w w' → Uw w') := Lib.hid (fun w' hb => hW.later hb)
  have D1 : Hid (∀ w', Below w.heap.size w w' → Calls Tryz.prog 31 #[.string (⟨#[97, 46, 98, 46, 99]⟩ : ByteArray), .string (⟨#[98, 46, 99]⟩ : ByteArray)] w' fun e w'' => e = .returned (.bool true) ∧ Below w'.heap.size w' w'') := Lib.hid (fun w' hb => by
    have := Domain_any ⟨#[97, 46, 98, 46, 99]⟩ ⟨#[98, 46, 99]⟩ w' (by decide) (by decide)
    rwa [show (decide (0 < (⟨#[98, 46, 99]⟩ : ByteArray).size) && belowB ⟨#[97, 46, 98, 46, 99]⟩ ⟨#[98, 46, 99]⟩) = true by decide +kernel] at this)
  have D2 : Hid (∀ w', Below w.heap.size w w' → Calls Tryz.prog 31 #[.string (⟨#[49, 46, 50, 46, 51, 46, 52]⟩ : ByteArray), .string (⟨#[51, 46, 52]⟩ : ByteArray)] w' fun e w'' => e = .returned (.bool false) ∧ Below w'.heap.size w' w'') := Lib.hid (fun w' hb => by
    have := Domain_any ⟨#[49, 46, 50, 46, 51, 46, 52]⟩ ⟨#[51, 46, 52]⟩ w' (by decide) (by decide)
    rwa [show (decide (0 < (⟨#[51, 46, 52]⟩ : ByteArray).size) && belowB ⟨#[49, 46, 50, 46, 51, 46, 52]⟩ ⟨#[51, 46, 52]⟩) = false by decide +kernel] at this)
  have P1 : Hid (∀ w', Below w.heap.size w w' → Calls Tryz.prog 20 #[.string (⟨#[47, 97, 47, 98]⟩ : ByteArray), .string (⟨#[47, 97]⟩ : ByteArray)] w' fun e w'' => e = .returned (.bool true) ∧ Below w'.heap.size w' w'') := Lib.hid (fun w' hb => by
    have := SPath_any ⟨#[47, 97, 47, 98]⟩ ⟨#[47, 97]⟩ w' (by decide)
    rw [show pmchL (⟨#[47, 97, 47, 98]⟩ : ByteArray).data.toList (⟨#[47, 97]⟩ : ByteArray).data.toList = true by decide +kernel] at this
    exact (this).mono fun _ _ ⟨h1, h2⟩ => ⟨h1, by rw [h2]; exact Below.refl _ _⟩)
  have P2 : Hid (∀ w', Below w.heap.size w w' → Calls Tryz.prog 20 #[.string (⟨#[47, 97, 98]⟩ : ByteArray), .string (⟨#[47, 97]⟩ : ByteArray)] w' fun e w'' => e = .returned (.bool false) ∧ Below w'.heap.size w' w'') := Lib.hid (fun w' hb => by
    have := SPath_any ⟨#[47, 97, 98]⟩ ⟨#[47, 97]⟩ w' (by decide)
    rw [show pmchL (⟨#[47, 97, 98]⟩ : ByteArray).data.toList (⟨#[47, 97]⟩ : ByteArray).data.toList = false by decide +kernel] at this
    exact (this).mono fun _ _ ⟨h1, h2⟩ => ⟨h1, by rw [h2]; exact Below.refl _ _⟩)
  have U1 : Hid (∀ w', Below w.heap.size w w' → Calls Tryz.prog 19 #[.string (⟨#[47, 97, 47, 98]⟩ : ByteArray)] w' fun e w'' => e = .returned (.string (⟨#[47, 97]⟩ : ByteArray)) ∧ Below w'.heap.size w' w'') := Lib.hid (fun w' hb => by
    have := SUsual_any ⟨#[47, 97, 47, 98]⟩ w' (by decide)
    rw [show usB ⟨#[47, 97, 47, 98]⟩ = ⟨#[47, 97]⟩ by decide +kernel] at this
    exact (this).mono fun _ _ ⟨h1, h2⟩ => ⟨h1, by rw [h2]; exact Below.refl _ _⟩)
  have U2 : Hid (∀ w', Below w.heap.size w w' → Calls Tryz.prog 19 #[.string (⟨#[97, 47, 98]⟩ : ByteArray)] w' fun e w'' => e = .returned (.string (⟨#[47]⟩ : ByteArray)) ∧ Below w'.heap.size w' w'') := Lib.hid (fun w' hb => by
    have := SUsual_any ⟨#[97, 47, 98]⟩ w' (by decide)
    rw [show usB ⟨#[97, 47, 98]⟩ = ⟨#[47]⟩ by decide +kernel] at this
    exact (this).mono fun _ _ ⟨h1, h2⟩ => ⟨h1, by rw [h2]; exact Below.refl _ _⟩)
  have Oa : Hid (∀ w', Below w.heap.size w w' → Calls Tryz.prog 21 #[.string a9S] w' fun e w'' => e = .returned (.agg a9U.cells.toArray) ∧ Below w'.heap.size w' w'') := Lib.hid (fun w' hb => of_at a9 (by decide) w' (HL.out w' hb))
  have Ob : Hid (∀ w', Below w.heap.size w w' → Calls Tryz.prog 21 #[.string b9S] w' fun e w'' => e = .returned (.agg b9U.cells.toArray) ∧ Below w'.heap.size w' w'') := Lib.hid (fun w' hb => of_at b9 (by decide) w' (HL.out w' hb))
  have Oc : Hid (∀ w', Below w.heap.size w w' → Calls Tryz.prog 21 #[.string c9S] w' fun e w'' => e = .returned (.agg c9U.cells.toArray) ∧ Below w'.heap.size w' w'') := Lib.hid (fun w' hb => of_at c9 (by decide) w' (HL.out w' hb))
  have Od : Hid (∀ w', Below w.heap.size w w' → Calls Tryz.prog 21 #[.string d9S] w' fun e w'' => e = .returned (.agg d9U.cells.toArray) ∧ Below w'.heap.size w' w'') := Lib.hid (fun w' hb => of_at d9 (by decide) w' (HL.out w' hb))
  have Oe : Hid (∀ w', Below w.heap.size w w' → Calls Tryz.prog 21 #[.string e9S] w' fun e w'' => e = .returned (.agg e9U.cells.toArray) ∧ Below w'.heap.size w' w'') := Lib.hid (fun w' hb => of_at e9 (by decide) w' (HL.out w' hb))
  have SA : Hid (∀ w' g, Below w.heap.size w w' → TxAt comL (some ⟨g, 0, none⟩) g 0 w' → Calls Tryz.prog 12 #[.slice (some ⟨g, 0, none⟩) 1 1, .agg a9U.cells.toArray, .agg b9U.cells.toArray] w' fun e w'' => e = .returned (.bool true) ∧ Below w'.heap.size w' w'') := Lib.hid (fun w' g hb hT => by
    have := Same9_any comL _ g 0 1 a9U b9U w' hT (by decide) (by decide) sm_a9 sm_b9 (fun _ => by decide) (fun _ => by decide) (HL.out w' hb)
    rwa [same_ab9] at this)
  have SC : Hid (∀ w' g, Below w.heap.size w w' → TxAt comL (some ⟨g, 0, none⟩) g 0 w' → Calls Tryz.prog 12 #[.slice (some ⟨g, 0, none⟩) 1 1, .agg c9U.cells.toArray, .agg d9U.cells.toArray] w' fun e w'' => e = .returned (.bool false) ∧ Below w'.heap.size w' w'') := Lib.hid (fun w' g hb hT => by
    have := Same9_any comL _ g 0 1 c9U d9U w' hT (by decide) (by decide) sm_c9 sm_d9 (fun _ => by decide) (fun _ => by decide) (HL.out w' hb)
    rwa [same_cd9] at this)
  have GE : Hid (∀ w', Below w.heap.size w w' → Calls Tryz.prog 14 #[.agg e9U.cells.toArray] w' fun e w'' => e = .returned (.string (⟨#[104, 116, 116, 112, 115, 58, 47, 47, 104, 58, 56]⟩ : ByteArray)) ∧ Below w'.heap.size w' w'') := Lib.hid (fun w' hb => by
    have := Origin_any e9U w' sm_e9 (HL.out w' hb)
    rwa [org_e9] at this)
  have GU : Hid (∀ w', Below w.heap.size w w' → Calls Tryz.prog 14 #[.agg u0.cells.toArray] w' fun e w'' => e = .returned (.string (⟨#[110, 117, 108, 108]⟩ : ByteArray)) ∧ Below w'.heap.size w' w'') := Lib.hid (fun w' hb => by
    have := Origin_any u0 w' sm_u0 (HL.out w' hb)
    rwa [org_u0] at this)
  obtain ⟨Va, HVa⟩ : ∃ V, Hid (a9U.cells.toArray = V) := ⟨_, Lib.hid rfl⟩
  obtain ⟨Vb, HVb⟩ : ∃ V, Hid (b9U.cells.toArray = V) := ⟨_, Lib.hid rfl⟩
  obtain ⟨Vc, HVc⟩ : ∃ V, Hid (c9U.cells.toArray = V) := ⟨_, Lib.hid rfl⟩
  obtain ⟨Vd, HVd⟩ : ∃ V, Hid (d9U.cells.toArray = V) := ⟨_, Lib.hid rfl⟩
  obtain ⟨Ve, HVe⟩ : ∃ V, Hid (e9U.cells.toArray = V) := ⟨_, Lib.hid rfl⟩
  rw [HVa.out] at Oa SA
  rw [HVb.out] at Ob SA
  rw [HVc.out] at Oc SC
  rw [HVd.out] at Od SC
  rw [HVe.out] at Oe GE
  have T0 : Hid (TxAt comL (some ⟨w.heap.size, 0, none⟩) w.heap.size 0 (w.alloc (.cells #[.string ⟨#[99, 111, 109]⟩] 9))) := Lib.hid (tx_com w)
  have X0 : Hid (Below w.heap.size w (w.alloc (.cells #[.string ⟨#[99, 111, 109]⟩] 9))) := Lib.hid ((Below.refl _ _).alloc (Nat.le_refl _) _)
  obtain ⟨x0, Hx0⟩ : ∃ W, Hid (w.alloc (.cells #[.string ⟨#[99, 111, 109]⟩] 9) = W) := ⟨_, Lib.hid rfl⟩
  rw [Hx0.out] at T0 X0
  have hx0 : w.alloc (.cells #[.string ⟨#[99, 111, 109]⟩] 9) = x0 := Hx0.out
  clear hW
  go_enter Tryz.func17, Tryz.ntmps17
  go_upto_region 2 with (fail)
  clear hx0
  go_wp2_with fail
  refine (D1.out x0 X0.out).mono ?_
  rintro e x1 ⟨rfl, b1⟩
  have X1 : Hid (Below w.heap.size w x1) := Lib.hid (keepW X0.out b1)
  have T1 := Lib.hid (T0.out.later b1)
  clear b1
  go_wp2_with fail
  refine (D2.out x1 X1.out).mono ?_
  rintro e x2 ⟨rfl, b2⟩
  have X2 : Hid (Below w.heap.size w x2) := Lib.hid (keepW X1.out b2)
  have T2 := Lib.hid (T1.out.later b2)
  clear b2
  go_wp2_with fail
  refine (P1.out x2 X2.out).mono ?_
  rintro e x3 ⟨rfl, b3⟩
  have X3 : Hid (Below w.heap.size w x3) := Lib.hid (keepW X2.out b3)
  have T3 := Lib.hid (T2.out.later b3)
  clear b3
  go_wp2_with fail
  refine (P2.out x3 X3.out).mono ?_
  rintro e x4 ⟨rfl, b4⟩
  have X4 : Hid (Below w.heap.size w x4) := Lib.hid (keepW X3.out b4)
  have T4 := Lib.hid (T3.out.later b4)
  clear b4
  go_wp2_with fail
  refine (U1.out x4 X4.out).mono ?_
  rintro e x5 ⟨rfl, b5⟩
  have X5 : Hid (Below w.heap.size w x5) := Lib.hid (keepW X4.out b5)
  have T5 := Lib.hid (T4.out.later b5)
  clear b5
  go_wp2_with fail
  refine (U2.out x5 X5.out).mono ?_
  rintro e x6 ⟨rfl, b6⟩
  have X6 : Hid (Below w.heap.size w x6) := Lib.hid (keepW X5.out b6)
  have T6 := Lib.hid (T5.out.later b6)
  clear b6
  go_wp2_with fail
  refine (Oa.out x6 X6.out).mono ?_
  rintro e x7 ⟨rfl, b7⟩
  have X7 : Hid (Below w.heap.size w x7) := Lib.hid (keepW X6.out b7)
  have T7 := Lib.hid (T6.out.later b7)
  clear b7
  go_wp2_with fail
  refine (Ob.out x7 X7.out).mono ?_
  rintro e x8 ⟨rfl, b8⟩
  have X8 : Hid (Below w.heap.size w x8) := Lib.hid (keepW X7.out b8)
  have T8 := Lib.hid (T7.out.later b8)
  clear b8
  go_wp2_with fail
  refine (SA.out x8 _ X8.out T8.out).mono ?_
  rintro e x9 ⟨rfl, b9⟩
  have X9 : Hid (Below w.heap.size w x9) := Lib.hid (keepW X8.out b9)
  have T9 := Lib.hid (T8.out.later b9)
  clear b9
  go_wp2_with fail
  refine (Oc.out x9 X9.out).mono ?_
  rintro e x10 ⟨rfl, b10⟩
  have X10 : Hid (Below w.heap.size w x10) := Lib.hid (keepW X9.out b10)
  have T10 := Lib.hid (T9.out.later b10)
  clear b10
  go_wp2_with fail
  refine (Od.out x10 X10.out).mono ?_
  rintro e x11 ⟨rfl, b11⟩
  have X11 : Hid (Below w.heap.size w x11) := Lib.hid (keepW X10.out b11)
  have T11 := Lib.hid (T10.out.later b11)
  clear b11
  go_wp2_with fail
  refine (SC.out x11 _ X11.out T11.out).mono ?_
  rintro e x12 ⟨rfl, b12⟩
  have X12 : Hid (Below w.heap.size w x12) := Lib.hid (keepW X11.out b12)
  have T12 := Lib.hid (T11.out.later b12)
  clear b12
  go_wp2_with fail
  refine (Oe.out x12 X12.out).mono ?_
  rintro e x13 ⟨rfl, b13⟩
  have X13 : Hid (Below w.heap.size w x13) := Lib.hid (keepW X12.out b13)
  have T13 := Lib.hid (T12.out.later b13)
  clear b13
  go_wp2_with fail
  refine (GE.out x13 X13.out).mono ?_
  rintro e x14 ⟨rfl, b14⟩
  have X14 : Hid (Below w.heap.size w x14) := Lib.hid (keepW X13.out b14)
  have T14 := Lib.hid (T13.out.later b14)
  clear b14
  go_wp2_with fail
  refine (GU.out x14 X14.out).mono ?_
  rintro e x15 ⟨rfl, b15⟩
  have X15 : Hid (Below w.heap.size w x15) := Lib.hid (keepW X14.out b15)
  have T15 := Lib.hid (T14.out.later b15)
  clear b15
  go_wp2
  go_ret
  exact ⟨rfl, X15.out⟩

end Go.Proofs.YtldddgmhmolohaaGreatDoor
