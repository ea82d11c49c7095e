/-
  Contracts: hosts.named, hosts.bracketed, hosts.Parse.
-/
import Derived.Test.YtcphokaamkalfaaGreatDoorMhC
namespace Go.Proofs.YtcphokaamkalfaaGreatDoor
open Go.RowKit

/-- The name ahead of each step; none: it was refused. -/
def nmS (s : ByteArray) : Nat → Option ByteArray
 | 0 => some s
 | 1 => some (decS s)
 | 2 => labO (decS s)
 | 3 => (labO (decS s)).bind clnO
 | 4 => ((labO (decS s)).bind clnO).bind lenO
 | _ => (((labO (decS s)).bind clnO).bind lenO).bind fourT
theorem nmS_end (s : ByteArray) : nmS s 5 = namedT (decS s) := by
 show (((labO (decS s)).bind clnO).bind lenO).bind fourT = namedT (decS s)
 unfold labO namedT
 cases labsT (rawB 46 (trimD (decS s))) with
 | none => rfl
 | some L =>
  simp only [Option.bind_some]
  unfold clnO endT
  cases foulL (dotJ L).data.toList with
  | true => rfl
  | false =>
   simp only [Bool.false_eq_true, if_false, Option.bind_some]
   unfold lenO
   split <;> rfl
theorem labO_size {d x : ByteArray} (hd : d.size ≤ 10000) (h : labO d = some x) : x.size ≤ 1000000 := by
 unfold labO at h
 split at h
 ·cases h
 ·rename_i L hL
  injection h with h; subst h
  have hm : ∀ p ∈ rawB 46 (trimD d), p.size ≤ 10000 ∧ ∀ c ∈ p.data.toList, c ≠ 46 := fun p hp => by
   have h1 := rawB_mem 46 _ p hp
   have h2 := trimD_size d
   exact ⟨by omega, fun c hc => (h1.2 c hc).2⟩
  obtain ⟨hg, hl⟩ := labs_good _ L hm hL
  have hc := rawB_count 46 (trimD d)
  have h2 := trimD_size d
  have := join_63 (L.map (·.data.toList)) (fun l hl => by
   obtain ⟨q, hq, rfl⟩ := List.mem_map.1 hl
   rw [lenB]; exact (hg q hq).2.2.1)
  rw [List.length_map] at this
  rw [dotJ, asB_size]; omega
theorem decS_size (s : ByteArray) : (decS s).size ≤ s.size := by
 have h1 := pc_decL_len s.data.toList
 have h2 := lenB s
 rw [show (decS s).size = (pc_decL s.data.toList).length from rfl]
 omega
theorem nmS_size {s x : ByteArray} (hs : s.size ≤ 10000) : ∀ k, nmS s k = some x → x.size ≤ 1000000
 | 0, h => by injection h with h; subst h; omega
 | 1, h => by injection h with h; subst h; have := decS_size s; omega
 | 2, h => labO_size (by have := decS_size s; omega) h
 | 3, h => by
  have h : (labO (decS s)).bind clnO = some x := h
  cases hl : labO (decS s) with
  | none => rw [hl] at h; cases h
  | some y =>
   have := labO_size (by have := decS_size s; omega) hl
   rw [hl, Option.bind_some] at h
   unfold clnO at h
   split at h
   ·cases h
   ·injection h with h; subst h; exact this
 | 4, h => by
  have h : ((labO (decS s)).bind clnO).bind lenO = some x := h
  cases hl : (labO (decS s)).bind clnO with
  | none => rw [hl] at h; cases h
  | some y =>
   rw [hl, Option.bind_some] at h
   unfold lenO at h
   split at h
   ·cases h
   ·injection h with h; subst h; omega
 | k + 5, h => by
  have h : (((labO (decS s)).bind clnO).bind lenO).bind fourT = some x := h
  cases hl : ((labO (decS s)).bind clnO).bind lenO with
  | none => rw [hl] at h; cases h
  | some y =>
   have hy : y.size ≤ 253 := by
    cases hm : (labO (decS s)).bind clnO with
    | none => rw [hm] at hl; cases hl
    | some z =>
     rw [hm, Option.bind_some] at hl
     unfold lenO at hl
     split at hl
     ·cases hl
     ·injection hl with hl; subst hl; omega
   rw [hl, Option.bind_some] at h
   unfold fourT at h
   split at h
   ·injection h with h; subst h; omega
   ·cases h
   ·rename_i a ho
    obtain ⟨b0, b1, b2, b3, rfl, -⟩ := fourD_small ho
    injection h with h; subst h
    exact Nat.le_trans (four4_size b0 b1 b2 b3) (by decide)
theorem nmS_none {s : ByteArray} : ∀ k, k < 5 → nmS s (k + 1) = none → nmS s 5 = none
 | 0, _, h => by cases h
 | 1, _, h => by
  have h : labO (decS s) = none := h
  show (((labO (decS s)).bind clnO).bind lenO).bind fourT = none
  rw [h]; rfl
 | 2, _, h => by
  have h : (labO (decS s)).bind clnO = none := h
  show (((labO (decS s)).bind clnO).bind lenO).bind fourT = none
  rw [h]; rfl
 | 3, _, h => by
  have h : ((labO (decS s)).bind clnO).bind lenO = none := h
  show (((labO (decS s)).bind clnO).bind lenO).bind fourT = none
  rw [h]; rfl
 | 4, _, h => h
/-- The steps, as function values. -/
abbrev stepsV : Array Value := #[.func (.func 64) #[] #[], .func (.func 65) #[] #[], .func (.func 66) #[] #[], .func (.func 67) #[] #[], .func (.func 68) #[] #[]]
theorem built_steps : Tryz.prog.built 59 [(0, .func (.func 64) #[] #[]), (1, .func (.func 65) #[] #[]), (2, .func (.func 66) #[] #[]), (3, .func (.func 67) #[] #[]), (4, .func (.func 68) #[] #[])] = some stepsV := by kernel_rfl
theorem infoSt : (Tryz.prog.info? 59).map (fun i => (i.zero, i.size)) = some (some (.agg #[.nilFunc, .nilFunc, .nilFunc, .nilFunc, .nilFunc]), 5) := by kernel_rfl
set_option maxRecDepth 100000 in
set_option maxHeartbeats 1000000 in
theorem nameSteps_any (w : World) : Calls Tryz.prog 37 #[] w fun e w' => e = .returned (.agg stepsV) ∧ Below w.heap.size w w' := by
 obtain ⟨hz, hi⟩ := zero_of_info infoSt
 obtain ⟨ST, HST⟩ : ∃ ST, Hid (stepsV = ST) := ⟨_, Lib.hid rfl⟩
 have HB := Lib.hid built_steps
 rw [HST.out] at HB
 have HI : Hid ((Tryz.prog.info? 59).map (·.size) = some ST.size) := Lib.hid (by rw [hi, ← HST.out]; rfl)
 obtain ⟨Z, HZ⟩ : ∃ Z, Hid ((#[.nilFunc, .nilFunc, .nilFunc, .nilFunc, .nilFunc] : Array Value) = Z) := ⟨_, Lib.hid rfl⟩
 have HY : Hid (Z.size = ST.size) := Lib.hid (by rw [← HST.out, ← HZ.out]; rfl)
 have HO : Hid (ST.all (·.oneCell') = true) := Lib.hid (by rw [← HST.out]; kernel_rfl)
 rw [HZ.out] at hz
 clear hi
 rw [HST.out]
 go_enter Tryz.func37, Tryz.ntmps37
 go_wp2_with (first
  | (refine wpL_build rfl 59 _ rfl ST ?_ ?_; exact HB.out)
  | (refine wpL_store_row rfl 59 _ _ rfl w.heap.size ST ?_ ?_ 59 Z ?_ ?_ ?_ ?_ ?_; exact rfl; exact rfl; exact heap_alloc_new w _; exact HI.out; exact HY.out; exact HO.out; rw [World.setRow_alloc_new]))
 refine bodyPost_ret (v := .agg ST) (results_cell_row (P := Tryz.prog) Tryz.results37 _ _ w.heap.size _ _ (0, 0) _ rfl (heap_alloc_new w _) Tryz.underlying59 rfl HI.out) rfl ⟨rfl, ?_⟩
 exact (Below.refl _ _).alloc (Nat.le_refl _) _
/-- What a step makes of a name. -/
def hstp : Nat → ByteArray → Option ByteArray
 | 0, x => some (decS x)
 | 1, x => labO x
 | 2, x => clnO x
 | 3, x => lenO x
 | _, x => fourT x
theorem hnm_step {s x : ByteArray} : ∀ k, k < 5 → nmS s k = some x → nmS s (k + 1) = hstp k x
 | 0, _, h => by injection h with h; subst h; rfl
 | 1, _, h => by injection h with h; subst h; rfl
 | 2, _, h => by
  have h : labO (decS s) = some x := h
  show (labO (decS s)).bind clnO = _
  rw [h]; rfl
 | 3, _, h => by
  have h : (labO (decS s)).bind clnO = some x := h
  show ((labO (decS s)).bind clnO).bind lenO = _
  rw [h]; rfl
 | 4, _, h => by
  have h : ((labO (decS s)).bind clnO).bind lenO = some x := h
  show (((labO (decS s)).bind clnO).bind lenO).bind fourT = _
  rw [h]; rfl
set_option maxRecDepth 100000 in
set_option maxHeartbeats 4000000 in
theorem named_any (s : ByteArray) (w : World) (hs : s.size ≤ 10000) (hW : Hw w) :
  Calls Tryz.prog 21 #[.string s] w fun e w' => e = .returned (hsV (namedT (decS s))) ∧ Below w.heap.size w w' := by
 have HW := Lib.hid hW; clear hW
 obtain ⟨O, HO⟩ : ∃ O, Hid (nmS s 5 = O) := ⟨_, Lib.hid rfl⟩
 rw [← nmS_end, HO.out]
 obtain ⟨ST, HST⟩ : ∃ ST, Hid (stepsV = ST) := ⟨_, Lib.hid rfl⟩
 have HNS := Lib.hid (nameSteps_any w)
 rw [HST.out] at HNS
 have I0 : Hid (∀ w, (Instr.index 59 (.agg ST) (.int .i64 0)).run Tryz.prog w = .ok (.func (.func 64) #[] #[]) w) := Lib.hid (fun w => by rw [← HST.out]; kernel_rfl)
 have I1 : Hid (∀ w, (Instr.index 59 (.agg ST) (.int .i64 1)).run Tryz.prog w = .ok (.func (.func 65) #[] #[]) w) := Lib.hid (fun w => by rw [← HST.out]; kernel_rfl)
 have I2 : Hid (∀ w, (Instr.index 59 (.agg ST) (.int .i64 2)).run Tryz.prog w = .ok (.func (.func 66) #[] #[]) w) := Lib.hid (fun w => by rw [← HST.out]; kernel_rfl)
 have I3 : Hid (∀ w, (Instr.index 59 (.agg ST) (.int .i64 3)).run Tryz.prog w = .ok (.func (.func 67) #[] #[]) w) := Lib.hid (fun w => by rw [← HST.out]; kernel_rfl)
 have I4 : Hid (∀ w, (Instr.index 59 (.agg ST) (.int .i64 4)).run Tryz.prog w = .ok (.func (.func 68) #[] #[]) w) := Lib.hid (fun w => by rw [← HST.out]; kernel_rfl)
 go_enter Tryz.func21, Tryz.ntmps21
 go_wp2_with fail
 refine HNS.out.mono ?_
 rintro e w1 ⟨rfl, b1⟩
 have B1 := Lib.hid b1; clear b1
 go_wp2
 go_loopw [0, 5, 6, 7, 9] (fun nm _ _ _ i wr => ∃ (k : Nat) (j : Int) (x : ByteArray), k ≤ 5 ∧ j = (k : Int) ∧ i = .int .i64 j ∧ nm = .string x ∧ Hid (nmS s k = some x) ∧ Hid (Below w.heap.size w wr)) (fun _ _ _ _ i _ => 5 - (intOf i).toNat)
 case atStart => exact ⟨0, 0, s, by omega, rfl, rfl, rfl, Lib.hid rfl, B1⟩
 case round =>
  obtain ⟨k, j, x, hk, hj, rfl, rfl, HN, HB⟩ := hrel
  have hx := nmS_size hs k HN.out
  have HWr := Lib.hid (HW.out.later HB.out)
  have hcases : k = 0 ∨ k = 1 ∨ k = 2 ∨ k = 3 ∨ k = 4 ∨ k = 5 := by omega
  rcases hcases with rfl | rfl | rfl | rfl | rfl | rfl
  ·obtain rfl : j = 0 := hj
   have HI := I0.out
   obtain ⟨y, HY⟩ : ∃ y, Hid (hstp 0 x = y) := ⟨_, Lib.hid rfl⟩
   have HC : Hid (Calls Tryz.prog 64 #[.string x] wr fun e w' => e = .returned (hsV y) ∧ Below wr.heap.size wr w') := Lib.hid (by rw [← HY.out]; exact decoded_any x wr (by omega))
   have HN2 : Hid (nmS s 1 = y) := Lib.hid (by rw [hnm_step 0 (by omega) HN.out, HY.out])
   clear hk
   cases y with
   | none =>
    have HR : Hid (O = none) := Lib.hid (by rw [← HO.out]; exact nmS_none 0 (by omega) HN2.out)
    have HC2 : Hid (Calls Tryz.prog 64 #[.string x] wr fun e w' => e = .returned (.tuple #[.string ⟨#[]⟩, .int .i64 5]) ∧ Below wr.heap.size wr w') := Lib.hid HC.out
    go_wp2_with fail
    refine HC2.out.mono ?_
    rintro e w2 ⟨rfl, b2⟩
    have B2 : Hid (Below w.heap.size w w2) := Lib.hid (keepW HB.out b2)
    clear b2
    go_wp2
    go_ret2
    exact ⟨ret_h (by rw [HR.out]; rfl), B2.out⟩
   | some y =>
    have HC2 : Hid (Calls Tryz.prog 64 #[.string x] wr fun e w' => e = .returned (.tuple #[.string y, .int .i64 0]) ∧ Below wr.heap.size wr w') := Lib.hid HC.out
    go_wp2_with fail
    refine HC2.out.mono ?_
    rintro e w2 ⟨rfl, b2⟩
    have B2 : Hid (Below w.heap.size w w2) := Lib.hid (keepW HB.out b2)
    clear b2
    go_wp2
    refine ⟨⟨1, 1, y, by omega, rfl, rfl, rfl, HN2, B2⟩, by simp [intOf]⟩
  ·obtain rfl : j = 1 := hj
   have HI := I1.out
   have hx1 : x.size ≤ 10000 := by
    have h := HN.out
    injection h with h
    rw [← h]; have := decS_size s; omega
   obtain ⟨y, HY⟩ : ∃ y, Hid (hstp 1 x = y) := ⟨_, Lib.hid rfl⟩
   have HC : Hid (Calls Tryz.prog 65 #[.string x] wr fun e w' => e = .returned (hsV y) ∧ Below wr.heap.size wr w') := Lib.hid (by rw [← HY.out]; exact labelled_any x wr hx1 HWr.out)
   have HN2 : Hid (nmS s 2 = y) := Lib.hid (by rw [hnm_step 1 (by omega) HN.out, HY.out])
   clear hk
   cases y with
   | none =>
    have HR : Hid (O = none) := Lib.hid (by rw [← HO.out]; exact nmS_none 1 (by omega) HN2.out)
    have HC2 : Hid (Calls Tryz.prog 65 #[.string x] wr fun e w' => e = .returned (.tuple #[.string ⟨#[]⟩, .int .i64 5]) ∧ Below wr.heap.size wr w') := Lib.hid HC.out
    go_wp2_with fail
    refine HC2.out.mono ?_
    rintro e w2 ⟨rfl, b2⟩
    have B2 : Hid (Below w.heap.size w w2) := Lib.hid (keepW HB.out b2)
    clear b2
    go_wp2
    go_ret2
    exact ⟨ret_h (by rw [HR.out]; rfl), B2.out⟩
   | some y =>
    have HC2 : Hid (Calls Tryz.prog 65 #[.string x] wr fun e w' => e = .returned (.tuple #[.string y, .int .i64 0]) ∧ Below wr.heap.size wr w') := Lib.hid HC.out
    go_wp2_with fail
    refine HC2.out.mono ?_
    rintro e w2 ⟨rfl, b2⟩
    have B2 : Hid (Below w.heap.size w w2) := Lib.hid (keepW HB.out b2)
    clear b2
    go_wp2
    refine ⟨⟨2, 2, y, by omega, rfl, rfl, rfl, HN2, B2⟩, by simp [intOf]⟩
  ·obtain rfl : j = 2 := hj
   have HI := I2.out
   obtain ⟨y, HY⟩ : ∃ y, Hid (hstp 2 x = y) := ⟨_, Lib.hid rfl⟩
   have HC : Hid (Calls Tryz.prog 66 #[.string x] wr fun e w' => e = .returned (hsV y) ∧ Below wr.heap.size wr w') := Lib.hid (by rw [← HY.out]; exact withoutForeign_any x wr (by omega))
   have HN2 : Hid (nmS s 3 = y) := Lib.hid (by rw [hnm_step 2 (by omega) HN.out, HY.out])
   clear hk
   cases y with
   | none =>
    have HR : Hid (O = none) := Lib.hid (by rw [← HO.out]; exact nmS_none 2 (by omega) HN2.out)
    have HC2 : Hid (Calls Tryz.prog 66 #[.string x] wr fun e w' => e = .returned (.tuple #[.string ⟨#[]⟩, .int .i64 5]) ∧ Below wr.heap.size wr w') := Lib.hid HC.out
    go_wp2_with fail
    refine HC2.out.mono ?_
    rintro e w2 ⟨rfl, b2⟩
    have B2 : Hid (Below w.heap.size w w2) := Lib.hid (keepW HB.out b2)
    clear b2
    go_wp2
    go_ret2
    exact ⟨ret_h (by rw [HR.out]; rfl), B2.out⟩
   | some y =>
    have HC2 : Hid (Calls Tryz.prog 66 #[.string x] wr fun e w' => e = .returned (.tuple #[.string y, .int .i64 0]) ∧ Below wr.heap.size wr w') := Lib.hid HC.out
    go_wp2_with fail
    refine HC2.out.mono ?_
    rintro e w2 ⟨rfl, b2⟩
    have B2 : Hid (Below w.heap.size w w2) := Lib.hid (keepW HB.out b2)
    clear b2
    go_wp2
    refine ⟨⟨3, 3, y, by omega, rfl, rfl, rfl, HN2, B2⟩, by simp [intOf]⟩
  ·obtain rfl : j = 3 := hj
   have HI := I3.out
   obtain ⟨y, HY⟩ : ∃ y, Hid (hstp 3 x = y) := ⟨_, Lib.hid rfl⟩
   have HC : Hid (Calls Tryz.prog 67 #[.string x] wr fun e w' => e = .returned (hsV y) ∧ Below wr.heap.size wr w') := Lib.hid (by rw [← HY.out]; exact withinLength_any x wr)
   have HN2 : Hid (nmS s 4 = y) := Lib.hid (by rw [hnm_step 3 (by omega) HN.out, HY.out])
   clear hk
   cases y with
   | none =>
    have HR : Hid (O = none) := Lib.hid (by rw [← HO.out]; exact nmS_none 3 (by omega) HN2.out)
    have HC2 : Hid (Calls Tryz.prog 67 #[.string x] wr fun e w' => e = .returned (.tuple #[.string ⟨#[]⟩, .int .i64 5]) ∧ Below wr.heap.size wr w') := Lib.hid HC.out
    go_wp2_with fail
    refine HC2.out.mono ?_
    rintro e w2 ⟨rfl, b2⟩
    have B2 : Hid (Below w.heap.size w w2) := Lib.hid (keepW HB.out b2)
    clear b2
    go_wp2
    go_ret2
    exact ⟨ret_h (by rw [HR.out]; rfl), B2.out⟩
   | some y =>
    have HC2 : Hid (Calls Tryz.prog 67 #[.string x] wr fun e w' => e = .returned (.tuple #[.string y, .int .i64 0]) ∧ Below wr.heap.size wr w') := Lib.hid HC.out
    go_wp2_with fail
    refine HC2.out.mono ?_
    rintro e w2 ⟨rfl, b2⟩
    have B2 : Hid (Below w.heap.size w w2) := Lib.hid (keepW HB.out b2)
    clear b2
    go_wp2
    refine ⟨⟨4, 4, y, by omega, rfl, rfl, rfl, HN2, B2⟩, by simp [intOf]⟩
  ·obtain rfl : j = 4 := hj
   have HI := I4.out
   obtain ⟨y, HY⟩ : ∃ y, Hid (hstp 4 x = y) := ⟨_, Lib.hid rfl⟩
   have HC : Hid (Calls Tryz.prog 68 #[.string x] wr fun e w' => e = .returned (hsV y) ∧ Below wr.heap.size wr w') := Lib.hid (by rw [← HY.out]; exact asFour_any x wr (by omega) HWr.out)
   have HN2 : Hid (nmS s 5 = y) := Lib.hid (by rw [hnm_step 4 (by omega) HN.out, HY.out])
   clear hk
   cases y with
   | none =>
    have HR : Hid (O = none) := Lib.hid (by rw [← HO.out]; exact nmS_none 4 (by omega) HN2.out)
    have HC2 : Hid (Calls Tryz.prog 68 #[.string x] wr fun e w' => e = .returned (.tuple #[.string ⟨#[]⟩, .int .i64 5]) ∧ Below wr.heap.size wr w') := Lib.hid HC.out
    go_wp2_with fail
    refine HC2.out.mono ?_
    rintro e w2 ⟨rfl, b2⟩
    have B2 : Hid (Below w.heap.size w w2) := Lib.hid (keepW HB.out b2)
    clear b2
    go_wp2
    go_ret2
    exact ⟨ret_h (by rw [HR.out]; rfl), B2.out⟩
   | some y =>
    have HC2 : Hid (Calls Tryz.prog 68 #[.string x] wr fun e w' => e = .returned (.tuple #[.string y, .int .i64 0]) ∧ Below wr.heap.size wr w') := Lib.hid HC.out
    go_wp2_with fail
    refine HC2.out.mono ?_
    rintro e w2 ⟨rfl, b2⟩
    have B2 : Hid (Below w.heap.size w w2) := Lib.hid (keepW HB.out b2)
    clear b2
    go_wp2
    refine ⟨⟨5, 5, y, by omega, rfl, rfl, rfl, HN2, B2⟩, by simp [intOf]⟩
  ·obtain rfl : j = 5 := hj
   have HR : Hid (O = some x) := Lib.hid (by rw [← HO.out]; exact HN.out)
   clear hk
   go_wp2
   go_ret2
   exact ⟨ret_h (by rw [HR.out]; rfl), HB.out⟩

/- In brackets. -/
theorem suf_one93 (l : List UInt8) : Lib.hasSuffix l [93] = decide (l.getLast? = some 93) := by
 rw [Bool.eq_iff_iff, suf_one, decide_eq_true_eq]
theorem sixV_row (l : List UInt8) : ∃ (C : Array Value) (c : Int), sixV (sixD l) = .tuple #[.agg C, .int .i64 c] ∧ C.size = 17 ∧ C.all (·.oneCell') = true ∧
  ((c = 5 ∧ sixD l = none) ∨ (c = 0 ∧ ∃ ps, sixD l = some ps ∧ (pb ps).length = 16 ∧ (∀ x ∈ pb ps, x < 256) ∧ C = cellsA true (pb ps))) := by
 match h : sixD l with
 | none => exact ⟨_, _, rfl, zeroA_size, zeroA_one, .inl ⟨rfl, rfl⟩⟩
 | some ps =>
  have hl : (pb ps).length = 16 := by rw [pb_len, sixD_len h]
  exact ⟨_, _, rfl, by rw [cellsA_size, hl], cellsA_one _ _, .inr ⟨rfl, ps, rfl, hl, pb_lt ps, rfl⟩⟩
set_option maxRecDepth 100000 in
set_option maxHeartbeats 1000000 in
theorem bracketed_any (s : ByteArray) (w : World) (hs : s.size ≤ 1048600) (hW : Hw w) :
  Calls Tryz.prog 20 #[.string s] w fun e w' => e = .returned (hsV (brackT s.data.toList)) ∧ Below w.heap.size w w' := by
 have HW := Lib.hid hW; clear hW
 obtain ⟨O, HO⟩ : ∃ O, Hid (brackT s.data.toList = O) := ⟨_, Lib.hid rfl⟩
 rw [HO.out]
 obtain ⟨D, HD⟩ : ∃ D, Hid ((⟨(Lib.trimSuffix s.data.toList [93]).toArray⟩ : ByteArray) = D) := ⟨_, Lib.hid rfl⟩
 obtain ⟨p, Hp⟩ : ∃ p, Hid (decide (s.data.toList.getLast? = some 93) = p) := ⟨_, Lib.hid rfl⟩
 have HS : Hid (Calls Tryz.prog 34 #[.string s, .string ⟨#[93]⟩] w fun e w' => e = .returned (.tuple #[.string D, .bool p]) ∧ w' = w) := Lib.hid (by
  have := Tryz.strings_CutSuffix s ⟨#[93]⟩ w (by omega)
  rw [show Lib.hasSuffix s.data.toList (⟨#[93]⟩ : ByteArray).data.toList = p from (suf_one93 _).trans Hp.out, show (⟨(Lib.trimSuffix s.data.toList (⟨#[93]⟩ : ByteArray).data.toList).toArray⟩ : ByteArray) = D from HD.out] at this
  exact this)
 cases p
 ·have HR : Hid (O = none) := Lib.hid (by
   rw [← HO.out, brackT, if_neg (by simpa using Hp.out)])
  go_enter Tryz.func20, Tryz.ntmps20
  go_wp2_with fail
  refine HS.out.mono ?_
  rintro e w1 ⟨rfl, hw1⟩
  obtain rfl := hw1.symm
  go_wp2
  go_ret2
  exact ⟨ret_h (by rw [HR.out]; rfl), Below.refl _ _⟩
 ·have hlast : s.data.toList.getLast? = some 93 := by simpa using Hp.out
  have HDl : Hid (D.data.toList = s.data.toList.dropLast) := Lib.hid (by
   rw [← HD.out]
   show Lib.trimSuffix s.data.toList [93] = _
   rw [Lib.trimSuffix, if_pos (by rw [suf_one93]; exact Hp.out), List.dropLast_eq_take]; rfl)
  have hDs : D.size ≤ 1048600 := by
   have h1 := lenB D
   rw [HDl.out, List.length_dropLast, lenB] at h1
   omega
  have HOD : Hid (O = match sixD D.data.toList with
   | none => none
   | some ps => some (asB ([91] ++ textD true (pb ps) ++ [93]))) := Lib.hid (by
   rw [← HO.out, brackT, if_pos hlast, HDl.out]; rfl)
  clear hlast
  obtain ⟨C, c, hv, hsz, hone, hcase⟩ := sixV_row D.data.toList
  obtain ⟨hz, hi⟩ := zero_of_info infoA
  have HI := Lib.hid hi; clear hi
  have HF : Hid (∀ w, Calls Tryz.prog 35 #[.string D] w fun e w' => e = .returned (.tuple #[.agg C, .int .i64 c]) ∧ Below w.heap.size w w') := Lib.hid (fun w => by
   have := Six_any D w hDs
   rwa [hv] at this)
  have HDD : Hid ((Tryz.prog.info? 54).map (·.size) = some C.size) := Lib.hid (by rw [HI.out, hsz])
  have HY : Hid (zeroA.size = C.size) := Lib.hid (by rw [hsz]; exact zeroA_size)
  have HOn := Lib.hid hone
  have HCs := Lib.hid hcase
  clear hv hsz hone hcase
  go_enter Tryz.func20, Tryz.ntmps20
  go_wp2_with fail
  refine HS.out.mono ?_
  rintro e w1 ⟨rfl, hw1⟩
  obtain rfl := hw1.symm
  go_wp2_with fail
  refine (HF.out _).mono ?_
  rintro e w1 ⟨rfl, b1⟩
  obtain ⟨W2, HW2⟩ : ∃ W, Hid (w1.alloc (.cells C 54) = W) := ⟨_, Lib.hid rfl⟩
  have B2 : Hid (Below w.heap.size w W2) := Lib.hid (by rw [← HW2.out]; exact b1.alloc b1.size _)
  have G2 : Hid (W2.heap[w1.heap.size]? = some (.cells C 54 (0, 0))) := Lib.hid (by rw [← HW2.out]; exact heap_alloc_new w1 _)
  clear b1
  rcases HCs.out with ⟨rfl, h⟩ | ⟨rfl, ps, h, hl, hb, hC⟩
  ·have HR : Hid (O = none) := Lib.hid (by rw [HOD.out, h])
   clear h HCs
   go_wp2_with (refine wpL_store_row rfl 54 _ _ rfl w1.heap.size C ?_ ?_ 54 zeroA ?_ ?_ ?_ ?_ ?_; exact rfl; exact rfl; exact heap_alloc_new w1 _; exact HDD.out; exact HY.out; exact HOn.out; rw [World.setRow_alloc_new, HW2.out])
   go_ret2
   exact ⟨ret_h (by rw [HR.out]; rfl), B2.out⟩
  ·obtain ⟨T, HT⟩ : ∃ T, Hid (asB (textD true (pb ps)) = T) := ⟨_, Lib.hid rfl⟩
   have HR : Hid (O = some ((⟨#[91]⟩ : ByteArray) ++ T ++ ⟨#[93]⟩)) := Lib.hid (by
    rw [HOD.out, h, ← HT.out]
    show some _ = some _
    rw [show (⟨#[91]⟩ : ByteArray) = asB [91] from rfl, show (⟨#[93]⟩ : ByteArray) = asB [93] from rfl, asB_cat, asB_cat])
   have hTs : T.size ≤ 39 := by
    rw [← HT.out, asB_size]; exact (six_made (pb ps) hb).2.2.2
   have HTx : Hid (Calls Tryz.prog 36 #[.agg C] W2 fun e w' => e = .returned (.string T) ∧ Below W2.heap.size W2 w') := Lib.hid (by
    have := Text_any true (pb ps) W2 hl hb (HW.out.later B2.out).f10 (HW.out.later B2.out).f16
    rw [HT.out] at this
    rwa [hC])
   clear h HCs hl hb hC
   have hz1 : ¬ 9223372036854775807 < 1 + T.size := by omega
   have hz2 : ¬ 9223372036854775807 < 1 + T.size + 1 := by omega
   go_wp2_with (first
    | (refine wpL_store_row rfl 54 _ _ rfl w1.heap.size C ?_ ?_ 54 zeroA ?_ ?_ ?_ ?_ ?_; exact rfl; exact rfl; exact heap_alloc_new w1 _; exact HDD.out; exact HY.out; exact HOn.out; rw [World.setRow_alloc_new, HW2.out])
    | (refine wpList_load_row rfl 54 _ rfl w1.heap.size ?_ 54 C (0, 0) _ ?_ Tryz.underlying54 rfl HDD.out ?_; (exact rfl); (exact G2.out)))
   refine HTx.out.mono ?_
   rintro e w3 ⟨rfl, b3⟩
   have B3 : Hid (Below w.heap.size w w3) := Lib.hid (keepW B2.out b3)
   clear b3
   go_wp2
   go_ret2
   exact ⟨ret_h (by rw [HR.out]; rfl), B3.out⟩

theorem hsV_two (o : Option ByteArray) : hsV o = .tuple #[.string (match o with | none => ((⟨#[]⟩, 5) : ByteArray × Int) | some x => (x, 0)).1, .int .i64 (match o with | none => ((⟨#[]⟩, 5) : ByteArray × Int) | some x => (x, 0)).2] := by cases o <;> rfl
set_option maxRecDepth 100000 in
set_option maxHeartbeats 1000000 in
theorem HostsParse_any (s : ByteArray) (w : World) (hs : s.size ≤ maxLen) (hs2 : s.size ≤ 10000 ∨ 65536 < s.size) (hW : Hw w) :
  Calls Tryz.prog 9 #[.string s] w fun e w' => e = .returned (.tuple #[.string (hostT s).1, .int .i64 (hostT s).2]) ∧ Below w.heap.size w w' := by
 unfold maxLen at hs
 by_cases hL : 65536 < s.size
 ·have HR : Hid (hostT s = (⟨#[]⟩, 3)) := Lib.hid (by rw [hostT, if_pos hL])
  have hI : (65536 : Int) < (s.size : Int) := by omega
  rw [HR.out]
  go_enter Tryz.func9, Tryz.ntmps9
  go_wp2
  go_ret2
  exact ⟨rfl, Below.refl _ _⟩
 ·have hs1 : s.size ≤ 10000 := by omega
  have hI : (s.size : Int) ≤ 65536 := by omega
  have HR : Hid (hostT s = match hostO s with | none => ((⟨#[]⟩, 5) : ByteArray × Int) | some x => (x, 0)) := Lib.hid (by rw [hostT, if_neg hL]; rfl)
  have HRV : Hid ((.tuple #[.string (hostT s).1, .int .i64 (hostT s).2] : Value) = hsV (hostO s)) := Lib.hid (by rw [HR.out, hsV_two])
  rw [HRV.out]
  obtain ⟨p, Hp⟩ : ∃ p, Hid (decide (s.data.toList.head? = some 91) = p) := ⟨_, Lib.hid rfl⟩
  obtain ⟨D, HD⟩ : ∃ D, Hid ((⟨(Lib.trimPrefix s.data.toList [91]).toArray⟩ : ByteArray) = D) := ⟨_, Lib.hid rfl⟩
  have HC : Hid (Calls Tryz.prog 19 #[.string s, .string ⟨#[91]⟩] w fun e w' => e = .returned (.tuple #[.string D, .bool p]) ∧ w' = w) := Lib.hid (by
   have := Tryz.strings_CutPrefix s ⟨#[91]⟩ w
   rw [show Lib.hasPrefix s.data.toList (⟨#[91]⟩ : ByteArray).data.toList = p from (pre_one _ _).trans Hp.out, show (⟨(Lib.trimPrefix s.data.toList (⟨#[91]⟩ : ByteArray).data.toList).toArray⟩ : ByteArray) = D from HD.out] at this
   exact this)
  obtain ⟨O, HO⟩ : ∃ O, Hid (hostO s = O) := ⟨_, Lib.hid rfl⟩
  rw [HO.out]
  clear hL
  cases p
  ·have HN : Hid (Calls Tryz.prog 21 #[.string s] w fun e w' => e = .returned (hsV O) ∧ Below w.heap.size w w') := Lib.hid (by
    have := named_any s w hs1 hW
    rwa [show namedT (decS s) = O by rw [← HO.out, hostO, if_neg (by simpa using Hp.out)]] at this)
   clear hW
   cases O with
   | none =>
    have HN2 : Hid (Calls Tryz.prog 21 #[.string s] w fun e w' => e = .returned (.tuple #[.string ⟨#[]⟩, .int .i64 5]) ∧ Below w.heap.size w w') := Lib.hid HN.out
    go_enter Tryz.func9, Tryz.ntmps9
    go_wp2_with fail
    refine HC.out.mono ?_
    rintro e w1 ⟨rfl, hw1⟩
    obtain rfl := hw1.symm
    go_wp2_with fail
    refine HN2.out.mono ?_
    rintro e w1 ⟨rfl, b1⟩
    have B1 := Lib.hid b1; clear b1
    go_wp2
    go_ret2
    exact ⟨rfl, B1.out⟩
   | some y =>
    have HN2 : Hid (Calls Tryz.prog 21 #[.string s] w fun e w' => e = .returned (.tuple #[.string y, .int .i64 0]) ∧ Below w.heap.size w w') := Lib.hid HN.out
    go_enter Tryz.func9, Tryz.ntmps9
    go_wp2_with fail
    refine HC.out.mono ?_
    rintro e w1 ⟨rfl, hw1⟩
    obtain rfl := hw1.symm
    go_wp2_with fail
    refine HN2.out.mono ?_
    rintro e w1 ⟨rfl, b1⟩
    have B1 := Lib.hid b1; clear b1
    go_wp2
    go_ret2
    exact ⟨rfl, B1.out⟩
  ·have hh : s.data.toList.head? = some 91 := by simpa using Hp.out
   have HDl : Hid (D.data.toList = s.data.toList.drop 1) := Lib.hid (by
    rw [← HD.out]
    show Lib.trimPrefix s.data.toList [91] = _
    rw [Lib.trimPrefix, if_pos (by rw [pre_one]; exact Hp.out)]; rfl)
   have hDs : D.size ≤ 1048600 := by
    have h1 := lenB D
    rw [HDl.out, List.length_drop, lenB] at h1
    omega
   have HN : Hid (Calls Tryz.prog 20 #[.string D] w fun e w' => e = .returned (hsV O) ∧ Below w.heap.size w w') := Lib.hid (by
    have := bracketed_any D w hDs hW
    rwa [show brackT D.data.toList = O by rw [← HO.out, hostO, if_pos hh, HDl.out]] at this)
   clear hW hh
   cases O with
   | none =>
    have HN2 : Hid (Calls Tryz.prog 20 #[.string D] w fun e w' => e = .returned (.tuple #[.string ⟨#[]⟩, .int .i64 5]) ∧ Below w.heap.size w w') := Lib.hid HN.out
    go_enter Tryz.func9, Tryz.ntmps9
    go_wp2_with fail
    refine HC.out.mono ?_
    rintro e w1 ⟨rfl, hw1⟩
    obtain rfl := hw1.symm
    go_wp2_with fail
    refine HN2.out.mono ?_
    rintro e w1 ⟨rfl, b1⟩
    have B1 := Lib.hid b1; clear b1
    go_wp2
    go_ret2
    exact ⟨rfl, B1.out⟩
   | some y =>
    have HN2 : Hid (Calls Tryz.prog 20 #[.string D] w fun e w' => e = .returned (.tuple #[.string y, .int .i64 0]) ∧ Below w.heap.size w w') := Lib.hid HN.out
    go_enter Tryz.func9, Tryz.ntmps9
    go_wp2_with fail
    refine HC.out.mono ?_
    rintro e w1 ⟨rfl, hw1⟩
    obtain rfl := hw1.symm
    go_wp2_with fail
    refine HN2.out.mono ?_
    rintro e w1 ⟨rfl, b1⟩
    have B1 := Lib.hid b1; clear b1
    go_wp2
    go_ret2
    exact ⟨rfl, B1.out⟩

end Go.Proofs.YtcphokaamkalfaaGreatDoor
