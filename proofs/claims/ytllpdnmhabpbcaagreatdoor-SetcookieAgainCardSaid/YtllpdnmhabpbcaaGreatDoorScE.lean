/-
  Package setcookie: Parse.
-/
import Derived.Test.YtllpdnmhabpbcaaGreatDoorScD
import Derived.Test.YtllpdnmhabpbcaaGreatDoorSplC
import Derived.Test.YtllpdnmhabpbcaaGreatDoorScP
import Derived.Deep.WholeRow
namespace Go.Proofs.YtllpdnmhabpbcaaGreatDoor
open Go.RowKit

theorem sc_row2 {P : Program} {fn : Func} {p u : Tmp} {ty : TypeId} (h : fn.results = #[.cell p ty, .tmp u]) (tmps : Array Value) (w : World) (g : Nat) (t : TypeId) (cs : Array Value) (fr : Nat × Nat) (d : TypeDesc)
    (hp : tmps.getD p undef = .pointer (some ⟨g, 0, none⟩)) (hg : w.heap[g]? = some (.cells cs t fr))
    (hu : P.underlying ty = some d) (hd : (match d with | .struct _ | .array _ _ => true | _ => false) = true) (hi : (P.info? ty).map (·.size) = some cs.size) :
    (results fn tmps).run P w = .ok (.tuple #[.agg cs, tmps.getD u undef]) w := by
  rw [results_cell_tmp h, hp]
  simp [asAddr, run_loadVar_row w g t ty cs fr d hg hu hd hi, Result.andThen]
theorem sc_below {k : Nat} {w0 w : World} (h : Below k w0 w) (g : Nat) (cs : Array Value) (hg : k ≤ g) : Below k w0 (w.setRow g cs) :=
  ⟨by show w.os = _; exact h.os, by show w.tape = _; exact h.tape, by show w.output = _; exact h.output, by have := h.size; simpa [World.setRow] using this, fun j hj => by rw [setRow_other w g j cs (by omega)]; exact h.block j hj⟩
theorem infoTo : (Tryz.prog.info? 26).map (·.size) = some 11 := by kernel_rfl
theorem infoCk : (Tryz.prog.info? 40).map (·.size) = some 11 := by kernel_rfl
theorem ckR_one (t : Cki) : (ckR t).all (·.oneCell') = true := by
  simp [ckR, Value.oneCell']
/-- Parse's own answer. -/
def ZBox (w : World) : World := w.alloc (.cells (ckR ck0) 26)
theorem zbox_at (w : World) : (ZBox w).heap[w.heap.size]? = some (.cells (ckR ck0) 26 (0, 0)) := heap_alloc_new w _
theorem zbox_below (w : World) : Below w.heap.size w (ZBox w) := (Below.refl _ _).alloc (Nat.le_refl _) _
theorem zbox_size (w : World) : (ZBox w).heap.size = w.heap.size + 1 := by simp [ZBox]

set_option maxRecDepth 100000 in
set_option maxHeartbeats 2000000 in
theorem Parse_long (s : ByteArray) (w : World) (hs : 65536 < s.size) :
    Calls Tryz.prog 6 #[.string s] w fun e w' => e = .returned (.tuple #[.agg (ckR ck0), .int .i64 3]) ∧ Below w.heap.size w w' := by
  have hsI : (65536 : Int) < (s.size : Int) := by omega
  clear hs
  go_enter Tryz.func6, Tryz.ntmps6
  go_wp2_with fail
  exact bodyPost_ret (v := .tuple #[.agg (ckR ck0), .int .i64 3]) (sc_row2 (P := Tryz.prog) Tryz.results6 _ _ w.heap.size _ _ (0, 0) _ rfl (zbox_at w) Tryz.underlying26 rfl infoTo) rfl ⟨rfl, zbox_below w⟩
set_option maxRecDepth 100000 in
set_option maxHeartbeats 2000000 in
theorem Parse_ctl (s : ByteArray) (w : World) (hs : ¬ 65536 < s.size) (hc : s.data.toList.any ctlB = true) :
    Calls Tryz.prog 6 #[.string s] w fun e w' => e = .returned (.tuple #[.agg (ckR ck0), .int .i64 4]) ∧ Below w.heap.size w w' := by
  have hsI : ¬ (65536 : Int) < (s.size : Int) := by omega
  have HS := Lib.hid fun w => signs_any s w (by unfold maxLen; omega)
  rw [hc] at HS
  clear hs hc
  go_enter Tryz.func6, Tryz.ntmps6
  go_wp2_with fail
  refine (HS.out _).mono ?_
  rintro e w1 ⟨rfl, rfl⟩
  go_wp2_with fail
  exact bodyPost_ret (v := .tuple #[.agg (ckR ck0), .int .i64 4]) (sc_row2 (P := Tryz.prog) Tryz.results6 _ _ w.heap.size _ _ (0, 0) _ rfl (zbox_at w) Tryz.underlying26 rfl infoTo) rfl ⟨rfl, zbox_below w⟩

theorem first_cases (p : ByteArray) : (∃ c : Int, (c = 3 ∨ c = 4) ∧ firstV p = .tuple #[.string noB, .string noB, .int .i64 c] ∧ ∀ r, prsF (p :: r) = (ck0, c)) ∨
    (firstV p = .tuple #[.string (fnm p), .string (fvl p), .int .i64 0] ∧ ∀ r, prsF (p :: r) = (r.foldl heard { ck0 with nm := fnm p, vl := fvl p }, 0)) := by
  unfold firstV prsF
  by_cases h1 : 4096 < (fnm p).size + (fvl p).size
  · exact .inl ⟨3, .inl rfl, by rw [if_pos h1], fun r => by simp only [if_pos h1]⟩
  · by_cases h2 : (fnm p).size = 0 ∧ (fvl p).size = 0
    · exact .inl ⟨4, .inr rfl, by rw [if_neg h1, if_pos h2], fun r => by simp only [if_neg h1, if_pos h2]⟩
    · exact .inr ⟨by rw [if_neg h1, if_neg h2], fun r => by simp only [if_neg h1, if_neg h2]⟩

set_option maxRecDepth 100000 in
set_option maxHeartbeats 4000000 in
theorem Parse_some (s : ByteArray) (m : Int) (w : World) (hs : ¬ 65536 < s.size) (hc : s.data.toList.any ctlB = false) (hw : DtC0 m w) :
    Calls Tryz.prog 6 #[.string s] w fun e w' => e = .returned (.tuple #[.agg (ckR (prsF (partsA 59 s)).1), .int .i64 (prsF (partsA 59 s)).2]) ∧ Below w.heap.size w w' := by
  have hsI : ¬ (65536 : Int) < (s.size : Int) := by omega
  have HS := Lib.hid fun w => signs_any s w (by unfold maxLen; omega)
  rw [hc] at HS
  have HBx := Lib.hid (zbox_below w)
  have HAx := Lib.hid (zbox_at w)
  have HZx := Lib.hid (zbox_size w)
  have HWx := Lib.hid (hw.below HBx.out)
  have HSp := Lib.hid (Split_any s 59 m (ZBox w) (by omega) HWx.out.mx)
  have hlen : (partsA 59 s).length = (partsA 59 s).length - 1 + 1 := by
    have : (partsA 59 s).length ≠ 0 := by
      rw [partsA_len]
      intro h
      exact parts_ne 59 _ (List.length_eq_zero_iff.1 h)
    omega
  obtain ⟨p, r, hpr⟩ : ∃ p r, partsA 59 s = p :: r := by
    cases hp : partsA 59 s with
    | nil => rw [hp] at hlen; simp at hlen
    | cons p r => exact ⟨p, r, rfl⟩
  have hps : ∀ x ∈ partsA 59 s, x.size ≤ 65536 := fun x hx => by
    unfold partsA at hx
    obtain ⟨y, hy, rfl⟩ := List.mem_map.1 hx
    have h1 := rawP_size 59 s y hy
    have h2 := trimA_le y
    omega
  have hln : (partsA 59 s).length ≤ 65537 := by
    rw [partsA_len, parts_count]
    have := List.count_le_length (a := (59 : UInt8)) (l := s.data.toList)
    rw [lenB] at this
    omega
  rw [hpr] at HSp hps hln ⊢
  obtain ⟨W0, HW0⟩ : ∃ W, Hid (ZBox w = W) := ⟨_, Lib.hid rfl⟩
  rw [HW0.out] at HBx HAx HZx HWx HSp
  clear hs hc hw hlen hpr
  obtain ⟨n, Hn⟩ : ∃ n, Hid ((p :: r).length = n) := ⟨_, Lib.hid rfl⟩
  rcases first_cases p with ⟨c, hc, hv, hr⟩ | ⟨hv, hr⟩
  · rw [hr r]
    have hcn : (c != 0) = true := bne_iff_ne.2 (by rcases hc with rfl | rfl <;> decide)
    clear hr hc
    go_enter Tryz.func6, Tryz.ntmps6
    go_wp2_with fail
    refine (HS.out _).mono ?_
    rintro e w1 ⟨rfl, rfl⟩
    go_wp2_with fail
    refine (show Calls Tryz.prog 11 _ (ZBox w) _ from by rw [HW0.out]; exact HSp.out).mono ?_
    rintro e w2 ⟨g, rfl, hg, hG, b2⟩
    have hx : w2.cell? ⟨g, 0, none⟩ = some (.string p) := by rw [cell_of_row w2 g 0 _ _ _ hG]; rfl
    have HG := Lib.hid hG
    have HB2 := Lib.hid b2
    have HGe := Lib.hid hg
    have HW2 := Lib.hid (HWx.out.below b2)
    have HF := Lib.hid (first_any p (by have := hps p (List.mem_cons_self ..); omega) m w2 HW2.out.mx)
    rw [hv] at HF
    have hl0 : (0 : Int) < ((p :: r).length : Int) := by simp
    rw [Hn.out] at hl0 ⊢
    clear hG b2 hg hv hps
    go_wp2_with fail
    refine HF.out.mono ?_
    rintro e w3 ⟨rfl, b3⟩
    have HA3 : Hid (w3.heap[w.heap.size]? = some (.cells (ckR ck0) 26 (0, 0))) := Lib.hid ((b3.block _ (Nat.lt_of_lt_of_le (by rw [HZx.out]; omega) HB2.out.size)).trans ((HB2.out.block _ (by rw [HZx.out]; omega)).trans HAx.out))
    have HB3 := Lib.hid b3
    clear b3
    have HBw : Hid (Below w.heap.size w w3) := Lib.hid (HBx.out.trans ((HB2.out.trans (HB3.out.mono HB2.out.size)).mono HBx.out.size))
    obtain ⟨W5, HW5⟩ : ∃ W, Hid (w3.setRow w.heap.size (ckR ck0) = W) := ⟨_, Lib.hid rfl⟩
    have HA5 : Hid (W5.heap[w.heap.size]? = some (.cells (ckR ck0) 26 (0, 0))) := Lib.hid (by rw [← HW5.out]; exact setRow_heap w3 _ _ _ _ _ HA3.out)
    have HB5 : Hid (Below w.heap.size w W5) := Lib.hid (by rw [← HW5.out]; exact sc_below HBw.out _ _ (Nat.le_refl _))
    go_wp2_with (refine wpL_store_row rfl 26 _ _ rfl w.heap.size (ckR ck0) ?_ ?_ 26 (ckR ck0) ?_ ?_ ?_ ?_ ?_; exact rfl; exact rfl; exact HA3.out; exact infoTo; exact rfl; exact ckR_one _; rw [HW5.out])
    exact bodyPost_ret (v := .tuple #[.agg (ckR ck0), .int .i64 c]) (sc_row2 (P := Tryz.prog) Tryz.results6 _ _ w.heap.size _ _ (0, 0) _ rfl HA5.out Tryz.underlying26 rfl infoTo) rfl ⟨rfl, HB5.out⟩
  · rw [hr r]
    clear hr
    go_enter Tryz.func6, Tryz.ntmps6
    go_wp2_with fail
    refine (HS.out _).mono ?_
    rintro e w1 ⟨rfl, rfl⟩
    go_wp2_with fail
    refine (show Calls Tryz.prog 11 _ (ZBox w) _ from by rw [HW0.out]; exact HSp.out).mono ?_
    rintro e w2 ⟨g, rfl, hg, hG, b2⟩
    have hx : w2.cell? ⟨g, 0, none⟩ = some (.string p) := by rw [cell_of_row w2 g 0 _ _ _ hG]; rfl
    have HG := Lib.hid hG
    have HB2 := Lib.hid b2
    have HGe := Lib.hid hg
    have HW2 := Lib.hid (HWx.out.below b2)
    have HF := Lib.hid (first_any p (by have := hps p (List.mem_cons_self ..); omega) m w2 HW2.out.mx)
    rw [hv] at HF
    have hl0 : (0 : Int) < ((p :: r).length : Int) := by simp
    rw [Hn.out] at hl0 ⊢
    clear hG b2 hg hv
    go_wp2_with fail
    refine HF.out.mono ?_
    rintro e w3 ⟨rfl, b3⟩
    have HA3 : Hid (w3.heap[w.heap.size]? = some (.cells (ckR ck0) 26 (0, 0))) := Lib.hid ((b3.block _ (Nat.lt_of_lt_of_le (by rw [HZx.out]; omega) HB2.out.size)).trans ((HB2.out.block _ (by rw [HZx.out]; omega)).trans HAx.out))
    have HB3 := Lib.hid b3
    clear b3
    have HBw : Hid (Below w.heap.size w w3) := Lib.hid (HBx.out.trans ((HB2.out.trans (HB3.out.mono HB2.out.size)).mono HBx.out.size))
    have hgl := lt_of_block HG.out
    have h23 := HB3.out.size
    obtain ⟨T0, HT0⟩ : ∃ T0, Hid ({ ck0 with nm := fnm p, vl := fvl p } = T0) := ⟨_, Lib.hid rfl⟩
    obtain ⟨W4, HW4⟩ : ∃ W, Hid (w3.alloc (.cells (ckR T0) 40) = W) := ⟨_, Lib.hid rfl⟩
    have HB4 : Hid (Below w3.heap.size w3 W4) := Lib.hid (by rw [← HW4.out]; exact (Below.refl _ _).alloc (Nat.le_refl _) _)
    have HC4 : Hid (CkAt W4 w3.heap.size T0) := Lib.hid (by rw [← HW4.out]; exact heap_alloc_new w3 _)
    have HG4 : Hid (W4.heap[g]? = some (.cells ((p :: r).map Value.string).toArray 9 (0, 0))) := Lib.hid ((HB4.out.block g (by omega)).trans ((HB3.out.block g hgl).trans HG.out))
    have HHear : Hid (∀ a0 c, (0 < r.length → a0 = some ⟨g, 1, none⟩) → Calls Tryz.prog 13 #[.pointer (some ⟨w3.heap.size, 0, none⟩), .slice a0 r.length c] W4 (SaidPost W4 w3.heap.size (r.foldl heard T0))) := Lib.hid fun a0 c ha =>
      hear_any w3.heap.size T0 g 1 a0 c r m W4 HC4.out (fun j hj => by
        rw [cell_of_row W4 g (1 + j) _ _ _ HG4.out, Nat.add_comm 1 j]
        simp [hj]) ha (by omega) (by simp at hln; omega) (fun x hx => by have := hps x (List.mem_cons_of_mem _ hx); omega) (fun w6 k6 => by
        have hb : Below w3.heap.size w3 w6 := (Kp.of_below (X := Only w3.heap.size) HB4.out |>.trans k6).below (Nat.le_refl _) (fun k hk => by rw [show k = w3.heap.size from hk]; exact Nat.le_refl _)
        exact (HW2.out.below HB3.out).below hb)
    obtain ⟨TT, HTT⟩ : ∃ TT, Hid (r.foldl heard T0 = TT) := ⟨_, Lib.hid rfl⟩
    rw [HTT.out] at HHear
    have HTT2 : Hid (r.foldl heard { ck0 with nm := fnm p, vl := fvl p } = TT) := Lib.hid (by rw [HT0.out, HTT.out])
    have hW4s : W4.heap.size = w3.heap.size + 1 := by rw [← HW4.out]; simp
    have HFin : Hid (∀ w5, Kp (Only w3.heap.size) W4 w5 → CkAt w5 w3.heap.size TT → w5.heap[w.heap.size]? = some (.cells (ckR ck0) 26 (0, 0)) ∧ (w5.setRow w.heap.size (ckR TT)).heap[w.heap.size]? = some (.cells (ckR TT) 26 (0, 0)) ∧ Below w.heap.size w (w5.setRow w.heap.size (ckR TT))) := Lib.hid fun w5 k5 c5 => by
      have hlt : w.heap.size < w3.heap.size := lt_of_block HA3.out
      have h1 : w5.heap[w.heap.size]? = some (.cells (ckR ck0) 26 (0, 0)) := k5.at ((HB4.out.block _ hlt).trans HA3.out) (fun e => by have : w.heap.size = w3.heap.size := e; omega)
      have hb : Below w.heap.size w w5 := HBw.out.trans ((Kp.of_below (X := Only w3.heap.size) HB4.out |>.trans k5).below (B := w.heap.size) (by omega) (fun k hk => by rw [show k = w3.heap.size from hk]; omega))
      exact ⟨h1, setRow_heap w5 _ _ _ _ _ h1, sc_below hb _ _ (Nat.le_refl _)⟩
    have hrow : (#[.string (fnm p), .string (fvl p), .string ⟨#[]⟩, .string ⟨#[]⟩, .int .i64 0, .bool false, .int .i64 0, .bool false, .bool false, .bool false, .int .u8 0] : Array Value) = ckR T0 := by rw [← HT0.out]; rfl
    have HRow := Lib.hid hrow
    clear hrow
    obtain ⟨k, Hk⟩ : ∃ k, Hid (r.length = k) := ⟨_, Lib.hid rfl⟩
    obtain rfl : k + 1 = n := by rw [← Hn.out, ← Hk.out]; rfl
    rw [Hk.out] at HHear
    clear hps hgl h23 hW4s
    by_cases hk0 : k = 0
    · subst hk0
      go_upto_region 10 with (fail)
      rw [HRow.out, HW4.out]
      go_wp2_with fail
      refine (HHear.out _ _ (fun h => by first | omega | rfl)).mono ?_
      rintro e w5 ⟨rfl, c5, k5⟩
      obtain ⟨a5, a6, a7⟩ := HFin.out w5 k5 c5
      have HA5 := Lib.hid a5
      have HA6 := Lib.hid a6
      have HA7 := Lib.hid a7
      have HC5 := Lib.hid c5
      clear a5 a6 a7 c5 k5
      obtain ⟨W6, HW6⟩ : ∃ W, Hid (w5.setRow w.heap.size (ckR TT) = W) := ⟨_, Lib.hid rfl⟩
      rw [HW6.out] at HA6 HA7
      obtain ⟨V, HV, hVs, hV1⟩ : ∃ V, Hid (ckR TT = V) ∧ Hid (V.size = 11) ∧ Hid (V.all (·.oneCell') = true) := ⟨_, Lib.hid rfl, Lib.hid rfl, Lib.hid (ckR_one _)⟩
      unfold CkAt at HC5
      rw [HV.out] at HA6 HC5 HW6
      go_wp2_with (first
        | (refine wpList_load_row rfl 40 _ rfl w3.heap.size ?_ 40 V (0, 0) _ ?_ Tryz.underlying40 rfl ?_ ?_; (exact rfl); (exact HC5.out); (rw [hVs.out]; exact infoCk))
        | (refine wpL_store_row rfl 26 _ _ rfl w.heap.size V ?_ ?_ 26 (ckR ck0) ?_ ?_ ?_ ?_ ?_; exact rfl; exact rfl; exact HA5.out; (rw [hVs.out]; exact infoTo); (rw [hVs.out]; rfl); exact hV1.out; rw [HW6.out]))
      exact bodyPost_ret (v := .tuple #[.agg V, .int .i64 0]) (sc_row2 (P := Tryz.prog) Tryz.results6 _ _ w.heap.size _ _ (0, 0) _ rfl HA6.out Tryz.underlying26 rfl (by rw [hVs.out]; exact infoTo)) rfl ⟨by rw [HTT2.out, HV.out], HA7.out⟩
    · have hk1 : 1 ≤ k := by omega
      clear hk0
      go_upto_region 10 with (fail)
      rw [HRow.out, HW4.out]
      go_wp2_with fail
      refine (HHear.out _ _ (fun h => by first | omega | rfl)).mono ?_
      rintro e w5 ⟨rfl, c5, k5⟩
      obtain ⟨a5, a6, a7⟩ := HFin.out w5 k5 c5
      have HA5 := Lib.hid a5
      have HA6 := Lib.hid a6
      have HA7 := Lib.hid a7
      have HC5 := Lib.hid c5
      clear a5 a6 a7 c5 k5
      obtain ⟨W6, HW6⟩ : ∃ W, Hid (w5.setRow w.heap.size (ckR TT) = W) := ⟨_, Lib.hid rfl⟩
      rw [HW6.out] at HA6 HA7
      obtain ⟨V, HV, hVs, hV1⟩ : ∃ V, Hid (ckR TT = V) ∧ Hid (V.size = 11) ∧ Hid (V.all (·.oneCell') = true) := ⟨_, Lib.hid rfl, Lib.hid rfl, Lib.hid (ckR_one _)⟩
      unfold CkAt at HC5
      rw [HV.out] at HA6 HC5 HW6
      go_wp2_with (first
        | (refine wpList_load_row rfl 40 _ rfl w3.heap.size ?_ 40 V (0, 0) _ ?_ Tryz.underlying40 rfl ?_ ?_; (exact rfl); (exact HC5.out); (rw [hVs.out]; exact infoCk))
        | (refine wpL_store_row rfl 26 _ _ rfl w.heap.size V ?_ ?_ 26 (ckR ck0) ?_ ?_ ?_ ?_ ?_; exact rfl; exact rfl; exact HA5.out; (rw [hVs.out]; exact infoTo); (rw [hVs.out]; rfl); exact hV1.out; rw [HW6.out]))
      exact bodyPost_ret (v := .tuple #[.agg V, .int .i64 0]) (sc_row2 (P := Tryz.prog) Tryz.results6 _ _ w.heap.size _ _ (0, 0) _ rfl HA6.out Tryz.underlying26 rfl (by rw [hVs.out]; exact infoTo)) rfl ⟨by rw [HTT2.out, HV.out], HA7.out⟩

theorem Parse_any (s : ByteArray) (m : Int) (w : World) (hw : DtC0 m w) :
    Calls Tryz.prog 6 #[.string s] w fun e w' => e = .returned (.tuple #[.agg (ckR (prsC s).1), .int .i64 (prsC s).2]) ∧ Below w.heap.size w w' := by
  unfold prsC
  by_cases h1 : 65536 < s.size
  · rw [if_pos h1]; exact Parse_long s w h1
  · rw [if_neg h1]
    cases h2 : s.data.toList.any ctlB with
    | true => rw [if_pos rfl]; exact Parse_ctl s w h1 h2
    | false => rw [if_neg (by decide)]; exact Parse_some s m w h1 h2 hw

end Go.Proofs.YtllpdnmhabpbcaaGreatDoor
