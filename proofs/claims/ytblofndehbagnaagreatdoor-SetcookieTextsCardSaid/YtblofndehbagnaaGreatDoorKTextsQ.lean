/-
  footmanlaw10.SetcookieTexts returns true for every input: its tied card, under the card's own conditions and no other.
-/
import Derived.Test.YtblofndehbagnaaGreatDoorScX
import Derived.Test.YtblofndehbagnaaGreatDoorMath
import Derived.Test.YtblofndehbagnaaGreatDoorRows
import Derived.ProofKit
import Derived.OpenShut
import Derived.ShutString
import Derived.ChangeOld
import Derived.Below
import Derived.SizedLaws
import Derived.Test.YtblofndehbagnaaGreatDoorBeyond
import Derived.Test.YtblofndehbagnaaGreatDoorDoorK
import Derived.Test.YtblofndehbagnaaGreatDoorCards
import Derived.Test.YtblofndehbagnaaGreatDoorTie
namespace Go.Proofs.YtblofndehbagnaaGreatDoor
open Go.ChangeShapes Go.WideShapes Go.ChangeAt Go.RowKit

set_option maxRecDepth 100000 in
theorem structT : ∃ f0 f1 f2 f3 f4 f5 f6 f7 f8 f9 f10 : Field, Tryz.prog.underlying 24 = some (.struct #[f0, f1, f2, f3, f4, f5, f6, f7, f8, f9, f10]) ∧ (f0.type = 9 ∧ f0.offset = 0) ∧ (f1.type = 9 ∧ f1.offset = 1) ∧ (f2.type = 9 ∧ f2.offset = 2) ∧ (f3.type = 9 ∧ f3.offset = 3) ∧ (f4.type = 3 ∧ f4.offset = 4) ∧ (f5.type = 4 ∧ f5.offset = 5) ∧ (f6.type = 3 ∧ f6.offset = 6) ∧ (f7.type = 4 ∧ f7.offset = 7) ∧ (f8.type = 4 ∧ f8.offset = 8) ∧ (f9.type = 4 ∧ f9.offset = 9) ∧ (f10.type = 22 ∧ f10.offset = 10) :=
  ⟨_, _, _, _, _, _, _, _, _, _, _, Tryz.underlying24, ⟨rfl, rfl⟩, ⟨rfl, rfl⟩, ⟨rfl, rfl⟩, ⟨rfl, rfl⟩, ⟨rfl, rfl⟩, ⟨rfl, rfl⟩, ⟨rfl, rfl⟩, ⟨rfl, rfl⟩, ⟨rfl, rfl⟩, ⟨rfl, rfl⟩, ⟨rfl, rfl⟩⟩
theorem elev {α : Type} : ∀ {l : List α}, l.length = 11 → ∃ a b c d e f g h i j k, l = [a, b, c, d, e, f, g, h, i, j, k]
  | [a, b, c, d, e, f, g, h, i, j, k], _ => ⟨a, b, c, d, e, f, g, h, i, j, k, rfl⟩
theorem cellsOfT : Tryz.prog.cellsOf 24 = 11 ∧ Tryz.prog.cellsOf 9 = 1 ∧ Tryz.prog.cellsOf 3 = 1 ∧ Tryz.prog.cellsOf 4 = 1 ∧ Tryz.prog.cellsOf 22 = 1 := ⟨by kernel_rfl, by kernel_rfl, by kernel_rfl, by kernel_rfl, by kernel_rfl⟩
set_option maxRecDepth 100000 in
set_option maxHeartbeats 1000000 in
theorem open_told {H : Type} {enc : TypeId × Value → H} {W : World} {r : Reach} {b0 : Nat} {v : Value} {d : DataW H} {ps : List MemPlace} (hv : Value.okWide Tryz.prog W r b0 24 v)
    (h : DataW.Trod enc Tryz.prog W 0 (fun _ => true) true 24 v d ps) (hw : ∀ n ∈ DataW.weights Tryz.prog 24 d, n ≤ reachBytes) :
    ∃ (nm vl dm pa : ByteArray) (ex ag si : Int) (hx ha se hi : Bool), v = .agg #[.string nm, .string vl, .string dm, .string pa, .int .i64 ex, .bool hx, .int .i64 ag, .bool ha, .bool se, .bool hi, .int .u8 si] ∧ (nm.size ≤ 140737488355328 ∧ vl.size ≤ 140737488355328 ∧ dm.size ≤ 140737488355328 ∧ pa.size ≤ 140737488355328) ∧ (Lit.int .i64 ex).wf = true ∧ (Lit.int .i64 ag).wf = true ∧ (Lit.int .u8 si).wf = true := by
  obtain ⟨f0, f1, f2, f3, f4, f5, f6, f7, f8, f9, f10, hs, ⟨t0, o0⟩, ⟨t1, o1⟩, ⟨t2, o2⟩, ⟨t3, o3⟩, ⟨t4, o4⟩, ⟨t5, o5⟩, ⟨t6, o6⟩, ⟨t7, o7⟩, ⟨t8, o8⟩, ⟨t9, o9⟩, ⟨t10, o10⟩⟩ := structT
  obtain ⟨cu, cS, cI, cB, cU⟩ := cellsOfT
  obtain ⟨cs, rfl, hsz⟩ := okWide_struct hs hv
  obtain ⟨fuel, hf⟩ := h
  obtain ⟨xs, n, _, hx, hl, hn, hf2⟩ := DataW.trod_struct hs hf
  rw [cu] at hl hsz
  have hn' : xs.length = 11 := hn
  obtain ⟨y0, y1, y2, y3, y4, y5, y6, y7, y8, y9, y10, rfl⟩ := elev hn'
  obtain ⟨c0, c1, c2, c3, c4, c5, c6, c7, c8, c9, c10, hc⟩ := elev (show cs.toList.length = 11 by simpa using hsz)
  have hd := (Prod.mk.inj hx).1
  have hcl : (Value.agg cs).cells.toList = cs.toList := rfl
  rw [hcl, hc] at hf2
  have g0 := hf2 0 f0 rfl
  rw [t0, o0, cS] at g0
  obtain ⟨nm, e0, z0, _⟩ := DataW.trod_string Tryz.underlying9 g0
  obtain rfl := (List.cons.inj (show [c0] = [_] from e0)).1
  have g1 := hf2 1 f1 rfl
  rw [t1, o1, cS] at g1
  obtain ⟨vl, e1, z1, _⟩ := DataW.trod_string Tryz.underlying9 g1
  obtain rfl := (List.cons.inj (show [c1] = [_] from e1)).1
  have g2 := hf2 2 f2 rfl
  rw [t2, o2, cS] at g2
  obtain ⟨dm, e2, z2, _⟩ := DataW.trod_string Tryz.underlying9 g2
  obtain rfl := (List.cons.inj (show [c2] = [_] from e2)).1
  have g3 := hf2 3 f3 rfl
  rw [t3, o3, cS] at g3
  obtain ⟨pa, e3, z3, _⟩ := DataW.trod_string Tryz.underlying9 g3
  obtain rfl := (List.cons.inj (show [c3] = [_] from e3)).1
  have g4 := hf2 4 f4 rfl
  rw [t4, o4, cI] at g4
  obtain ⟨ex, e4, z4, w4⟩ := DataW.trod_int Tryz.underlying3 g4
  obtain rfl := (List.cons.inj (show [c4] = [_] from e4)).1
  have g5 := hf2 5 f5 rfl
  rw [t5, o5, cB] at g5
  obtain ⟨hx_, e5, z5⟩ := DataW.trod_bool Tryz.underlying4 g5
  obtain rfl := (List.cons.inj (show [c5] = [_] from e5)).1
  have g6 := hf2 6 f6 rfl
  rw [t6, o6, cI] at g6
  obtain ⟨ag, e6, z6, w6⟩ := DataW.trod_int Tryz.underlying3 g6
  obtain rfl := (List.cons.inj (show [c6] = [_] from e6)).1
  have g7 := hf2 7 f7 rfl
  rw [t7, o7, cB] at g7
  obtain ⟨ha, e7, z7⟩ := DataW.trod_bool Tryz.underlying4 g7
  obtain rfl := (List.cons.inj (show [c7] = [_] from e7)).1
  have g8 := hf2 8 f8 rfl
  rw [t8, o8, cB] at g8
  obtain ⟨se, e8, z8⟩ := DataW.trod_bool Tryz.underlying4 g8
  obtain rfl := (List.cons.inj (show [c8] = [_] from e8)).1
  have g9 := hf2 9 f9 rfl
  rw [t9, o9, cB] at g9
  obtain ⟨hi, e9, z9⟩ := DataW.trod_bool Tryz.underlying4 g9
  obtain rfl := (List.cons.inj (show [c9] = [_] from e9)).1
  have g10 := hf2 10 f10 rfl
  rw [t10, o10, cU] at g10
  obtain ⟨si, e10, z10, w10⟩ := DataW.trod_int Tryz.underlying22 g10
  obtain rfl := (List.cons.inj (show [c10] = [_] from e10)).1
  subst hd
  have hW : ∀ s : ByteArray, s.data.toList.length ≤ reachBytes → s.size ≤ 140737488355328 := fun s h => by
    unfold reachBytes at h
    have e : s.data.toList.length = s.size := by simp
    omega
  have hm : DataW.weights Tryz.prog 24 (DataW.agg (List.map (·.1) [y0, y1, y2, y3, y4, y5, y6, y7, y8, y9, y10])) = [nm.data.toList.length, vl.data.toList.length, dm.data.toList.length, pa.data.toList.length] := by
    simp [DataW.weights, hs, DataW.weightsEach, z0, z1, z2, z3, z4, z5, z6, z7, z8, z9, z10]
  rw [hm] at hw
  refine ⟨nm, vl, dm, pa, ex, ag, si, hx_, ha, se, hi, ?_, ⟨hW _ (hw _ (by simp)), hW _ (hw _ (by simp)), hW _ (hw _ (by simp)), hW _ (hw _ (by simp))⟩, w4, w6, w10⟩
  show Value.agg cs = _
  rw [← Array.toArray_toList (xs := cs), hc]

end Go.Proofs.YtblofndehbagnaaGreatDoor
namespace Go.Proofs.YtblofndehbagnaaGreatDoor
open Go.RowKit

def szC (t : Cki) : Nat := t.nm.size + t.vl.size + t.dm.size + t.pa.size
set_option maxHeartbeats 1000000 in
theorem size10_any (t : Cki) (w : World) (h : szC t ≤ 9000000000000000) :
    Calls Tryz.prog 14 #[.agg (ckR t)] w fun e w' => e = .returned (.int .i64 (szC t : Int)) ∧ Below w.heap.size w w' := by
  obtain ⟨nm, vl, dm, pa, ex, hx, ag, ha, se, hi, si⟩ := t
  unfold szC at h ⊢
  simp only at h ⊢
  unfold ckR
  simp only
  go_enter Tryz.func14, Tryz.ntmps14
  go_wp2
  go_ret
  exact ⟨ret_int (by omega), (Below.refl _ _).alloc (Nat.le_refl _) _⟩

theorem txtR_form (t : Cki) (D : List UInt8) : ∃ X E, txtR t D = .tuple #[.string X, .int .i64 E] := by
  unfold txtR
  split
  · exact ⟨_, _, rfl⟩
  · exact ⟨_, _, rfl⟩

set_option maxHeartbeats 4000000 in
set_option maxRecDepth 100000 in
theorem ktexts_walk (t : Cki) (hz : szC t ≤ 9000000000000000) (h0 : -9223372036854775808 ≤ t.ag) (h1 : t.ag ≤ 9223372036854775807) (hs0 : 0 ≤ t.si) (hs1 : t.si ≤ 255) (m : Int) (w : World) (hw : DtG m w) :
    Calls Tryz.prog 4 #[.agg (ckR t)] w fun e w' => e = .returned (.bool true) ∧ Below w.heap.size w w' := by
  obtain ⟨D, hD⟩ := date_some t.ex
  have HG := Lib.hid hw
  have HSz := Lib.hid fun w => size10_any t w hz
  obtain ⟨X, E, hXE⟩ := txtR_form t D
  have hsz0 : szC t = t.nm.size + t.vl.size + t.dm.size + t.pa.size := rfl
  obtain ⟨n, Hn⟩ : ∃ n, Hid (szC t = n) := ⟨_, Lib.hid rfl⟩
  have HT1 : Hid (n ≤ 1048576 → ∀ w', DtG m w' → Calls Tryz.prog 15 #[.agg (ckR t)] w' fun e w'' => e = .returned (.tuple #[.string X, .int .i64 E]) ∧ Below w'.heap.size w' w'') := Lib.hid fun hn w' h => by
    rw [← hXE]; exact CkText_any t D hD (by rw [← Hn.out] at hn; omega) h0 h1 m w' h
  have HT2 : Hid (n ≤ 1048576 → ∀ w', Calls Tryz.prog 16 #[.agg (ckR t)] w' fun e w'' => e = .returned (.tuple #[.string X, .int .i64 E]) ∧ Below w'.heap.size w' w'') := Lib.hid fun hn w' => by
    rw [← hXE]; exact RText_any t D hD (by rw [← Hn.out] at hn; omega) hs0 hs1 w'
  obtain ⟨C, HC, HCs, HC1⟩ : ∃ C, Hid (ckR t = C) ∧ Hid (C.size = 11) ∧ Hid (C.all (·.oneCell') = true) := ⟨_, Lib.hid rfl, Lib.hid rfl, Lib.hid (ckR_one _)⟩
  rw [Hn.out] at HSz hz
  rw [HC.out] at HSz HT1 HT2 ⊢
  have HA1 : Hid ((w.alloc (.cells C 24)).heap[w.heap.size]? = some (.cells C 24 (0, 0))) := Lib.hid (heap_alloc_new w _)
  have HB1 : Hid (Below w.heap.size w (w.alloc (.cells C 24))) := Lib.hid ((Below.refl _ _).alloc (Nat.le_refl _) _)
  clear hw hD h0 h1 hs0 hs1 hXE hsz0
  by_cases hbig : 1048576 < n
  · go_enter Tryz.func4, Tryz.ntmps4
    go_wp2_with (refine scW_load rfl 24 _ rfl w.heap.size ?_ 24 C (0, 0) _ ?_ Tryz.underlying24 rfl ?_ ?_; (exact rfl); (exact HA1.out); (rw [HCs.out]; exact infoTo))
    refine (HSz.out _).mono ?_
    rintro e w2 ⟨rfl, b2⟩
    have HB2 := Lib.hid (HB1.out.trans (b2.mono HB1.out.size))
    clear b2
    have hcb : (w2.alloc (.cells #[.int .i64 (n : Int)] 3)).cell? ⟨w2.heap.size, 0, none⟩ = some (.int .i64 (n : Int)) := cell_new _ _ _ _ rfl
    have HBy := Lib.hid (Beyond1_yes w2.heap.size n _ (by unfold maxLen; omega) hcb hbig)
    have HB3 : Hid (Below w.heap.size w (w2.alloc (.cells #[.int .i64 (n : Int)] 3))) := Lib.hid (HB2.out.alloc HB2.out.size _)
    clear hcb
    go_wp2_with fail
    refine HBy.out.mono ?_
    rintro e w3 ⟨rfl, rfl⟩
    go_wp2
    go_ret
    exact ⟨rfl, HB3.out⟩
  · have HT1' := Lib.hid (HT1.out (by omega))
    have HT2' := Lib.hid (HT2.out (by omega))
    clear HT1 HT2
    go_enter Tryz.func4, Tryz.ntmps4
    go_wp2_with (refine scW_load rfl 24 _ rfl w.heap.size ?_ 24 C (0, 0) _ ?_ Tryz.underlying24 rfl ?_ ?_; (exact rfl); (exact HA1.out); (rw [HCs.out]; exact infoTo))
    refine (HSz.out _).mono ?_
    rintro e w2 ⟨rfl, b2⟩
    have HB2 := Lib.hid (HB1.out.trans (b2.mono HB1.out.size))
    have HA2 : Hid (w2.heap[w.heap.size]? = some (.cells C 24 (0, 0))) := Lib.hid ((b2.block _ (lt_of_block HA1.out)).trans HA1.out)
    clear b2
    have hlt2 : w.heap.size < w2.heap.size := lt_of_block HA2.out
    have hcb : (w2.alloc (.cells #[.int .i64 (n : Int)] 3)).cell? ⟨w2.heap.size, 0, none⟩ = some (.int .i64 (n : Int)) := cell_new _ _ _ _ rfl
    have HBy := Lib.hid (Beyond1_no w2.heap.size n _ hcb (by omega))
    obtain ⟨W3, HW3⟩ : ∃ W, Hid (w2.alloc (.cells #[.int .i64 (n : Int)] 3) = W) := ⟨_, Lib.hid rfl⟩
    have HB3 : Hid (Below w.heap.size w W3) := Lib.hid (by rw [← HW3.out]; exact HB2.out.alloc HB2.out.size _)
    have HA3 : Hid (W3.heap[w.heap.size]? = some (.cells C 24 (0, 0))) := Lib.hid (by rw [← HW3.out]; exact (Below.heap_alloc _ _ _ hlt2).trans HA2.out)
    clear hcb hlt2 hbig
    go_wp2_with fail
    refine HBy.out.mono ?_
    rintro e w3 ⟨rfl, rfl⟩
    rw [HW3.out]
    go_wp2_with (refine scW_load rfl 24 _ rfl w.heap.size ?_ 24 C (0, 0) _ ?_ Tryz.underlying24 rfl ?_ ?_; (exact rfl); (exact HA3.out); (rw [HCs.out]; exact infoTo))
    refine (HT1'.out _ (HG.out.below HB3.out)).mono ?_
    rintro e w4 ⟨rfl, b4⟩
    have HB4 := Lib.hid (HB3.out.trans (b4.mono HB3.out.size))
    have HA4 : Hid (w4.heap[w.heap.size]? = some (.cells C 24 (0, 0))) := Lib.hid ((b4.block _ (lt_of_block HA3.out)).trans HA3.out)
    clear b4
    go_wp2_with (refine scW_load rfl 24 _ rfl w.heap.size ?_ 24 C (0, 0) _ ?_ Tryz.underlying24 rfl ?_ ?_; (exact rfl); (exact HA4.out); (rw [HCs.out]; exact infoTo))
    refine (HT2'.out _).mono ?_
    rintro e w5 ⟨rfl, b5⟩
    have HB5 := Lib.hid (HB4.out.trans (b5.mono HB4.out.size))
    clear b5
    go_wp2
    go_ret
    exact ⟨rfl, HB5.out⟩

end Go.Proofs.YtblofndehbagnaaGreatDoor
namespace Go.Proofs.YtblofndehbagnaaGreatDoor
open Go.ChangeShapes Go.WideShapes Go.ChangeAt Go.RowKit
open Go.ChangeMaps (open_string shut_string)

set_option maxRecDepth 100000 in
theorem ktexts_lifted (os : Os) (started : os.Started) (H : Type) (enc : TypeId × Value → H) :
    ReturnsInHanded {} Tryz.checked os 4 .any (fun w args => (Rows.setcookieTextsSpec.pre enc Tryz.prog Tryz.f4 [] false w args ∧ laidMetH Tryz.prog Rows.setcookieTextsRow.laid w) ∧ sizedMet enc Tryz.prog Tryz.f4 (OpenSpec.ofChange Rows.setcookieTextsSpec) false w args)
      (Rows.setcookieTextsSpec.post enc Tryz.prog Tryz.f4 false true false false) := by
  refine ret_allX (C := Tryz.checked) (X := fun w _ => laidMetH Tryz.prog Rows.setcookieTextsRow.laid w) ownD started (by kernel_rfl) Tryz.func4
    (ChangeSpec.witness_at (enc := enc) (C := Tryz.checked) (os := os) (X := fun w _ => laidMetH Tryz.prog Rows.setcookieTextsRow.laid w) false (laidWorld os) #[.agg #[.string ⟨#[]⟩, .string ⟨#[]⟩, .string ⟨#[]⟩, .string ⟨#[]⟩, .int .i64 0, .bool false, .int .i64 0, .bool false, .bool false, .bool false, .int .u8 0]] 8 rfl (by kernel_rfl) (by kernel_rfl) (by kernel_rfl) (by kernel_rfl) (by kernel_rfl) (laid_met os _)) ?_
  intro W base args ds gs before hval0 hW hsz0 hsh hX
  have hval : ∀ (j : Nat) t v, Tryz.f4.params[j]? = some t → args[j]? = some v → Value.okWide Tryz.prog W .any base t v := hval0
  have hsz : (DataW.weightsEach Tryz.prog (Tryz.f4.params.toList ++ Rows.setcookieTextsSpec.plain.varTypes Tryz.prog) (ds ++ gs)).all (· ≤ reachBytes) = true := hsz0
  have hW' := hW
  obtain ⟨p, q, hA0, hV, rfl, hfz, hnd⟩ := hW
  have hA : DataW.TrodAll enc Tryz.prog W 0 (fun _ => true) true Tryz.f4.params.toList args.toList ds p := hA0
  rw [Tryz.params4] at hA hval hsz
  obtain ⟨v0, d0, rfl, rfl, h0⟩ := trodAll_one hA
  obtain ⟨rfl, rfl⟩ := trodVars_none hV
  have h0k := h0
  obtain ⟨nm, vl, dm, pa, ex, ag, si, hx, ha, se, hi, hv0, hsT, hex, hag, hsi⟩ := open_told (hval 0 24 v0 rfl rfl) h0 (fun n hn => by
    have := List.all_eq_true.1 hsz n (DataW.weights_mem_each (j := 0) rfl rfl n hn)
    simpa using this)
  subst hv0
  have hlt0 : ∀ x ∈ p, x.block < W.heap.size := fun x hx => hW'.lt x (by simp [hx])

  obtain ⟨m, hT⟩ := dtg_of hX hsh
  have hag2 := i64_wf ag hag
  have hsi2 : 0 ≤ si ∧ si ≤ 255 := by obtain ⟨k, hk, hk2⟩ := u8_nat si hsi; omega
  clear hA0 hval0 hsz0
  refine (ktexts_walk ⟨nm, vl, dm, pa, ex, hx, ag, ha, se, hi, si⟩ (by unfold szC; simp only; omega) hag2.1 hag2.2 hsi2.1 hsi2.2 m W hT).mono fun e W' ⟨he, bel⟩ => ?_
  subst he
  exact ⟨_, rfl, _, _, _, [], _, [], hW', trodAll_mk1 (shut_bool Tryz.underlying4 _), trodAll_mk1 (Below.trod h_laidOut (by kernel_rfl) (of_decide_eq_true (by kernel_rfl)) h0k bel hlt0), rfl, bel.frame _, fun h => by cases h⟩

theorem ktexts_row : Rows.SetcookieTextsSaid :=
  OpenClaim.holds_of_wide 4 Tryz.f4 rfl rfl rfl rfl rfl rfl rfl ⟨rfl, rfl, rfl, rfl, rfl⟩ rfl rfl rfl rfl rfl (by kernel_rfl) Tryz.func4 (by kernel_rfl)
    (of_decide_eq_true (by kernel_rfl)) (by unfold Func.isWrapper; first | (rw [if_pos (by decide +kernel)]; kernel_rfl) | (rw [if_neg (by decide +kernel)]; exact ⟨rfl, rfl⟩))
    (fun os started H enc _ => ktexts_lifted os started H enc)

theorem ktexts_card : Rows.SetcookieTextsCardSaid :=
  Claim7.holds_tied_plain_at .later [] Rows.setcookieTextsCard.laidKinds true Rows.setcookieTextsCard.stood.harness Rows.setcookieTextsCard.stood.looks
    ktexts_row (fun _ h => by cases h) (by kernel_rfl) (fun _ h => by cases h) setcookieTexts_row_tie rfl ⟨rfl, rfl⟩ (by kernel_rfl) rfl
    (fun f fn hf hfn => by
      obtain rfl : f = 4 := Option.some.inj ((show Tryz.prog.funcNamed Rows.setcookieTextsRow.func = some 4 by kernel_rfl).symm.trans hf) |>.symm
      obtain rfl : fn = Tryz.f4 := (Option.some.inj (Tryz.func4.symm.trans hfn)).symm
      exact ⟨by kernel_rfl, fun j t ht => by
        rw [Tryz.params4] at ht
        have hm : t ∈ [24] := by
          have := Array.mem_of_getElem? ht
          revert this
          simp
        have hall : ([24].all fun u => !Tryz.prog.wantsStandIn u) = true := by kernel_rfl
        exact (show Tryz.prog.wantsStandIn t = false by simpa using List.all_eq_true.1 hall t hm)⟩)
    (by kernel_rfl)

#print axioms ktexts_card
end Go.Proofs.YtblofndehbagnaaGreatDoor
