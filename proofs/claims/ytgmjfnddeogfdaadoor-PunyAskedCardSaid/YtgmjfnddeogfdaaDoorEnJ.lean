/-
  Contract: puny.fewLetters.
-/
import Derived.Sort.LoopGhostIn
import Derived.Sort.CutIn
import Derived.Test.YtgmjfnddeogfdaaDoorEnI
namespace Go.Proofs.YtgmjfnddeogfdaaDoor
open Go.RowKit Go.Shelf
attribute [local go_sem] Oper.semAt_some

theorem shapeB {w : World} {base n : Nat} {v : Value} {e : TypeId} {xs : List Value} (h : w.ownsRow base e 1 v n xs) : ∃ a cap, v = .slice a n cap := by
  rcases h.2 with ⟨rfl, rfl⟩ | ⟨g, cap, cur, rfl, _⟩
  · exact ⟨none, 0, rfl⟩
  · exact ⟨_, _, rfl⟩

/-- At the head of a round: the frame, and what lies where. -/
def FewI (s : ByteArray) (w0 : World) (F : List UInt8) (B Bo gt : Nat) (ta : Option Addr) (tc : Nat) (R : List Pr) (m : Nat) (a : Act) (wr : World) : Prop :=
  ∃ (u0 u1 u2 u4 u10 u11 u12 u13 u14 u15 u16 u17 u18 u19 u20 u21 u22 u23 u24 u25 u26 u27 u28 u32 u33 u34 u35 u36 u37 u38 u39 u40 u41 u42 u43 u44 u45 u46 u47 u48 u49 u50 u51 u52 u53 u54 u55 u56 u57 u58 u59 u60 u61 u62 u63 u64 u65 u66 u67 u68 u69 u70 u71 u72 u73 u74 u75 u76 u77 u78 : Value) (L : List UInt8) (told ds : List Nat) (i place last bias : Nat), St s w0 Bo gt ta tc R L told ds wr ∧ Nm s F B R L told i place last bias ∧ m = R.length - i ∧
    a = { tmps := #[u0, u1, u2, .pointer (some ⟨Bo, 0, none⟩), u4, .slice (some ⟨gt, 0, none⟩) (s.size + 1) (s.size + 1), .int .i64 (B : Int), .int .i64 (place : Int), .int .i32 (last : Int), .int .i64 (bias : Int), u10, u11, u12, u13, u14, u15, u16, u17, u18, u19, u20, u21, u22, u23, u24, u25, u26, u27, u28, .slice ta R.length tc, .int .i64 (R.length : Int), .int .i64 (i : Int), u32, u33, u34, u35, u36, u37, u38, u39, u40, u41, u42, u43, u44, u45, u46, u47, u48, u49, u50, u51, u52, u53, u54, u55, u56, u57, u58, u59, u60, u61, u62, u63, u64, u65, u66, u67, u68, u69, u70, u71, u72, u73, u74, u75, u76, u77, u78], defers := ds.map markOf }

theorem sgn_len (s : ByteArray) : ∀ f p, (sgn s f p).length + p ≤ s.size + (if p ≤ s.size then 0 else p)
  | 0, p => by simp [sgn]; split <;> omega
  | f + 1, p => by
    by_cases h : p < s.size
    · rw [sgn_on s f p h, List.length_cons]
      have h1 := width_pos s p
      have h2 := sgn_len s f (p + (Utf8.decode s p).2)
      rw [if_pos (by omega)]
      by_cases h3 : p + (Utf8.decode s p).2 ≤ s.size
      · rw [if_pos h3] at h2; omega
      · rw [sgn_end s f _ (by omega)] at *; simp; omega
    · rw [sgn_end s _ p h]
      simp; split <;> omega


theorem st_drew {s : ByteArray} {w0 : World} {Bo gt : Nat} {ta : Option Addr} {tc : Nat} {R : List Pr} {L : List UInt8} {told ds : List Nat} {wr : World} (h : St s w0 Bo gt ta tc R L told ds wr) : St s w0 Bo gt ta tc R L told ds wr.drew := by
  obtain ⟨v1, hb1, hr1, hg1, hg2⟩ := h.box
  exact ⟨⟨v1, hb1, hr1.drew, hg1, hg2⟩, h.fen, h.oth, h.ord, h.nodup, h.marks, h.bel.drew⟩
theorem st_start {s : ByteArray} {SG : List Pr} {w w1 : World} {va ta : Option Addr} {vc tc B gt : Nat} {R : List Pr} (hS : Srtd s SG w w1 (.slice va B vc) (.slice ta R.length tc) gt R) (L : List UInt8) (W : World)
    (hI : InSt w.heap.size w1.heap.size (.slice va B vc) (w1.alloc (.cells #[.slice va B vc] 48)) (plB SG) L W) : St s w w1.heap.size gt ta tc R (plB SG ++ L) (plA SG) [] W := by
  obtain ⟨⟨v, hb, hr, hv⟩, hk⟩ := hI
  have hws := hS.bel.size
  have hol : ∀ q, q < w1.heap.size → Value.ownBlock (.slice va B vc) ≠ some q → W.heap[q]? = w1.heap[q]? := fun q hq hvq => by
    rw [hk.block q (by simp; omega) (by omega) hvq, Below.heap_alloc _ _ _ hq]
  have hnew : ∀ q, q < w1.heap.size → Value.ownBlock (.slice va B vc) ≠ some q → v.ownBlock ≠ some q := by
    intro q hq hvq e
    rcases hv with h2 | h2
    · exact hvq (h2 ▸ e)
    · have := h2 q e; simp at this; omega
  have hgt := hS.fen.lt
  refine ⟨⟨v, hb, hr, hnew gt hgt hS.gtl.2, fun g hg hR => ?_⟩, hS.fen.old (hol gt hgt hS.gtl.2), ?_, ⟨hS.gtl.1, hws, by omega⟩, List.nodup_nil, (fun D hD => by cases hD), ?_⟩
  · rcases hS.oth with ⟨_, h2⟩ | ⟨g', cap, h1, hrow, _, _, h5⟩
    · exact absurd h2 hR
    · injection h1 with e1 e2 e3
      rw [e1] at hg
      have : g' = g := by simpa using hg
      subst this
      exact hnew g' hrow.lt h5
  · rcases hS.oth with ⟨_, h2⟩ | ⟨g', cap, h1, hrow, h3, h4, h5⟩
    · exact .inl h2
    · injection h1 with e1 e2 e3
      subst e1 e3
      exact .inr ⟨g', rfl, hrow.old (hol g' hrow.lt h5), h3, h4, by have := hrow.lt; omega⟩
  · have hs0 := hS.bel
    refine ⟨hk.os.trans hs0.os, hk.tape.trans hs0.tape, hk.output.trans hs0.output, by have := hk.size; simp at this; omega, fun q hq => ?_⟩
    rw [hol q (by omega) (fun e => by have := (hS.out.lt q e).1; omega)]
    exact hs0.block q hq
theorem sgn_mem (s : ByteArray) : ∀ f p, ∀ x ∈ sgn s f p, x.2 < s.size ∧ x.1 = (Utf8.decode s x.2).1
  | 0, _, x, h => by simp [sgn] at h
  | f + 1, p, x, h => by
    rw [sgn] at h
    split at h
    · rcases List.mem_cons.1 h with rfl | h
      · exact ⟨‹_›, rfl⟩
      · exact sgn_mem s f _ x h
    · simp at h
theorem oth_start {s : ByteArray} {R : List Pr} (hp : R.Perm (otL (sgn s s.size 0))) (hs : Srt R) : Oth s R := by
  have hm : ∀ x ∈ R, x ∈ sgn s s.size 0 ∧ isPl x = false := fun x hx => by
    have := hp.mem_iff.1 hx
    simpa [otL] using this
  refine ⟨hs, fun x hx => ?_, fun x hx => (sgn_mem s _ _ x (hm x hx).1).1⟩
  have h1 := (hm x hx).2
  have h2 := (sgn_mem s _ _ x (hm x hx).1).2
  have h3 := rune_bd s x.2
  exact ⟨by simpa [isPl] using h1, by rw [h2]; omega⟩
theorem nm_start {s : ByteArray} {SG R : List Pr} {F L0 : List UInt8} {B : Nat} (ho : Oth s R) (hB : B = (plB SG).length) (hL : L0 = plB SG ++ (if plB SG = [] then [] else [45])) (hF : F = fewL SG R) (hB1 : B ≤ 1000000) : Nm s F B R L0 (plA SG) 0 0 128 72 := by
  refine ⟨Nat.zero_le _, ?_, ?_, Nat.zero_le _, by decide, ?_, by decide, ?_⟩
  · rw [List.drop_zero, hF, hL, hB]; rfl
  · rw [hB]; simp [plA, plB]
  · rw [hL, List.length_append, ← hB]; split <;> simp <;> omega
  · rw [List.drop_zero]
    match R, ho with
    | [], _ => exact trivial
    | (m, p) :: r, ho => exact ⟨(ho.sign _ List.mem_cons_self).1, fun _ => Nat.zero_le _⟩

set_option maxHeartbeats 4000000 in
set_option maxRecDepth 1000000 in
theorem few_in (s : ByteArray) (w : World) (hs : s.size ≤ 1000000) :
    CallsIn Fence.wide 9 Tryd.prog 20 #[.string s] w fun e w' => ∃ R, R.Perm (otL (sgn s s.size 0)) ∧ Srt R ∧ e = .returned (.string ⟨(fewL (sgn s s.size 0) R).toArray⟩) ∧ Below w.heap.size w w' := by
  obtain ⟨SG, HSG⟩ : ∃ SG, Hid (sgn s s.size 0 = SG) := ⟨_, Lib.hid rfl⟩
  rw [HSG.out]
  have HSo : Hid (CallsIn Fence.wide 8 Tryd.prog 35 #[.string s] w fun e w' => ∃ vo vt gt R, e = .returned (.tuple #[vo, vt, .slice (some ⟨gt, 0, none⟩) (s.size + 1) (s.size + 1)]) ∧ Srtd s SG w w' vo vt gt R) := Lib.hid (by
    have := callsIn_wide (n := 8).2 (sorted_any s w hs)
    rwa [HSG.out] at this)
  refine callsIn_of_wp_marks Tryd.func20 rfl trivial ?_ rfl
  simp only [Tryd.ntmps20, List.size_toArray, List.length_cons, List.length_nil, Nat.reduceAdd, Nat.reduceSub, Array.replicate_succ, Array.replicate_zero, List.push_toArray, List.append_toArray, List.nil_append, List.cons_append]
  gi_wp2_with fail
  refine ⟨trivial, ?_⟩
  refine HSo.out.mono ?_
  rintro e w1 ⟨vo, vt, gt, R, rfl, hS⟩
  obtain ⟨va, vc, rfl⟩ := shapeB hS.out
  obtain ⟨B, HB⟩ : ∃ B, Hid (B = (plB SG).length) := ⟨_, Lib.hid rfl⟩
  rw [← HB.out]
  have HS := Lib.hid hS
  rw [← HB.out] at HS
  clear hS
  have HSGl : Hid (SG.length ≤ s.size) := Lib.hid (by
    have := sgn_len s s.size 0
    rw [← HSG.out]; simp at this; omega)
  have hB1 : B ≤ 1000000 := by
    rw [HB.out]
    have h1 : (plB SG).length ≤ SG.length := by simp [plB]; exact List.length_filter_le _ _
    have := HSGl.out
    omega
  obtain ⟨ta, tc, rfl⟩ : ∃ a c, vt = .slice a R.length c := by
    rcases HS.out.oth with ⟨h1, h2⟩ | ⟨g, cap, h1, _⟩
    · exact ⟨none, 0, by rw [h1, h2]; rfl⟩
    · exact ⟨_, _, h1⟩
  obtain ⟨L0, HL0⟩ : ∃ L0, Hid (L0 = plB SG ++ (if plB SG = [] then [] else [45])) := ⟨_, Lib.hid rfl⟩
  -- what lies where once out is boxed
  have hSt : ∀ (L : List UInt8) (W : World), InSt w.heap.size w1.heap.size (.slice va B vc) (w1.alloc (.cells #[.slice va B vc] 48)) (plB SG) L W → St s w w1.heap.size gt ta tc R (plB SG ++ L) (plA SG) [] W := st_start HS.out
  have HSt := Lib.hid hSt
  clear hSt
  have HI0 : Hid (InSt w.heap.size w1.heap.size (.slice va B vc) (w1.alloc (.cells #[.slice va B vc] 48)) (plB SG) [] (w1.alloc (.cells #[.slice va B vc] 48))) := Lib.hid
    (inst_start _ _ _ _ _ (Boxed.new _ _ _) (HS.out.out.alloc _))
  gi_upto_if 25 with (fail)
  gi_cut [] from 22 (fun wx => Hid (St s w w1.heap.size gt ta tc R L0 (plA SG) [] wx))
  case first =>
    have hwb := HS.out.bel.size
    have hvo : ∀ q, Value.ownBlock (.slice va B vc) = some q → q < w1.heap.size := fun q hq => (HS.out.out.lt q hq).2
    by_cases hB0 : 0 < B
    · obtain ⟨v, g, cap, w2, hc, hrun, hc2, hf2, hI, hKO, hKp⟩ := inst_step _ _ _ _ _ _ 45 _ HI0.out hwb (by simp) (fun q hq => by have := hvo q hq; simp; omega) (by rw [List.append_nil, ← HB.out]; omega)
      have hv : v = .slice va B vc := by
        have h := (Boxed.new w1 48 (.slice va B vc)).cell
        rw [hc] at h; simpa using h
      subst hv
      have e45 : (((45 : UInt8).toNat : Nat) : Int) = 45 := rfl
      rw [e45, List.append_nil, ← HB.out, World.size_alloc] at hrun
      rw [List.append_nil, ← HB.out] at hI
      have HRun := Lib.hid hrun
      have HPost : Hid (St s w w1.heap.size gt ta tc R L0 (plA SG) [] (w2.setCell ⟨w1.heap.size, 0, none⟩ (.slice (some ⟨g, 0, none⟩) (B + 1) cap))) := Lib.hid (by
        have h := HSt.out _ _ hI
        rw [HL0.out, if_neg (fun e => by have := HB.out; rw [e] at this; simp at this; omega)]
        exact h)
      clear hrun hKO hKp hI hvo
      gi_wp2_with (gi_at_builtin; refine wpListIn_append_run _ rfl _ _ _ rfl _ _ rfl rfl _ _ HRun.out ?_)
      gi_meet
      exact HPost
    · have HPost : Hid (St s w w1.heap.size gt ta tc R L0 (plA SG) [] (w1.alloc (.cells #[.slice va B vc] 48))) := Lib.hid (by
        have h := HSt.out _ _ HI0.out
        rw [HL0.out, if_pos (List.eq_nil_of_length_eq_zero (by have := HB.out; omega))]
        exact h)
      clear hvo
      gi_wp2
      gi_meet
      exact HPost
  case rest =>
    have HS0 := hcut
    clear hcut HSt HI0
    obtain ⟨F, HF⟩ : ∃ F, Hid (F = fewL SG R) := ⟨_, Lib.hid rfl⟩
    have HOth : Hid (Oth s R) := Lib.hid (oth_start (by rw [HSG.out]; exact HS.out.perm) HS.out.srt)
    have HNm0 : Hid (Nm s F B R L0 (plA SG) 0 0 128 72) := Lib.hid (nm_start HOth.out HB.out HL0.out HF.out hB1)
    have hRl : R.length ≤ 1000000 := by
      have h1 := HS.out.perm.length_eq
      have h2 : (otL SG).length ≤ SG.length := by simp [otL]; exact List.length_filter_le _ _
      have := HSGl.out
      omega
    have HFin : Hid (Srt R ∧ R.Perm (otL SG)) := Lib.hid ⟨HS.out.srt, HS.out.perm⟩
    clear HS HL0 HSo
    obtain ⟨Bo, HBo⟩ : ∃ Bo, Hid (Bo = w1.heap.size) := ⟨_, Lib.hid rfl⟩
    rw [← HBo.out] at HS0
    rw [← HBo.out]
    clear HBo
    gi_wp2
    refine wpIn_loop_ghost_k (FewI s w F B Bo gt ta tc R) (R.length - 0) ?_ ?_
    · exact ⟨_, _, _, _, _, _, _, _, _, _, _, _, _, _, _, _, _, _, _, _, _, _, _, _, _, _, _, _, _, _, _, _, _, _, _, _, _, _, _, _, _, _, _, _, _, _, _, _, _, _, _, _, _, _, _, _, _, _, _, _, _, _, _, _, _, _, _, _, _, _, L0, plA SG, [], 0, 0, 128, 72, HS0.out, HNm0.out, rfl, rfl⟩
    rintro m a wr ⟨u0, u1, u2, u4, u10, u11, u12, u13, u14, u15, u16, u17, u18, u19, u20, u21, u22, u23, u24, u25, u26, u27, u28, u32, u33, u34, u35, u36, u37, u38, u39, u40, u41, u42, u43, u44, u45, u46, u47, u48, u49, u50, u51, u52, u53, u54, u55, u56, u57, u58, u59, u60, u61, u62, u63, u64, u65, u66, u67, u68, u69, u70, u71, u72, u73, u74, u75, u76, u77, u78, L, told, ds, i, place, last, bias, hst, hnm, rfl, rfl⟩ J K hJ hK
    have HSt := Lib.hid hst
    have HN := Lib.hid hnm
    clear hst hnm HS0 HNm0
    have hil := HN.out.i_le
    by_cases hi : i < R.length
    · obtain ⟨⟨m, p⟩, hmp⟩ : ∃ x, R[i]? = some x := ⟨_, List.getElem?_eq_getElem hi⟩
      obtain ⟨g, rfl, hrow, hg1, hg2, hg3⟩ : ∃ g, ta = some ⟨g, 0, none⟩ ∧ Row2 wr g tc R ∧ w.heap.size ≤ g ∧ g ≠ gt ∧ g ≠ Bo := by
        rcases HSt.out.oth with h | h
        · rw [h] at hi; simp at hi
        · exact h
      obtain ⟨hc1, hc2⟩ := hrow.cells' i (m, p) hmp
      simp only at hc1 hc2
      obtain ⟨d, q, N, hd, hq, hN, hlm, hm1, hps, hT, hq3, hpq, hN4, hnm'⟩ := nm_step HN.out HOth.out hRl hB1 hi m p hmp
      have HRow := Lib.hid hrow
      have HMp := Lib.hid hmp
      obtain ⟨T, HT⟩ : ∃ T, Hid (T = cntLt told p) := ⟨_, Lib.hid rfl⟩
      rw [← HT.out] at hT hpq hN hnm'
      have HNm' := Lib.hid hnm'
      have hdI : (m : Int) - (last : Int) = (d : Int) := by omega
      have hqI : (d : Int) * ((B : Int) + (i : Int) + 1) = (q : Int) := by rw [hq]; simp
      have hNI : (q : Int) + (T : Int) - (place : Int) = (N : Int) := by omega
      have hll := HN.out.last_le
      have hpl := HN.out.place_le
      have htl := HN.out.told_len
      have hbl := HN.out.bias_le
      have hpl2 : place ≤ 2000000 := by omega
      have HAh : Hid (CallsIn Fence.wide 8 Tryd.prog 36 #[.slice (some ⟨gt, 0, none⟩) (s.size + 1) (s.size + 1), .int .i64 p] (wr.alloc (.cells #[.int .i32 (m : Int), .int .i64 (p : Int)] 54)) fun e w' => e = .returned (.int .i64 T) ∧ (wr.alloc (.cells #[.int .i32 (m : Int), .int .i64 (p : Int)] 54)) = w') := Lib.hid (by
        have := callsIn_wide (n := 8).2 (ahead_any gt (s.size + 1) p told _ (HSt.out.fen.old (Below.heap_alloc wr (.cells #[.int .i32 (m : Int), .int .i64 (p : Int)] 54) gt HSt.out.fen.lt)) (by omega) (by omega) (by omega))
        rwa [← HT.out] at this)
      clear hrow hmp hnm' hd hq hN htl hpl
      gi_wp2_with fail
      refine ⟨trivial, ?_⟩
      refine HAh.out.mono ?_
      rintro e w2 ⟨rfl, rfl⟩
      gi_wp2_with fail
      refine ⟨trivial, ?_⟩
      refine (callsIn_wide.2 (digits_any N bias _)).mono ?_
      rintro e w2 ⟨rfl, rfl⟩
      gi_wp2_with fail
      obtain ⟨v0, hv0, hr0, hv1, hv2⟩ := HSt.out.box
      have hBol := hv0.lt
      have hov : ∀ q, v0.ownBlock = some q → q < wr.heap.size := fun q hq => (hr0.lt q hq).2
      have hord := HSt.out.ord
      have hlen := HN.out.len
      have hB1' : Below wr.heap.size wr (((wr.alloc (.cells #[.int .i32 (m : Int), .int .i64 (p : Int)] 54)).alloc (.cells #[.int .i64 (N : Int)] 3)).alloc (.cells #[.int .i64 (bias : Int)] 3)) :=
        (((Below.refl _ _).alloc (Nat.le_refl _) _).alloc (by simp) _).alloc (by simp; omega) _
      have hbo : (((wr.alloc (.cells #[.int .i32 (m : Int), .int .i64 (p : Int)] 54)).alloc (.cells #[.int .i64 (N : Int)] 3)).alloc (.cells #[.int .i64 (bias : Int)] 3)).heap[wr.heap.size]? = some (.cells #[.int .i32 (m : Int), .int .i64 (p : Int)] 54 (0, 0)) := by
        rw [Below.heap_alloc _ _ _ (by simp; omega), Below.heap_alloc _ _ _ (by simp)]; exact heap_alloc_new _ _
      have hbn : (((wr.alloc (.cells #[.int .i32 (m : Int), .int .i64 (p : Int)] 54)).alloc (.cells #[.int .i64 (N : Int)] 3)).alloc (.cells #[.int .i64 (bias : Int)] 3)).heap[wr.heap.size + 1]? = some (.cells #[.int .i64 (N : Int)] 3 (0, 0)) := by
        rw [Below.heap_alloc _ _ _ (by simp)]
        have := heap_alloc_new (wr.alloc (.cells #[.int .i32 (m : Int), .int .i64 (p : Int)] 54)) (.cells #[.int .i64 (N : Int)] 3)
        rwa [World.size_alloc] at this
      have hbb : (((wr.alloc (.cells #[.int .i32 (m : Int), .int .i64 (p : Int)] 54)).alloc (.cells #[.int .i64 (N : Int)] 3)).alloc (.cells #[.int .i64 (bias : Int)] 3)).heap[wr.heap.size + 2]? = some (.cells #[.int .i64 (bias : Int)] 3 (0, 0)) := by
        have := heap_alloc_new ((wr.alloc (.cells #[.int .i32 (m : Int), .int .i64 (p : Int)] 54)).alloc (.cells #[.int .i64 (N : Int)] 3)) (.cells #[.int .i64 (bias : Int)] 3)
        rwa [World.size_alloc, World.size_alloc] at this
      have hsz3 : (((wr.alloc (.cells #[.int .i32 (m : Int), .int .i64 (p : Int)] 54)).alloc (.cells #[.int .i64 (N : Int)] 3)).alloc (.cells #[.int .i64 (bias : Int)] 3)).heap.size = wr.heap.size + 3 := by simp
      obtain ⟨W1, HW1⟩ : ∃ W1, Hid (W1 = (((wr.alloc (.cells #[.int .i32 (m : Int), .int .i64 (p : Int)] 54)).alloc (.cells #[.int .i64 (N : Int)] 3)).alloc (.cells #[.int .i64 (bias : Int)] 3))) := ⟨_, Lib.hid rfl⟩
      rw [← HW1.out] at hB1' hbo hbn hbb hsz3
      rw [← HW1.out]
      have hin0 : InSt w.heap.size Bo v0 W1 L [] W1 := by
        have hg : wr.grownBy W1 none := ⟨hB1'.os, hB1'.tape, hB1'.output, hB1'.size, fun k hk _ => hB1'.block k hk⟩
        exact inst_start _ _ _ _ _ (hv0.kept hg (by simp)) (hr0.kept hg (by cases e : v0.ownBlock with | none => exact .inl rfl | some q => exact .inr (fun e2 => by cases e2)))
      have HIn0 := Lib.hid hin0
      have HB1' := Lib.hid hB1'
      have HBo2 := Lib.hid hbo
      have HV0 := Lib.hid hv0
      clear hin0 hB1' hbo
      refine wpIn_rangeFunc_ownF (F := Fence.wide) (n := 9) rfl (by decide) (gf := 53) (lb := #[.pointer (some ⟨wr.heap.size + 1, 0, none⟩), .pointer (some ⟨wr.heap.size + 2, 0, none⟩)]) rfl trivial (enters_of Tryd.func53 (by kernel_rfl) rfl)
        (digits_stops 8 (by decide) (wr.heap.size + 1) (wr.heap.size + 2) N bias W1 (by omega) hbl hbn hbb) (fun h k => k.trans h) (fun W l o o' hl _ _ _ => World.putObj_heap_other (by omega)) (Below.refl _ _) (fun _ => rfl)
        (fun pre W => InSt w.heap.size Bo v0 W1 L pre W) (fun _ _ _ => False) (inst_own _ _ _ _ _) (fun _ _ _ _ _ hs _ _ => hs) HIn0.out
        (fun x => { tmps := #[u0, u1, u2, .pointer (some ⟨Bo, 0, none⟩), u4, .slice (some ⟨gt, 0, none⟩) (s.size + 1) (s.size + 1), .int .i64 (B : Int), .int .i64 (place : Int), .int .i32 (last : Int), .int .i64 (bias : Int), .int .i64 (i : Int), .pointer (some ⟨wr.heap.size, 0, none⟩), .int .i64 (T : Int), .int .i64 ((B : Int) + (i : Int) + 1), .int .i64 (N : Int), .int .u8 (x.toNat : Int), u16, u17, u18, u19, u20, u21, u22, u23, u24, u25, u26, u27, u28, .slice (some ⟨g, 0, none⟩) R.length tc, .int .i64 (R.length : Int), .int .i64 (i : Int), .bool true, .int .i64 (i : Int), .pointer (some ⟨g, i * 2, none⟩), .agg #[.int .i32 (m : Int), .int .i64 (p : Int)], .slice (some ⟨gt, 0, none⟩) (s.size + 1) (s.size + 1), .pointer (some ⟨wr.heap.size, 1, none⟩), .int .i64 (p : Int), .int .i64 (T : Int), .int .i64 (B : Int), .int .i64 (i : Int), .int .i64 ((B : Int) + (i : Int)), .int .i64 ((B : Int) + (i : Int) + 1), .pointer (some ⟨wr.heap.size, 0, none⟩), .int .i32 (m : Int), .int .i32 (last : Int), .int .i32 (d : Int), .int .i64 (d : Int), .int .i64 ((B : Int) + (i : Int) + 1), .int .i64 (q : Int), .int .i64 (T : Int), .int .i64 ((q : Int) + (T : Int)), .int .i64 (place : Int), .int .i64 (N : Int), .int .i64 (N : Int), .int .i64 (bias : Int), .func (.func 53) #[] #[.pointer (some ⟨wr.heap.size + 1, 0, none⟩), .pointer (some ⟨wr.heap.size + 2, 0, none⟩)], .int .u8 (x.toNat : Int), u59, u60, u61, u62, u63, u64, u65, u66, u67, u68, u69, u70, u71, u72, u73, u74, u75, u76, u77, u78], defers := [] }) ?assign ?body ?done ?stop
      case assign =>
        intro l x W K hK
        gi_wp2
        exact hK
      case stop =>
        rintro D c pre W _ _ h _
        exact h.elim
      case body =>
        rintro l pre x W hI hlt
        have hdl := digs_len bias 16 N N 36 (by have : (10 : Nat) ^ 16 = 10000000000000000 := by decide
                                                omega)
        obtain ⟨v, g', cap, w3, hc, hrun, hc2, hf2, hI2, hKO, hKp⟩ := inst_step _ _ _ _ _ _ x _ hI hord.2.1 (by omega) (fun q hq => by have := hov q hq; omega) (by rw [List.length_append]; omega)
        have HRun := Lib.hid hrun
        have HPost := Lib.hid (And.intro hKO (And.intro (hKp (wr.heap.size + 2) (by omega) (by omega) (fun e => by have := hov _ e; omega)) hI2))
        clear hrun hKO hKp hI2 hdl hI
        gi_wp2_with (gi_at_builtin; refine wpListIn_append_run _ rfl _ _ _ rfl _ _ rfl rfl _ _ HRun.out ?_)
        have hfin := HPost.out
        rw [List.length_append] at hfin
        exact hfin
      case done =>
        rintro D ys W hD rfl hIn hK2
        have hSt2 := st_inner HSt.out v0 HV0.out W1 W HB1'.out _ hIn D (by omega) hK2
        have hWo : W.heap[wr.heap.size]? = some (.cells #[.int .i32 (m : Int), .int .i64 (p : Int)] 54 (0, 0)) := by
          rw [hIn.2.block _ (by omega) (by omega) (fun e => by have := hov _ e; omega)]; exact HBo2.out
        have hco0 : W.cell? ⟨wr.heap.size, 0, none⟩ = some (.int .i32 (m : Int)) := by rw [cellOf W _ _ _ hWo]; rfl
        have hco1 : W.cell? ⟨wr.heap.size, 1, none⟩ = some (.int .i64 (p : Int)) := by rw [cellOf W _ _ _ hWo]; rfl
        obtain ⟨b0, HB0⟩ : ∃ b0, Hid (b0 = (i == 0)) := ⟨_, Lib.hid rfl⟩
        have hb0 : ((i : Int) == 0) = b0 := by rw [HB0.out, Bool.eq_iff_iff]; simp
        have HNb : Hid (∀ W, CallsIn Fence.wide 8 Tryd.prog 38 #[.int .i64 (N : Int), .int .i64 ((B : Int) + (i : Int) + 1), .bool b0] W fun e w' => e = .returned (.int .i64 (nb N (B + i + 1) b0)) ∧ W = w') := Lib.hid (fun W => callsIn_wide.2 (nextBias_any N (B + i + 1) b0 W (by omega) (by omega) (by omega)))
        have hadd := add_any gt (s.size + 1) p told W hSt2.fen (by omega) (by omega) (by have := HN.out.told_len; omega)
        have HAdd := Lib.hid (callsIn_wide (n := 8).2 hadd)
        have HSt2 := Lib.hid hSt2
        have HWo := Lib.hid hWo
        have hgne : wr.heap.size ≠ gt := fun e => by have := HSt.out.fen.lt; omega
        obtain ⟨nbv, HNbv⟩ : ∃ x, Hid (x = nb N (B + i + 1) b0) := ⟨_, Lib.hid rfl⟩
        rw [← HNbv.out] at HNb
        have hnbl : nbv ≤ 756 := by rw [HNbv.out]; exact nb_bd _ _ _
        clear hSt2 hWo hadd hIn hK2 hov hv1 hv2 hr0 hv0 hbn hbb
        gi_wp2_with fail
        refine ⟨trivial, ?_⟩
        refine (HNb.out _).mono ?_
        rintro e w3 ⟨rfl, rfl⟩
        gi_wp2_with fail
        refine ⟨trivial, ?_⟩
        refine HAdd.out.mono ?_
        rintro e w3 ⟨⟨v3, rfl⟩, hF3, hBut⟩
        have hSt3 := st_add HSt2.out p hF3 hBut
        have hW3 : w3.heap[wr.heap.size]? = some (.cells #[.int .i32 (m : Int), .int .i64 (p : Int)] 54 (0, 0)) := (hBut.block _ hgne).trans HWo.out
        have hco3 : w3.cell? ⟨wr.heap.size, 0, none⟩ = some (.int .i32 (m : Int)) := by rw [cellOf w3 _ _ _ hW3]; rfl
        have HSt3 := Lib.hid hSt3
        clear hSt3 hF3 hBut hW3 hco0 hco1
        gi_wp2
        gi_region
        all_goals
          gi_wp2
          refine Handed.intro (R.length - (i + 1)) (by omega) (hJ _ _ _ ?_)
          refine ⟨_, _, _, _, _, _, _, _, _, _, _, _, _, _, _, _, _, _, _, _, _, _, _, _, _, _, _, _, _, _, _, _, _, _, _, _, _, _, _, _, _, _, _, _, _, _, _, _, _, _, _, _, _, _, _, _, _, _, _, _, _, _, _, _, _, _, _, _, _, _, L ++ digsL N N 36 bias, p :: told, D :: ds, i + 1, T + 1, m, nbv, st_drew HSt3.out, ?_, rfl, rfl⟩
          rw [HNbv.out, HB0.out]
          exact HNm'.out
    · obtain ⟨v, hb, hr, _, _⟩ := HSt.out.box
      have hcell := hb.cell
      have HLF : Hid (L = F) := Lib.hid (by
        have := HN.out.eq
        rw [List.drop_eq_nil_of_le (by omega), fewN, List.append_nil] at this
        exact this)
      have hcv := bytes_back _ _ _ _ hr
      gi_wp2
      have hSt := HSt.out
      refine leaves_marks w.heap.size ds wr hSt.nodup hSt.marks (fun W' hB' => ?_)
      exact ⟨_, results_tmp rfl _ _ _, R, HFin.out.2, HFin.out.1, by rw [HLF.out, HF.out]; rfl, hSt.bel.trans hB'⟩

theorem fewLetters_any (s : ByteArray) (w : World) (hs : s.size ≤ 1000000) :
    Calls Tryd.prog 20 #[.string s] w fun e w' => ∃ R, R.Perm (otL (sgn s s.size 0)) ∧ Srt R ∧ e = .returned (.string ⟨(fewL (sgn s s.size 0) R).toArray⟩) ∧ Below w.heap.size w w' :=
  (callsIn_wide (n := 9)).1 (few_in s w hs)

end Go.Proofs.YtgmjfnddeogfdaaDoor

