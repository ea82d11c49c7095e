/-
  The walk of SuffixOrder.
-/
import Derived.Test.YtdifdikfgkiocaaGreatDoorSxL
import Derived.Deep.AppendLies
import Derived.Deep.RegionWith
import Derived.RegionTactic
namespace Go.Proofs.YtdifdikfgkiocaaGreatDoor
open Go.RowKit

/-- The rules from the last one on, each twice. -/
def twiL (R : List ByteArray) (k : Nat) : List ByteArray := (R.drop k).reverse.flatMap fun r => [r, r]
theorem twiL_end (R : List ByteArray) : twiL R R.length = [] := by rw [twiL, List.drop_length]; rfl
theorem twiL_step (R : List ByteArray) (k : Nat) (h : k < R.length) : twiL R k = twiL R (k + 1) ++ [R[k], R[k]] := by
  rw [twiL, twiL, List.drop_eq_getElem_cons h, List.reverse_cons, List.flatMap_append, List.flatMap_cons, List.flatMap_nil, List.append_nil]
theorem twi_len (l : List ByteArray) : (l.flatMap fun r => [r, r]).length = 2 * l.length := by
  induction l with
  | nil => rfl
  | cons a l ih => rw [List.flatMap_cons, List.length_append, ih, List.length_cons]; simp; omega
theorem twiL_len (R : List ByteArray) (k : Nat) : (twiL R k).length = 2 * (R.length - k) := by
  rw [twiL, twi_len, List.length_reverse, List.length_drop]
theorem twiL_mem (R : List ByteArray) (r : ByteArray) : r ∈ R ↔ r ∈ twiL R 0 := by
  rw [twiL, List.drop_zero, List.mem_flatMap]
  constructor
  · intro h; exact ⟨r, List.mem_reverse.2 h, by simp⟩
  · rintro ⟨x, hx, h⟩
    have : r = x := by simpa using h
    rw [this]; exact List.mem_reverse.1 hx
theorem own_tx {w : World} {base : Nat} {v : Value} {T : List ByteArray} (h : w.ownsRow base 9 1 v (T.map Value.string).length (T.map Value.string)) : ∃ a0 b cap, v = .slice a0 T.length cap ∧ TxAt T a0 b 0 w := by
  have hl : (T.map Value.string).length = T.length := List.length_map _
  rw [hl] at h
  rcases h.2 with ⟨h1, h2⟩ | ⟨g, cap, cur, hv, hg, hgb, hcap, hrow⟩
  · refine ⟨none, 0, 0, ?_, ⟨fun h0 => by omega, fun j hj => by omega⟩⟩
    rw [h1]
    congr 1
    omega
  · refine ⟨some ⟨g, 0, none⟩, g, cap, hv, ⟨fun _ => rfl, fun j hj => ?_⟩⟩
    subst hv
    rw [Nat.zero_add, h.cellAt j (by omega), List.getElem?_map, List.getElem?_eq_getElem hj]; rfl
set_option maxRecDepth 100000 in
set_option maxHeartbeats 4000000 in
theorem sorder_walk (R : List ByteArray) (a0 : Option Addr) (b off cap : Nat) (h : ByteArray) (w : World) (hT : TxAt R a0 b off w) (hn : R.length ≤ 140737488355328) (hs : ∀ x ∈ R, x.size ≤ 140737488355328) (hh : h.size ≤ 140737488355328) (hW : Hw w) :
    Calls Tryz.prog 6 #[.slice a0 R.length cap, .string h] w fun e w' => e = .returned (.bool true) ∧ Below w.heap.size w w' := by
  have HW := Lib.hid hW; clear hW
  have HTx := Lib.hid hT; clear hT
  have CG := Lib.hid (fun w hT => great_any R a0 b off cap h w hT hn hs hh)
  obtain ⟨n, HN⟩ : ∃ n, Hid (R.length = n) := ⟨_, Lib.hid rfl⟩
  rw [HN.out] at CG ⊢
  go_enter Tryz.func6, Tryz.ntmps6
  go_wp2_with fail
  refine (alive8_any _ HW.out).mono ?_
  rintro e w1 ⟨rfl, b1⟩
  have Z1 : Hid (Below w.heap.size w w1) := Lib.hid b1
  clear b1
  go_wp2_with fail
  refine (CG.out _ (HTx.out.later Z1.out)).mono ?_
  rintro e w2 ⟨G, rfl, hG, b2⟩
  have Z2 : Hid (Below w.heap.size w w2) := Lib.hid (keepW Z1.out b2)
  clear b2
  cases G
  · have hF := hG rfl
    have HF := Lib.hid hF
    clear hG
    by_cases h500 : 500 < n
    · have hI : (500 : Int) < (n : Int) := by omega
      go_wp2_with fail
      refine (alive8_any _ (HW.out.later Z2.out)).mono ?_
      rintro e w3 ⟨rfl, b3⟩
      have Z3 : Hid (Below w.heap.size w w3) := Lib.hid (keepW Z2.out b3)
      clear b3
      go_wp2
      go_ret
      exact ⟨rfl, Z3.out⟩
    have hI : (n : Int) ≤ 500 := by omega
    clear h500 hF
    go_wp2
    go_loopw [5, 6] (fun u i wr => ∃ (k : Nat) (v : Value), v = u ∧ k ≤ n ∧ i = .int .i64 ((k : Int) - 1) ∧ Hid (wr.ownsRow w.heap.size 9 1 v ((twiL R k).map Value.string).length ((twiL R k).map Value.string)) ∧ Hid (∀ j (h : j < R.length), k ≤ j → exB R[j] = false) ∧ Hid (Below w.heap.size w wr)) (fun _ i _ => (intOf i + 1).toNat)
    case atStart => exact ⟨n, _, rfl, Nat.le_refl _, rfl, Lib.hid (by rw [← HN.out, twiL_end]; exact World.ownsRow_nil _ _ _ _), Lib.hid (fun j h hj => by rw [← HN.out] at hj; omega), Z2⟩
    case round =>
      obtain ⟨k, v, rfl, hk, rfl, HO, HX, HB⟩ := hrel
      by_cases h0 : 1 ≤ k
      · obtain ⟨k, rfl⟩ : ∃ q, k = q + 1 := ⟨k - 1, by omega⟩
        have hkL : k < R.length := by rw [HN.out]; omega
        obtain ⟨x, Hx⟩ : ∃ x, Hid (R[k] = x) := ⟨_, Lib.hid rfl⟩
        have hcx : wr.cell? ⟨b, off + k, none⟩ = some (.string x) := by rw [← Hx.out]; exact (HTx.out.later HB.out).cell k hkL
        have ha : a0 = some ⟨b, off, none⟩ := HTx.out.at0 (by omega)
        subst ha
        have hkn : k < n := by omega
        have hkI : ((k + 1 : Nat) : Int) - 1 = (k : Int) := by omega
        rw [hkI]
        by_cases hx : exB x = true
        · obtain ⟨y, r, hy⟩ : ∃ y r, x.data.toList = y :: r := by
            rw [exB] at hx
            cases e : x.data.toList with
            | nil => rw [e] at hx; cases hx
            | cons y r => exact ⟨y, r, rfl⟩
          have h0x : 0 < x.size := by rw [← lenB, hy]; simp
          have hx0 : x[0] = 33 := by
            have h1 : x[0] = x.data.toList[0]'(by rw [lenB]; exact h0x) := rfl
            rw [exB, hy] at hx
            have h2 : y = 33 := by
              have := hx
              simp [Lib.hasPrefix, List.isPrefixOf] at this
              exact this.symm
            rw [h1]; simp only [hy, List.getElem_cons_zero]; exact h2
          have hxe : x.toList.isEmpty = false := emF h0x
          have hxn : ¬ x.toList = [] := fun e => by rw [e] at hxe; cases hxe
          have hxv : ((x[0].toNat : Int) == 33) = true := by rw [hx0]; rfl
          clear hx hy hx0
          go_wp2
          go_ret
          exact ⟨rfl, HB.out⟩
        · have hx' : exB x = false := by simpa using hx
          have HX2 : Hid (∀ j (h : j < R.length), k ≤ j → exB R[j] = false) := Lib.hid (fun j hj hkj => by
            by_cases e : j = k
            · subst e; rw [Hx.out]; exact hx'
            · exact HX.out j hj (by omega))
          have HLn : Hid (((twiL R (k + 1)).map Value.string).length ≤ 1000) := Lib.hid (by rw [List.length_map, twiL_len, HN.out]; omega)
          have HStep : Hid ((twiL R k).map Value.string = (twiL R (k + 1)).map Value.string ++ [.string x, .string x]) := Lib.hid (by rw [twiL_step R k hkL, Hx.out]; simp)
          obtain ⟨i0, hi, hz0, hz1, hz2⟩ := info_parts rf_infoS
          have Hi := Lib.hid hi; have Hz0 := Lib.hid hz0; have Hz1 := Lib.hid hz1; have Hz2 := Lib.hid hz2
          clear hi hz0 hz1 hz2
          obtain ⟨D, HD⟩ : ∃ D, Hid ((twiL R (k + 1)).map Value.string = D) := ⟨_, Lib.hid rfl⟩
          obtain ⟨dl, HDl⟩ : ∃ dl, Hid (D.length = dl) := ⟨_, Lib.hid rfl⟩
          rw [HD.out, HDl.out] at HO HLn
          rw [HD.out] at HStep
          have hdl := HLn.out
          have hbs := HB.out.size
          by_cases h0x : 0 < x.size
          · have hxe : x.toList.isEmpty = false := emF h0x
            have hxn : ¬ x.toList = [] := fun e => by rw [e] at hxe; cases hxe
            have hxv : ((x[0].toNat : Int) == 33) = false := beq_eq_false_iff_ne.2 (fun e => hx (by
              have h1 : x[0] = 33 := UInt8.toNat_inj.1 (by have : (33 : UInt8).toNat = 33 := rfl; omega)
              have hl := lenB x
              cases e : x.data.toList with
              | nil => rw [e] at hl; simp at hl; omega
              | cons y r =>
                have h2 : x[0] = x.data.toList[0]'(by omega) := rfl
                rw [h1] at h2
                simp only [e, List.getElem_cons_zero] at h2
                rw [exB, e, ← h2]; rfl))
            clear hx hx'
            go_upto_region 9 with (fail)
            go_region_law (refine step_append_lies _ (by rfl) _ _ _ (by rfl) w.heap.size 9 i0 (.string ⟨#[]⟩) 1 16 Tryz.underlying22 Hi.out Hz0.out Hz1.out Hz2.out rfl (by omega) v dl D (by rfl) ((HO.out.alloc _).drew) ⟨wr.heap.size, 0, none⟩ 2 2 [.string x, .string x] (by rfl) (by rfl) (World.news_of_block (cs := #[.string x, .string x]) (t := 9) (fr := (0, 0)) (heap_alloc_new wr _)) (by simp [Value.oneCell']) (by omega) (by unfold maxLen; omega) (by omega) (by simp; omega) (wr.heap.size + 1) (by simp) ?_; intro gg cp w4 hown2 hgrow hat hlt; have HO4 := Lib.hid hown2; have HG4 := Lib.hid hgrow; clear hown2 hgrow hat hlt)
            all_goals
              have HB4 : Hid (Below w.heap.size w w4) := Lib.hid (((HB.out.alloc hbs _).drew).grown HG4.out (by simp; omega) (fun q hq => (HO.out.lt q hq).1))
              have HO5 : Hid (w4.ownsRow w.heap.size 9 1 (.slice (some ⟨gg, 0, none⟩) (dl + 2) cp) ((twiL R k).map Value.string).length ((twiL R k).map Value.string)) := Lib.hid (by
                rw [HStep.out, List.length_append, HDl.out]; exact HO4.out)
              clear HO4 HG4
              go_wp2
              exact ⟨⟨k, _, rfl, by omega, rfl, HO5, HX2, HB4⟩, by simp [intOf]⟩
          · have hxs : x.size = 0 := by omega
            have hxe : x.toList.isEmpty = true := emT hxs
            have hxn : x.toList = [] := List.isEmpty_iff.1 hxe
            clear hx hx'
            go_upto_region 9 with (fail)
            go_region_law (refine step_append_lies _ (by rfl) _ _ _ (by rfl) w.heap.size 9 i0 (.string ⟨#[]⟩) 1 16 Tryz.underlying22 Hi.out Hz0.out Hz1.out Hz2.out rfl (by omega) v dl D (by rfl) ((HO.out.alloc _).drew) ⟨wr.heap.size, 0, none⟩ 2 2 [.string x, .string x] (by rfl) (by rfl) (World.news_of_block (cs := #[.string x, .string x]) (t := 9) (fr := (0, 0)) (heap_alloc_new wr _)) (by simp [Value.oneCell']) (by omega) (by unfold maxLen; omega) (by omega) (by simp; omega) (wr.heap.size + 1) (by simp) ?_; intro gg cp w4 hown2 hgrow hat hlt; have HO4 := Lib.hid hown2; have HG4 := Lib.hid hgrow; clear hown2 hgrow hat hlt)
            all_goals
              have HB4 : Hid (Below w.heap.size w w4) := Lib.hid (((HB.out.alloc hbs _).drew).grown HG4.out (by simp; omega) (fun q hq => (HO.out.lt q hq).1))
              have HO5 : Hid (w4.ownsRow w.heap.size 9 1 (.slice (some ⟨gg, 0, none⟩) (dl + 2) cp) ((twiL R k).map Value.string).length ((twiL R k).map Value.string)) := Lib.hid (by
                rw [HStep.out, List.length_append, HDl.out]; exact HO4.out)
              clear HO4 HG4
              go_wp2
              exact ⟨⟨k, _, rfl, by omega, rfl, HO5, HX2, HB4⟩, by simp [intOf]⟩
      · obtain rfl : k = 0 := by omega
        have HX0 : Hid (∀ r ∈ R, exB r = false) := Lib.hid (fun r hr => by
          obtain ⟨j, hj, rfl⟩ := List.getElem_of_mem hr
          exact HX.out j hj (Nat.zero_le _))
        obtain ⟨T, HTT⟩ : ∃ T, Hid (twiL R 0 = T) := ⟨_, Lib.hid rfl⟩
        have hTl : T.length = 2 * n := by rw [← HTT.out, twiL_len, HN.out]; rfl
        have HSame : Hid (∀ q, sufT T h q = sufT R h q) := Lib.hid (fun q => (suf_order (by rw [← HTT.out]; exact twiL_mem R) (by rw [HN.out]; omega) (by rw [hTl]; omega) HX0.out h q).symm)
        have HFT : Hid (Fair T h) := Lib.hid ⟨by rw [hTl]; omega, fun r hr => HF.out.2.1 r ((twiL_mem R r).2 (by rw [HTT.out]; exact hr)), HF.out.2.2⟩
        rw [HTT.out] at HO
        obtain ⟨a1, b1, c1, rfl, hT1⟩ := own_tx HO.out
        have HT1 := Lib.hid hT1
        obtain ⟨E, c, HE⟩ : ∃ E c, Hid (sufT R h 0 = (E, c)) := ⟨_, _, Lib.hid rfl⟩
        obtain ⟨O, d, HOw⟩ : ∃ E c, Hid (sufT R h 1 = (E, c)) := ⟨_, _, Lib.hid rfl⟩
        have C0 : Hid (∀ w, TxAt R a0 b off w → Hw w → Calls Tryz.prog 12 #[.slice a0 n cap, .string h] w fun e w' => e = .returned (.tuple #[.string E, .int .i64 c]) ∧ Below w.heap.size w w') := Lib.hid (fun w hT hW => by
          have := Suffix_any R a0 b off cap h w hT HF.out hW
          rwa [HN.out, HE.out] at this)
        have C1 : Hid (∀ w, TxAt R a0 b off w → Hw w → Calls Tryz.prog 15 #[.slice a0 n cap, .string h] w fun e w' => e = .returned (.tuple #[.string O, .int .i64 d]) ∧ Below w.heap.size w w') := Lib.hid (fun w hT hW => by
          have := Own_any R a0 b off cap h w hT HF.out hW
          rwa [HN.out, HOw.out] at this)
        have D0 : Hid (∀ w, TxAt T a1 b1 0 w → Hw w → Calls Tryz.prog 12 #[.slice a1 T.length c1, .string h] w fun e w' => e = .returned (.tuple #[.string E, .int .i64 c]) ∧ Below w.heap.size w w') := Lib.hid (fun w hT hW => by
          have := Suffix_any T a1 b1 0 c1 h w hT HFT.out hW
          rwa [HSame.out, HE.out] at this)
        have D1 : Hid (∀ w, TxAt T a1 b1 0 w → Hw w → Calls Tryz.prog 15 #[.slice a1 T.length c1, .string h] w fun e w' => e = .returned (.tuple #[.string O, .int .i64 d]) ∧ Below w.heap.size w w') := Lib.hid (fun w hT hW => by
          have := Own_any T a1 b1 0 c1 h w hT HFT.out hW
          rwa [HSame.out, HOw.out] at this)
        clear hT1 hTl HO
        go_wp2_with fail
        refine (C0.out _ (HTx.out.later HB.out) (HW.out.later HB.out)).mono ?_
        rintro e w3 ⟨rfl, b3⟩
        have Z3 : Hid (Below w.heap.size w w3) := Lib.hid (keepW HB.out b3)
        have T3 := Lib.hid (HT1.out.later b3)
        clear b3
        go_wp2_with fail
        refine (D0.out _ T3.out (HW.out.later Z3.out)).mono ?_
        rintro e w4 ⟨rfl, b4⟩
        have Z4 : Hid (Below w.heap.size w w4) := Lib.hid (keepW Z3.out b4)
        have T4 := Lib.hid (T3.out.later b4)
        clear b4
        go_wp2_with fail
        refine (C1.out _ (HTx.out.later Z4.out) (HW.out.later Z4.out)).mono ?_
        rintro e w5 ⟨rfl, b5⟩
        have Z5 : Hid (Below w.heap.size w w5) := Lib.hid (keepW Z4.out b5)
        have T5 := Lib.hid (T4.out.later b5)
        clear b5
        go_wp2_with fail
        refine (D1.out _ T5.out (HW.out.later Z5.out)).mono ?_
        rintro e w6 ⟨rfl, b6⟩
        have Z6 : Hid (Below w.heap.size w w6) := Lib.hid (keepW Z5.out b6)
        clear b6
        go_wp2
        go_ret
        exact ⟨ret_bool (by simp), Z6.out⟩
  · clear hG
    go_wp2_with fail
    refine (alive8_any _ (HW.out.later Z2.out)).mono ?_
    rintro e w3 ⟨rfl, b3⟩
    have Z3 : Hid (Below w.heap.size w w3) := Lib.hid (keepW Z2.out b3)
    clear b3
    go_wp2
    go_ret
    exact ⟨rfl, Z3.out⟩

end Go.Proofs.YtdifdikfgkiocaaGreatDoor
