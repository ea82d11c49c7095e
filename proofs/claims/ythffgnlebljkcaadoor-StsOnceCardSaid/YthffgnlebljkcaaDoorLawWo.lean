/-
  footmanlaw11.StsOnce: no directive may stand twice.
-/
import Derived.Test.YthffgnlebljkcaaDoorTsN
namespace Go.Proofs.YthffgnlebljkcaaDoor
open Go.RowKit Go.Lib

theorem lit_ne {s : ByteArray} {l : List UInt8} (h : s ≠ ⟨l.toArray⟩) : (s.toList == l) = false := by
  rw [beq_eq_false_iff_ne, ByteArray.toList_eq]
  exact fun e => h (ByteArray.ext (Array.toList_inj.1 e))
theorem lit_eq {s : ByteArray} {l : List UInt8} (h : s = ⟨l.toArray⟩) : (s.toList == l) = true := by
  subst h
  rw [beq_iff_eq, ByteArray.toList_eq]
set_option maxRecDepth 100000 in
set_option maxHeartbeats 4000000 in
theorem wonce_walk (a : Int) (f : Bool) (s : ByteArray) (w : World) (hs : s.size ≤ 140737488355328) (htab : Lib.TabIs Tryd.prog w "internal/strconv.uint64pow10" .u64 Lib.pow10Tab) :
    Calls Tryd.prog 7 #[.agg #[.int .i64 a, .bool f], .string s] w fun e w' => e = .returned (.bool true) ∧ Below w.heap.size w w' := by
  have HI := Lib.hid infoWish
  have hb : Below w.heap.size w (w.alloc (.cells #[.int .i64 a, .bool f] 24)) := (Below.refl _ _).alloc (Nat.le_refl _) _
  have HG : Hid ((w.alloc (.cells #[.int .i64 a, .bool f] 24)).heap[w.heap.size]? = some (.cells #[.int .i64 a, .bool f] 24 (0, 0))) := Lib.hid (heap_alloc_new w _)
  have HB := Lib.hid hb
  have HT := Lib.hid htab
  have HAl := Lib.hid fun w h => alive11_any w h
  by_cases hbad : a < 0 ∨ 2147483647 < a
  · have HTx := Lib.hid (Text_bad a f _ hbad : Calls _ _ _ (w.alloc (.cells #[.int .i64 a, .bool f] 24)) _)
    clear hb htab hbad hs
    go_enter Tryd.func7, Tryd.ntmps7
    go_wp2_with (refine tcW_load rfl 24 _ rfl w.heap.size ?_ 24 #[.int .i64 a, .bool f] (0, 0) _ ?_ Tryd.underlying24 rfl ?_ _ rfl ?_; (exact rfl); (exact HG.out); (exact HI.out))
    refine HTx.out.mono ?_
    rintro e w1 ⟨rfl, b1⟩
    have hg1 : w1.heap[w.heap.size]? = some (.cells #[.int .i64 a, .bool f] 24 (0, 0)) := (b1.block _ (by simp)).trans HG.out
    have HG1 := Lib.hid hg1
    have HB1 := Lib.hid (HB.out.trans (b1.mono HB.out.size))
    clear b1 hg1
    have HA1 := Lib.hid (HAl.out w1 (tab11 HT.out HB1.out))
    go_wp2_with fail
    refine HA1.out.mono ?_
    rintro e w2 ⟨rfl, b2⟩
    have HB2 := Lib.hid (HB1.out.trans (b2.mono HB1.out.size))
    have HG2 : Hid (w2.heap[w.heap.size]? = some (.cells #[.int .i64 a, .bool f] 24 (0, 0))) := Lib.hid ((b2.block _ (lt_of_block HG1.out)).trans HG1.out)
    clear b2
    have HA2 := Lib.hid (HAl.out w2 (tab11 HT.out HB2.out))
    go_wp2_with fail
    refine HA2.out.mono ?_
    rintro e w3 ⟨rfl, b3⟩
    have HB3 := Lib.hid (HB2.out.trans (b3.mono HB2.out.size))
    clear b3
    go_wp2
    go_ret
    exact ⟨rfl, HB3.out⟩
  · have h0 : 0 ≤ a := by omega
    have h1 : a ≤ 2147483647 := by omega
    have HTx := Lib.hid (Text_good a f _ h0 h1 (tab11 htab hb) : Calls _ _ _ (w.alloc (.cells #[.int .i64 a, .bool f] 24)) _)
    clear hb htab hbad
    by_cases hl : 1000 < s.size
    · have hl1 : (1000 : Int) < (s.size : Int) := by omega
      have hl2 : decide ((1000 : Int) < (s.size : Int)) = true := decide_eq_true hl1
      clear hl hs
      go_enter Tryd.func7, Tryd.ntmps7
      go_wp2_with (refine tcW_load rfl 24 _ rfl w.heap.size ?_ 24 #[.int .i64 a, .bool f] (0, 0) _ ?_ Tryd.underlying24 rfl ?_ _ rfl ?_; (exact rfl); (exact HG.out); (exact HI.out))
      refine HTx.out.mono ?_
      rintro e w1 ⟨rfl, b1⟩
      have hg1 : w1.heap[w.heap.size]? = some (.cells #[.int .i64 a, .bool f] 24 (0, 0)) := (b1.block _ (by simp)).trans HG.out
      have HG1 := Lib.hid hg1
      have HB1 := Lib.hid (HB.out.trans (b1.mono HB.out.size))
      clear b1 hg1
      have HA1 := Lib.hid (HAl.out w1 (tab11 HT.out HB1.out))
      go_wp2_with fail
      refine HA1.out.mono ?_
      rintro e w2 ⟨rfl, b2⟩
      have HB2 := Lib.hid (HB1.out.trans (b2.mono HB1.out.size))
      have HG2 : Hid (w2.heap[w.heap.size]? = some (.cells #[.int .i64 a, .bool f] 24 (0, 0))) := Lib.hid ((b2.block _ (lt_of_block HG1.out)).trans HG1.out)
      clear b2
      have HA2 := Lib.hid (HAl.out w2 (tab11 HT.out HB2.out))
      go_wp2_with fail
      refine HA2.out.mono ?_
      rintro e w3 ⟨rfl, b3⟩
      have HB3 := Lib.hid (HB2.out.trans (b3.mono HB2.out.size))
      clear b3
      go_wp2
      go_ret
      exact ⟨rfl, HB3.out⟩
    · have hl1 : ¬ (1000 : Int) < (s.size : Int) := by omega
      have hl2 : decide ((1000 : Int) < (s.size : Int)) = false := decide_eq_false hl1
      have HTk := Lib.hid fun w => Token_any s w (by unfold maxLen; omega)
      cases htk : tokS s.data.toList with
      | false =>
        rw [htk] at HTk
        clear hl hs htk
        go_enter Tryd.func7, Tryd.ntmps7
        go_wp2_with (refine tcW_load rfl 24 _ rfl w.heap.size ?_ 24 #[.int .i64 a, .bool f] (0, 0) _ ?_ Tryd.underlying24 rfl ?_ _ rfl ?_; (exact rfl); (exact HG.out); (exact HI.out))
        refine HTx.out.mono ?_
        rintro e w1 ⟨rfl, b1⟩
        have hg1 : w1.heap[w.heap.size]? = some (.cells #[.int .i64 a, .bool f] 24 (0, 0)) := (b1.block _ (by simp)).trans HG.out
        have HG1 := Lib.hid hg1
        have HB1 := Lib.hid (HB.out.trans (b1.mono HB.out.size))
        clear b1 hg1
        have HA1 := Lib.hid (HAl.out w1 (tab11 HT.out HB1.out))
        go_wp2_with fail
        refine HA1.out.mono ?_
        rintro e w2 ⟨rfl, b2⟩
        have HB2 := Lib.hid (HB1.out.trans (b2.mono HB1.out.size))
        have HG2 : Hid (w2.heap[w.heap.size]? = some (.cells #[.int .i64 a, .bool f] 24 (0, 0))) := Lib.hid ((b2.block _ (lt_of_block HG1.out)).trans HG1.out)
        clear b2
        go_wp2_with fail
        refine (HTk.out w2).mono ?_
        rintro e w3 ⟨rfl, b3⟩
        have HB3 := Lib.hid (HB2.out.trans (b3.mono HB2.out.size))
        have HG3 : Hid (w3.heap[w.heap.size]? = some (.cells #[.int .i64 a, .bool f] 24 (0, 0))) := Lib.hid ((b3.block _ (lt_of_block HG2.out)).trans HG2.out)
        clear b3
        have HA3 := Lib.hid (HAl.out w3 (tab11 HT.out HB3.out))
        go_wp2_with fail
        refine HA3.out.mono ?_
        rintro e w4 ⟨rfl, b4⟩
        have HB4 := Lib.hid (HB3.out.trans (b4.mono HB3.out.size))
        clear b4
        go_wp2
        go_ret
        exact ⟨rfl, HB4.out⟩
      | true =>
        rw [htk] at HTk
        have hls : s.data.toList.length ≤ 1000 := by rw [lenB]; omega
        obtain ⟨S, HS⟩ : ∃ S, Hid (asB (txtW a f) = S) := ⟨_, Lib.hid rfl⟩
        obtain ⟨L, HLd⟩ : ∃ L, Hid (lowS s = L) := ⟨_, Lib.hid rfl⟩
        have hLl : L = asB (s.data.toList.map low) := by rw [← HLd.out]; rfl
        have hSz : S.size ≤ 37 := by rw [← HS.out, asB_size]; exact txt_len h0 h1
        have hLz : L.size ≤ 1000 := by rw [hLl, asB_size, List.length_map]; exact hls
        have hsz : s.size ≤ 1000 := by omega
        have HLo := Lib.hid fun w => Lower_any s w (by unfold maxLen; omega)
        rw [HLd.out] at HLo
        rw [HS.out] at HTx
        have HB1t : Hid (∀ w, Calls Tryd.prog 19 #[.string (S ++ ⟨#[59]⟩ ++ s ++ ⟨#[59]⟩ ++ L)] w fun e w' => e = .returned (.bool true) ∧ Below w.heap.size w w') := Lib.hid fun w => by
          have h := bad_any (asB (txtW a f ++ 59 :: (s.data.toList ++ 59 :: s.data.toList.map low))) w
          rw [once_twice h0 h1 htk hls] at h
          have e : asB (txtW a f ++ 59 :: (s.data.toList ++ 59 :: s.data.toList.map low)) = S ++ ⟨#[59]⟩ ++ s ++ ⟨#[59]⟩ ++ L := by
            show _ = S ++ asB [59] ++ asB s.data.toList ++ asB [59] ++ L
            rw [← HS.out, hLl, asB_app, asB_app, asB_app, asB_app]
            congr 1; simp
          rw [e] at h
          exact h
        by_cases hsame : s.data.toList.map low = nAge ∨ (s.data.toList.map low = nSub ∧ f = true)
        · have HB2t : Hid (∀ w, Calls Tryd.prog 19 #[.string (S ++ ⟨#[59]⟩ ++ s)] w fun e w' => e = .returned (.bool true) ∧ Below w.heap.size w w') := Lib.hid fun w => by
            have h := bad_any (asB (txtW a f ++ 59 :: s.data.toList)) w
            rw [once_same h0 h1 htk hls hsame] at h
            have e : asB (txtW a f ++ 59 :: s.data.toList) = S ++ ⟨#[59]⟩ ++ s := by
              show _ = S ++ asB [59] ++ asB s.data.toList
              rw [← HS.out, asB_app, asB_app]
              congr 1; simp
            rw [e] at h
            exact h
          rcases hsame with hsame | ⟨hsame, hf⟩
          · have l1 : (L.toList == [109, 97, 120, 45, 97, 103, 101]) = true := lit_eq (hLl.trans (congrArg asB hsame))
            clear hl hs htk hls hsame hLl h0 h1
            go_enter Tryd.func7, Tryd.ntmps7
            go_wp2_with (refine tcW_load rfl 24 _ rfl w.heap.size ?_ 24 #[.int .i64 a, .bool f] (0, 0) _ ?_ Tryd.underlying24 rfl ?_ _ rfl ?_; (exact rfl); (exact HG.out); (exact HI.out))
            refine HTx.out.mono ?_
            rintro e w1 ⟨rfl, b1⟩
            have hg1 : w1.heap[w.heap.size]? = some (.cells #[.int .i64 a, .bool f] 24 (0, 0)) := (b1.block _ (by simp)).trans HG.out
            have HG1 := Lib.hid hg1
            have HB1 := Lib.hid (HB.out.trans (b1.mono HB.out.size))
            clear b1 hg1
            have HA1 := Lib.hid (HAl.out w1 (tab11 HT.out HB1.out))
            go_wp2_with fail
            refine HA1.out.mono ?_
            rintro e w2 ⟨rfl, b2⟩
            have HB2 := Lib.hid (HB1.out.trans (b2.mono HB1.out.size))
            have HG2 : Hid (w2.heap[w.heap.size]? = some (.cells #[.int .i64 a, .bool f] 24 (0, 0))) := Lib.hid ((b2.block _ (lt_of_block HG1.out)).trans HG1.out)
            clear b2
            go_wp2_with fail
            refine (HTk.out w2).mono ?_
            rintro e w3 ⟨rfl, b3⟩
            have HB3 := Lib.hid (HB2.out.trans (b3.mono HB2.out.size))
            have HG3 : Hid (w3.heap[w.heap.size]? = some (.cells #[.int .i64 a, .bool f] 24 (0, 0))) := Lib.hid ((b3.block _ (lt_of_block HG2.out)).trans HG2.out)
            clear b3
            go_wp2_with fail
            refine (HLo.out w3).mono ?_
            rintro e w4 ⟨rfl, b4⟩
            have HB4 := Lib.hid (HB3.out.trans (b4.mono HB3.out.size))
            have HG4 : Hid (w4.heap[w.heap.size]? = some (.cells #[.int .i64 a, .bool f] 24 (0, 0))) := Lib.hid ((b4.block _ (lt_of_block HG3.out)).trans HG3.out)
            clear b4
            go_wp2_with fail
            refine (HB1t.out w4).mono ?_
            rintro e w5 ⟨rfl, b5⟩
            have HB5 := Lib.hid (HB4.out.trans (b5.mono HB4.out.size))
            have hg5 : w5.heap[w.heap.size]? = some (.cells #[.int .i64 a, .bool f] 24 (0, 0)) := (b5.block _ (lt_of_block HG4.out)).trans HG4.out
            have c50 : w5.cell? ⟨w.heap.size, 0, none⟩ = some (.int .i64 a) := by rw [cell_of_row w5 _ 0 _ _ _ hg5]; rfl
            have c51 : w5.cell? ⟨w.heap.size, 1, none⟩ = some (.bool f) := by rw [cell_of_row w5 _ 1 _ _ _ hg5]; rfl
            clear b5 hg5
            go_wp2_with fail
            refine (HB2t.out w5).mono ?_
            rintro e w6 ⟨rfl, b6⟩
            have HB6 := Lib.hid (HB5.out.trans (b6.mono HB5.out.size))
            clear b6
            go_wp2
            go_ret
            exact ⟨rfl, HB6.out⟩
          · subst hf
            have l1 : (L.toList == [109, 97, 120, 45, 97, 103, 101]) = false := lit_ne fun e => by
              have e2 := asB_inj (hLl.symm.trans e)
              rw [hsame] at e2
              exact absurd e2.symm age_sub
            have l2 : (L.toList == [105, 110, 99, 108, 117, 100, 101, 115, 117, 98, 100, 111, 109, 97, 105, 110, 115]) = true := lit_eq (hLl.trans (congrArg asB hsame))
            clear hl hs htk hls hsame hLl h0 h1
            go_enter Tryd.func7, Tryd.ntmps7
            go_wp2_with (refine tcW_load rfl 24 _ rfl w.heap.size ?_ 24 #[.int .i64 a, .bool true] (0, 0) _ ?_ Tryd.underlying24 rfl ?_ _ rfl ?_; (exact rfl); (exact HG.out); (exact HI.out))
            refine HTx.out.mono ?_
            rintro e w1 ⟨rfl, b1⟩
            have hg1 : w1.heap[w.heap.size]? = some (.cells #[.int .i64 a, .bool true] 24 (0, 0)) := (b1.block _ (by simp)).trans HG.out
            have HG1 := Lib.hid hg1
            have HB1 := Lib.hid (HB.out.trans (b1.mono HB.out.size))
            clear b1 hg1
            have HA1 := Lib.hid (HAl.out w1 (tab11 HT.out HB1.out))
            go_wp2_with fail
            refine HA1.out.mono ?_
            rintro e w2 ⟨rfl, b2⟩
            have HB2 := Lib.hid (HB1.out.trans (b2.mono HB1.out.size))
            have HG2 : Hid (w2.heap[w.heap.size]? = some (.cells #[.int .i64 a, .bool true] 24 (0, 0))) := Lib.hid ((b2.block _ (lt_of_block HG1.out)).trans HG1.out)
            clear b2
            go_wp2_with fail
            refine (HTk.out w2).mono ?_
            rintro e w3 ⟨rfl, b3⟩
            have HB3 := Lib.hid (HB2.out.trans (b3.mono HB2.out.size))
            have HG3 : Hid (w3.heap[w.heap.size]? = some (.cells #[.int .i64 a, .bool true] 24 (0, 0))) := Lib.hid ((b3.block _ (lt_of_block HG2.out)).trans HG2.out)
            clear b3
            go_wp2_with fail
            refine (HLo.out w3).mono ?_
            rintro e w4 ⟨rfl, b4⟩
            have HB4 := Lib.hid (HB3.out.trans (b4.mono HB3.out.size))
            have HG4 : Hid (w4.heap[w.heap.size]? = some (.cells #[.int .i64 a, .bool true] 24 (0, 0))) := Lib.hid ((b4.block _ (lt_of_block HG3.out)).trans HG3.out)
            clear b4
            go_wp2_with fail
            refine (HB1t.out w4).mono ?_
            rintro e w5 ⟨rfl, b5⟩
            have HB5 := Lib.hid (HB4.out.trans (b5.mono HB4.out.size))
            have hg5 : w5.heap[w.heap.size]? = some (.cells #[.int .i64 a, .bool true] 24 (0, 0)) := (b5.block _ (lt_of_block HG4.out)).trans HG4.out
            have c50 : w5.cell? ⟨w.heap.size, 0, none⟩ = some (.int .i64 a) := by rw [cell_of_row w5 _ 0 _ _ _ hg5]; rfl
            have c51 : w5.cell? ⟨w.heap.size, 1, none⟩ = some (.bool true) := by rw [cell_of_row w5 _ 1 _ _ _ hg5]; rfl
            clear b5 hg5
            go_wp2_with fail
            refine (HB2t.out w5).mono ?_
            rintro e w6 ⟨rfl, b6⟩
            have HB6 := Lib.hid (HB5.out.trans (b6.mono HB5.out.size))
            clear b6
            go_wp2
            go_ret
            exact ⟨rfl, HB6.out⟩
        · have hna : s.data.toList.map low ≠ nAge := fun e => hsame (.inl e)
          have hns : ¬ (s.data.toList.map low = nSub ∧ f = true) := fun e => hsame (.inr e)
          have l1 : (L.toList == [109, 97, 120, 45, 97, 103, 101]) = false := lit_ne fun e => hna (asB_inj (hLl.symm.trans e))
          have HBa : Hid (∀ w, Calls Tryd.prog 19 #[.string s] w fun e w' => e = .returned (.bool true) ∧ Below w.heap.size w w') := Lib.hid fun w => by
            have h := bad_any (asB s.data.toList) w
            rw [once_alone htk hls hna] at h
            exact h
          have HBe : Hid (∀ w, Calls Tryd.prog 19 #[.string (s ++ ⟨#[61, 49, 59]⟩ ++ L ++ ⟨#[61, 49]⟩)] w fun e w' => e = .returned (.bool true) ∧ Below w.heap.size w w') := Lib.hid fun w => by
            have h := bad_any (asB (s.data.toList ++ [61, 49] ++ 59 :: (s.data.toList.map low ++ [61, 49]))) w
            rw [once_eq htk hls] at h
            have e : asB (s.data.toList ++ [61, 49] ++ 59 :: (s.data.toList.map low ++ [61, 49])) = s ++ ⟨#[61, 49, 59]⟩ ++ L ++ ⟨#[61, 49]⟩ := by
              show _ = asB s.data.toList ++ asB [61, 49, 59] ++ L ++ asB [61, 49]
              rw [hLl, asB_app, asB_app, asB_app]
              congr 1; simp
            rw [e] at h
            exact h
          have HIs : Hid (∀ w, Calls Tryd.prog 16 #[.string (S ++ ⟨#[59]⟩ ++ s), .int .i64 a, .bool (f || decide (s.data.toList.map low = nSub))] w fun e w' => e = .returned (.bool true) ∧ Below w.heap.size w w') := Lib.hid fun w => by
            have h := is_any (asB (txtW a f ++ 59 :: s.data.toList)) a (f || decide (s.data.toList.map low = nSub)) w
            rw [once_is h0 h1 htk hls hna hns] at h
            have e : asB (txtW a f ++ 59 :: s.data.toList) = S ++ ⟨#[59]⟩ ++ s := by
              show _ = S ++ asB [59] ++ asB s.data.toList
              rw [← HS.out, asB_app, asB_app]
              congr 1; simp
            rw [e] at h
            exact h
          by_cases hsub : s.data.toList.map low = nSub
          · have hf : f = false := by cases f with | false => rfl | true => exact absurd ⟨hsub, rfl⟩ hns
            subst hf
            have l2 : (L.toList == [105, 110, 99, 108, 117, 100, 101, 115, 117, 98, 100, 111, 109, 97, 105, 110, 115]) = true := lit_eq (hLl.trans (congrArg asB hsub))
            rw [decide_eq_true hsub] at HIs
            have HIs : Hid (∀ w, Calls Tryd.prog 16 #[.string (S ++ ⟨#[59]⟩ ++ s), .int .i64 a, .bool true] w fun e w' => e = .returned (.bool true) ∧ Below w.heap.size w w') := HIs
            clear hl hs htk hls hsame hLl h0 h1 hna hns hsub
            go_enter Tryd.func7, Tryd.ntmps7
            go_wp2_with (refine tcW_load rfl 24 _ rfl w.heap.size ?_ 24 #[.int .i64 a, .bool false] (0, 0) _ ?_ Tryd.underlying24 rfl ?_ _ rfl ?_; (exact rfl); (exact HG.out); (exact HI.out))
            refine HTx.out.mono ?_
            rintro e w1 ⟨rfl, b1⟩
            have hg1 : w1.heap[w.heap.size]? = some (.cells #[.int .i64 a, .bool false] 24 (0, 0)) := (b1.block _ (by simp)).trans HG.out
            have HG1 := Lib.hid hg1
            have HB1 := Lib.hid (HB.out.trans (b1.mono HB.out.size))
            clear b1 hg1
            have HA1 := Lib.hid (HAl.out w1 (tab11 HT.out HB1.out))
            go_wp2_with fail
            refine HA1.out.mono ?_
            rintro e w2 ⟨rfl, b2⟩
            have HB2 := Lib.hid (HB1.out.trans (b2.mono HB1.out.size))
            have HG2 : Hid (w2.heap[w.heap.size]? = some (.cells #[.int .i64 a, .bool false] 24 (0, 0))) := Lib.hid ((b2.block _ (lt_of_block HG1.out)).trans HG1.out)
            clear b2
            go_wp2_with fail
            refine (HTk.out w2).mono ?_
            rintro e w3 ⟨rfl, b3⟩
            have HB3 := Lib.hid (HB2.out.trans (b3.mono HB2.out.size))
            have HG3 : Hid (w3.heap[w.heap.size]? = some (.cells #[.int .i64 a, .bool false] 24 (0, 0))) := Lib.hid ((b3.block _ (lt_of_block HG2.out)).trans HG2.out)
            clear b3
            go_wp2_with fail
            refine (HLo.out w3).mono ?_
            rintro e w4 ⟨rfl, b4⟩
            have HB4 := Lib.hid (HB3.out.trans (b4.mono HB3.out.size))
            have HG4 : Hid (w4.heap[w.heap.size]? = some (.cells #[.int .i64 a, .bool false] 24 (0, 0))) := Lib.hid ((b4.block _ (lt_of_block HG3.out)).trans HG3.out)
            clear b4
            go_wp2_with fail
            refine (HB1t.out w4).mono ?_
            rintro e w5 ⟨rfl, b5⟩
            have HB5 := Lib.hid (HB4.out.trans (b5.mono HB4.out.size))
            have hg5 : w5.heap[w.heap.size]? = some (.cells #[.int .i64 a, .bool false] 24 (0, 0)) := (b5.block _ (lt_of_block HG4.out)).trans HG4.out
            have c50 : w5.cell? ⟨w.heap.size, 0, none⟩ = some (.int .i64 a) := by rw [cell_of_row w5 _ 0 _ _ _ hg5]; rfl
            have c51 : w5.cell? ⟨w.heap.size, 1, none⟩ = some (.bool false) := by rw [cell_of_row w5 _ 1 _ _ _ hg5]; rfl
            clear b5 hg5
            go_wp2_with fail
            refine (HIs.out w5).mono ?_
            rintro e w6 ⟨rfl, b6⟩
            have HB6 := Lib.hid (HB5.out.trans (b6.mono HB5.out.size))
            clear b6
            go_wp2_with fail
            refine (HBa.out w6).mono ?_
            rintro e w7 ⟨rfl, b7⟩
            have HB7 := Lib.hid (HB6.out.trans (b7.mono HB6.out.size))
            clear b7
            go_wp2_with fail
            refine (HBe.out w7).mono ?_
            rintro e w8 ⟨rfl, b8⟩
            have HB8 := Lib.hid (HB7.out.trans (b8.mono HB7.out.size))
            clear b8
            go_wp2
            go_ret
            exact ⟨rfl, HB8.out⟩
          · have l2 : (L.toList == [105, 110, 99, 108, 117, 100, 101, 115, 117, 98, 100, 111, 109, 97, 105, 110, 115]) = false := lit_ne fun e => hsub (asB_inj (hLl.symm.trans e))
            rw [decide_eq_false hsub, Bool.or_false] at HIs
            clear hl hs htk hls hsame hLl h0 h1 hna hns hsub
            cases f with
            | false =>
              go_enter Tryd.func7, Tryd.ntmps7
              go_wp2_with (refine tcW_load rfl 24 _ rfl w.heap.size ?_ 24 #[.int .i64 a, .bool false] (0, 0) _ ?_ Tryd.underlying24 rfl ?_ _ rfl ?_; (exact rfl); (exact HG.out); (exact HI.out))
              refine HTx.out.mono ?_
              rintro e w1 ⟨rfl, b1⟩
              have hg1 : w1.heap[w.heap.size]? = some (.cells #[.int .i64 a, .bool false] 24 (0, 0)) := (b1.block _ (by simp)).trans HG.out
              have HG1 := Lib.hid hg1
              have HB1 := Lib.hid (HB.out.trans (b1.mono HB.out.size))
              clear b1 hg1
              have HA1 := Lib.hid (HAl.out w1 (tab11 HT.out HB1.out))
              go_wp2_with fail
              refine HA1.out.mono ?_
              rintro e w2 ⟨rfl, b2⟩
              have HB2 := Lib.hid (HB1.out.trans (b2.mono HB1.out.size))
              have HG2 : Hid (w2.heap[w.heap.size]? = some (.cells #[.int .i64 a, .bool false] 24 (0, 0))) := Lib.hid ((b2.block _ (lt_of_block HG1.out)).trans HG1.out)
              clear b2
              go_wp2_with fail
              refine (HTk.out w2).mono ?_
              rintro e w3 ⟨rfl, b3⟩
              have HB3 := Lib.hid (HB2.out.trans (b3.mono HB2.out.size))
              have HG3 : Hid (w3.heap[w.heap.size]? = some (.cells #[.int .i64 a, .bool false] 24 (0, 0))) := Lib.hid ((b3.block _ (lt_of_block HG2.out)).trans HG2.out)
              clear b3
              go_wp2_with fail
              refine (HLo.out w3).mono ?_
              rintro e w4 ⟨rfl, b4⟩
              have HB4 := Lib.hid (HB3.out.trans (b4.mono HB3.out.size))
              have HG4 : Hid (w4.heap[w.heap.size]? = some (.cells #[.int .i64 a, .bool false] 24 (0, 0))) := Lib.hid ((b4.block _ (lt_of_block HG3.out)).trans HG3.out)
              clear b4
              go_wp2_with fail
              refine (HB1t.out w4).mono ?_
              rintro e w5 ⟨rfl, b5⟩
              have HB5 := Lib.hid (HB4.out.trans (b5.mono HB4.out.size))
              have hg5 : w5.heap[w.heap.size]? = some (.cells #[.int .i64 a, .bool false] 24 (0, 0)) := (b5.block _ (lt_of_block HG4.out)).trans HG4.out
              have c50 : w5.cell? ⟨w.heap.size, 0, none⟩ = some (.int .i64 a) := by rw [cell_of_row w5 _ 0 _ _ _ hg5]; rfl
              have c51 : w5.cell? ⟨w.heap.size, 1, none⟩ = some (.bool false) := by rw [cell_of_row w5 _ 1 _ _ _ hg5]; rfl
              clear b5 hg5
              go_wp2_with fail
              refine (HIs.out w5).mono ?_
              rintro e w6 ⟨rfl, b6⟩
              have HB6 := Lib.hid (HB5.out.trans (b6.mono HB5.out.size))
              clear b6
              go_wp2_with fail
              refine (HBa.out w6).mono ?_
              rintro e w7 ⟨rfl, b7⟩
              have HB7 := Lib.hid (HB6.out.trans (b7.mono HB6.out.size))
              clear b7
              go_wp2_with fail
              refine (HBe.out w7).mono ?_
              rintro e w8 ⟨rfl, b8⟩
              have HB8 := Lib.hid (HB7.out.trans (b8.mono HB7.out.size))
              clear b8
              go_wp2
              go_ret
              exact ⟨rfl, HB8.out⟩
            | true =>
              go_enter Tryd.func7, Tryd.ntmps7
              go_wp2_with (refine tcW_load rfl 24 _ rfl w.heap.size ?_ 24 #[.int .i64 a, .bool true] (0, 0) _ ?_ Tryd.underlying24 rfl ?_ _ rfl ?_; (exact rfl); (exact HG.out); (exact HI.out))
              refine HTx.out.mono ?_
              rintro e w1 ⟨rfl, b1⟩
              have hg1 : w1.heap[w.heap.size]? = some (.cells #[.int .i64 a, .bool true] 24 (0, 0)) := (b1.block _ (by simp)).trans HG.out
              have HG1 := Lib.hid hg1
              have HB1 := Lib.hid (HB.out.trans (b1.mono HB.out.size))
              clear b1 hg1
              have HA1 := Lib.hid (HAl.out w1 (tab11 HT.out HB1.out))
              go_wp2_with fail
              refine HA1.out.mono ?_
              rintro e w2 ⟨rfl, b2⟩
              have HB2 := Lib.hid (HB1.out.trans (b2.mono HB1.out.size))
              have HG2 : Hid (w2.heap[w.heap.size]? = some (.cells #[.int .i64 a, .bool true] 24 (0, 0))) := Lib.hid ((b2.block _ (lt_of_block HG1.out)).trans HG1.out)
              clear b2
              go_wp2_with fail
              refine (HTk.out w2).mono ?_
              rintro e w3 ⟨rfl, b3⟩
              have HB3 := Lib.hid (HB2.out.trans (b3.mono HB2.out.size))
              have HG3 : Hid (w3.heap[w.heap.size]? = some (.cells #[.int .i64 a, .bool true] 24 (0, 0))) := Lib.hid ((b3.block _ (lt_of_block HG2.out)).trans HG2.out)
              clear b3
              go_wp2_with fail
              refine (HLo.out w3).mono ?_
              rintro e w4 ⟨rfl, b4⟩
              have HB4 := Lib.hid (HB3.out.trans (b4.mono HB3.out.size))
              have HG4 : Hid (w4.heap[w.heap.size]? = some (.cells #[.int .i64 a, .bool true] 24 (0, 0))) := Lib.hid ((b4.block _ (lt_of_block HG3.out)).trans HG3.out)
              clear b4
              go_wp2_with fail
              refine (HB1t.out w4).mono ?_
              rintro e w5 ⟨rfl, b5⟩
              have HB5 := Lib.hid (HB4.out.trans (b5.mono HB4.out.size))
              have hg5 : w5.heap[w.heap.size]? = some (.cells #[.int .i64 a, .bool true] 24 (0, 0)) := (b5.block _ (lt_of_block HG4.out)).trans HG4.out
              have c50 : w5.cell? ⟨w.heap.size, 0, none⟩ = some (.int .i64 a) := by rw [cell_of_row w5 _ 0 _ _ _ hg5]; rfl
              have c51 : w5.cell? ⟨w.heap.size, 1, none⟩ = some (.bool true) := by rw [cell_of_row w5 _ 1 _ _ _ hg5]; rfl
              clear b5 hg5
              go_wp2_with fail
              refine (HIs.out w5).mono ?_
              rintro e w6 ⟨rfl, b6⟩
              have HB6 := Lib.hid (HB5.out.trans (b6.mono HB5.out.size))
              clear b6
              go_wp2_with fail
              refine (HBa.out w6).mono ?_
              rintro e w7 ⟨rfl, b7⟩
              have HB7 := Lib.hid (HB6.out.trans (b7.mono HB6.out.size))
              clear b7
              go_wp2_with fail
              refine (HBe.out w7).mono ?_
              rintro e w8 ⟨rfl, b8⟩
              have HB8 := Lib.hid (HB7.out.trans (b8.mono HB7.out.size))
              clear b8
              go_wp2
              go_ret
              exact ⟨rfl, HB8.out⟩

end Go.Proofs.YthffgnlebljkcaaDoor
