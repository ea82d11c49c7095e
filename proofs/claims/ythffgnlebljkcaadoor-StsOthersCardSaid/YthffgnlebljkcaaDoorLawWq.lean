/-
  footmanlaw11.StsOthers: directives that are not known make no difference.
-/
import Derived.Test.YthffgnlebljkcaaDoorTsN
import Derived.Test.YthffgnlebljkcaaDoorBeyond
namespace Go.Proofs.YthffgnlebljkcaaDoor
open Go.RowKit Go.Lib

theorem esc_snoc (l : List UInt8) (c : UInt8) : escQ (l ++ [c]) = escQ l ++ (if c = 34 ∨ c = 92 then [92, c] else [c]) := by
  unfold escQ
  rw [List.flatMap_append]
  simp
theorem byte_eq {c : UInt8} {n : Nat} (h : c.toNat = n) (_hn : n < 256) : c = UInt8.ofNat n := by
  rw [← h]; simp
theorem ext1 (s : ByteArray) (k : Nat) (c : UInt8) (h : s.data.toList[k]? = some c) : s.extract k (k + 1) = asB [c] := by
  apply ByteArray.ext
  apply Array.toList_inj.1
  exact ext_one s.data.toList k c h
set_option maxRecDepth 100000 in
set_option maxHeartbeats 4000000 in
theorem wothers_walk (a : Int) (f : Bool) (s : ByteArray) (w : World) (hs : s.size ≤ 140737488351232) (htab : Lib.TabIs Tryd.prog w "internal/strconv.uint64pow10" .u64 Lib.pow10Tab) :
    Calls Tryd.prog 6 #[.agg #[.int .i64 a, .bool f], .string s] w fun e w' => e = .returned (.bool true) ∧ Below w.heap.size w w' := by
  have HI := Lib.hid infoWish
  have hb : Below w.heap.size w (w.alloc (.cells #[.int .i64 a, .bool f] 24)) := (Below.refl _ _).alloc (Nat.le_refl _) _
  have HG : Hid ((w.alloc (.cells #[.int .i64 a, .bool f] 24)).heap[w.heap.size]? = some (.cells #[.int .i64 a, .bool f] 24 (0, 0))) := Lib.hid (heap_alloc_new w _)
  have HB := Lib.hid hb
  have HT := Lib.hid htab
  have HAl := Lib.hid fun w h => alive11_any w h
  have HCb : Hid (∀ w2 : World, (w2.alloc (.cells #[.int .i64 (s.size : Int)] 3)).cell? ⟨w2.heap.size, 0, none⟩ = some (.int .i64 (s.size : Int))) := Lib.hid fun w2 => by rw [World.cell?_alloc_at _ _ _ _ rfl]; rfl
  by_cases hbad : a < 0 ∨ 2147483647 < a
  · have HTx := Lib.hid (Text_bad a f _ hbad : Calls _ _ _ (w.alloc (.cells #[.int .i64 a, .bool f] 24)) _)
    clear hb htab hbad hs
    go_enter Tryd.func6, Tryd.ntmps6
    go_wp2_with (refine tcW_load rfl 24 _ rfl w.heap.size ?_ 24 #[.int .i64 a, .bool f] (0, 0) _ ?_ Tryd.underlying24 rfl ?_ _ rfl ?_; (exact rfl); (exact HG.out); (exact HI.out))
    refine HTx.out.mono ?_
    rintro e w1 ⟨rfl, b1⟩
    have hg1 : w1.heap[w.heap.size]? = some (.cells #[.int .i64 a, .bool f] 24 (0, 0)) := (b1.block _ (by simp)).trans HG.out
    have HG1 := Lib.hid hg1
    have HB1 := Lib.hid (HB.out.trans (b1.mono HB.out.size))
    clear b1 hg1
    have HA1 := Lib.hid (HAl.out w1 (tab11 HT.out HB1.out))
    go_wp2_with fail
    refine HA1.out.mono ?_
    rintro e w2 ⟨rfl, b2⟩
    have HB2 := Lib.hid (HB1.out.trans (b2.mono HB1.out.size))
    have HG2 : Hid (w2.heap[w.heap.size]? = some (.cells #[.int .i64 a, .bool f] 24 (0, 0))) := Lib.hid ((b2.block _ (lt_of_block HG1.out)).trans HG1.out)
    clear b2
    have HA2 := Lib.hid (HAl.out w2 (tab11 HT.out HB2.out))
    go_wp2_with fail
    refine HA2.out.mono ?_
    rintro e w3 ⟨rfl, b3⟩
    have HB3 := Lib.hid (HB2.out.trans (b3.mono HB2.out.size))
    clear b3
    go_wp2
    go_ret
    exact ⟨rfl, HB3.out⟩
  · have h0 : 0 ≤ a := by omega
    have h1 : a ≤ 2147483647 := by omega
    have HTx := Lib.hid (Text_good a f _ h0 h1 (tab11 htab hb) : Calls _ _ _ (w.alloc (.cells #[.int .i64 a, .bool f] 24)) _)
    clear hb htab hbad
    by_cases hbig : 1048576 < s.size
    · have HBy := Lib.hid fun w2 => Beyond1_yes w2.heap.size s.size (w2.alloc (.cells #[.int .i64 (s.size : Int)] 3)) (by unfold maxLen; omega) (HCb.out w2) hbig
      clear hbig hs
      go_enter Tryd.func6, Tryd.ntmps6
      go_wp2_with (refine tcW_load rfl 24 _ rfl w.heap.size ?_ 24 #[.int .i64 a, .bool f] (0, 0) _ ?_ Tryd.underlying24 rfl ?_ _ rfl ?_; (exact rfl); (exact HG.out); (exact HI.out))
      refine HTx.out.mono ?_
      rintro e w1 ⟨rfl, b1⟩
      have hg1 : w1.heap[w.heap.size]? = some (.cells #[.int .i64 a, .bool f] 24 (0, 0)) := (b1.block _ (by simp)).trans HG.out
      have HG1 := Lib.hid hg1
      have HB1 := Lib.hid (HB.out.trans (b1.mono HB.out.size))
      clear b1 hg1
      have HA1 := Lib.hid (HAl.out w1 (tab11 HT.out HB1.out))
      go_wp2_with fail
      refine HA1.out.mono ?_
      rintro e w2 ⟨rfl, b2⟩
      have HB2 := Lib.hid (HB1.out.trans (b2.mono HB1.out.size))
      have HG2 : Hid (w2.heap[w.heap.size]? = some (.cells #[.int .i64 a, .bool f] 24 (0, 0))) := Lib.hid ((b2.block _ (lt_of_block HG1.out)).trans HG1.out)
      clear b2
      go_wp2_with fail
      refine (HBy.out w2).mono ?_
      rintro e w3 ⟨rfl, rfl⟩
      have HB3 := Lib.hid (HB2.out.alloc HB2.out.size (.cells #[.int .i64 (s.size : Int)] 3))
      have HA3 := Lib.hid (HAl.out _ (tab11 HT.out HB3.out))
      go_wp2_with fail
      refine HA3.out.mono ?_
      rintro e w4 ⟨rfl, b4⟩
      have HB4 := Lib.hid (HB3.out.trans (b4.mono HB3.out.size))
      clear b4
      go_wp2
      go_ret
      exact ⟨rfl, HB4.out⟩
    · have HBy := Lib.hid fun w2 => Beyond1_no w2.heap.size s.size (w2.alloc (.cells #[.int .i64 (s.size : Int)] 3)) (HCb.out w2) (by omega)
      by_cases hl : 30000 < s.size
      · have hl1 : (30000 : Int) < (s.size : Int) := by omega
        have hl2 : decide ((30000 : Int) < (s.size : Int)) = true := decide_eq_true hl1
        clear hbig hs hl
        go_enter Tryd.func6, Tryd.ntmps6
        go_wp2_with (refine tcW_load rfl 24 _ rfl w.heap.size ?_ 24 #[.int .i64 a, .bool f] (0, 0) _ ?_ Tryd.underlying24 rfl ?_ _ rfl ?_; (exact rfl); (exact HG.out); (exact HI.out))
        refine HTx.out.mono ?_
        rintro e w1 ⟨rfl, b1⟩
        have hg1 : w1.heap[w.heap.size]? = some (.cells #[.int .i64 a, .bool f] 24 (0, 0)) := (b1.block _ (by simp)).trans HG.out
        have HG1 := Lib.hid hg1
        have HB1 := Lib.hid (HB.out.trans (b1.mono HB.out.size))
        clear b1 hg1
        have HA1 := Lib.hid (HAl.out w1 (tab11 HT.out HB1.out))
        go_wp2_with fail
        refine HA1.out.mono ?_
        rintro e w2 ⟨rfl, b2⟩
        have HB2 := Lib.hid (HB1.out.trans (b2.mono HB1.out.size))
        have HG2 : Hid (w2.heap[w.heap.size]? = some (.cells #[.int .i64 a, .bool f] 24 (0, 0))) := Lib.hid ((b2.block _ (lt_of_block HG1.out)).trans HG1.out)
        clear b2
        go_wp2_with fail
        refine (HBy.out w2).mono ?_
        rintro e w3 ⟨rfl, rfl⟩
        have HB3 := Lib.hid (HB2.out.alloc HB2.out.size (.cells #[.int .i64 (s.size : Int)] 3))
        have HA3 := Lib.hid (HAl.out _ (tab11 HT.out HB3.out))
        go_wp2_with fail
        refine HA3.out.mono ?_
        rintro e w4 ⟨rfl, b4⟩
        have HB4 := Lib.hid (HB3.out.trans (b4.mono HB3.out.size))
        clear b4
        go_wp2
        go_ret
        exact ⟨rfl, HB4.out⟩
      · have hl1 : ¬ (30000 : Int) < (s.size : Int) := by omega
        have hl2 : decide ((30000 : Int) < (s.size : Int)) = false := decide_eq_false hl1
        have hls : s.size ≤ 30000 := by omega
        have HLs := Lib.hid hls
        obtain ⟨S, HS⟩ : ∃ S, Hid (asB (txtW a f) = S) := ⟨_, Lib.hid rfl⟩
        have hSz : S.size ≤ 37 := by rw [← HS.out, asB_size]; exact txt_len h0 h1
        rw [HS.out] at HTx
        have HIs : Hid (∀ (w : World), (∀ c ∈ s.data.toList, okQ c = true) → Calls Tryd.prog 16 #[.string (⟨#[120, 61, 34]⟩ ++ asB (escQ s.data.toList) ++ ⟨#[34, 59]⟩ ++ S ++ ⟨#[59, 32, 121, 59, 32, 122, 61, 116]⟩), .int .i64 a, .bool f] w fun e w' => e = .returned (.bool true) ∧ Below w.heap.size w w') := Lib.hid fun w hv => by
          have h := is_any (asB (xPre ++ escQ s.data.toList ++ [34, 59] ++ txtW a f ++ yzL)) a f w
          rw [others_is h0 h1 hv (by rw [lenB]; exact hls)] at h
          have e : asB (xPre ++ escQ s.data.toList ++ [34, 59] ++ txtW a f ++ yzL) = (⟨#[120, 61, 34]⟩ ++ asB (escQ s.data.toList) ++ ⟨#[34, 59]⟩ ++ S ++ ⟨#[59, 32, 121, 59, 32, 122, 61, 116]⟩ : ByteArray) := by
            show _ = asB xPre ++ asB (escQ s.data.toList) ++ asB [34, 59] ++ S ++ asB yzL
            rw [← HS.out, asB_app, asB_app, asB_app, asB_app]
          rw [e] at h
          exact h
        have hs16 : (s.size : Int) ≤ 30000 := by omega
        clear hbig hs hl h0 h1 hls
        go_enter Tryd.func6, Tryd.ntmps6
        go_wp2_with (refine tcW_load rfl 24 _ rfl w.heap.size ?_ 24 #[.int .i64 a, .bool f] (0, 0) _ ?_ Tryd.underlying24 rfl ?_ _ rfl ?_; (exact rfl); (exact HG.out); (exact HI.out))
        refine HTx.out.mono ?_
        rintro e w1 ⟨rfl, b1⟩
        have hg1 : w1.heap[w.heap.size]? = some (.cells #[.int .i64 a, .bool f] 24 (0, 0)) := (b1.block _ (by simp)).trans HG.out
        have HG1 := Lib.hid hg1
        have HB1 := Lib.hid (HB.out.trans (b1.mono HB.out.size))
        clear b1 hg1
        have HA1 := Lib.hid (HAl.out w1 (tab11 HT.out HB1.out))
        go_wp2_with fail
        refine HA1.out.mono ?_
        rintro e w2 ⟨rfl, b2⟩
        have HB2 := Lib.hid (HB1.out.trans (b2.mono HB1.out.size))
        have HG2 : Hid (w2.heap[w.heap.size]? = some (.cells #[.int .i64 a, .bool f] 24 (0, 0))) := Lib.hid ((b2.block _ (lt_of_block HG1.out)).trans HG1.out)
        clear b2
        go_wp2_with fail
        refine (HBy.out w2).mono ?_
        rintro e w3 ⟨rfl, rfl⟩
        obtain ⟨W3, HW3⟩ : ∃ W, Hid (w2.alloc (.cells #[.int .i64 (s.size : Int)] 3) = W) := ⟨_, Lib.hid rfl⟩
        have HB3 : Hid (Below w.heap.size w W3) := Lib.hid (by rw [← HW3.out]; exact HB2.out.alloc HB2.out.size _)
        have hg3 : W3.heap[w.heap.size]? = some (.cells #[.int .i64 a, .bool f] 24 (0, 0)) := by
          rw [← HW3.out]
          exact (Below.heap_alloc _ _ _ (lt_of_block HG2.out)).trans HG2.out
        have c30 : W3.cell? ⟨w.heap.size, 0, none⟩ = some (.int .i64 a) := by rw [cell_of_row W3 _ 0 _ _ _ hg3]; rfl
        have c31 : W3.cell? ⟨w.heap.size, 1, none⟩ = some (.bool f) := by rw [cell_of_row W3 _ 1 _ _ _ hg3]; rfl
        clear hg3
        rw [HW3.out]
        go_wp2
        go_loopw [7, 8, 9] (fun q i _ wr => ∃ k : Nat, k ≤ s.size ∧ i = .int .i64 (k : Int) ∧ q = .string (asB (escQ (s.data.toList.take k))) ∧ Hid (∀ c ∈ s.data.toList.take k, okQ c = true) ∧ W3 = wr) (fun _ i _ _ => s.size - (intOf i).toNat)
        case atStart => exact ⟨0, Nat.zero_le _, rfl, rfl, Lib.hid fun _ h => (by cases h), rfl⟩
        case round =>
          obtain ⟨k, hk, rfl, rfl, HQ, rfl⟩ := hrel
          by_cases hlt : k < s.size
          · obtain ⟨c, hx⟩ : ∃ c : UInt8, s[k]'hlt = c := ⟨_, rfl⟩
            have hc : s.data.toList[k]? = some c := by rw [← hx]; exact Lib.data_getElem? s k hlt
            have HTk : Hid (s.data.toList.take (k + 1) = s.data.toList.take k ++ [c]) := Lib.hid (by rw [List.take_add_one, hc]; rfl)
            have HX : Hid (s.extract k (k + 1) = asB [c]) := Lib.hid (ext1 s k c hc)
            have hz : (asB (escQ (s.data.toList.take k))).size ≤ 60000 := by
              have := esc_len (s.data.toList.take k)
              rw [List.length_take] at this
              have := HLs.out
              rw [asB_size]; omega
            have hz1 : (s.extract k (k + 1)).size = 1 := by rw [HX.out]; rfl
            have HZ1 : Hid (asB (escQ (s.data.toList.take k)) ++ s.extract k (k + 1) = asB (escQ (s.data.toList.take (k + 1))) ∨ (c = 34 ∨ c = 92)) := Lib.hid (by
              by_cases h : c = 34 ∨ c = 92
              · exact .inr h
              · exact .inl (by rw [HX.out, HTk.out, esc_snoc, if_neg h, asB_app]))
            have HZ2 : Hid ((c = 34 ∨ c = 92) → asB (escQ (s.data.toList.take k)) ++ ⟨#[92]⟩ ++ s.extract k (k + 1) = asB (escQ (s.data.toList.take (k + 1)))) := Lib.hid (fun h => by
              rw [HX.out, HTk.out, esc_snoc, if_pos h]
              show asB _ ++ asB [92] ++ asB [c] = _
              rw [asB_app, asB_app]; simp)
            have HQ2 : Hid (okQ c = true → ∀ x ∈ s.data.toList.take (k + 1), okQ x = true) := Lib.hid fun h x hx => by
              rw [HTk.out] at hx
              rcases List.mem_append.1 hx with hx | hx
              · exact HQ.out x hx
              · rw [List.mem_singleton.1 hx]; exact h
            have p1 : (k : Int) < (s.size : Int) := by omega
            have p2 : (k : Int) + 1 ≤ (s.size : Int) := by omega
            clear hc
            have hx := hx
            by_cases q9 : c.toNat = 9
            · have HOk : Hid (okQ c = true) := Lib.hid (by unfold okQ; rw [q9]; rfl)
              have hc9 : c = 9 := byte_eq q9 (by decide)
              have HZ : Hid (asB (escQ (s.data.toList.take k)) ++ s.extract k (k + 1) = asB (escQ (s.data.toList.take (k + 1)))) := Lib.hid (by
                rcases HZ1.out with h | h
                · exact h
                · rw [hc9] at h; exact absurd h (by decide))
              have e1 : ((c.toNat : Int) != 9) = false := by rw [q9]; rfl
              have e2 : ((c.toNat : Int) == 9) = true := by rw [q9]; rfl
              have e3 : decide ((c.toNat : Int) < 32) = true := decide_eq_true (by omega)
              have e4 : ((c.toNat : Int) == 127) = false := beq_eq_false_iff_ne.2 (by omega)
              have e5 : ((c.toNat : Int) == 34) = false := beq_eq_false_iff_ne.2 (by omega)
              have e6 : ((c.toNat : Int) == 92) = false := beq_eq_false_iff_ne.2 (by omega)
              have i3 : (c.toNat : Int) < 32 := by omega
              clear hc9 q9
              go_wp2
              go_roundw
              case rel => exact ⟨k + 1, by omega, by go_num, congrArg Value.string HZ.out, Lib.hid (HQ2.out HOk.out), trivial⟩
              case measure => simp [intOf]; omega
            · by_cases q32 : c.toNat < 32
              · have e1 : ((c.toNat : Int) != 9) = true := bne_iff_ne.2 (by omega)
                have e2 : ((c.toNat : Int) == 9) = false := beq_eq_false_iff_ne.2 (by omega)
                have e3 : decide ((c.toNat : Int) < 32) = true := decide_eq_true (by omega)
                have i3 : (c.toNat : Int) < 32 := by omega
                clear q9 q32
                go_wp2
                go_ret
                exact ⟨rfl, HB3.out⟩
              · have e3 : decide ((c.toNat : Int) < 32) = false := decide_eq_false (by omega)
                have i3 : ¬ (c.toNat : Int) < 32 := by omega
                by_cases q127 : c.toNat = 127
                · have e4 : ((c.toNat : Int) == 127) = true := by rw [q127]; rfl
                  clear q9 q32 q127
                  go_wp2
                  go_ret
                  exact ⟨rfl, HB3.out⟩
                · have e4 : ((c.toNat : Int) == 127) = false := beq_eq_false_iff_ne.2 (by omega)
                  have HOk : Hid (okQ c = true) := Lib.hid (by simp [okQ]; omega)
                  by_cases q34 : c.toNat = 34
                  · have HZ := Lib.hid (HZ2.out (.inl (byte_eq q34 (by decide))))
                    have e5 : ((c.toNat : Int) == 34) = true := by rw [q34]; rfl
                    clear q9 q32 q127 q34
                    go_wp2
                    go_roundw
                    case rel => exact ⟨k + 1, by omega, by go_num, congrArg Value.string HZ.out, Lib.hid (HQ2.out HOk.out), trivial⟩
                    case measure => simp [intOf]; omega
                  · have e5 : ((c.toNat : Int) == 34) = false := beq_eq_false_iff_ne.2 (by omega)
                    by_cases q92 : c.toNat = 92
                    · have HZ := Lib.hid (HZ2.out (.inr (byte_eq q92 (by decide))))
                      have e6 : ((c.toNat : Int) == 92) = true := by rw [q92]; rfl
                      clear q9 q32 q127 q34 q92
                      go_wp2
                      go_roundw
                      case rel => exact ⟨k + 1, by omega, by go_num, congrArg Value.string HZ.out, Lib.hid (HQ2.out HOk.out), trivial⟩
                      case measure => simp [intOf]; omega
                    · have e6 : ((c.toNat : Int) == 92) = false := beq_eq_false_iff_ne.2 (by omega)
                      have HZ : Hid (asB (escQ (s.data.toList.take k)) ++ s.extract k (k + 1) = asB (escQ (s.data.toList.take (k + 1)))) := Lib.hid (by
                        rcases HZ1.out with h | rfl | rfl
                        · exact h
                        · exact absurd rfl q34
                        · exact absurd rfl q92)
                      clear q9 q32 q127 q34 q92
                      go_wp2
                      go_roundw
                      case rel => exact ⟨k + 1, by omega, by go_num, congrArg Value.string HZ.out, Lib.hid (HQ2.out HOk.out), trivial⟩
                      case measure => simp [intOf]; omega
          · have hk' : s.data.toList.take k = s.data.toList := List.take_of_length_le (by rw [lenB]; omega)
            have hz : (asB (escQ s.data.toList)).size ≤ 60000 := by
              have := esc_len s.data.toList
              rw [lenB] at this
              have := HLs.out
              rw [asB_size]; omega
            rw [hk'] at HQ ⊢
            have HI2 := Lib.hid (HIs.out W3 HQ.out)
            obtain ⟨Q, HQq⟩ : ∃ Q, Hid (asB (escQ s.data.toList) = Q) := ⟨_, Lib.hid rfl⟩
            rw [HQq.out] at HI2 hz ⊢
            clear hk'
            go_wp2_with fail
            refine HI2.out.mono ?_
            rintro e w5 ⟨rfl, b5⟩
            have HB5 := Lib.hid (HB3.out.trans (b5.mono HB3.out.size))
            clear b5
            go_wp2
            go_ret
            exact ⟨rfl, HB5.out⟩

end Go.Proofs.YthffgnlebljkcaaDoor
