/-
  The walk of SetcookieFirst.
-/
import Derived.Test.YtblofndehbagnaaGreatDoorScI
import Derived.Test.YtblofndehbagnaaGreatDoorScT
import Derived.Test.YtblofndehbagnaaGreatDoorBeyond
namespace Go.Proofs.YtblofndehbagnaaGreatDoor
open Go.RowKit

theorem asB_zero {l : List UInt8} : (asB l).size = 0 ↔ l = [] := by rw [asB_size, List.length_eq_zero_iff]
/-- What a text without semicolons tells. -/
theorem one_prs (l : List UInt8) (h : ∀ c ∈ l, okB c = true) (hl : l.length ≤ 65536) : prsL l = prsF [asB l] := by
  have hc : ¬ l.any ctlB = true := fun h' => by
    obtain ⟨c, hc, hb⟩ := List.any_eq_true.1 h'
    rw [(okB_iff.1 (h c hc)).2] at hb; cases hb
  unfold prsL
  rw [if_neg (by omega), if_neg hc, parts_none 59 l fun c hc => (okB_iff.1 (h c hc)).1]
  rfl
theorem prs_long {l : List UInt8} (h : 65536 < l.length) : prsL l = (ck0, 3) := by unfold prsL; rw [if_pos h]
theorem pair_prs (a b : List UInt8) (ha : ∀ c ∈ a, okB c = true ∧ c ≠ 61) (hb : ∀ c ∈ b, okB c = true) (hl : a.length + b.length ≤ 65535) :
    prsL (a ++ 61 :: b) = if 4096 < (trimL a).length + (trimL b).length then (ck0, 3) else if trimL a = [] ∧ trimL b = [] then (ck0, 4) else ({ ck0 with nm := asB (trimL a), vl := asB (trimL b) }, 0) := by
  rw [one_prs _ (fun c hc => by
    rcases List.mem_append.1 hc with hc | hc
    · exact (ha c hc).1
    · rcases List.mem_cons.1 hc with rfl | hc
      · decide
      · exact hb c hc) (by simp; omega)]
  obtain ⟨h1, h2⟩ := first_at a b fun c hc => (ha c hc).2
  unfold prsF
  simp only [h1, h2, asB_size, List.length_eq_zero_iff, List.foldl_nil]
theorem name_prs (a : List UInt8) (ha : ∀ c ∈ a, okB c = true ∧ c ≠ 61) (hl : a.length ≤ 65535) :
    prsL a = if 4096 < (trimL a).length then (ck0, 3) else if trimL a = [] then (ck0, 4) else ({ ck0 with vl := asB (trimL a) }, 0) := by
  rw [one_prs a (fun c hc => (ha c hc).1) (by omega)]
  obtain ⟨h1, h2⟩ := first_not a fun c hc => (ha c hc).2
  unfold prsF
  simp only [h1, h2, asB_size, List.length_eq_zero_iff, List.foldl_nil]
  rw [show noB.size = 0 from rfl, Nat.zero_add]
  simp only [true_and]
  rfl
/-- A byte that ends the law's look. -/
def badF (name : ByteArray) (k : Nat) (c : UInt8) : Prop := c = 59 ∨ c.toNat < 32 ∨ c = 127 ∨ (k < name.size ∧ c = 61)
theorem byte_eq (c : UInt8) (n : Nat) (hn : n < 256) : ((c.toNat : Int) == (n : Int)) = decide (c = UInt8.ofNat n) := by
  rw [Bool.eq_iff_iff, beq_iff_eq, decide_eq_true_eq]
  constructor
  · intro h
    exact UInt8.toNat_inj.1 (by rw [UInt8.toNat_ofNat']; omega)
  · rintro rfl
    rw [UInt8.toNat_ofNat']; omega

theorem clean_of {name value A : ByteArray} (hA : name ++ value = A) (h : ∀ j, j < A.size → ∀ (hj : j < A.size), ¬ badF name j A[j]) :
    (∀ c ∈ name.data.toList, okB c = true ∧ c ≠ 61) ∧ ∀ c ∈ value.data.toList, okB c = true := by
  have hl : A.data.toList = name.data.toList ++ value.data.toList := by rw [← hA, ByteArray.data_append, Array.toList_append]
  have hg : ∀ c : UInt8, ¬ (c = 59 ∨ c.toNat < 32 ∨ c = 127) → okB c = true := fun c hc => by
    refine okB_iff.2 ⟨fun e => hc (.inl e), ?_⟩
    unfold ctlB
    have h1 : (c.toNat == 127) = false := beq_eq_false_iff_ne.2 fun e => hc (.inr (.inr (UInt8.toNat_inj.1 e)))
    have h2 : decide (c.toNat < 32) = false := decide_eq_false fun e => hc (.inr (.inl e))
    rw [h1, h2]; rfl
  have hat : ∀ (j : Nat) (hj : j < A.size), A[j] = A.data.toList[j]'(by rw [lenB]; exact hj) := fun j hj => by simp [ByteArray.getElem_eq_getElem_data]
  constructor
  · intro c hc
    obtain ⟨j, hj, rfl⟩ := List.mem_iff_getElem.1 hc
    have hjn : j < name.size := by rw [← lenB]; exact hj
    have hjA : j < A.size := by rw [← lenB, hl, List.length_append]; omega
    have := h j hjA hjA
    have e : A[j] = name.data.toList[j] := by
      rw [hat j hjA]
      simp only [hl]
      exact List.getElem_append_left hj
    rw [e] at this
    exact ⟨hg _ fun hb => this (by rcases hb with hb | hb | hb; exact .inl hb; exact .inr (.inl hb); exact .inr (.inr (.inl hb))), fun hb => this (.inr (.inr (.inr ⟨hjn, hb⟩)))⟩
  · intro c hc
    obtain ⟨j, hj, rfl⟩ := List.mem_iff_getElem.1 hc
    have hjA : name.data.toList.length + j < A.size := by rw [← lenB, hl, List.length_append]; omega
    have := h _ hjA hjA
    have e : A[name.data.toList.length + j] = value.data.toList[j] := by
      rw [hat _ hjA]
      simp only [hl]
      rw [List.getElem_append_right (by omega)]
      congr 1; omega
    rw [e] at this
    exact hg _ fun hb => this (by rcases hb with hb | hb | hb; exact .inl hb; exact .inr (.inl hb); exact .inr (.inr (.inl hb)))

set_option maxHeartbeats 4000000 in
set_option maxRecDepth 100000 in
theorem kfirst_walk (name value : ByteArray) (hn1 : name.size ≤ 140737488355328) (hv1 : value.size ≤ 140737488355328) (m : Int) (w : World) (hw : DtG m w) :
    Calls Tryz.prog 8 #[.string name, .string value] w fun e w' => e = .returned (.bool true) ∧ Below w.heap.size w w' := by
  have HG := Lib.hid hw
  have HAl := Lib.hid fun w hw => alive10_any m w hw
  by_cases hbig : 1048576 < name.size + value.size
  · clear hw
    go_enter Tryz.func8, Tryz.ntmps8
    go_wp2_with fail
    refine (HAl.out _ HG.out).mono ?_
    rintro e w1 ⟨rfl, b1⟩
    have HB1 := Lib.hid b1
    clear b1
    have hc0 : (w1.alloc (.cells #[.int .i64 (name.size : Int), .int .i64 (value.size : Int)] 3)).cell? ⟨w1.heap.size, 0, none⟩ = some (.int .i64 (name.size : Int)) := by rw [World.cell?_alloc_at _ _ _ _ rfl]; rfl
    have hc1 : (w1.alloc (.cells #[.int .i64 (name.size : Int), .int .i64 (value.size : Int)] 3)).cell? ⟨w1.heap.size, 1, none⟩ = some (.int .i64 (value.size : Int)) := by rw [World.cell?_alloc_at _ _ _ _ rfl]; rfl
    have HBy := Lib.hid (Beyond2_yes w1.heap.size name.size value.size _ hc0 hc1 hbig (by unfold maxLen; omega))
    clear hc0 hc1
    go_wp2_with fail
    refine HBy.out.mono ?_
    rintro e w3 ⟨rfl, rfl⟩
    have HB3 : Hid (Below w.heap.size w (w1.alloc (.cells #[.int .i64 (name.size : Int), .int .i64 (value.size : Int)] 3))) := Lib.hid (HB1.out.alloc HB1.out.size _)
    go_wp2_with fail
    refine (HAl.out _ (HG.out.below HB3.out)).mono ?_
    rintro e w4 ⟨rfl, b4⟩
    go_wp2
    go_ret
    exact ⟨rfl, HB3.out.trans (b4.mono HB3.out.size)⟩
  obtain ⟨A, HAV⟩ : ∃ A, Hid (name ++ value = A) := ⟨_, Lib.hid rfl⟩
  have hAs : name.size + value.size = A.size := by rw [← HAV.out, ByteArray.size_append]
  have hA2 : A.size ≤ 1048576 := by omega
  have HAs := Lib.hid hAs
  clear hw hAs
  go_enter Tryz.func8, Tryz.ntmps8
  go_wp2_with fail
  refine (HAl.out _ HG.out).mono ?_
  rintro e w1 ⟨rfl, b1⟩
  have HB1 := Lib.hid b1
  clear b1
  have hc0 : (w1.alloc (.cells #[.int .i64 (name.size : Int), .int .i64 (value.size : Int)] 3)).cell? ⟨w1.heap.size, 0, none⟩ = some (.int .i64 (name.size : Int)) := by rw [World.cell?_alloc_at _ _ _ _ rfl]; rfl
  have hc1 : (w1.alloc (.cells #[.int .i64 (name.size : Int), .int .i64 (value.size : Int)] 3)).cell? ⟨w1.heap.size, 1, none⟩ = some (.int .i64 (value.size : Int)) := by rw [World.cell?_alloc_at _ _ _ _ rfl]; rfl
  have HBy := Lib.hid (Beyond2_no w1.heap.size name.size value.size _ hc0 hc1 (by omega))
  clear hc0 hc1
  go_wp2_with fail
  refine HBy.out.mono ?_
  rintro e w3 ⟨rfl, rfl⟩
  have HB3 : Hid (Below w.heap.size w (w1.alloc (.cells #[.int .i64 (name.size : Int), .int .i64 (value.size : Int)] 3))) := Lib.hid (HB1.out.alloc HB1.out.size _)
  go_upto_region 4 with (fail)
  rw [HAV.out]
  go_wp2
  go_loop [6] (fun i => ∃ k : Nat, k ≤ A.size ∧ i = .int .i64 k ∧ Hid (∀ j, j < k → ∀ (hj : j < A.size), ¬ badF name j A[j])) (fun i => A.size - (intOf i).toNat)
  case atStart => exact ⟨0, Nat.zero_le _, rfl, Lib.hid fun j hj => absurd hj (by omega)⟩
  case round =>
    obtain ⟨k, hk, rfl, HN⟩ := hrel
    by_cases hlt : k < A.size
    · have hby := byte_lt A[k]
      have hkI : (k : Int) < (A.size : Int) := by omega
      have q1 := byte_eq A[k] 59 (by decide)
      have q2 := byte_eq A[k] 127 (by decide)
      have q3 := byte_eq A[k] 61 (by decide)
      by_cases h1 : A[k] = 59
      · have e1 : ((A[k].toNat : Int) == 59) = true := by rw [h1]; rfl
        clear q1 q2 q3 h1
        go_wp2
        go_ret
        exact ⟨rfl, HB3.out⟩
      · have e1 : ((A[k].toNat : Int) == 59) = false := by rw [show (59 : Int) = ((59 : Nat) : Int) from rfl, q1]; exact decide_eq_false h1
        by_cases h2 : A[k].toNat < 32
        · have e2 : (A[k].toNat : Int) < 32 := by omega
          have e2b : decide ((A[k].toNat : Int) < 32) = true := decide_eq_true e2
          clear q1 q2 q3 h1 h2
          go_wp2
          go_ret
          exact ⟨rfl, HB3.out⟩
        · have e2 : (32 : Int) ≤ (A[k].toNat : Int) := by omega
          have e2b : decide ((A[k].toNat : Int) < 32) = false := decide_eq_false (by omega)
          by_cases h3 : A[k] = 127
          · have e3 : ((A[k].toNat : Int) == 127) = true := by rw [h3]; rfl
            clear q1 q2 q3 h1 h2 h3
            go_wp2
            go_ret
            exact ⟨rfl, HB3.out⟩
          · have e3 : ((A[k].toNat : Int) == 127) = false := by rw [show (127 : Int) = ((127 : Nat) : Int) from rfl, q2]; exact decide_eq_false h3
            by_cases h4 : k < name.size
            · have e4 : (k : Int) < (name.size : Int) := by omega
              have e4b : decide (k < name.size) = true := decide_eq_true h4
              by_cases h5 : A[k] = 61
              · have e5 : ((A[k].toNat : Int) == 61) = true := by rw [h5]; rfl
                clear q1 q2 q3 h1 h2 h3 h5
                go_wp2
                go_ret
                exact ⟨rfl, HB3.out⟩
              · have e5 : ((A[k].toNat : Int) == 61) = false := by rw [show (61 : Int) = ((61 : Nat) : Int) from rfl, q3]; exact decide_eq_false h5
                have HN2 : Hid (∀ j, j < k + 1 → ∀ (hj : j < A.size), ¬ badF name j A[j]) := Lib.hid fun j hj hjA hb => by
                  by_cases hjk : j < k
                  · exact HN.out j hjk hjA hb
                  · obtain rfl : j = k := by omega
                    rcases hb with hb | hb | hb | ⟨_, hb⟩
                    · exact h1 hb
                    · exact h2 hb
                    · exact h3 hb
                    · exact h5 hb
                clear q1 q2 q3 h1 h2 h3 h5
                go_wp2
                exact ⟨⟨k + 1, by omega, by go_num, HN2⟩, by simp [intOf]; omega⟩
            · have e4 : (name.size : Int) ≤ (k : Int) := by omega
              have e4b : decide (k < name.size) = false := decide_eq_false h4
              have HN2 : Hid (∀ j, j < k + 1 → ∀ (hj : j < A.size), ¬ badF name j A[j]) := Lib.hid fun j hj hjA hb => by
                by_cases hjk : j < k
                · exact HN.out j hjk hjA hb
                · obtain rfl : j = k := by omega
                  rcases hb with hb | hb | hb | ⟨hb, _⟩
                  · exact h1 hb
                  · exact h2 hb
                  · exact h3 hb
                  · exact h4 hb
              clear q1 q2 q3 h1 h2 h3 h4
              go_wp2
              exact ⟨⟨k + 1, by omega, by go_num, HN2⟩, by simp [intOf]; omega⟩
    · obtain rfl : k = A.size := by omega
      have HNN := HN.out
      clear HN hlt
      obtain ⟨hok1, hok2⟩ := clean_of HAV.out HNN
      clear HNN
      have hAI : (A.size : Int) ≤ 1048576 := by omega
      have hAs := HAs.out
      have HT1 := Lib.hid fun w => Trim_any name w (by unfold maxLen; omega)
      have HT2 := Lib.hid fun w => Trim_any value w (by unfold maxLen; omega)
      have hNl : (trimA name).data.toList = trimL name.data.toList := rfl
      have hVl : (trimA value).data.toList = trimL value.data.toList := rfl
      have hNs := trimA_le name
      have hVs := trimA_le value
      have hN2 : (trimA name).size ≤ 1048576 := by have := HAs.out; omega
      have hV2 : (trimA value).size ≤ 1048576 := by have := HAs.out; omega
      have hP1 := prsC_eq (name ++ ⟨#[61]⟩ ++ value)
      have hl1 : (name ++ (⟨#[61]⟩ : ByteArray) ++ value).data.toList = name.data.toList ++ 61 :: value.data.toList := by
        rw [ByteArray.data_append, ByteArray.data_append, Array.toList_append, Array.toList_append]; simp
      rw [hl1] at hP1
      have hP2 := prsC_eq name
      have HPa := Lib.hid fun s w hw => Parse_any s m w hw
      have ln := lenB name
      have lv := lenB value
      have hss : (name ++ (⟨#[61]⟩ : ByteArray)).size ≤ 1048577 := by rw [ByteArray.size_append]; show name.size + 1 ≤ _; omega
      have hss2 : (name ++ (⟨#[61]⟩ : ByteArray)).size + value.size ≤ 2097153 := by omega
      obtain ⟨S0, HS0⟩ : ∃ S, Hid (name ++ (⟨#[61]⟩ : ByteArray) = S) := ⟨_, Lib.hid rfl⟩
      rw [HS0.out] at hP1 hss hss2
      clear hl1
      obtain ⟨S1, HS1⟩ : ∃ S, Hid (S0 ++ value = S) := ⟨_, Lib.hid rfl⟩
      rw [HS1.out] at hP1
      have lN := lenB (trimA name)
      have lV := lenB (trimA value)
      rw [hNl] at lN
      rw [hVl] at lV

      by_cases hA : 4096 < (trimA name).size + (trimA value).size
      · have h1 : (prsC S1).2 = 3 := by
          by_cases hlong : 65535 < A.size
          · rw [hP1, prs_long (by simp; omega)]
          · rw [hP1, pair_prs _ _ hok1 hok2 (by omega), if_pos (by omega)]
        obtain ⟨U1, HU1⟩ : ∃ U, Hid (prsC S1 = (U, 3)) := ⟨(prsC S1).1, Lib.hid (Prod.ext rfl (h1))⟩
        obtain ⟨U2, c2, HU2⟩ : ∃ U c, Hid (prsC name = (U, c)) := ⟨_, _, Lib.hid rfl⟩
        obtain ⟨C1, HC1, HC1s, HC11⟩ : ∃ C, Hid (ckR U1 = C) ∧ Hid (C.size = 11) ∧ Hid (C.all (·.oneCell') = true) := ⟨_, Lib.hid rfl, Lib.hid rfl, Lib.hid (ckR_one _)⟩
        obtain ⟨C2, HC2, HC2s, HC21⟩ : ∃ C, Hid (ckR U2 = C) ∧ Hid (C.size = 11) ∧ Hid (C.all (·.oneCell') = true) := ⟨_, Lib.hid rfl, Lib.hid rfl, Lib.hid (ckR_one _)⟩
        have HP1 : Hid (∀ w', DtC0 m w' → Calls Tryz.prog 11 #[.string S1] w' fun e w'' => e = .returned (.tuple #[.agg C1, .int .i64 3]) ∧ Below w'.heap.size w' w'') := Lib.hid fun w' h => by
          have := HPa.out S1 w' h
          rw [HU1.out] at this
          rw [← HC1.out]; exact this
        have HP2 : Hid (∀ w', DtC0 m w' → Calls Tryz.prog 11 #[.string name] w' fun e w'' => e = .returned (.tuple #[.agg C2, .int .i64 c2]) ∧ Below w'.heap.size w' w'') := Lib.hid fun w' h => by
          have := HPa.out name w' h
          rw [HU2.out] at this
          rw [← HC2.out]; exact this
        have hAIn : (4096 : Int) < (((trimA name).size : Int) + ((trimA value).size : Int)) := by omega
        generalize trimA name = N at *
        generalize trimA value = V at *
        clear hAs hP1 hP2 h1 hok1 hok2 hNl hVl hNs hVs ln lv lN lV hA
        go_wp2_with fail
        refine (HT1.out _).mono ?_
        rintro e w4 ⟨rfl, b4⟩
        have HB4 := Lib.hid (HB3.out.trans (b4.mono HB3.out.size))
        clear b4
        go_wp2_with fail
        refine (HT2.out _).mono ?_
        rintro e w5 ⟨rfl, b5⟩
        have HB5 := Lib.hid (HB4.out.trans (b5.mono HB4.out.size))
        clear b5
        go_wp2_with fail
        rw [HS0.out, HS1.out]
        refine (HP1.out _ (HG.out.below HB5.out).c0).mono ?_
        rintro e w6 ⟨rfl, b6⟩
        have HB6 := Lib.hid (HB5.out.trans (b6.mono HB5.out.size))
        clear b6
        have HA7 : Hid ((w6.alloc (.cells (ckR ck0) 24)).heap[w6.heap.size]? = some (.cells (ckR ck0) 24 (0, 0))) := Lib.hid (heap_alloc_new w6 _)
        obtain ⟨W7, HW7⟩ : ∃ W, Hid ((w6.alloc (.cells #[.string ⟨#[]⟩, .string ⟨#[]⟩, .string ⟨#[]⟩, .string ⟨#[]⟩, .int .i64 0, .bool false, .int .i64 0, .bool false, .bool false, .bool false, .int .u8 0] 24)).setRow w6.heap.size C1 = W) := ⟨_, Lib.hid rfl⟩
        have HD7 : Hid (W7.heap[w6.heap.size]? = some (.cells C1 24 (0, 0))) := Lib.hid (by rw [← HW7.out]; exact setRow_heap _ _ _ _ _ _ HA7.out)
        have HB7 : Hid (Below w.heap.size w W7) := Lib.hid (by rw [← HW7.out]; exact sc_below (HB6.out.alloc HB6.out.size _) _ _ HB6.out.size)
        go_wp2_with (refine wpL_store_row rfl 24 _ _ rfl w6.heap.size C1 ?_ ?_ 24 (ckR ck0) ?_ ?_ ?_ ?_ ?_; exact rfl; exact rfl; (exact HA7.out); (rw [HC1s.out]; exact infoTo); (rw [HC1s.out]; rfl); exact HC11.out; rw [HW7.out])
        refine (HP2.out _ (HG.out.below HB7.out).c0).mono ?_
        rintro e w8 ⟨rfl, b8⟩
        have HB8 := Lib.hid (HB7.out.trans (b8.mono HB7.out.size))
        have HD8 : Hid (w8.heap[w6.heap.size]? = some (.cells C1 24 (0, 0))) := Lib.hid ((b8.block _ (lt_of_block HD7.out)).trans HD7.out)
        clear b8
        have HA9 : Hid ((w8.alloc (.cells (ckR ck0) 24)).heap[w8.heap.size]? = some (.cells (ckR ck0) 24 (0, 0))) := Lib.hid (heap_alloc_new w8 _)
        have hlt8 : w6.heap.size < w8.heap.size := lt_of_block HD8.out
        obtain ⟨W9, HW9⟩ : ∃ W, Hid ((w8.alloc (.cells #[.string ⟨#[]⟩, .string ⟨#[]⟩, .string ⟨#[]⟩, .string ⟨#[]⟩, .int .i64 0, .bool false, .int .i64 0, .bool false, .bool false, .bool false, .int .u8 0] 24)).setRow w8.heap.size C2 = W) := ⟨_, Lib.hid rfl⟩
        have HE9 : Hid (W9.heap[w8.heap.size]? = some (.cells C2 24 (0, 0))) := Lib.hid (by rw [← HW9.out]; exact setRow_heap _ _ _ _ _ _ HA9.out)
        have HD9 : Hid (W9.heap[w6.heap.size]? = some (.cells C1 24 (0, 0))) := Lib.hid (by rw [← HW9.out, setRow_other _ _ _ _ (by omega)]; exact (Below.heap_alloc _ _ _ hlt8).trans HD8.out)
        have HB9 : Hid (Below w.heap.size w W9) := Lib.hid (by rw [← HW9.out]; exact sc_below (HB8.out.alloc HB8.out.size _) _ _ HB8.out.size)
        clear hlt8
        go_wp2_with (first
          | (refine wpL_store_row rfl 24 _ _ rfl w8.heap.size C2 ?_ ?_ 24 (ckR ck0) ?_ ?_ ?_ ?_ ?_; exact rfl; exact rfl; (exact HA9.out); (rw [HC2s.out]; exact infoTo); (rw [HC2s.out]; rfl); exact HC21.out; rw [HW9.out]))
        go_ret
        exact ⟨rfl, HB9.out⟩
      · by_cases hB : 65535 < A.size
        · have h1 : (prsC S1).2 = 3 := by rw [hP1, prs_long (by simp; omega)]
          obtain ⟨U1, HU1⟩ : ∃ U, Hid (prsC S1 = (U, 3)) := ⟨(prsC S1).1, Lib.hid (Prod.ext rfl (h1))⟩
          obtain ⟨U2, c2, HU2⟩ : ∃ U c, Hid (prsC name = (U, c)) := ⟨_, _, Lib.hid rfl⟩
          obtain ⟨C1, HC1, HC1s, HC11⟩ : ∃ C, Hid (ckR U1 = C) ∧ Hid (C.size = 11) ∧ Hid (C.all (·.oneCell') = true) := ⟨_, Lib.hid rfl, Lib.hid rfl, Lib.hid (ckR_one _)⟩
          obtain ⟨C2, HC2, HC2s, HC21⟩ : ∃ C, Hid (ckR U2 = C) ∧ Hid (C.size = 11) ∧ Hid (C.all (·.oneCell') = true) := ⟨_, Lib.hid rfl, Lib.hid rfl, Lib.hid (ckR_one _)⟩
          have HP1 : Hid (∀ w', DtC0 m w' → Calls Tryz.prog 11 #[.string S1] w' fun e w'' => e = .returned (.tuple #[.agg C1, .int .i64 3]) ∧ Below w'.heap.size w' w'') := Lib.hid fun w' h => by
            have := HPa.out S1 w' h
            rw [HU1.out] at this
            rw [← HC1.out]; exact this
          have HP2 : Hid (∀ w', DtC0 m w' → Calls Tryz.prog 11 #[.string name] w' fun e w'' => e = .returned (.tuple #[.agg C2, .int .i64 c2]) ∧ Below w'.heap.size w' w'') := Lib.hid fun w' h => by
            have := HPa.out name w' h
            rw [HU2.out] at this
            rw [← HC2.out]; exact this
          have hAIn : ¬ (4096 : Int) < (((trimA name).size : Int) + ((trimA value).size : Int)) := by omega
          have hBI : (65535 : Int) < (A.size : Int) := by omega
          have hAb : decide ((4096 : Int) < (((trimA name).size : Int) + ((trimA value).size : Int))) = false := decide_eq_false hAIn
          generalize trimA name = N at *
          generalize trimA value = V at *
          clear hAs hP1 hP2 h1 hok1 hok2 hNl hVl hNs hVs ln lv lN lV hA hB
          go_wp2_with fail
          refine (HT1.out _).mono ?_
          rintro e w4 ⟨rfl, b4⟩
          have HB4 := Lib.hid (HB3.out.trans (b4.mono HB3.out.size))
          clear b4
          go_wp2_with fail
          refine (HT2.out _).mono ?_
          rintro e w5 ⟨rfl, b5⟩
          have HB5 := Lib.hid (HB4.out.trans (b5.mono HB4.out.size))
          clear b5
          go_wp2_with fail
          rw [HS0.out, HS1.out]
          refine (HP1.out _ (HG.out.below HB5.out).c0).mono ?_
          rintro e w6 ⟨rfl, b6⟩
          have HB6 := Lib.hid (HB5.out.trans (b6.mono HB5.out.size))
          clear b6
          have HA7 : Hid ((w6.alloc (.cells (ckR ck0) 24)).heap[w6.heap.size]? = some (.cells (ckR ck0) 24 (0, 0))) := Lib.hid (heap_alloc_new w6 _)
          obtain ⟨W7, HW7⟩ : ∃ W, Hid ((w6.alloc (.cells #[.string ⟨#[]⟩, .string ⟨#[]⟩, .string ⟨#[]⟩, .string ⟨#[]⟩, .int .i64 0, .bool false, .int .i64 0, .bool false, .bool false, .bool false, .int .u8 0] 24)).setRow w6.heap.size C1 = W) := ⟨_, Lib.hid rfl⟩
          have HD7 : Hid (W7.heap[w6.heap.size]? = some (.cells C1 24 (0, 0))) := Lib.hid (by rw [← HW7.out]; exact setRow_heap _ _ _ _ _ _ HA7.out)
          have HB7 : Hid (Below w.heap.size w W7) := Lib.hid (by rw [← HW7.out]; exact sc_below (HB6.out.alloc HB6.out.size _) _ _ HB6.out.size)
          go_wp2_with (refine wpL_store_row rfl 24 _ _ rfl w6.heap.size C1 ?_ ?_ 24 (ckR ck0) ?_ ?_ ?_ ?_ ?_; exact rfl; exact rfl; (exact HA7.out); (rw [HC1s.out]; exact infoTo); (rw [HC1s.out]; rfl); exact HC11.out; rw [HW7.out])
          refine (HP2.out _ (HG.out.below HB7.out).c0).mono ?_
          rintro e w8 ⟨rfl, b8⟩
          have HB8 := Lib.hid (HB7.out.trans (b8.mono HB7.out.size))
          have HD8 : Hid (w8.heap[w6.heap.size]? = some (.cells C1 24 (0, 0))) := Lib.hid ((b8.block _ (lt_of_block HD7.out)).trans HD7.out)
          clear b8
          have HA9 : Hid ((w8.alloc (.cells (ckR ck0) 24)).heap[w8.heap.size]? = some (.cells (ckR ck0) 24 (0, 0))) := Lib.hid (heap_alloc_new w8 _)
          have hlt8 : w6.heap.size < w8.heap.size := lt_of_block HD8.out
          obtain ⟨W9, HW9⟩ : ∃ W, Hid ((w8.alloc (.cells #[.string ⟨#[]⟩, .string ⟨#[]⟩, .string ⟨#[]⟩, .string ⟨#[]⟩, .int .i64 0, .bool false, .int .i64 0, .bool false, .bool false, .bool false, .int .u8 0] 24)).setRow w8.heap.size C2 = W) := ⟨_, Lib.hid rfl⟩
          have HE9 : Hid (W9.heap[w8.heap.size]? = some (.cells C2 24 (0, 0))) := Lib.hid (by rw [← HW9.out]; exact setRow_heap _ _ _ _ _ _ HA9.out)
          have HD9 : Hid (W9.heap[w6.heap.size]? = some (.cells C1 24 (0, 0))) := Lib.hid (by rw [← HW9.out, setRow_other _ _ _ _ (by omega)]; exact (Below.heap_alloc _ _ _ hlt8).trans HD8.out)
          have HB9 : Hid (Below w.heap.size w W9) := Lib.hid (by rw [← HW9.out]; exact sc_below (HB8.out.alloc HB8.out.size _) _ _ HB8.out.size)
          clear hlt8
          go_wp2_with (first
            | (refine wpL_store_row rfl 24 _ _ rfl w8.heap.size C2 ?_ ?_ 24 (ckR ck0) ?_ ?_ ?_ ?_ ?_; exact rfl; exact rfl; (exact HA9.out); (rw [HC2s.out]; exact infoTo); (rw [HC2s.out]; rfl); exact HC21.out; rw [HW9.out]))
          go_ret
          exact ⟨rfl, HB9.out⟩
        · have h1 := pair_prs _ _ hok1 hok2 (by omega)
          rw [← hP1, if_neg (by omega)] at h1
          have h2 := name_prs _ hok1 (by omega)
          rw [← hP2, if_neg (by omega)] at h2
          by_cases hN : (trimA name).size = 0
          · have hN1 : trimL name.data.toList = [] := List.length_eq_zero_iff.1 (by omega)
            rw [if_pos hN1] at h2
            by_cases hV : (trimA value).size = 0
            · have hV1 : trimL value.data.toList = [] := List.length_eq_zero_iff.1 (by omega)
              rw [if_pos ⟨hN1, hV1⟩] at h1
              obtain ⟨U1, HU1⟩ : ∃ U, Hid (prsC S1 = (U, 4)) := ⟨_, Lib.hid h1⟩
              obtain ⟨U2, HU2⟩ : ∃ U, Hid (prsC name = (U, 4)) := ⟨_, Lib.hid h2⟩
              obtain ⟨C1, HC1, HC1s, HC11⟩ : ∃ C, Hid (ckR U1 = C) ∧ Hid (C.size = 11) ∧ Hid (C.all (·.oneCell') = true) := ⟨_, Lib.hid rfl, Lib.hid rfl, Lib.hid (ckR_one _)⟩
              obtain ⟨C2, HC2, HC2s, HC21⟩ : ∃ C, Hid (ckR U2 = C) ∧ Hid (C.size = 11) ∧ Hid (C.all (·.oneCell') = true) := ⟨_, Lib.hid rfl, Lib.hid rfl, Lib.hid (ckR_one _)⟩
              have HP1 : Hid (∀ w', DtC0 m w' → Calls Tryz.prog 11 #[.string S1] w' fun e w'' => e = .returned (.tuple #[.agg C1, .int .i64 4]) ∧ Below w'.heap.size w' w'') := Lib.hid fun w' h => by
                have := HPa.out S1 w' h
                rw [HU1.out] at this
                rw [← HC1.out]; exact this
              have HP2 : Hid (∀ w', DtC0 m w' → Calls Tryz.prog 11 #[.string name] w' fun e w'' => e = .returned (.tuple #[.agg C2, .int .i64 4]) ∧ Below w'.heap.size w' w'') := Lib.hid fun w' h => by
                have := HPa.out name w' h
                rw [HU2.out] at this
                rw [← HC2.out]; exact this
              have hAIn : ¬ (4096 : Int) < (((trimA name).size : Int) + ((trimA value).size : Int)) := by omega
              have hBI : ¬ (65535 : Int) < (A.size : Int) := by omega
              have hAb : decide ((4096 : Int) < (((trimA name).size : Int) + ((trimA value).size : Int))) = false := decide_eq_false hAIn
              obtain ⟨a1, a2, aN⟩ := str_empty hN
              obtain ⟨v1, v2, vV⟩ := str_empty hV
              clear aN vV hN1 hV1
              generalize trimA name = N at *
              generalize trimA value = V at *
              clear hAs hP1 hP2 h1 hok1 hok2 hNl hVl hNs hVs ln lv lN lV h2 hA hB hN hV
              go_wp2_with fail
              refine (HT1.out _).mono ?_
              rintro e w4 ⟨rfl, b4⟩
              have HB4 := Lib.hid (HB3.out.trans (b4.mono HB3.out.size))
              clear b4
              go_wp2_with fail
              refine (HT2.out _).mono ?_
              rintro e w5 ⟨rfl, b5⟩
              have HB5 := Lib.hid (HB4.out.trans (b5.mono HB4.out.size))
              clear b5
              go_wp2_with fail
              rw [HS0.out, HS1.out]
              refine (HP1.out _ (HG.out.below HB5.out).c0).mono ?_
              rintro e w6 ⟨rfl, b6⟩
              have HB6 := Lib.hid (HB5.out.trans (b6.mono HB5.out.size))
              clear b6
              have HA7 : Hid ((w6.alloc (.cells (ckR ck0) 24)).heap[w6.heap.size]? = some (.cells (ckR ck0) 24 (0, 0))) := Lib.hid (heap_alloc_new w6 _)
              obtain ⟨W7, HW7⟩ : ∃ W, Hid ((w6.alloc (.cells #[.string ⟨#[]⟩, .string ⟨#[]⟩, .string ⟨#[]⟩, .string ⟨#[]⟩, .int .i64 0, .bool false, .int .i64 0, .bool false, .bool false, .bool false, .int .u8 0] 24)).setRow w6.heap.size C1 = W) := ⟨_, Lib.hid rfl⟩
              have HD7 : Hid (W7.heap[w6.heap.size]? = some (.cells C1 24 (0, 0))) := Lib.hid (by rw [← HW7.out]; exact setRow_heap _ _ _ _ _ _ HA7.out)
              have HB7 : Hid (Below w.heap.size w W7) := Lib.hid (by rw [← HW7.out]; exact sc_below (HB6.out.alloc HB6.out.size _) _ _ HB6.out.size)
              go_wp2_with (refine wpL_store_row rfl 24 _ _ rfl w6.heap.size C1 ?_ ?_ 24 (ckR ck0) ?_ ?_ ?_ ?_ ?_; exact rfl; exact rfl; (exact HA7.out); (rw [HC1s.out]; exact infoTo); (rw [HC1s.out]; rfl); exact HC11.out; rw [HW7.out])
              refine (HP2.out _ (HG.out.below HB7.out).c0).mono ?_
              rintro e w8 ⟨rfl, b8⟩
              have HB8 := Lib.hid (HB7.out.trans (b8.mono HB7.out.size))
              have HD8 : Hid (w8.heap[w6.heap.size]? = some (.cells C1 24 (0, 0))) := Lib.hid ((b8.block _ (lt_of_block HD7.out)).trans HD7.out)
              clear b8
              have HA9 : Hid ((w8.alloc (.cells (ckR ck0) 24)).heap[w8.heap.size]? = some (.cells (ckR ck0) 24 (0, 0))) := Lib.hid (heap_alloc_new w8 _)
              have hlt8 : w6.heap.size < w8.heap.size := lt_of_block HD8.out
              obtain ⟨W9, HW9⟩ : ∃ W, Hid ((w8.alloc (.cells #[.string ⟨#[]⟩, .string ⟨#[]⟩, .string ⟨#[]⟩, .string ⟨#[]⟩, .int .i64 0, .bool false, .int .i64 0, .bool false, .bool false, .bool false, .int .u8 0] 24)).setRow w8.heap.size C2 = W) := ⟨_, Lib.hid rfl⟩
              have HE9 : Hid (W9.heap[w8.heap.size]? = some (.cells C2 24 (0, 0))) := Lib.hid (by rw [← HW9.out]; exact setRow_heap _ _ _ _ _ _ HA9.out)
              have HD9 : Hid (W9.heap[w6.heap.size]? = some (.cells C1 24 (0, 0))) := Lib.hid (by rw [← HW9.out, setRow_other _ _ _ _ (by omega)]; exact (Below.heap_alloc _ _ _ hlt8).trans HD8.out)
              have HB9 : Hid (Below w.heap.size w W9) := Lib.hid (by rw [← HW9.out]; exact sc_below (HB8.out.alloc HB8.out.size _) _ _ HB8.out.size)
              clear hlt8
              go_wp2_with (first
                | (refine wpL_store_row rfl 24 _ _ rfl w8.heap.size C2 ?_ ?_ 24 (ckR ck0) ?_ ?_ ?_ ?_ ?_; exact rfl; exact rfl; (exact HA9.out); (rw [HC2s.out]; exact infoTo); (rw [HC2s.out]; rfl); exact HC21.out; rw [HW9.out]))
              go_ret
              exact ⟨rfl, HB9.out⟩
            · have hV1 : trimL value.data.toList ≠ [] := fun e => by rw [e] at lV; simp at lV; omega
              rw [if_neg fun h => hV1 h.2] at h1
              have hEq1 : ∀ w', (binOp .eql 24 (.agg (ckR { ck0 with nm := asB (trimL name.data.toList), vl := asB (trimL value.data.toList) })) (.agg (ckR { ck0 with nm := asB (trimL name.data.toList), vl := asB (trimL value.data.toList) }))).run Tryz.prog w' = .ok (.bool true) w' := fun w' => by rw [eqT, (ckEq_iff _ _).2 rfl]
              obtain ⟨U1, HU1, HU1e⟩ : ∃ U, Hid (prsC S1 = (U, 0)) ∧ Hid ({ ck0 with nm := asB (trimL name.data.toList), vl := asB (trimL value.data.toList) } = U) := ⟨_, Lib.hid h1, Lib.hid rfl⟩
              obtain ⟨U2, HU2⟩ : ∃ U, Hid (prsC name = (U, 4)) := ⟨_, Lib.hid h2⟩
              obtain ⟨C1, HC1, HC1s, HC11⟩ : ∃ C, Hid (ckR U1 = C) ∧ Hid (C.size = 11) ∧ Hid (C.all (·.oneCell') = true) := ⟨_, Lib.hid rfl, Lib.hid rfl, Lib.hid (ckR_one _)⟩
              obtain ⟨C2, HC2, HC2s, HC21⟩ : ∃ C, Hid (ckR U2 = C) ∧ Hid (C.size = 11) ∧ Hid (C.all (·.oneCell') = true) := ⟨_, Lib.hid rfl, Lib.hid rfl, Lib.hid (ckR_one _)⟩
              have HP1 : Hid (∀ w', DtC0 m w' → Calls Tryz.prog 11 #[.string S1] w' fun e w'' => e = .returned (.tuple #[.agg C1, .int .i64 0]) ∧ Below w'.heap.size w' w'') := Lib.hid fun w' h => by
                have := HPa.out S1 w' h
                rw [HU1.out] at this
                rw [← HC1.out]; exact this
              have HP2 : Hid (∀ w', DtC0 m w' → Calls Tryz.prog 11 #[.string name] w' fun e w'' => e = .returned (.tuple #[.agg C2, .int .i64 4]) ∧ Below w'.heap.size w' w'') := Lib.hid fun w' h => by
                have := HPa.out name w' h
                rw [HU2.out] at this
                rw [← HC2.out]; exact this
              have HEq1 : Hid (∀ w', (binOp .eql 24 (.agg C1) (.agg #[.string (trimA name), .string (trimA value), .string ⟨#[]⟩, .string ⟨#[]⟩, .int .i64 0, .bool false, .int .i64 0, .bool false, .bool false, .bool false, .int .u8 0])).run Tryz.prog w' = .ok (.bool true) w') := Lib.hid fun w' => by
                rw [← HC1.out, ← HU1e.out]; exact hEq1 w'
              have HGd1 : Hid (∀ x y w', (eqGuard .eql 24 x y (.agg C1) (.agg #[.string (trimA name), .string (trimA value), .string ⟨#[]⟩, .string ⟨#[]⟩, .int .i64 0, .bool false, .int .i64 0, .bool false, .bool false, .bool false, .int .u8 0])).run Tryz.prog w' = .ok () w') := Lib.hid fun x y w' => gd_T _ _ _ _ _ _
              obtain ⟨X1, HX1⟩ : ∃ X, Hid (Value.agg C1 = X) := ⟨_, Lib.hid rfl⟩
              rw [HX1.out] at HEq1 HGd1
              clear hEq1 HU1e
              have hAIn : ¬ (4096 : Int) < (((trimA name).size : Int) + ((trimA value).size : Int)) := by omega
              have hBI : ¬ (65535 : Int) < (A.size : Int) := by omega
              have hAb : decide ((4096 : Int) < (((trimA name).size : Int) + ((trimA value).size : Int))) = false := decide_eq_false hAIn
              obtain ⟨a1, a2, aN⟩ := str_empty hN
              obtain ⟨v1, v2, v3⟩ := str_full hV
              clear aN hN1 hV1
              generalize trimA name = N at *
              generalize trimA value = V at *
              clear hAs hP1 hP2 h1 hok1 hok2 hNl hVl hNs hVs ln lv lN lV h2 hA hB hN hV
              go_wp2_with fail
              refine (HT1.out _).mono ?_
              rintro e w4 ⟨rfl, b4⟩
              have HB4 := Lib.hid (HB3.out.trans (b4.mono HB3.out.size))
              clear b4
              go_wp2_with fail
              refine (HT2.out _).mono ?_
              rintro e w5 ⟨rfl, b5⟩
              have HB5 := Lib.hid (HB4.out.trans (b5.mono HB4.out.size))
              clear b5
              go_wp2_with fail
              rw [HS0.out, HS1.out]
              refine (HP1.out _ (HG.out.below HB5.out).c0).mono ?_
              rintro e w6 ⟨rfl, b6⟩
              have HB6 := Lib.hid (HB5.out.trans (b6.mono HB5.out.size))
              clear b6
              have HA7 : Hid ((w6.alloc (.cells (ckR ck0) 24)).heap[w6.heap.size]? = some (.cells (ckR ck0) 24 (0, 0))) := Lib.hid (heap_alloc_new w6 _)
              obtain ⟨W7, HW7⟩ : ∃ W, Hid ((w6.alloc (.cells #[.string ⟨#[]⟩, .string ⟨#[]⟩, .string ⟨#[]⟩, .string ⟨#[]⟩, .int .i64 0, .bool false, .int .i64 0, .bool false, .bool false, .bool false, .int .u8 0] 24)).setRow w6.heap.size C1 = W) := ⟨_, Lib.hid rfl⟩
              have HD7 : Hid (W7.heap[w6.heap.size]? = some (.cells C1 24 (0, 0))) := Lib.hid (by rw [← HW7.out]; exact setRow_heap _ _ _ _ _ _ HA7.out)
              have HB7 : Hid (Below w.heap.size w W7) := Lib.hid (by rw [← HW7.out]; exact sc_below (HB6.out.alloc HB6.out.size _) _ _ HB6.out.size)
              go_wp2_with (refine wpL_store_row rfl 24 _ _ rfl w6.heap.size C1 ?_ ?_ 24 (ckR ck0) ?_ ?_ ?_ ?_ ?_; exact rfl; exact rfl; (exact HA7.out); (rw [HC1s.out]; exact infoTo); (rw [HC1s.out]; rfl); exact HC11.out; rw [HW7.out])
              refine (HP2.out _ (HG.out.below HB7.out).c0).mono ?_
              rintro e w8 ⟨rfl, b8⟩
              have HB8 := Lib.hid (HB7.out.trans (b8.mono HB7.out.size))
              have HD8 : Hid (w8.heap[w6.heap.size]? = some (.cells C1 24 (0, 0))) := Lib.hid ((b8.block _ (lt_of_block HD7.out)).trans HD7.out)
              clear b8
              have HA9 : Hid ((w8.alloc (.cells (ckR ck0) 24)).heap[w8.heap.size]? = some (.cells (ckR ck0) 24 (0, 0))) := Lib.hid (heap_alloc_new w8 _)
              have hlt8 : w6.heap.size < w8.heap.size := lt_of_block HD8.out
              obtain ⟨W9, HW9⟩ : ∃ W, Hid ((w8.alloc (.cells #[.string ⟨#[]⟩, .string ⟨#[]⟩, .string ⟨#[]⟩, .string ⟨#[]⟩, .int .i64 0, .bool false, .int .i64 0, .bool false, .bool false, .bool false, .int .u8 0] 24)).setRow w8.heap.size C2 = W) := ⟨_, Lib.hid rfl⟩
              have HE9 : Hid (W9.heap[w8.heap.size]? = some (.cells C2 24 (0, 0))) := Lib.hid (by rw [← HW9.out]; exact setRow_heap _ _ _ _ _ _ HA9.out)
              have HD9 : Hid (W9.heap[w6.heap.size]? = some (.cells C1 24 (0, 0))) := Lib.hid (by rw [← HW9.out, setRow_other _ _ _ _ (by omega)]; exact (Below.heap_alloc _ _ _ hlt8).trans HD8.out)
              have HB9 : Hid (Below w.heap.size w W9) := Lib.hid (by rw [← HW9.out]; exact sc_below (HB8.out.alloc HB8.out.size _) _ _ HB8.out.size)
              clear hlt8
              go_wp2_with (first
                | (refine wpL_store_row rfl 24 _ _ rfl w8.heap.size C2 ?_ ?_ 24 (ckR ck0) ?_ ?_ ?_ ?_ ?_; exact rfl; exact rfl; (exact HA9.out); (rw [HC2s.out]; exact infoTo); (rw [HC2s.out]; rfl); exact HC21.out; rw [HW9.out])
                | (refine scW_load rfl 24 _ rfl w6.heap.size ?_ 24 C1 (0, 0) _ ?_ Tryz.underlying24 rfl ?_ ?_; (exact rfl); (exact HD9.out); (rw [HC1s.out]; exact infoTo); rw [HX1.out])
                | (refine scW_bin rfl .eql 24 24 (.tmp 107) (.tmp 110) rfl (.bool true) ?_ ?_ ?_; exact HGd1.out _ _ _; exact HEq1.out _))
              go_ret
              exact ⟨rfl, HB9.out⟩
          · have hN1 : trimL name.data.toList ≠ [] := fun e => by rw [e] at lN; simp at lN; omega
            rw [if_neg fun h => hN1 h.1] at h1
            rw [if_neg hN1] at h2
            have hEq1 : ∀ w', (binOp .eql 24 (.agg (ckR { ck0 with nm := asB (trimL name.data.toList), vl := asB (trimL value.data.toList) })) (.agg (ckR { ck0 with nm := asB (trimL name.data.toList), vl := asB (trimL value.data.toList) }))).run Tryz.prog w' = .ok (.bool true) w' := fun w' => by rw [eqT, (ckEq_iff _ _).2 rfl]
            have hEq2 : ∀ w', (binOp .eql 24 (.agg (ckR { ck0 with vl := asB (trimL name.data.toList) })) (.agg (ckR { ck0 with vl := asB (trimL name.data.toList) }))).run Tryz.prog w' = .ok (.bool true) w' := fun w' => by rw [eqT, (ckEq_iff _ _).2 rfl]
            obtain ⟨U1, HU1, HU1e⟩ : ∃ U, Hid (prsC S1 = (U, 0)) ∧ Hid ({ ck0 with nm := asB (trimL name.data.toList), vl := asB (trimL value.data.toList) } = U) := ⟨_, Lib.hid h1, Lib.hid rfl⟩
            obtain ⟨U2, HU2, HU2e⟩ : ∃ U, Hid (prsC name = (U, 0)) ∧ Hid ({ ck0 with vl := asB (trimL name.data.toList) } = U) := ⟨_, Lib.hid h2, Lib.hid rfl⟩
            obtain ⟨C1, HC1, HC1s, HC11⟩ : ∃ C, Hid (ckR U1 = C) ∧ Hid (C.size = 11) ∧ Hid (C.all (·.oneCell') = true) := ⟨_, Lib.hid rfl, Lib.hid rfl, Lib.hid (ckR_one _)⟩
            obtain ⟨C2, HC2, HC2s, HC21⟩ : ∃ C, Hid (ckR U2 = C) ∧ Hid (C.size = 11) ∧ Hid (C.all (·.oneCell') = true) := ⟨_, Lib.hid rfl, Lib.hid rfl, Lib.hid (ckR_one _)⟩
            have HP1 : Hid (∀ w', DtC0 m w' → Calls Tryz.prog 11 #[.string S1] w' fun e w'' => e = .returned (.tuple #[.agg C1, .int .i64 0]) ∧ Below w'.heap.size w' w'') := Lib.hid fun w' h => by
              have := HPa.out S1 w' h
              rw [HU1.out] at this
              rw [← HC1.out]; exact this
            have HP2 : Hid (∀ w', DtC0 m w' → Calls Tryz.prog 11 #[.string name] w' fun e w'' => e = .returned (.tuple #[.agg C2, .int .i64 0]) ∧ Below w'.heap.size w' w'') := Lib.hid fun w' h => by
              have := HPa.out name w' h
              rw [HU2.out] at this
              rw [← HC2.out]; exact this
            have HEq1 : Hid (∀ w', (binOp .eql 24 (.agg C1) (.agg #[.string (trimA name), .string (trimA value), .string ⟨#[]⟩, .string ⟨#[]⟩, .int .i64 0, .bool false, .int .i64 0, .bool false, .bool false, .bool false, .int .u8 0])).run Tryz.prog w' = .ok (.bool true) w') := Lib.hid fun w' => by
              rw [← HC1.out, ← HU1e.out]; exact hEq1 w'
            have HGd1 : Hid (∀ x y w', (eqGuard .eql 24 x y (.agg C1) (.agg #[.string (trimA name), .string (trimA value), .string ⟨#[]⟩, .string ⟨#[]⟩, .int .i64 0, .bool false, .int .i64 0, .bool false, .bool false, .bool false, .int .u8 0])).run Tryz.prog w' = .ok () w') := Lib.hid fun x y w' => gd_T _ _ _ _ _ _
            have HEq2 : Hid (∀ w', (binOp .eql 24 (.agg C2) (.agg #[.string ⟨#[]⟩, .string (trimA name), .string ⟨#[]⟩, .string ⟨#[]⟩, .int .i64 0, .bool false, .int .i64 0, .bool false, .bool false, .bool false, .int .u8 0])).run Tryz.prog w' = .ok (.bool true) w') := Lib.hid fun w' => by
              rw [← HC2.out, ← HU2e.out]; exact hEq2 w'
            have HGd2 : Hid (∀ x y w', (eqGuard .eql 24 x y (.agg C2) (.agg #[.string ⟨#[]⟩, .string (trimA name), .string ⟨#[]⟩, .string ⟨#[]⟩, .int .i64 0, .bool false, .int .i64 0, .bool false, .bool false, .bool false, .int .u8 0])).run Tryz.prog w' = .ok () w') := Lib.hid fun x y w' => gd_T _ _ _ _ _ _
            obtain ⟨X1, HX1⟩ : ∃ X, Hid (Value.agg C1 = X) := ⟨_, Lib.hid rfl⟩
            obtain ⟨X2, HX2⟩ : ∃ X, Hid (Value.agg C2 = X) := ⟨_, Lib.hid rfl⟩
            rw [HX1.out] at HEq1 HGd1
            rw [HX2.out] at HEq2 HGd2
            clear hEq1 hEq2 HU1e HU2e
            have hAIn : ¬ (4096 : Int) < (((trimA name).size : Int) + ((trimA value).size : Int)) := by omega
            have hBI : ¬ (65535 : Int) < (A.size : Int) := by omega
            have hAb : decide ((4096 : Int) < (((trimA name).size : Int) + ((trimA value).size : Int))) = false := decide_eq_false hAIn
            obtain ⟨a1, a2, a3⟩ := str_full hN
            clear hN1
            generalize trimA name = N at *
            generalize trimA value = V at *
            clear hAs hP1 hP2 h1 hok1 hok2 hNl hVl hNs hVs ln lv lN lV h2 hA hB hN
            go_wp2_with fail
            refine (HT1.out _).mono ?_
            rintro e w4 ⟨rfl, b4⟩
            have HB4 := Lib.hid (HB3.out.trans (b4.mono HB3.out.size))
            clear b4
            go_wp2_with fail
            refine (HT2.out _).mono ?_
            rintro e w5 ⟨rfl, b5⟩
            have HB5 := Lib.hid (HB4.out.trans (b5.mono HB4.out.size))
            clear b5
            go_wp2_with fail
            rw [HS0.out, HS1.out]
            refine (HP1.out _ (HG.out.below HB5.out).c0).mono ?_
            rintro e w6 ⟨rfl, b6⟩
            have HB6 := Lib.hid (HB5.out.trans (b6.mono HB5.out.size))
            clear b6
            have HA7 : Hid ((w6.alloc (.cells (ckR ck0) 24)).heap[w6.heap.size]? = some (.cells (ckR ck0) 24 (0, 0))) := Lib.hid (heap_alloc_new w6 _)
            obtain ⟨W7, HW7⟩ : ∃ W, Hid ((w6.alloc (.cells #[.string ⟨#[]⟩, .string ⟨#[]⟩, .string ⟨#[]⟩, .string ⟨#[]⟩, .int .i64 0, .bool false, .int .i64 0, .bool false, .bool false, .bool false, .int .u8 0] 24)).setRow w6.heap.size C1 = W) := ⟨_, Lib.hid rfl⟩
            have HD7 : Hid (W7.heap[w6.heap.size]? = some (.cells C1 24 (0, 0))) := Lib.hid (by rw [← HW7.out]; exact setRow_heap _ _ _ _ _ _ HA7.out)
            have HB7 : Hid (Below w.heap.size w W7) := Lib.hid (by rw [← HW7.out]; exact sc_below (HB6.out.alloc HB6.out.size _) _ _ HB6.out.size)
            go_wp2_with (refine wpL_store_row rfl 24 _ _ rfl w6.heap.size C1 ?_ ?_ 24 (ckR ck0) ?_ ?_ ?_ ?_ ?_; exact rfl; exact rfl; (exact HA7.out); (rw [HC1s.out]; exact infoTo); (rw [HC1s.out]; rfl); exact HC11.out; rw [HW7.out])
            refine (HP2.out _ (HG.out.below HB7.out).c0).mono ?_
            rintro e w8 ⟨rfl, b8⟩
            have HB8 := Lib.hid (HB7.out.trans (b8.mono HB7.out.size))
            have HD8 : Hid (w8.heap[w6.heap.size]? = some (.cells C1 24 (0, 0))) := Lib.hid ((b8.block _ (lt_of_block HD7.out)).trans HD7.out)
            clear b8
            have HA9 : Hid ((w8.alloc (.cells (ckR ck0) 24)).heap[w8.heap.size]? = some (.cells (ckR ck0) 24 (0, 0))) := Lib.hid (heap_alloc_new w8 _)
            have hlt8 : w6.heap.size < w8.heap.size := lt_of_block HD8.out
            obtain ⟨W9, HW9⟩ : ∃ W, Hid ((w8.alloc (.cells #[.string ⟨#[]⟩, .string ⟨#[]⟩, .string ⟨#[]⟩, .string ⟨#[]⟩, .int .i64 0, .bool false, .int .i64 0, .bool false, .bool false, .bool false, .int .u8 0] 24)).setRow w8.heap.size C2 = W) := ⟨_, Lib.hid rfl⟩
            have HE9 : Hid (W9.heap[w8.heap.size]? = some (.cells C2 24 (0, 0))) := Lib.hid (by rw [← HW9.out]; exact setRow_heap _ _ _ _ _ _ HA9.out)
            have HD9 : Hid (W9.heap[w6.heap.size]? = some (.cells C1 24 (0, 0))) := Lib.hid (by rw [← HW9.out, setRow_other _ _ _ _ (by omega)]; exact (Below.heap_alloc _ _ _ hlt8).trans HD8.out)
            have HB9 : Hid (Below w.heap.size w W9) := Lib.hid (by rw [← HW9.out]; exact sc_below (HB8.out.alloc HB8.out.size _) _ _ HB8.out.size)
            clear hlt8
            go_wp2_with (first
              | (refine wpL_store_row rfl 24 _ _ rfl w8.heap.size C2 ?_ ?_ 24 (ckR ck0) ?_ ?_ ?_ ?_ ?_; exact rfl; exact rfl; (exact HA9.out); (rw [HC2s.out]; exact infoTo); (rw [HC2s.out]; rfl); exact HC21.out; rw [HW9.out])
              | (refine scW_load rfl 24 _ rfl w6.heap.size ?_ 24 C1 (0, 0) _ ?_ Tryz.underlying24 rfl ?_ ?_; (exact rfl); (exact HD9.out); (rw [HC1s.out]; exact infoTo); rw [HX1.out])
              | (refine scW_bin rfl .eql 24 24 (.tmp 107) (.tmp 110) rfl (.bool true) ?_ ?_ ?_; exact HGd1.out _ _ _; exact HEq1.out _)
              | (refine scW_load rfl 24 _ rfl w8.heap.size ?_ 24 C2 (0, 0) _ ?_ Tryz.underlying24 rfl ?_ ?_; (exact rfl); (exact HE9.out); (rw [HC2s.out]; exact infoTo); rw [HX2.out])
              | (refine scW_bin rfl .eql 24 24 (.tmp 124) (.tmp 126) rfl (.bool true) ?_ ?_ ?_; exact HGd2.out _ _ _; exact HEq2.out _))
            go_ret
            exact ⟨rfl, HB9.out⟩

end Go.Proofs.YtblofndehbagnaaGreatDoor
