/-
  footmanlaw11.StsBack: a wish's text wishes it again, in other forms too.
-/
import Derived.Test.YthffgnlebljkcaaDoorTsN
import Derived.Deep.Cut
namespace Go.Proofs.YthffgnlebljkcaaDoor
open Go.RowKit Go.Lib

/-- The other forms of a wish. -/
def incG : List UInt8 := [73, 78, 67, 76, 85, 68, 69, 83, 85, 66, 68, 79, 77, 65, 73, 78, 83]
def subG (f : Bool) : List UInt8 := if f then incG else []
def midG : List UInt8 := [32, 59, 9, 77, 97, 120, 45, 65, 103, 101, 9, 61, 32, 34]
theorem incG_low : incG.map low = nSub := by decide
theorem dig_esc {l : List UInt8} (h : allR 48 57 l = true) : escQ l = l ∧ ∀ c ∈ l, okQ c = true := by
  have hd : ∀ c ∈ l, 48 ≤ c.toNat ∧ c.toNat ≤ 57 := fun c hc => by
    unfold allR at h
    have := List.all_eq_true.1 h c hc
    simp [inR] at this
    omega
  constructor
  · induction l with
    | nil => rfl
    | cons c l ih =>
      have e : escQ (c :: l) = (if c = 34 ∨ c = 92 then [92, c] else [c]) ++ escQ l := rfl
      have hc := hd c (List.mem_cons_self ..)
      have h34 : ¬ (c = 34 ∨ c = 92) := by rintro (rfl | rfl) <;> revert hc <;> decide
      have h2 : allR 48 57 l = true := by
        unfold allR at h ⊢
        rw [List.all_cons, Bool.and_eq_true] at h
        exact h.2
      rw [e, if_neg h34, ih h2 fun x hx => hd x (List.mem_cons_of_mem _ hx)]
      rfl
  · intro c hc
    have := hd c hc
    simp [okQ]; omega
theorem sub_says (f : Bool) : SaysO (subG f ++ [32]) (if f then some (nSub, false, []) else none) := by
  cases f with
  | false => exact says_none (d := [32]) (by decide)
  | true =>
    have := says_name (p := []) (n := incG) (q := [32]) (fun _ h => (by cases h)) (by decide) (by decide +kernel)
    rw [incG_low] at this
    exact this
theorem sub_says2 (f : Bool) : SaysO ((subG f).map low) (if f then some (nSub, false, []) else none) := by
  cases f with
  | false => exact says_none (d := []) (fun _ h => (by cases h))
  | true =>
    have := says_name (p := []) (n := incG.map low) (q := []) (fun _ h => (by cases h)) (fun _ h => (by cases h)) (by decide +kernel)
    have e : (incG.map low).map low = nSub := by decide
    have e2 : [] ++ incG.map low ++ [] = incG.map low := by simp
    rw [e, e2] at this
    exact this
theorem back2 {a : Int} {f : Bool} {l : List UInt8} (ha : allR 48 57 l = true) (hl : l.length ≤ 50) (hn : ageD l = some a) : isW (asB (subG f ++ midG ++ l ++ [34])) a f = true := by
  obtain ⟨he, ho⟩ := dig_esc ha
  have hA : SaysX ([9] ++ [77, 97, 120, 45, 65, 103, 101] ++ [9] ++ 61 :: ([32] ++ 34 :: (l ++ [34]))) (nAge, true, l) := by
    have hv := val_quo (p := [32]) (by decide) ho
    rw [he] at hv
    have := says_eq (p := [9]) (n := [77, 97, 120, 45, 65, 103, 101]) (q := [9]) (by decide) (by decide) (by decide +kernel) hv
    have e : ([77, 97, 120, 45, 65, 103, 101] : List UInt8).map low = nAge := by decide
    rw [e] at this
    exact this
  have e : subG f ++ midG ++ l ++ [34] = (subG f ++ [32]) ++ 59 :: ([9] ++ [77, 97, 120, 45, 65, 103, 101] ++ [9] ++ 61 :: ([32] ++ 34 :: (l ++ [34]))) := by simp [midG]
  have hr := run_more (sub_says f) [] _ [some (nAge, true, l)] fun T => run_one (x := some _) hA T
  rw [← e] at hr
  have hln : (subG f).length ≤ 17 := by cases f <;> decide
  have hlm : midG.length = 14 := rfl
  cases f with
  | false =>
    refine isW_of (T := [(nAge, true, l)]) (by simp only [List.length_append, List.length_cons, List.length_nil]; omega) hr ?_
    exact wish_of (say_here (nAge, true, l) []) (o := none) (by rw [say_skip age_sub]; rfl) rfl hn
  | true =>
    refine isW_of (T := [(nSub, false, []), (nAge, true, l)]) (by simp only [List.length_append, List.length_cons, List.length_nil]; omega) ?_ ?_
    · rw [hr]
      exact tell_all [(nSub, false, []), (nAge, true, l)] [] (fun _ _ => rfl) (List.pairwise_pair.2 (Ne.symm age_sub))
    · exact wish_of (by rw [say_skip (Ne.symm age_sub)]; exact say_here (nAge, true, l) []) (o := some (false, [])) (say_here (nSub, false, []) _) rfl hn
theorem back3 {a : Int} {f : Bool} {l : List UInt8} (ha : allR 48 57 l = true) (h0 : l ≠ []) (hl : l.length ≤ 50) (hn : ageD l = some a) : isW (asB (preA ++ l ++ [59] ++ (subG f).map low)) a f = true := by
  have e : preA ++ l ++ [59] ++ (subG f).map low = (preA ++ l) ++ 59 :: (subG f).map low := by simp
  have hr := run_more (x := some _) (says_age (all_tok ha h0)) [] _ _ fun T => run_one (sub_says2 f) T
  rw [← e] at hr
  have hln : (subG f).length ≤ 17 := by cases f <;> decide
  have hlp : preA.length = 8 := rfl
  cases f with
  | false =>
    refine isW_of (T := [(nAge, true, l)]) (by simp only [List.length_append, List.length_cons, List.length_nil, List.length_map]; omega) hr ?_
    exact wish_of (say_here (nAge, true, l) []) (o := none) (by rw [say_skip age_sub]; rfl) rfl hn
  | true =>
    refine isW_of (T := [(nAge, true, l), (nSub, false, [])]) (by simp only [List.length_append, List.length_cons, List.length_nil, List.length_map]; omega) ?_ ?_
    · rw [hr]
      exact tell_all [(nAge, true, l), (nSub, false, [])] [] (fun _ _ => rfl) (List.pairwise_pair.2 age_sub)
    · exact wish_of (say_here (nAge, true, l) _) (o := some (false, [])) (by rw [say_skip age_sub]; exact say_here (nSub, false, []) []) rfl hn
theorem back1 {a : Int} {f : Bool} (h0 : 0 ≤ a) (h1 : a ≤ 2147483647) : isW (asB (txtW a f)) a f = true := by
  have hr := run_txt0 (f := f) h0 []
  rw [tell_ent] at hr
  have hag := (itoa_facts h0 h1).1
  refine isW_of (Nat.le_trans (txt_len h0 h1) (by decide)) hr ?_
  cases f with
  | false => exact wish_of (say_here (nAge, true, Lib.itoa a) []) (o := none) (by show sayT nSub ((nAge, true, Lib.itoa a) :: []) = _; rw [say_skip age_sub]; rfl) rfl hag
  | true => exact wish_of (say_here (nAge, true, Lib.itoa a) _) (o := some (false, [])) (by show sayT nSub ((nAge, true, Lib.itoa a) :: (nSub, false, []) :: []) = _; rw [say_skip age_sub]; exact say_here (nSub, false, []) []) rfl hag
/-- Noughts ahead of a number. -/
def noT (k : Nat) (D : List UInt8) : List UInt8 := List.replicate k 48 ++ D
theorem noT_next (k : Nat) (D : List UInt8) : asB (noT (k + 1) D) = ⟨#[48]⟩ ++ asB (noT k D) := by
  show _ = asB [48] ++ asB (noT k D)
  rw [asB_app]
  unfold noT
  rw [List.replicate_succ]; rfl
set_option maxRecDepth 100000 in
set_option maxHeartbeats 4000000 in
theorem wback_walk (a : Int) (f : Bool) (m : Nat) (w : World) (hm : m < 256) (htab : Lib.TabIs Tryd.prog w "internal/strconv.uint64pow10" .u64 Lib.pow10Tab) :
    Calls Tryd.prog 5 #[.agg #[.int .i64 a, .bool f], .int .u8 (m : Int)] w fun e w' => e = .returned (.bool true) ∧ Below w.heap.size w w' := by
  have HI := Lib.hid infoWish
  have hb : Below w.heap.size w (w.alloc (.cells #[.int .i64 a, .bool f] 24)) := (Below.refl _ _).alloc (Nat.le_refl _) _
  have HG : Hid ((w.alloc (.cells #[.int .i64 a, .bool f] 24)).heap[w.heap.size]? = some (.cells #[.int .i64 a, .bool f] 24 (0, 0))) := Lib.hid (heap_alloc_new w _)
  have HB := Lib.hid hb
  have HT := Lib.hid htab
  have HAl := Lib.hid fun w h => alive11_any w h
  by_cases hbad : a < 0 ∨ 2147483647 < a
  · have HTx := Lib.hid (Text_bad a f _ hbad : Calls _ _ _ (w.alloc (.cells #[.int .i64 a, .bool f] 24)) _)
    by_cases hneg : a < 0
    · have e0 : decide (a < 0) = true := decide_eq_true hneg
      clear hb htab hbad
      go_enter Tryd.func5, Tryd.ntmps5
      go_wp2_with (refine tcW_load rfl 24 _ rfl w.heap.size ?_ 24 #[.int .i64 a, .bool f] (0, 0) _ ?_ Tryd.underlying24 rfl ?_ _ rfl ?_; (exact rfl); (exact HG.out); (exact HI.out))
      refine HTx.out.mono ?_
      rintro e w1 ⟨rfl, b1⟩
      have hg1 : w1.heap[w.heap.size]? = some (.cells #[.int .i64 a, .bool f] 24 (0, 0)) := (b1.block _ (by simp)).trans HG.out
      have HG1 := Lib.hid hg1
      have HB1 := Lib.hid (HB.out.trans (b1.mono HB.out.size))
      clear b1 hg1
      have HA1 := Lib.hid (HAl.out w1 (tab11 HT.out HB1.out))
      go_wp2_with fail
      refine HA1.out.mono ?_
      rintro e w2 ⟨rfl, b2⟩
      have HB2 := Lib.hid (HB1.out.trans (b2.mono HB1.out.size))
      have hg2 : w2.heap[w.heap.size]? = some (.cells #[.int .i64 a, .bool f] 24 (0, 0)) := (b2.block _ (lt_of_block HG1.out)).trans HG1.out
      have c20 : w2.cell? ⟨w.heap.size, 0, none⟩ = some (.int .i64 a) := by rw [cell_of_row w2 _ 0 _ _ _ hg2]; rfl
      clear b2 hg2
      go_wp2
      go_ret
      exact ⟨rfl, HB2.out⟩
    · have hbig : 2147483647 < a := by omega
      have e0 : decide (a < 0) = false := decide_eq_false hneg
      have e1 : decide (2147483647 < a) = true := decide_eq_true hbig
      clear hb htab hbad
      go_enter Tryd.func5, Tryd.ntmps5
      go_wp2_with (refine tcW_load rfl 24 _ rfl w.heap.size ?_ 24 #[.int .i64 a, .bool f] (0, 0) _ ?_ Tryd.underlying24 rfl ?_ _ rfl ?_; (exact rfl); (exact HG.out); (exact HI.out))
      refine HTx.out.mono ?_
      rintro e w1 ⟨rfl, b1⟩
      have hg1 : w1.heap[w.heap.size]? = some (.cells #[.int .i64 a, .bool f] 24 (0, 0)) := (b1.block _ (by simp)).trans HG.out
      have HG1 := Lib.hid hg1
      have HB1 := Lib.hid (HB.out.trans (b1.mono HB.out.size))
      clear b1 hg1
      have HA1 := Lib.hid (HAl.out w1 (tab11 HT.out HB1.out))
      go_wp2_with fail
      refine HA1.out.mono ?_
      rintro e w2 ⟨rfl, b2⟩
      have HB2 := Lib.hid (HB1.out.trans (b2.mono HB1.out.size))
      have hg2 : w2.heap[w.heap.size]? = some (.cells #[.int .i64 a, .bool f] 24 (0, 0)) := (b2.block _ (lt_of_block HG1.out)).trans HG1.out
      have c20 : w2.cell? ⟨w.heap.size, 0, none⟩ = some (.int .i64 a) := by rw [cell_of_row w2 _ 0 _ _ _ hg2]; rfl
      clear b2 hg2
      go_wp2
      go_ret
      exact ⟨rfl, HB2.out⟩
  · have h0 : 0 ≤ a := by omega
    have h1 : a ≤ 2147483647 := by omega
    have HTx := Lib.hid (Text_good a f _ h0 h1 (tab11 htab hb) : Calls _ _ _ (w.alloc (.cells #[.int .i64 a, .bool f] 24)) _)
    have hn0 : ¬ a < 0 := by omega
    have hn1 : ¬ 2147483647 < a := by omega
    have e0 : decide (a < 0) = false := decide_eq_false hn0
    have e1 : decide (2147483647 < a) = false := decide_eq_false hn1
    have hwu : IntKind.u64.wrap a = a := by rw [IntKind.wrap_u64]; omega
    have hna : ((a.toNat : Nat) : Int) = a := Int.toNat_of_nonneg h0
    have HDg : Hid (∀ w, Calls Tryd.prog 15 #[.int .u64 a] w fun e w' => e = .returned (.string (asB (noT 0 (Lib.decDigits a.toNat)))) ∧ Below w.heap.size w w') := Lib.hid fun w => by
      have h := digits_any a.toNat w (by omega)
      rw [hna] at h
      exact h
    obtain ⟨d1, d2, d3⟩ := dd_facts a.toNat
    have hdl := dgs11 a.toNat 10 (by omega) (by decide)
    obtain ⟨M, hM⟩ : ∃ M : Nat, m % 30 = M := ⟨_, rfl⟩
    have hM30 : M < 30 := by rw [← hM]; exact Nat.mod_lt _ (by decide)
    have q1 : (m : Int).tmod 30 = (M : Int) := by rw [Int.tmod_eq_emod_of_nonneg (by omega), ← hM]; rfl
    have q2 : (m : Int) % 30 = (M : Int) := by rw [← hM]; rfl
    have q3 : IntKind.u8.wrap (M : Int) = (M : Int) := by rw [IntKind.wrap_u8]; omega
    have q4 : (M : Int) < 30 := by omega
    have HD1 : Hid (allR 48 57 (noT M (Lib.decDigits a.toNat)) = true) := Lib.hid (nought_all M d2)
    have HD2 : Hid (noT M (Lib.decDigits a.toNat) ≠ []) := Lib.hid (by unfold noT; simp [d3])
    have HD3 : Hid ((noT M (Lib.decDigits a.toNat)).length ≤ 50) := Lib.hid (by unfold noT; rw [List.length_append, List.length_replicate]; omega)
    have HD4 : Hid (ageD (noT M (Lib.decDigits a.toNat)) = some a) := Lib.hid (by
      rw [ageD_of HD1.out HD2.out]
      unfold noT
      rw [nought_num, d1]
      congr 1
      omega)
    have HLen : Hid (∀ k, k ≤ M → (asB (noT k (Lib.decDigits a.toNat))).size ≤ 50) := Lib.hid fun k hk => by
      rw [asB_size]
      unfold noT
      rw [List.length_append, List.length_replicate]; omega
    obtain ⟨D, HD⟩ : ∃ D, Hid (Lib.decDigits a.toNat = D) := ⟨_, Lib.hid rfl⟩
    rw [HD.out] at HDg HD1 HD2 HD3 HD4 HLen
    obtain ⟨S, HS⟩ : ∃ S, Hid (asB (txtW a f) = S) := ⟨_, Lib.hid rfl⟩
    have hSz : S.size ≤ 37 := by rw [← HS.out, asB_size]; exact txt_len h0 h1
    rw [HS.out] at HTx
    have HI1 : Hid (∀ w, Calls Tryd.prog 16 #[.string S, .int .i64 a, .bool f] w fun e w' => e = .returned (.bool true) ∧ Below w.heap.size w w') := Lib.hid fun w => by
      have h := is_any (asB (txtW a f)) a f w
      rw [back1 h0 h1, HS.out] at h
      exact h
    obtain ⟨N, HN⟩ : ∃ N, Hid (asB (noT M D) = N) := ⟨_, Lib.hid rfl⟩
    obtain ⟨G, HGs⟩ : ∃ G, Hid (asB (subG f) = G) := ⟨_, Lib.hid rfl⟩
    obtain ⟨LG, HLG⟩ : ∃ G, Hid (asB ((subG f).map low) = G) := ⟨_, Lib.hid rfl⟩
    have HI2 : Hid (∀ w, Calls Tryd.prog 16 #[.string (G ++ ⟨#[32, 59, 9, 77, 97, 120, 45, 65, 103, 101, 9, 61, 32, 34]⟩ ++ N ++ ⟨#[34]⟩), .int .i64 a, .bool f] w fun e w' => e = .returned (.bool true) ∧ Below w.heap.size w w') := Lib.hid fun w => by
      have h := is_any (asB (subG f ++ midG ++ noT M D ++ [34])) a f w
      rw [back2 HD1.out HD3.out HD4.out] at h
      have e : asB (subG f ++ midG ++ noT M D ++ [34]) = G ++ ⟨#[32, 59, 9, 77, 97, 120, 45, 65, 103, 101, 9, 61, 32, 34]⟩ ++ N ++ ⟨#[34]⟩ := by
        show _ = G ++ asB midG ++ N ++ asB [34]
        rw [← HGs.out, ← HN.out, asB_app, asB_app, asB_app]
      rw [e] at h
      exact h
    have HI3 : Hid (∀ w, Calls Tryd.prog 16 #[.string (⟨#[109, 97, 120, 45, 97, 103, 101, 61]⟩ ++ N ++ ⟨#[59]⟩ ++ LG), .int .i64 a, .bool f] w fun e w' => e = .returned (.bool true) ∧ Below w.heap.size w w') := Lib.hid fun w => by
      have h := is_any (asB (preA ++ noT M D ++ [59] ++ (subG f).map low)) a f w
      rw [back3 HD1.out HD2.out HD3.out HD4.out] at h
      have e : asB (preA ++ noT M D ++ [59] ++ (subG f).map low) = ⟨#[109, 97, 120, 45, 97, 103, 101, 61]⟩ ++ N ++ ⟨#[59]⟩ ++ LG := by
        show _ = asB preA ++ N ++ asB [59] ++ LG
        rw [← HN.out, ← HLG.out, asB_app, asB_app, asB_app]
      rw [e] at h
      exact h
    have HLw : Hid (∀ w, Calls Tryd.prog 17 #[.string G] w fun e w' => e = .returned (.string LG) ∧ Below w.heap.size w w') := Lib.hid fun w => by
      have h := Lower_any (asB (subG f)) w (by rw [asB_size]; have : (subG f).length ≤ 17 := by cases f <;> decide
                                               unfold maxLen; omega)
      rw [low_asB, asB_data, HLG.out, HGs.out] at h
      exact h
    have hGz : G.size ≤ 17 := by rw [← HGs.out, asB_size]; cases f <;> decide
    have hLGz : LG.size ≤ 17 := by rw [← HLG.out, asB_size, List.length_map]; cases f <;> decide
    have hNz : N.size ≤ 50 := by rw [← HN.out]; exact HLen.out M (Nat.le_refl _)
    have HM := Lib.hid hM30
    clear hb htab hbad h0 h1 d1 d2 d3 hdl hM hM30 hna
    go_enter Tryd.func5, Tryd.ntmps5
    go_wp2_with (refine tcW_load rfl 24 _ rfl w.heap.size ?_ 24 #[.int .i64 a, .bool f] (0, 0) _ ?_ Tryd.underlying24 rfl ?_ _ rfl ?_; (exact rfl); (exact HG.out); (exact HI.out))
    refine HTx.out.mono ?_
    rintro e w1 ⟨rfl, b1⟩
    have hg1 : w1.heap[w.heap.size]? = some (.cells #[.int .i64 a, .bool f] 24 (0, 0)) := (b1.block _ (by simp)).trans HG.out
    have HG1 := Lib.hid hg1
    have HB1 := Lib.hid (HB.out.trans (b1.mono HB.out.size))
    clear b1 hg1
    have c10 : w1.cell? ⟨w.heap.size, 0, none⟩ = some (.int .i64 a) := by rw [cell_of_row w1 _ 0 _ _ _ HG1.out]; rfl
    go_wp2_with fail
    refine (HDg.out w1).mono ?_
    rintro e w2 ⟨rfl, b2⟩
    have HG2 : Hid (w2.heap[w.heap.size]? = some (.cells #[.int .i64 a, .bool f] 24 (0, 0))) := Lib.hid ((b2.block _ (lt_of_block HG1.out)).trans HG1.out)
    have HB2 := Lib.hid (HB1.out.trans (b2.mono HB1.out.size))
    have c21 : w2.cell? ⟨w.heap.size, 1, none⟩ = some (.bool f) := by rw [cell_of_row w2 _ 1 _ _ _ HG2.out]; rfl
    clear b2 c10
    go_wp2
    go_loopw [7, 8] (fun n i wr => ∃ k : Nat, k ≤ M ∧ i = .int .i64 (k : Int) ∧ n = .string (asB (noT k D)) ∧ w2 = wr) (fun _ i _ => M - (intOf i).toNat)
    case atStart => exact ⟨0, Nat.zero_le _, rfl, rfl, rfl⟩
    case round =>
      obtain ⟨k, hk, rfl, rfl, rfl⟩ := hrel
      by_cases hlt : k < M
      · have p1 : (k : Int) < (M : Int) := by omega
        have HNx := Lib.hid (noT_next k D)
        have hz := HLen.out k hk
        have HM2 := Lib.hid HM.out
        have hk30 : (k : Int) < 30 := by omega
        go_wp2
        go_roundw
        case rel => exact ⟨k + 1, by omega, by go_num, congrArg Value.string HNx.out.symm, trivial⟩
        case measure => simp [intOf]; omega
      · obtain rfl : k = M := by omega
        rw [HN.out]
        have HW2 := Lib.hid HG2.out
        have HTw := Lib.hid (tab11 HT.out HB2.out)
        cases f with
        | false =>
          have HGl : Hid ((⟨#[]⟩ : ByteArray) = G) := Lib.hid HGs.out
          go_upto_region 14 with (fail)
          rw [HGl.out]
          have z1 : ¬ 9223372036854775807 < G.size + 14 := by omega
          have z2 : ¬ 9223372036854775807 < G.size + 14 + N.size := by omega
          have z3 : ¬ 9223372036854775807 < G.size + 14 + N.size + 1 := by omega
          have z4 : ¬ 9223372036854775807 < 8 + N.size := by omega
          have z5 : ¬ 9223372036854775807 < 8 + N.size + 1 := by omega
          have z6 : ¬ 9223372036854775807 < 8 + N.size + 1 + LG.size := by omega
          refine bw_region (by kernel_rfl) (by kernel_rfl) ?_
          have cA := fun p : BW w2 => BW.cell HW2.out p 0
          have cB := fun p : BW w2 => BW.cell HW2.out p 1
          repeat (quiet_step ((first
            | (with_reducible exact Calls.bw_of (HAl.out _ (tab11 HTw.out (BW.h _))))
            | (with_reducible exact Calls.bw_of (HI1.out _))
            | (with_reducible exact Calls.bw_of (HI2.out _))
            | (with_reducible exact Calls.bw_of (HLw.out _))
            | (with_reducible exact Calls.bw_of (HI3.out _)))))
          refine wpQuiet_nil ?_
          intro _ hw'
          obtain ⟨⟨wq, hwq⟩, rfl⟩ := hw'
          go_wp2_with fail
          go_ret
          exact ⟨rfl, HB2.out.trans (Below.mono hwq HB2.out.size)⟩
        | true =>
          have HGl : Hid ((⟨#[73, 78, 67, 76, 85, 68, 69, 83, 85, 66, 68, 79, 77, 65, 73, 78, 83]⟩ : ByteArray) = G) := Lib.hid HGs.out
          go_upto_region 14 with (fail)
          rw [HGl.out]
          have z1 : ¬ 9223372036854775807 < G.size + 14 := by omega
          have z2 : ¬ 9223372036854775807 < G.size + 14 + N.size := by omega
          have z3 : ¬ 9223372036854775807 < G.size + 14 + N.size + 1 := by omega
          have z4 : ¬ 9223372036854775807 < 8 + N.size := by omega
          have z5 : ¬ 9223372036854775807 < 8 + N.size + 1 := by omega
          have z6 : ¬ 9223372036854775807 < 8 + N.size + 1 + LG.size := by omega
          refine bw_region (by kernel_rfl) (by kernel_rfl) ?_
          have cA := fun p : BW w2 => BW.cell HW2.out p 0
          have cB := fun p : BW w2 => BW.cell HW2.out p 1
          repeat (quiet_step ((first
            | (with_reducible exact Calls.bw_of (HAl.out _ (tab11 HTw.out (BW.h _))))
            | (with_reducible exact Calls.bw_of (HI1.out _))
            | (with_reducible exact Calls.bw_of (HI2.out _))
            | (with_reducible exact Calls.bw_of (HLw.out _))
            | (with_reducible exact Calls.bw_of (HI3.out _)))))
          refine wpQuiet_nil ?_
          intro _ hw'
          obtain ⟨⟨wq, hwq⟩, rfl⟩ := hw'
          go_wp2_with fail
          go_ret
          exact ⟨rfl, HB2.out.trans (Below.mono hwq HB2.out.size)⟩

end Go.Proofs.YthffgnlebljkcaaDoor
