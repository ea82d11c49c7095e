/-
  The walk of HostsPoints.
-/
import Derived.Test.YtjalbfgdhmkclaaGreatDoorLawHA
import Derived.Test.YtjalbfgdhmkclaaGreatDoorHsO
import Derived.Deep.RegionHeld3
namespace Go.Proofs.YtjalbfgdhmkclaaGreatDoor
open Go.RowKit

/-- Texts, each with a point ahead. -/
def dtS (L : List ByteArray) : ByteArray := asB (L.flatMap fun x => 46 :: x.data.toList)
theorem dtS_snoc (L : List ByteArray) (x : ByteArray) : dtS (L ++ [x]) = dtS L ++ ⟨#[46]⟩ ++ x := by
  refine ba_of ?_
  rw [ByteArray.data_append, ByteArray.data_append, Array.toList_append, Array.toList_append, dtS, dtS, asB_data, asB_data, List.flatMap_append, List.flatMap_cons, List.flatMap_nil]
  simp
theorem dtS_nil : dtS [] = ⟨#[]⟩ := rfl
theorem dtS_take (L : List ByteArray) (k : Nat) (h : k < L.length) : dtS (L.take (k + 1)) = dtS (L.take k) ++ ⟨#[46]⟩ ++ L[k] := by
  rw [List.take_succ_eq_append_getElem h, dtS_snoc]
theorem dtS_data : ∀ L : List ByteArray, L ≠ [] → (L.flatMap fun x => 46 :: x.data.toList) = 46 :: Lib.join (L.map (·.data.toList)) [46]
  | [], h => absurd rfl h
  | [x], _ => by rw [List.flatMap_cons, List.flatMap_nil, List.map_cons, List.map_nil, Lib.join_one]; simp
  | x :: y :: r, _ => by
    rw [List.flatMap_cons, dtS_data (y :: r) (by simp)]
    show 46 :: x.data.toList ++ 46 :: Lib.join (y.data.toList :: r.map (·.data.toList)) [46] = 46 :: Lib.join (x.data.toList :: y.data.toList :: r.map (·.data.toList)) [46]
    rw [join_split]; simp
theorem dtS_dot {L : List ByteArray} (h : L ≠ []) : dtS L = ⟨#[46]⟩ ++ dotJ L := by
  refine ba_of ?_
  rw [ByteArray.data_append, Array.toList_append, dotJ_data, dtS, asB_data, dtS_data L h]; rfl
theorem dtS_ext {L : List ByteArray} (h : L ≠ []) : (dtS L).extract 1 (dtS L).size = dotJ L := by
  have h2 : (dtS L).size = 1 + (dotJ L).size := by rw [dtS_dot h, ByteArray.size_append]; rfl
  refine ba_of ?_
  have h1 := lenB (dotJ L)
  rw [ext_mid _ 1 _ (Nat.le_refl _), h2, dtS_dot h, ByteArray.data_append, Array.toList_append]
  show List.take _ (dotJ L).data.toList = _
  rw [List.take_of_length_le (by omega)]
def sizeS (L : List ByteArray) : Nat := (L.map (·.size)).sum
theorem sizeS_take (L : List ByteArray) (k : Nat) (h : k < L.length) : sizeS (L.take (k + 1)) = sizeS (L.take k) + L[k].size := by
  rw [List.take_succ_eq_append_getElem h, sizeS, sizeS, List.map_append, List.sum_append]; simp
theorem sizeS_mem {x : ByteArray} : ∀ {L : List ByteArray}, x ∈ L → x.size ≤ sizeS L
  | [], h => by cases h
  | y :: L, h => by
    have e : sizeS (y :: L) = y.size + sizeS L := by simp [sizeS]
    rcases List.mem_cons.1 h with rfl | h
    · omega
    · have := sizeS_mem h; omega
theorem sizeS_le (L : List ByteArray) (k : Nat) : sizeS (L.take k) ≤ sizeS L := by
  conv => rhs; rw [← List.take_append_drop k L]
  rw [sizeS, sizeS, List.map_append, List.sum_append]; omega
theorem dtS_size : ∀ L : List ByteArray, (dtS L).size = sizeS L + L.length
  | [] => rfl
  | x :: L => by
    have ih := dtS_size L
    have e : sizeS (x :: L) = x.size + sizeS L := by simp [sizeS]
    have h1 := lenB x
    rw [dtS, asB_size] at ih ⊢
    rw [List.flatMap_cons, List.length_append, List.length_cons, ih, e, h1, List.length_cons]; omega
theorem lab_sum {L : List ByteArray} (h : ∀ p ∈ L, p.size ≤ 1000) : sizeS (L.map fun p => (labT p).1) ≤ 63 * L.length := by
  induction L with
  | nil => exact Nat.le_refl _
  | cons p L ih =>
    have e : sizeS ((p :: L).map fun p => (labT p).1) = (labT p).1.size + sizeS (L.map fun p => (labT p).1) := by simp [sizeS]
    have h1 := lab_small p (h p List.mem_cons_self)
    have h2 := ih (fun q hq => h q (List.mem_cons_of_mem _ hq))
    rw [e, List.length_cons]; omega

set_option maxRecDepth 100000 in
set_option maxHeartbeats 1000000 in
theorem TextsSize_any (L : List ByteArray) (a0 : Option Addr) (b off cap : Nat) (w : World) (hA : 0 < L.length → a0 = some ⟨b, off, none⟩) (hc : ∀ j (h : j < L.length), w.cell? ⟨b, off + j, none⟩ = some (.string L[j])) (hn : L.length ≤ 20) (hs : ∀ x ∈ L, x.size ≤ 140737488355328) :
    Calls Tryz.prog 24 #[.slice a0 L.length cap] w fun e w' => ∃ r : Nat, e = .returned (.int .i64 r) ∧ (r ≤ 1000 → L.length + sizeS L ≤ 1000) ∧ Below w.heap.size w w' := by
  have HC := Lib.hid hc; clear hc
  have HS := Lib.hid hs; clear hs
  have HAd := Lib.hid hA; clear hA
  obtain ⟨n, HN⟩ : ∃ n, Hid (L.length = n) := ⟨_, Lib.hid rfl⟩
  rw [HN.out] at hn ⊢
  go_enter Tryz.func24, Tryz.ntmps24
  go_wp2
  go_loopw [3, 4] (fun z i wr => ∃ k r : Nat, k ≤ n ∧ r ≤ n + k * 140737488355328 ∧ i = .int .i64 k ∧ z = .int .i64 r ∧ Hid (r = n + sizeS (L.take k)) ∧ Hid (Below w.heap.size w wr)) (fun _ i _ => n - (intOf i).toNat)
  case atStart => exact ⟨0, n, Nat.zero_le _, by omega, rfl, rfl, Lib.hid (by simp [sizeS]), Lib.hid (Below.refl _ _)⟩
  case round =>
    obtain ⟨k, r, hk, hr, rfl, rfl, HR, HB⟩ := hrel
    by_cases hlt : k < n
    · by_cases hbig : r ≤ 1048576
      · have hkL : k < L.length := by rw [HN.out]; exact hlt
        obtain ⟨x, Hx⟩ : ∃ x, Hid (L[k] = x) := ⟨_, Lib.hid rfl⟩
        have hxs : x.size ≤ 140737488355328 := by rw [← Hx.out]; exact HS.out _ (List.getElem_mem hkL)
        have hx : wr.cell? ⟨b, off + k, none⟩ = some (.string x) := by rw [← Hx.out]; exact (HB.out.cell (block_lt_of_cell (HC.out k hkL))).trans (HC.out k hkL)
        have ha : a0 = some ⟨b, off, none⟩ := HAd.out (by omega)
        subst ha
        have hbI : (r : Int) ≤ 1048576 := by omega
        have HR2 : Hid (r + x.size = n + sizeS (L.take (k + 1))) := Lib.hid (by rw [sizeS_take L k hkL, Hx.out, HR.out]; omega)
        go_wp2
        exact ⟨⟨k + 1, r + x.size, by omega, by omega, by go_num, by go_num, HR2, HB⟩, by simp [intOf]; omega⟩
      · have hbI : (1048576 : Int) < (r : Int) := by omega
        go_wp2
        go_ret
        exact ⟨r, rfl, fun h => by omega, HB.out⟩
    · obtain rfl : k = n := by omega
      go_wp2
      go_ret
      refine ⟨r, rfl, fun h => ?_, HB.out⟩
      have := HR.out
      rw [List.take_of_length_le (by rw [HN.out]; exact Nat.le_refl _)] at this
      omega

set_option maxRecDepth 100000 in
set_option maxHeartbeats 4000000 in
theorem hpoints_walk (L : List ByteArray) (a0 : Option Addr) (b off cap : Nat) (w : World) (hA : 0 < L.length → a0 = some ⟨b, off, none⟩) (hc : ∀ j (h : j < L.length), w.cell? ⟨b, off + j, none⟩ = some (.string L[j])) (hn : L.length ≤ 140737488355328) (hs : ∀ x ∈ L, x.size ≤ 140737488355328) (hW : Hw w) :
    Calls Tryz.prog 8 #[.slice a0 L.length cap] w fun e w' => e = .returned (.bool true) ∧ Below w.heap.size w w' := by
  have HW := Lib.hid hW; clear hW
  have HC := Lib.hid hc; clear hc
  have HS := Lib.hid hs; clear hs
  have HAd := Lib.hid hA; clear hA
  obtain ⟨n, HN⟩ : ∃ n, Hid (L.length = n) := ⟨_, Lib.hid rfl⟩
  have hni : ((L.length : Nat) : Int) = (n : Int) := by rw [HN.out]
  by_cases hout : n = 0 ∨ 20 < n
  · rw [HN.out] at hn ⊢
    rcases hout with h0 | h20
    · subst h0
      go_enter Tryz.func8, Tryz.ntmps8
      go_wp2_with fail
      refine (alive5_any _ HW.out).mono ?_
      rintro e w1 ⟨rfl, b1⟩
      have Z1 : Hid (Below w.heap.size w w1) := Lib.hid b1
      clear b1
      go_wp2_with fail
      refine (alive5_any _ (HW.out.later Z1.out)).mono ?_
      rintro e w2 ⟨rfl, b2⟩
      have Z2 : Hid (Below w.heap.size w w2) := Lib.hid (keepW Z1.out b2)
      clear b2
      go_wp2
      go_ret
      exact ⟨rfl, Z2.out⟩
    · have hI : (20 : Int) < (n : Int) := by omega
      have hI0 : ((n : Int) == 0) = false := beq_eq_false_iff_ne.2 (by omega)
      go_enter Tryz.func8, Tryz.ntmps8
      go_wp2_with fail
      refine (alive5_any _ HW.out).mono ?_
      rintro e w1 ⟨rfl, b1⟩
      have Z1 : Hid (Below w.heap.size w w1) := Lib.hid b1
      clear b1
      go_wp2_with fail
      refine (alive5_any _ (HW.out.later Z1.out)).mono ?_
      rintro e w2 ⟨rfl, b2⟩
      have Z2 : Hid (Below w.heap.size w w2) := Lib.hid (keepW Z1.out b2)
      clear b2
      go_wp2
      go_ret
      exact ⟨rfl, Z2.out⟩
  have hn1 : 1 ≤ n := by omega
  have hn20 : n ≤ 20 := by omega
  have ha : a0 = some ⟨b, off, none⟩ := HAd.out (by rw [HN.out]; omega)
  subst ha
  have CT : Hid (∀ w', Below w.heap.size w w' → Calls Tryz.prog 24 #[.slice (some ⟨b, off, none⟩) n cap] w' fun e w'' => (∃ r : Nat, e = .returned (.int .i64 r) ∧ (r ≤ 1000 → n + sizeS L ≤ 1000)) ∧ Below w'.heap.size w' w'') := Lib.hid (fun w' hb => by
    have := TextsSize_any L (some ⟨b, off, none⟩) b off cap w' (fun _ => rfl) (fun j h => (hb.cell (block_lt_of_cell (HC.out j h))).trans (HC.out j h)) (by rw [HN.out]; exact hn20) HS.out
    rw [HN.out] at this
    exact this.mono fun e w'' ⟨r, h1, h2, h3⟩ => ⟨⟨r, h1, h2⟩, h3⟩)
  have hI0 : ((n : Int) == 0) = false := beq_eq_false_iff_ne.2 (by omega)
  have hI20 : (n : Int) ≤ 20 := by omega
  rw [HN.out]
  clear hout hn hni HAd
  go_enter Tryz.func8, Tryz.ntmps8
  go_wp2_with fail
  refine (alive5_any _ HW.out).mono ?_
  rintro e w1 ⟨rfl, b1⟩
  have Z1 : Hid (Below w.heap.size w w1) := Lib.hid b1
  clear b1
  go_wp2_with fail
  refine (CT.out _ Z1.out).mono ?_
  rintro e w2 ⟨⟨r, rfl, hr⟩, b2⟩
  have Z2 : Hid (Below w.heap.size w w2) := Lib.hid (keepW Z1.out b2)
  clear b2
  by_cases hbig : 1000 < r
  · have hbI : (1000 : Int) < (r : Int) := by omega
    clear hr
    go_wp2_with fail
    refine (alive5_any _ (HW.out.later Z2.out)).mono ?_
    rintro e w3 ⟨rfl, b3⟩
    have Z3 : Hid (Below w.heap.size w w3) := Lib.hid (keepW Z2.out b3)
    clear b3
    go_wp2
    go_ret
    exact ⟨rfl, Z3.out⟩
  have hbI : (r : Int) ≤ 1000 := by omega
  have hsum := hr (by omega)
  have HSz : Hid (∀ p ∈ L, p.size ≤ 1000) := Lib.hid (fun p hp => by have := sizeS_mem hp; omega)
  have HSum := Lib.hid hsum
  clear hr hbig hsum
  go_wp2
  go_loopw [3, 4, 5, 6, 7, 8, 9] (fun al wt i _ _ _ _ wr => ∃ k : Nat, k ≤ n ∧ i = .int .i64 k ∧ al = .string (dtS (L.take k)) ∧ wt = .string (dtS ((L.take k).map fun p => (labT p).1)) ∧ Hid (∀ j (h : j < L.length), j < k → (labT L[j]).2 = 0 ∧ ∀ c ∈ L[j].data.toList, lowP c = true) ∧ Hid (Below w.heap.size w wr)) (fun _ _ i _ _ _ _ _ => n - (intOf i).toNat)
  case atStart => exact ⟨0, Nat.zero_le _, rfl, rfl, rfl, Lib.hid (fun j _ h => absurd h (Nat.not_lt_zero _)), Z2⟩
  case round =>
    obtain ⟨k, hk, rfl, rfl, rfl, HOk, HB⟩ := hrel
    by_cases hlt : k < n
    · have hkL : k < L.length := by rw [HN.out]; exact hlt
      obtain ⟨x, Hx⟩ : ∃ x, Hid (L[k] = x) := ⟨_, Lib.hid rfl⟩
      have hxs : x.size ≤ 1000 := by rw [← Hx.out]; exact HSz.out _ (List.getElem_mem hkL)
      have hx : wr.cell? ⟨b, off + k, none⟩ = some (.string x) := by rw [← Hx.out]; exact (HB.out.cell (block_lt_of_cell (HC.out k hkL))).trans (HC.out k hkL)
      obtain ⟨l, Hl⟩ : ∃ c, Hid ((labT x).1 = c) := ⟨_, Lib.hid rfl⟩
      obtain ⟨c, Hc⟩ : ∃ c, Hid ((labT x).2 = c) := ⟨_, Lib.hid rfl⟩
      have hls : l.size ≤ 63 := by rw [← Hl.out]; exact lab_small x hxs
      have CL : Hid (Calls Tryz.prog 25 #[.string x] wr fun e w' => e = .returned (.tuple #[.string l, .int .i64 c]) ∧ Below wr.heap.size wr w') := Lib.hid (by
        have := Label_any x wr hxs (HW.out.later HB.out).v
        rwa [Hl.out, Hc.out] at this)
      obtain ⟨A, HAa⟩ : ∃ A, Hid (dtS (L.take k) = A) := ⟨_, Lib.hid rfl⟩
      obtain ⟨V, HV⟩ : ∃ V, Hid (dtS ((L.take k).map fun p => (labT p).1) = V) := ⟨_, Lib.hid rfl⟩
      have hAs : A.size ≤ 1020 := by
        have h1 := sizeS_le L k
        have h2 := HSum.out
        rw [← HAa.out, dtS_size, List.length_take, HN.out]; omega
      have hVs : V.size ≤ 1280 := by
        have h1 := lab_sum (L := L.take k) (fun p hp => HSz.out p (List.mem_of_mem_take hp))
        rw [List.length_take, HN.out] at h1
        rw [← HV.out, dtS_size, List.length_map, List.length_take, HN.out]; omega
      have HA2 : Hid (dtS (L.take (k + 1)) = A ++ ⟨#[46]⟩ ++ x) := Lib.hid (by rw [dtS_take L k hkL, HAa.out, Hx.out])
      have HV2 : Hid (dtS ((L.take (k + 1)).map fun p => (labT p).1) = V ++ ⟨#[46]⟩ ++ l) := Lib.hid (by
        rw [List.take_succ_eq_append_getElem hkL, List.map_append, List.map_cons, List.map_nil, dtS_snoc, HV.out, Hx.out, Hl.out])
      have hz1 : ¬ 9223372036854775807 < A.size + 1 := by omega
      have hz2 : ¬ 9223372036854775807 < A.size + 1 + x.size := by omega
      have hz3 : ¬ 9223372036854775807 < V.size + 1 := by omega
      have hz4 : ¬ 9223372036854775807 < V.size + 1 + l.size := by omega
      rw [HAa.out, HV.out]
      by_cases hc0 : c = 0
      · subst hc0
        go_wp2_with fail
        refine CL.out.mono ?_
        rintro e w3 ⟨rfl, b3⟩
        have Z3 : Hid (Below w.heap.size w w3) := Lib.hid (keepW HB.out b3)
        have hx3 : w3.cell? ⟨b, off + k, none⟩ = some (.string x) := (b3.cell (block_lt_of_cell hx)).trans hx
        clear b3 hx
        go_wp2
        go_loopw [8, 9] (fun i _ wr => ∃ j : Nat, j ≤ x.size ∧ i = .int .i64 j ∧ wr = w3 ∧ Hid (∀ q (h : q < x.size), q < j → lowP x[q] = true)) (fun i _ _ => x.size - (intOf i).toNat)
        case atStart => exact ⟨0, Nat.zero_le _, rfl, rfl, Lib.hid (fun _ _ h => absurd h (Nat.not_lt_zero _))⟩
        case round =>
          obtain ⟨j, hj, rfl, rfl, HLo⟩ := hrel
          by_cases hlt2 : j < x.size
          · obtain ⟨y, HY⟩ : ∃ y, Hid (x[j] = y) := ⟨_, Lib.hid rfl⟩
            obtain ⟨m, hm⟩ : ∃ m : Nat, m = x[j].toNat := ⟨_, rfl⟩
            by_cases hlow : lowP x[j] = true
            · have HLo2 : Hid (∀ q (h : q < x.size), q < j + 1 → lowP x[q] = true) := Lib.hid (fun q hq hqj => by
                by_cases e : q = j
                · subst e; exact hlow
                · exact HLo.out q hq (by omega))
              have hcase : (97 ≤ m ∧ m ≤ 122) ∨ (48 ≤ m ∧ m ≤ 57) ∨ m = 45 ∨ 128 ≤ m := by
                rw [lowP, ← hm] at hlow
                simp only [Bool.or_eq_true, decide_eq_true_eq] at hlow
                omega
              have hmI : (x[j].toNat : Int) = (m : Int) := by rw [hm]
              have d46 : ((m : Int) == 46) = false := beq_eq_false_iff_ne.2 (by omega)
              have d37 : ((m : Int) == 37) = false := beq_eq_false_iff_ne.2 (by omega)
              clear hlow hm HY
              rcases hcase with ⟨h1, h2⟩ | ⟨h1, h2⟩ | h1 | h1
              · have e1 : (97 : Int) ≤ (m : Int) := by omega
                have e2 : (m : Int) ≤ 122 := by omega
                go_wp2
                exact ⟨⟨j + 1, by omega, by go_num, trivial, HLo2⟩, by simp [intOf]; omega⟩
              · have e0 : (m : Int) < 97 := by omega
                have e1 : (48 : Int) ≤ (m : Int) := by omega
                have e2 : (m : Int) ≤ 57 := by omega
                go_wp2
                exact ⟨⟨j + 1, by omega, by go_num, trivial, HLo2⟩, by simp [intOf]; omega⟩
              · subst h1
                go_wp2
                exact ⟨⟨j + 1, by omega, by go_num, trivial, HLo2⟩, by simp [intOf]; omega⟩
              · have e0 : (122 : Int) < (m : Int) := by omega
                have e1 : (97 : Int) ≤ (m : Int) := by omega
                have e2 : (57 : Int) < (m : Int) := by omega
                have e4 : (48 : Int) ≤ (m : Int) := by omega
                have e3 : (128 : Int) ≤ (m : Int) := by omega
                have d45 : ((m : Int) != 45) = true := by rw [bne, beq_eq_false_iff_ne.2 (show (m : Int) ≠ 45 by omega)]; rfl
                go_wp2
                exact ⟨⟨j + 1, by omega, by go_num, trivial, HLo2⟩, by simp [intOf]; omega⟩
            · have hcase : m = 46 ∨ m = 37 ∨ (m ≠ 46 ∧ m ≠ 37 ∧ m ≠ 45 ∧ m < 128 ∧ (m < 48 ∨ (57 < m ∧ m < 97) ∨ 122 < m)) := by
                rw [lowP, ← hm] at hlow
                simp only [Bool.or_eq_true, decide_eq_true_eq] at hlow
                omega
              have hmI : (x[j].toNat : Int) = (m : Int) := by rw [hm]
              clear hlow hm HY
              rcases hcase with h1 | h1 | ⟨h1, h2, h3, h4, h5⟩
              · subst h1
                go_wp2
                go_ret
                exact ⟨rfl, Z3.out⟩
              · subst h1
                go_wp2
                go_ret
                exact ⟨rfl, Z3.out⟩
              · have d46 : ((m : Int) == 46) = false := beq_eq_false_iff_ne.2 (by omega)
                have d37 : ((m : Int) == 37) = false := beq_eq_false_iff_ne.2 (by omega)
                have d45 : ((m : Int) != 45) = true := by rw [bne, beq_eq_false_iff_ne.2 (show (m : Int) ≠ 45 by omega)]; rfl
                have e3 : (m : Int) < 128 := by omega
                rcases h5 with h5 | ⟨h5, h6⟩ | h5
                · have e1 : (m : Int) < 48 := by omega
                  have e2 : (m : Int) < 97 := by omega
                  go_wp2
                  go_ret
                  exact ⟨rfl, Z3.out⟩
                · have e1 : (57 : Int) < (m : Int) := by omega
                  have e2 : (m : Int) < 97 := by omega
                  have e4 : (48 : Int) ≤ (m : Int) := by omega
                  go_wp2
                  go_ret
                  exact ⟨rfl, Z3.out⟩
                · have e1 : (122 : Int) < (m : Int) := by omega
                  have e2 : (97 : Int) ≤ (m : Int) := by omega
                  have e4 : (48 : Int) ≤ (m : Int) := by omega
                  have e5 : (57 : Int) < (m : Int) := by omega
                  go_wp2
                  go_ret
                  exact ⟨rfl, Z3.out⟩
          · obtain rfl : j = x.size := by omega
            have HOk2 : Hid (∀ j (h : j < L.length), j < k + 1 → (labT L[j]).2 = 0 ∧ ∀ c ∈ L[j].data.toList, lowP c = true) := Lib.hid (fun q hq hqk => by
              by_cases e : q = k
              · subst e
                rw [Hx.out]
                refine ⟨Hc.out, fun z hz => ?_⟩
                obtain ⟨i, hi, rfl⟩ := List.getElem_of_mem hz
                have hi' : i < x.size := by rw [← lenB]; exact hi
                exact HLo.out i hi' hi'
              · exact HOk.out q hq (by omega))
            clear HLo HOk
            go_wp2
            exact ⟨⟨k + 1, by omega, by go_num, by rw [HA2.out], by rw [HV2.out], HOk2, Z3⟩, by simp [intOf]; omega⟩
      · have hcI : (c != 0) = true := by rw [bne, beq_eq_false_iff_ne.2 hc0]; rfl
        clear hc0
        go_wp2_with fail
        refine CL.out.mono ?_
        rintro e w3 ⟨rfl, b3⟩
        have Z3 : Hid (Below w.heap.size w w3) := Lib.hid (keepW HB.out b3)
        clear b3 hx
        go_wp2
        go_ret
        exact ⟨rfl, Z3.out⟩
    · obtain rfl : k = n := by omega
      have HT : Hid (L.take k = L) := Lib.hid (List.take_of_length_le (by rw [HN.out]; exact Nat.le_refl _))
      rw [HT.out]
      have hLne : L ≠ [] := by
        intro e
        have := HN.out
        rw [e] at this
        simp at this; omega
      obtain ⟨X, HX⟩ : ∃ X, Hid (L.map (fun p => (labT p).1) = X) := ⟨_, Lib.hid rfl⟩
      have hXne : X ≠ [] := by rw [← HX.out]; simpa using hLne
      have HP : Hid (∀ p ∈ L, p.size ≤ 1000 ∧ (labT p).2 = 0 ∧ ∀ c ∈ p.data.toList, lowP c = true) := Lib.hid (fun p hp => by
        obtain ⟨j, hj, rfl⟩ := List.getElem_of_mem hp
        have := HOk.out j hj (by rw [← HN.out]; exact hj)
        exact ⟨HSz.out _ hp, this.1, this.2⟩)
      rw [HX.out]
      obtain ⟨A, HAa⟩ : ∃ A, Hid (dtS L = A) := ⟨_, Lib.hid rfl⟩
      obtain ⟨V, HV⟩ : ∃ V, Hid (dtS X = V) := ⟨_, Lib.hid rfl⟩
      have HAe : Hid (A.extract 1 A.size = dotJ L) := Lib.hid (by rw [← HAa.out, dtS_ext hLne])
      have HVe : Hid (V.extract 1 V.size = dotJ X) := Lib.hid (by rw [← HV.out, dtS_ext hXne])
      have hXl : X.length = k := by rw [← HX.out, List.length_map, HN.out]
      have hA1 : 1 ≤ A.size ∧ A.size ≤ 1000 := by
        have h2 := HSum.out
        rw [← HAa.out, dtS_size, HN.out]; omega
      have hV1 : 1 ≤ V.size ∧ V.size ≤ 1280 := by
        have h1 := lab_sum (L := L) (fun p hp => HSz.out p hp)
        rw [HX.out, HN.out] at h1
        rw [← HV.out, dtS_size, hXl]; omega
      have hVd : V.size = 1 + (dotJ X).size := by rw [← HV.out, dtS_dot hXne, ByteArray.size_append]; rfl
      have hAd : A.size = 1 + (dotJ L).size := by rw [← HAa.out, dtS_dot hLne, ByteArray.size_append]; rfl
      obtain ⟨C2, b2, k2, hv, hsz, hone, hcase⟩ := fourV_row (dotJ X).data.toList
      obtain ⟨hz, hi⟩ := zero_of_info infoA
      have CF : Hid (∀ w, Calls Tryz.prog 26 #[.string (V.extract 1 V.size)] w fun e w' => e = .returned (.tuple #[.agg C2, .bool b2, .int .i64 k2]) ∧ Below w.heap.size w w') := Lib.hid (fun w => by
        have := Four_any (dotJ X) w (by omega)
        rw [hv] at this
        rwa [HVe.out])
      have H2i : Hid ((Tryz.prog.info? 47).map (·.size) = some C2.size) := Lib.hid (by rw [hi, hsz])
      have H2z : Hid (zeroA.size = C2.size) := Lib.hid (by rw [hsz]; exact zeroA_size)
      have H2o := Lib.hid hone
      have H2b : Hid (b2 = false → (fourD (dotJ X).data.toList).1 = false) := Lib.hid (by
        rcases hcase with ⟨rfl, -, h⟩ | ⟨rfl, -, -⟩ | ⟨rfl, -, -⟩
        · exact fun _ => h
        · exact fun h => by cases h
        · exact fun h => by cases h)
      obtain ⟨hA0, hA2⟩ := hA1
      obtain ⟨hV0, hV2⟩ := hV1
      have HIs : Hid (b2 = false → V.size ≤ 254 → ∀ w, Hw w → Calls Tryz.prog 21 #[.string (A.extract 1 A.size), .string (V.extract 1 V.size)] w fun e w' => e = .returned (.bool true) ∧ Below w.heap.size w w') := Lib.hid (fun hb h254 w hW => by
        rw [HAe.out, HVe.out]
        refine is5_yes _ _ w (by omega) ?_ hW
        have := points_host hLne HP.out (by rw [HX.out]; omega) (by rw [HX.out]; exact H2b.out hb)
        rwa [HX.out] at this)
      rw [HAa.out, HV.out]
      clear hv hsz hone hcase hi hLne hXne HOk hXl hVd hAd
      go_wp2_with fail
      refine (CF.out _).mono ?_
      rintro e w3 ⟨rfl, b3⟩
      have Z3 : Hid (Below w.heap.size w w3) := Lib.hid (keepW HB.out b3)
      clear b3
      obtain ⟨W4, HW4⟩ : ∃ W, Hid (w3.alloc (.cells C2 47) = W) := ⟨_, Lib.hid rfl⟩
      have Z4 : Hid (Below w.heap.size w W4) := Lib.hid (by rw [← HW4.out]; exact Z3.out.alloc Z3.out.size _)
      cases b2
      · by_cases h254 : V.size ≤ 254
        · have h254I : (V.size : Int) ≤ 254 := by omega
          have HIn := Lib.hid (HIs.out rfl h254)
          have HWd : Hid (∀ v, Below W4.heap.size W4 v → Hw v) := Lib.hid (fun v hv => HW.out.later (keepW Z4.out hv))
          have hA0I : (1 : Int) ≤ (A.size : Int) := by omega
          have hV0I : (1 : Int) ≤ (V.size : Int) := by omega
          have hbb : Below W4.heap.size W4 W4.drew := (Below.refl W4.heap.size W4).drew
          clear HIs h254
          go_wp2_with (refine wpL_store_row rfl 47 _ _ rfl w3.heap.size C2 ?_ ?_ 47 zeroA ?_ ?_ ?_ ?_ ?_; exact rfl; exact rfl; exact heap_alloc_new w3 _; exact H2i.out; exact H2z.out; exact H2o.out; rw [World.setRow_alloc_new, HW4.out])
          go_region_held3 (fun w' => Below W4.heap.size W4 w') (first | assumption | exact keepW (by assumption) (by assumption) | go_keep)
            (first | (go_at_call 21; (with_reducible refine (HIn.out _ (HWd.out _ ?_)).mono ?_); (first | assumption | fail); rintro e w' ⟨rfl, bT⟩))
          all_goals
            go_wp2
            go_ret
            exact ⟨rfl, keepW Z4.out (by assumption)⟩
        · have h254I : (254 : Int) < (V.size : Int) := by omega
          clear HIs h254
          go_wp2_with (refine wpL_store_row rfl 47 _ _ rfl w3.heap.size C2 ?_ ?_ 47 zeroA ?_ ?_ ?_ ?_ ?_; exact rfl; exact rfl; exact heap_alloc_new w3 _; exact H2i.out; exact H2z.out; exact H2o.out; rw [World.setRow_alloc_new, HW4.out])
          go_ret
          exact ⟨rfl, Z4.out⟩
      · clear HIs
        go_wp2_with (refine wpL_store_row rfl 47 _ _ rfl w3.heap.size C2 ?_ ?_ 47 zeroA ?_ ?_ ?_ ?_ ?_; exact rfl; exact rfl; exact heap_alloc_new w3 _; exact H2i.out; exact H2z.out; exact H2o.out; rw [World.setRow_alloc_new, HW4.out])
        go_ret
        exact ⟨rfl, Z4.out⟩

end Go.Proofs.YtjalbfgdhmkclaaGreatDoor
