/-
  Contract: Four: the document's answer.
-/
import Derived.Test.YtjalbfgdhmkclaaRdK
namespace Go.Proofs.Ytjalbfgdhmkclaa
open Go.RowKit

theorem trimP_low (l : List UInt8) : trimP (l.map low) = (trimP l).map low := by
  unfold trimP
  have h : (l.map low).getLast? = some 46 ↔ l.getLast? = some 46 := by
    rw [List.getLast?_map]
    cases l.getLast? with
    | none => simp
    | some c => simp [low_46]
  by_cases h1 : l.getLast? = some 46
  · rw [if_pos h1, if_pos (h.2 h1), List.map_dropLast]
  · rw [if_neg h1, if_neg (fun e => h1 (h.1 e))]
theorem lastQ_low (P : List (List UInt8)) : lastQ (P.map (List.map low)) = (lastQ P).map low := by
  unfold lastQ
  rw [List.getLast?_map]
  cases P.getLast? <;> rfl
theorem evs_low : ∀ P : List (List UInt8), evs num1 num1 (P.map (List.map low)) = evs num1 num1 P
  | [] => rfl
  | [q] => by
    show num1 (q.map low) = num1 q
    unfold num1; rw [numD_low]
  | q :: p :: P => by
    rw [List.map_cons, evs_cons _ _ _ (by simp), evs_cons _ _ _ (by simp), evs_low (p :: P)]
    unfold num1; rw [numD_low]
theorem fourD_low (l : List UInt8) : fourD (l.map low) = fourD l := by
  unfold fourD
  rw [trimP_low, pts_low 46 low_46, lastQ_low, looksQ_low, List.length_map, evs_low]
theorem fourD_fst (s : ByteArray) : (fourD s.data.toList).1 = looksF s := by
  unfold fourD looksF
  split <;> simp_all

theorem row_len {o : List UInt8 → Option (List Nat × List UInt8)} {sep : UInt8} {most : Nat} : ∀ (f : Nat) (out : List Nat) (l : List UInt8), out.length ≤ most → (rowG o sep most f out l).1.length ≤ most
  | 0, _, _, h => h
  | f + 1, out, l, h => by
    rw [rowG]
    split
    · exact h
    · split
      · exact h
      · split
        · exact h
        · exact row_len f _ _ (by rw [List.length_append]; omega)
theorem row_le {o : List UInt8 → Option (List Nat × List UInt8)} {sep : UInt8} {most B : Nat} (ho : ∀ l ns u, o l = some (ns, u) → ∀ n ∈ ns, n ≤ B) : ∀ (f : Nat) (out : List Nat) (l : List UInt8), (∀ n ∈ out, n ≤ B) → ∀ n ∈ (rowG o sep most f out l).1, n ≤ B
  | 0, _, _, h => h
  | f + 1, out, l, h => by
    rw [rowG]
    split
    · exact h
    · split
      · exact h
      · rename_i ns r h2
        split
        · exact h
        · exact row_le ho f _ _ fun n hn => by
            rcases List.mem_append.1 hn with hn | hn
            · exact h n hn
            · exact ho _ _ _ h2 n hn
theorem rpart_le : ∀ l ns u, rpart l = some (ns, u) → ∀ n ∈ ns, n ≤ 4294967296 := by
  intro l ns u h n hn
  unfold rpart at h
  split at h
  · injection h with h; injection h with h1 h2; subst h1
    rw [List.mem_singleton.1 hn]; exact fol_le _ _
  · split at h
    · injection h with h; injection h with h1 h2; subst h1
      rw [List.mem_singleton.1 hn]; exact fol_le _ _
    · unfold rdec at h
      split at h
      · cases h
      · injection h with h; injection h with h1 h2; subst h1
        rw [List.mem_singleton.1 hn]; exact fol_le _ _
theorem trim46 (r : List UInt8) : Lib.trimPrefix r [46] = [] ↔ (r = [] ∨ r = [46]) := by
  unfold Lib.trimPrefix Lib.hasPrefix
  cases r with
  | nil => simp [List.isPrefixOf]
  | cons c r =>
    by_cases hc : c = 46
    · subst hc; simp [List.isPrefixOf]
    · simp [List.isPrefixOf, Ne.symm hc, hc]

set_option maxRecDepth 100000 in
set_option maxHeartbeats 1000000 in
theorem Four_any (s : ByteArray) (w : World) (hs : s.size ≤ 1048600) :
    Calls Try.prog 11 #[.string s] w fun e w' => e = .returned (fourV (fourD s.data.toList)) ∧ Below w.heap.size w w' := by
  obtain ⟨hz, hi⟩ := zero_of_info infoA
  have HI := Lib.hid hi; clear hi
  have HIz : Hid ((Try.prog.info? 28).map (·.size) = some zeroA.size) := Lib.hid (by rw [HI.out, zeroA_size])
  have hfst := fourD_fst s
  obtain ⟨lk, HL⟩ : ∃ lk, Hid (looksF s = lk) := ⟨_, Lib.hid rfl⟩
  have HLk : Hid (∀ w, Calls Try.prog 15 #[.string s] w fun e w' => e = .returned (.bool lk) ∧ Below w.heap.size w w') := Lib.hid (fun w => by
    have := looksLike_any s w hs
    rwa [HL.out] at this)
  rw [HL.out] at hfst
  cases lk
  · have HV : Hid (fourV (fourD s.data.toList) = .tuple #[.agg zeroA, .bool false, .int .i64 0]) := Lib.hid (by
      cases hq : fourD s.data.toList with
      | mk x y =>
        rw [hq] at hfst
        have : x = false := hfst
        subst this; rfl)
    rw [HV.out]
    clear hfst
    go_enter Try.func11, Try.ntmps11
    go_wp2_with fail
    refine (HLk.out _).mono ?_
    rintro e w1 ⟨rfl, b1⟩
    have B1 := Lib.hid b1
    have HR1 : Hid (w1.heap[w.heap.size]? = some (.cells zeroA 28 (0, 0))) := Lib.hid ((b1.block _ (by simp)).trans (heap_alloc_new w _))
    clear b1
    go_wp2_with (refine wpL_store_row rfl _ _ _ rfl w.heap.size zeroA rfl rfl _ zeroA HR1.out HIz.out rfl zeroA_one ?_)
    refine bodyPost_ret (v := .tuple #[.agg zeroA, .bool false, .int .i64 0]) (results_row3 Try.results11 _ _ w.heap.size _ zeroA (0, 0) _ rfl (setRow_heap _ _ zeroA zeroA _ _ HR1.out) Try.underlying28 rfl HIz.out) rfl ⟨rfl, ?_⟩
    exact below_setRow (((Below.refl _ _).alloc (Nat.le_refl _) _).trans (B1.out.mono (by simp))) (Nat.le_refl _) _
  · obtain ⟨R, HR⟩ : ∃ R, Hid (rowG rpart 46 4 ((lowS s).size + 2) [] (lowS s).data.toList = R) := ⟨_, Lib.hid rfl⟩
    have HV : Hid (fourV (fourD s.data.toList) = fourV (true, if Lib.trimPrefix R.2 [46] = [] then lay4 4 R.1 else none)) := Lib.hid (by
      have h1 : looksQ (lastQ (pts 46 (trimP (lowS s).data.toList))) = true := by
        show looksQ (lastQ (pts 46 (trimP (s.data.toList.map low)))) = true
        rw [trimP_low, pts_low 46 low_46, lastQ_low, looksQ_low]; exact HL.out
      have h2 := fourP_eq (lowS s).data.toList (sml_88 (lowS_sml s)) h1
      have h3 : fourD (lowS s).data.toList = fourD s.data.toList := fourD_low _
      rw [h3] at h2
      have h4 : fourP (lowS s).data.toList = if Lib.trimPrefix R.2 [46] = [] then lay4 4 R.1 else none := by
        unfold fourP
        rw [lenB, HR.out]
        simp only [trim46]
      rw [h4] at h2
      cases hq : fourD s.data.toList with
      | mk x y =>
        rw [hq] at hfst h2
        have : x = true := hfst
        subst this
        have : _ = y := h2
        rw [this])
    rw [HV.out]
    have hRl : R.1.length ≤ 4 := by rw [← HR.out]; exact row_len _ _ _ (by simp)
    have HRle : Hid (∀ n ∈ R.1, n ≤ 4294967296) := Lib.hid (by rw [← HR.out]; exact row_le rpart_le _ _ _ (by simp))
    obtain ⟨A, B⟩ := R
    obtain ⟨T, HT⟩ : ∃ T, Hid (Lib.trimPrefix B [46] = T) := ⟨_, Lib.hid rfl⟩
    simp only
    rw [HT.out]
    obtain ⟨V, HVV⟩ : ∃ V, Hid (fourV (true, if T = [] then lay4 4 A else none) = V) := ⟨_, Lib.hid rfl⟩
    rw [HVV.out]
    have hmf := mkfK
    clear hfst
    have hls : (lowS s).size ≤ 1048600 := by rw [lowS_size]; exact hs
    go_enter Try.func11, Try.ntmps11
    go_wp2_with fail
    refine (HLk.out _).mono ?_
    rintro e w1 ⟨rfl, b1⟩
    have B1 := Lib.hid b1
    clear b1
    go_wp2_with fail
    refine (readerOf_any s _ (by unfold maxLen; omega)).mono ?_
    rintro e w2 ⟨b, hb, rfl, r2, b2⟩
    have R2 := Lib.hid r2; have B2 := Lib.hid b2
    clear r2 b2
    go_wp2_with fail
    refine (row_any b _ _ _ rpart 46 4 (lowS s) _ (way_part b _) R2.out hls (lowS_sml s) (by omega)).mono ?_
    rw [HR.out]
    rintro e w3 ⟨v, rfl, own3, r3, k3⟩
    have Own3 := Lib.hid own3; have R3 := Lib.hid r3; have K3 := Lib.hid k3
    clear own3 r3 k3
    go_wp2_with fail
    refine (cut_any b _ ⟨#[46]⟩ _ R3.out).mono ?_
    rintro e w4 ⟨rfl, r4, k4⟩
    rw [show Lib.trimPrefix (asB (A, B).2).data.toList (⟨#[46]⟩ : ByteArray).data.toList = T from HT.out] at r4
    have R4 := Lib.hid r4; have K4 := Lib.hid k4
    have Own4 := Lib.hid (own_kept Own3.out k4 (fun q hq e => by rw [show q = b from e] at hq; have := R2.out.lt; omega))
    clear r4 k4
    go_wp2_with fail
    refine (fourOf_any _ v A _ Own4.out hRl HRle.out).mono ?_
    rintro e w5 ⟨b5, h5, h6⟩
    have B5 := Lib.hid b5
    have c5 : w5.cell? ⟨b, 0, none⟩ = some (.string (asB T)) := (b5.cell (p := ⟨b, 0, none⟩) R4.out.lt).trans R4.out.cell
    have HBz0 : Hid (Below w.heap.size w w5) := Lib.hid (by
      have z1 := B1.out.size
      have z2 := B2.out.size
      have k34 : Kp (Only b) w2 w4 := K3.out.trans K4.out
      have hwb : w.heap.size ≤ b := by simp at z1; omega
      have bw2 : Below w.heap.size w w2 := (((Below.refl _ _).alloc (Nat.le_refl _) _).trans (B1.out.mono (by simp))).trans (B2.out.mono (by simp at z1; omega))
      have bw4 : Below w.heap.size w w4 := bw2.trans (k34.below bw2.size (fun q hq => by rw [show q = b from hq]; exact hwb))
      exact bw4.trans (b5.mono bw4.size))
    have HR0 : Hid (w5.heap[w.heap.size]? = some (.cells zeroA 28 (0, 0))) := Lib.hid (by
      have z1 := B1.out.size
      have z2 := B2.out.size
      have hwb : w.heap.size < b := by simp at z1; omega
      have e1 : w1.heap[w.heap.size]? = some (.cells zeroA 28 (0, 0)) := (B1.out.block _ (by simp)).trans (heap_alloc_new w _)
      have e2 : w2.heap[w.heap.size]? = some (.cells zeroA 28 (0, 0)) := (B2.out.block _ (lt_of_block e1)).trans e1
      have e4 := (K3.out.trans K4.out).at e2 (by unfold Only; omega)
      exact (b5.block _ (lt_of_block e4)).trans e4)
    have hzs := zeroA_size
    have HRa : ∀ o, Hid ((w5.alloc o).heap[w.heap.size]? = some (.cells zeroA 28 (0, 0))) := fun o => Lib.hid (by rw [Below.heap_alloc _ _ _ (lt_of_block HR0.out)]; exact HR0.out)
    cases hlay : lay4 4 A with
    | none =>
      obtain rfl := h6 hlay
      have HVn : Hid (V = .tuple #[.agg zeroA, .bool true, .int .i64 5]) := Lib.hid (by rw [← HVV.out, hlay, ite_self]; rfl)
      clear h5 h6 b5 hlay
      go_wp2_with (first | (refine wpL_store_row rfl _ _ _ rfl w5.heap.size zeroA rfl rfl _ zeroA (heap_alloc_new w5 _) HIz.out rfl zeroA_one ?_; rw [World.setRow_alloc_new]) | refine wpL_store_row rfl _ _ _ rfl w.heap.size zeroA rfl rfl _ zeroA (HRa _).out HIz.out rfl zeroA_one ?_)
      refine bodyPost_ret (v := .tuple #[.agg zeroA, .bool true, .int .i64 5]) (results_row3 Try.results11 _ _ w.heap.size _ zeroA (0, 0) _ rfl (setRow_heap _ _ zeroA zeroA _ _ (HRa _).out) Try.underlying28 rfl HIz.out) rfl ⟨by rw [HVn.out], ?_⟩
      exact below_setRow (HBz0.out.alloc HBz0.out.size _) (Nat.le_refl _) _
    | some bs =>
      obtain rfl := h5 bs hlay
      have hln := (lay4_len A 4 bs hRl hlay).1
      obtain ⟨D, HD⟩ : ∃ D, Hid (cellsA false (bs ++ List.replicate 12 0) = D) := ⟨_, Lib.hid rfl⟩
      have HDz : Hid (D.size = 17) := Lib.hid (by rw [← HD.out, cellsA_size]; simp; omega)
      have HOne : Hid (D.all (·.oneCell') = true) := Lib.hid (by rw [← HD.out]; exact cellsA_one _ _)
      have HID : Hid ((Try.prog.info? 28).map (·.size) = some D.size) := Lib.hid (by rw [HI.out, HDz.out])
      have HZD : Hid (zeroA.size = D.size) := Lib.hid (by rw [HDz.out, zeroA_size])
      rw [HD.out]
      clear hln
      cases T with
      | cons x T =>
        have HVn : Hid (V = .tuple #[.agg zeroA, .bool true, .int .i64 5]) := Lib.hid (by rw [← HVV.out, if_neg (by simp)]; rfl)
        have hem : (asB (x :: T)).toList.isEmpty = false := by rw [ByteArray.toList_eq]; rfl
        clear h5 h6 b5 hlay
        have c6 : ∀ o, (w5.alloc o).cell? ⟨b, 0, none⟩ = some (.string (asB (x :: T))) := fun o => by
          rw [World.cell?_alloc_lt w5 o _ (block_lt_of_cell c5)]; exact c5
        go_wp2_with (first | (refine wpL_store_row rfl _ _ _ rfl w5.heap.size D rfl rfl _ zeroA (heap_alloc_new w5 _) HID.out HZD.out HOne.out ?_; rw [World.setRow_alloc_new]) | refine wpL_store_row rfl _ _ _ rfl w.heap.size zeroA rfl rfl _ zeroA (HRa _).out HIz.out rfl zeroA_one ?_)
        refine bodyPost_ret (v := .tuple #[.agg zeroA, .bool true, .int .i64 5]) (results_row3 Try.results11 _ _ w.heap.size _ zeroA (0, 0) _ rfl (setRow_heap _ _ zeroA zeroA _ _ (HRa _).out) Try.underlying28 rfl HIz.out) rfl ⟨by rw [HVn.out], ?_⟩
        exact below_setRow (HBz0.out.alloc HBz0.out.size _) (Nat.le_refl _) _
      | nil =>
        have HVn : Hid (V = .tuple #[.agg D, .bool true, .int .i64 0]) := Lib.hid (by rw [← HVV.out, if_pos rfl, hlay, ← HD.out]; rfl)
        have hem : (asB []).toList.isEmpty = true := by rw [ByteArray.toList_eq]; rfl
        clear h5 h6 b5 hlay
        have c6 : ∀ o, (w5.alloc o).cell? ⟨b, 0, none⟩ = some (.string (asB [])) := fun o => by
          rw [World.cell?_alloc_lt w5 o _ (block_lt_of_cell c5)]; exact c5
        go_wp2_with (first | (refine wpL_store_row rfl _ _ _ rfl w5.heap.size D rfl rfl _ zeroA (heap_alloc_new w5 _) HID.out HZD.out HOne.out ?_; rw [World.setRow_alloc_new]) | refine wpList_load_row rfl 28 _ rfl w5.heap.size rfl 28 D (0, 0) _ (heap_alloc_new w5 _) Try.underlying28 rfl HID.out ?_ | refine wpL_store_row rfl _ _ _ rfl w.heap.size D rfl rfl _ zeroA (HRa _).out HID.out HZD.out HOne.out ?_)
        refine bodyPost_ret (v := .tuple #[.agg D, .bool true, .int .i64 0]) (results_row3 Try.results11 _ _ w.heap.size _ D (0, 0) _ rfl (setRow_heap _ _ zeroA D _ _ (HRa _).out) Try.underlying28 rfl HID.out) rfl ⟨by rw [HVn.out], ?_⟩
        exact below_setRow (HBz0.out.alloc HBz0.out.size _) (Nat.le_refl _) _

end Go.Proofs.Ytjalbfgdhmkclaa
