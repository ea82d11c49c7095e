/-
  Contract: the document's Six.
-/
import Derived.Test.YtjalbfgdhmkclaaGreatDoorMrC
import Derived.Test.YtjalbfgdhmkclaaGreatDoorMhB
namespace Go.Proofs.YtjalbfgdhmkclaaGreatDoor
open Go.RowKit

theorem cellsA_set (six : Bool) (L : List Nat) (k x : Nat) : (cellsA six L).setIfInBounds (1 + k) (u8v x) = cellsA six (L.set k x) := by
  unfold cellsA
  rw [List.setIfInBounds_toArray, Nat.add_comm 1 k, List.set_cons_succ, List.map_set]
theorem set_row (A Q : List Nat) (k r : Nat) (h : k < Q.length) : (A ++ Q.take k ++ List.replicate (r + 1) 0).set (A.length + k) Q[k] = A ++ Q.take (k + 1) ++ List.replicate r 0 := by
  have hl : (A ++ Q.take k).length = A.length + k := by rw [List.length_append, List.length_take]; omega
  rw [List.set_append, if_neg (by omega), hl, Nat.sub_self, List.replicate_succ, List.set_cons_zero, List.take_succ_eq_append_getElem h]
  simp only [List.append_assoc, List.cons_append, List.nil_append]
theorem step_row {Q : List Nat} {m : Nat} (h : m < Q.length) (h16 : Q.length ≤ 16) : (Q.take m ++ List.replicate (16 - m) 0).set m Q[m] = Q.take (m + 1) ++ List.replicate (16 - (m + 1)) 0 := by
  have := set_row [] Q m (15 - m) h
  rw [List.nil_append, List.nil_append, List.length_nil, Nat.zero_add] at this
  rw [show 16 - m = (15 - m) + 1 by omega, show 16 - (m + 1) = 15 - m by omega]
  exact this
theorem evs_len_le {f g : List UInt8 → Option (List Nat)} (hf : ∀ q ns, f q = some ns → ns.length ≤ 1) (hg : ∀ q ns, g q = some ns → ns.length ≤ 2) : ∀ (Q : List (List UInt8)) (ns : List Nat), evs f g Q = some ns → ns.length ≤ Q.length + 1
  | [], ns, h => by cases h
  | [q], ns, h => hg q ns h
  | q :: p :: Q, ns, h => by
    rw [evs_cons _ _ _ (by simp)] at h
    cases h1 : f q with
    | none => rw [h1] at h; cases h
    | some a =>
      rw [h1] at h
      cases h2 : evs f g (p :: Q) with
      | none => rw [h2] at h; cases h
      | some b =>
        rw [h2] at h
        have h := Option.some.inj h
        have e1 := hf q a h1
        have e2 := evs_len_le hf hg (p :: Q) b h2
        rw [← h, List.length_append]
        simp only [List.length_cons] at e2 ⊢
        omega
theorem lastP_len {en : Bool} {q : List UInt8} {ns : List Nat} (h : lastP en q = some ns) : ns.length ≤ 2 := by
  have h1 : ∀ ns, pc1 q = some ns → ns.length ≤ 2 := fun ns h => by obtain ⟨n, _, rfl⟩ := pc1_val h; simp
  cases en
  · exact h1 ns h
  · have h : both1 q = some ns := h
    unfold both1 at h
    split at h
    · rename_i m hm; injection h with h; subst h; exact h1 _ hm
    · unfold four1 at h
      split at h
      · unfold two4 at h
        split at h
        · injection h with h; subst h; simp
        · cases h
      · cases h
theorem piecesD_len {en : Bool} {l : List UInt8} {ns : List Nat} (h : piecesD en l = some ns) : ns.length ≤ l.length + 2 := by
  unfold piecesD at h
  split at h
  · injection h with h; subst h; simp
  · have h : evs pc1 (lastP en) (pts 58 l) = some ns := h
    have := evs_len_le (fun q ns h => by obtain ⟨n, _, rfl⟩ := pc1_val h; simp) (fun q ns h => lastP_len h) _ _ h
    have := pts_len 58 l
    omega
/-- Two colons together. -/
def Pair (l : List UInt8) (i : Nat) : Prop := l[i]? = some 58 ∧ l[i + 1]? = some 58
theorem pair_at {s : ByteArray} {i : Nat} (h : i + 1 < s.size) : Pair s.data.toList i ↔ (s[i]'(by omega)).toNat = 58 ∧ (s[i + 1]'h).toNat = 58 := by
  have hl := lenB s
  have e1 : s.data.toList[i]? = some (s[i]'(by omega)) := by rw [List.getElem?_eq_getElem (by omega)]; rfl
  have e2 : s.data.toList[i + 1]? = some (s[i + 1]'h) := by rw [List.getElem?_eq_getElem (by omega)]; rfl
  unfold Pair
  rw [e1, e2]
  constructor
  · rintro ⟨h1, h2⟩
    injection h1 with h1; injection h2 with h2
    rw [h1, h2]; exact ⟨rfl, rfl⟩
  · rintro ⟨h1, h2⟩
    exact ⟨congrArg some (UInt8.toNat_inj.1 h1), congrArg some (UInt8.toNat_inj.1 h2)⟩
/-- While two colons are looked for. -/
def LookS (s : ByteArray) (k : Nat) (a : Int) : Prop := (a = -1 ∧ ∀ i, i < k → ¬ Pair s.data.toList i) ∨ (∃ j : Nat, k = j + 1 ∧ a = (j : Int) ∧ j + 1 < s.size ∧ Pair s.data.toList j ∧ ∀ i, i < j → ¬ Pair s.data.toList i)

set_option maxRecDepth 100000 in
set_option maxHeartbeats 2000000 in
theorem RefSix_any (s : ByteArray) (w : World) (hs : s.size ≤ 1048600) :
    Calls Tryz.prog 31 #[.string s] w fun e w' => e = .returned (sixV (sixD s.data.toList)) ∧ Below w.heap.size w w' := by
  obtain ⟨hz, hi⟩ := zero_of_info infoA
  have HI := Lib.hid hi; clear hi
  have HIz : Hid ((Tryz.prog.info? 47).map (·.size) = some zeroA.size) := Lib.hid (by rw [HI.out, zeroA_size])
  have hzs := zeroA_size
  obtain ⟨V, HV⟩ : ∃ V, Hid (sixV (sixD s.data.toList) = V) := ⟨_, Lib.hid rfl⟩
  rw [HV.out]
  have HL := Lib.hid (lenB s)
  obtain ⟨T, HT⟩ : ∃ T, Hid (zeroA.setIfInBounds 0 (.bool true) = T) := ⟨_, Lib.hid rfl⟩
  have HTe : Hid (T = cellsA true (List.replicate 16 0)) := Lib.hid (by rw [← HT.out]; rfl)
  have HTz : Hid (T.size = 17) := Lib.hid (by rw [HTe.out, cellsA_size]; rfl)
  have HTo : Hid (T.all (·.oneCell') = true) := Lib.hid (by rw [HTe.out]; exact cellsA_one _ _)
  have HTi : Hid ((Tryz.prog.info? 47).map (·.size) = some T.size) := Lib.hid (by rw [HI.out, HTz.out])
  have HTZ : Hid (zeroA.size = T.size) := Lib.hid (by rw [HTz.out, zeroA_size])
  have hT : zeroA.setIfInBounds 0 (.bool true) = T := HT.out
  go_enter Tryz.func31, Tryz.ntmps31
  go_wp2
  have HG0 : Hid (((((w.alloc (.cells zeroA 47)).alloc (.cells zeroA 47))).setRow (w.heap.size + 1) T).heap[w.heap.size + 1]? = some (.cells T 47 (0, 0))) := Lib.hid (setRow_heap _ _ zeroA T _ _ (heap_two w _ _))
  have HB0 : Hid (Below w.heap.size w ((((w.alloc (.cells zeroA 47)).alloc (.cells zeroA 47))).setRow (w.heap.size + 1) T)) := Lib.hid (below_setRow (((Below.refl _ _).alloc (Nat.le_refl _) _).alloc (by simp) _) (by omega) _)
  have HR0 : Hid (((((w.alloc (.cells zeroA 47)).alloc (.cells zeroA 47))).setRow (w.heap.size + 1) T).heap[w.heap.size]? = some (.cells zeroA 47 (0, 0))) := Lib.hid (by
    rw [setRow_other _ _ _ _ (by omega), Below.heap_alloc _ _ _ (by simp)]; exact heap_alloc_new w _)
  have HW2 : Hid ((((w.alloc (.cells zeroA 47)).alloc (.cells zeroA 47)).setRow (w.heap.size + 1) T).heap.size = w.heap.size + 2) := Lib.hid (by simp [World.setRow])
  go_loop [4, 5] (fun a i => ∃ (k : Nat) (x : Int), k ≤ s.size ∧ i = .int .i64 k ∧ a = .int .i64 x ∧ Hid (LookS s k x)) (fun _ i => s.size - (intOf i).toNat)
  case atStart => exact ⟨0, -1, by omega, rfl, rfl, Lib.hid (.inl ⟨rfl, fun i h => absurd h (Nat.not_lt_zero _)⟩)⟩
  case round =>
    obtain ⟨k, x, hk, rfl, rfl, HS⟩ := hrel
    rcases HS.out with ⟨rfl, hno⟩ | ⟨j, rfl, rfl, hj, hpj, hno⟩
    · have HNo := Lib.hid hno
      clear hno
      by_cases hlt : k + 1 < s.size
      · have hltI : (k : Int) + 1 < (s.size : Int) := by omega
        have HPa := Lib.hid (pair_at hlt)
        by_cases h1 : (s[k]'(by omega)).toNat = 58
        · have h1I : (((s[k]'(by omega)).toNat : Int) == 58) = true := by rw [h1]; rfl
          by_cases h2 : (s[k + 1]'hlt).toNat = 58
          · have h2I : (((s[k + 1]'hlt).toNat : Int) == 58) = true := by rw [h2]; rfl
            have HS1 : Hid (LookS s (k + 1) (k : Int)) := Lib.hid (.inr ⟨k, rfl, rfl, hlt, HPa.out.2 ⟨h1, h2⟩, HNo.out⟩)
            clear h1 h2
            go_wp2
            exact ⟨⟨k + 1, (k : Int), by omega, by go_num, rfl, HS1⟩, by simp [intOf]; omega⟩
          · have h2I : (((s[k + 1]'hlt).toNat : Int) == 58) = false := beq_eq_false_iff_ne.2 (by omega)
            have HS1 : Hid (LookS s (k + 1) (-1)) := Lib.hid (.inl ⟨rfl, fun i hi => by
              by_cases e : i = k
              · subst e; exact fun hp => h2 (HPa.out.1 hp).2
              · exact HNo.out i (by omega)⟩)
            clear h1 h2
            go_wp2
            exact ⟨⟨k + 1, -1, by omega, by go_num, rfl, HS1⟩, by simp [intOf]; omega⟩
        · have h1I : (((s[k]'(by omega)).toNat : Int) == 58) = false := beq_eq_false_iff_ne.2 (by omega)
          have HS1 : Hid (LookS s (k + 1) (-1)) := Lib.hid (.inl ⟨rfl, fun i hi => by
            by_cases e : i = k
            · subst e; exact fun hp => h1 (HPa.out.1 hp).1
            · exact HNo.out i (by omega)⟩)
          clear h1
          go_wp2
          exact ⟨⟨k + 1, -1, by omega, by go_num, rfl, HS1⟩, by simp [intOf]; omega⟩
      · have hltI : ¬ (k : Int) + 1 < (s.size : Int) := by omega
        have HC : Hid (cut2 s.data.toList = none) := Lib.hid (cut2_clear _ (fun i hi => HNo.out i (by rw [HL.out] at hi; omega)))
        go_wp2_with (refine wpL_store_row rfl _ _ _ rfl (w.heap.size + 1) T rfl rfl _ zeroA (heap_two w _ _) HTi.out HTZ.out HTo.out ?_)
        refine (RefPieces_any s true _ hs).mono ?_
        rintro e w3 ⟨b3, h3⟩
        have HG3 : Hid (w3.heap[w.heap.size + 1]? = some (.cells T 47 (0, 0))) := Lib.hid ((b3.block _ (lt_of_block HG0.out)).trans HG0.out)
        have HR3 : Hid (w3.heap[w.heap.size]? = some (.cells zeroA 47 (0, 0))) := Lib.hid ((b3.block _ (lt_of_block HR0.out)).trans HR0.out)
        have HB3 : Hid (Below w.heap.size w w3) := Lib.hid (HB0.out.trans (b3.mono HB0.out.size))
        have HGs := HG0
        clear b3
        cases ho : piecesD true s.data.toList with
        | none =>
          rw [ho] at h3
          obtain rfl := h3
          have HVn : Hid (V = .tuple #[.agg zeroA, .int .i64 5]) := Lib.hid (by rw [← HV.out, sixD, HC.out]; simp only; rw [ho]; rfl)
          clear ho
          go_wp2_with (refine wpL_store_row rfl _ _ _ rfl w.heap.size zeroA rfl rfl _ zeroA HR3.out HIz.out rfl zeroA_one ?_)
          refine bodyPost_ret (v := .tuple #[.agg zeroA, .int .i64 5]) (results_row2 Tryz.results31 _ _ w.heap.size _ zeroA (0, 0) _ rfl (setRow_heap _ _ zeroA zeroA _ _ HR3.out) Tryz.underlying47 rfl HIz.out) rfl ⟨by rw [HVn.out], ?_⟩
          exact below_setRow HB3.out (Nat.le_refl _) _
        | some ps =>
          rw [ho] at h3
          obtain ⟨v, rfl, own⟩ := h3
          obtain ⟨a, cap, rfl, _⟩ := slice_own own
          have HOwn := Lib.hid own
          have hpl := pb_len ps
          obtain ⟨X, hX⟩ : ∃ X, (pb ps).length = X := ⟨_, rfl⟩
          rw [hX] at HOwn hpl
          rw [hX]
          by_cases h8 : ps.length = 8
          · have hX16 : X = 16 := by omega
            subst hX16
            have HXl := Lib.hid hX
            clear hpl hX
            have HVn : Hid (V = .tuple #[.agg (cellsA true (pb ps)), .int .i64 0]) := Lib.hid (by rw [← HV.out, sixD, HC.out]; simp only; rw [ho]; simp only; rw [if_pos h8]; rfl)
            clear ho own h8
            go_wp2_with fail
            go_loopw [9] (fun i wr => ∃ (m : Nat) (C : Array Value), m ≤ 16 ∧ i = .int .i64 m ∧ Hid (C = cellsA true ((pb ps).take m ++ List.replicate (16 - m) 0)) ∧ Hid (wr.heap[w.heap.size + 1]? = some (.cells C 47 (0, 0))) ∧ Hid (wr.heap[w.heap.size]? = some (.cells zeroA 47 (0, 0))) ∧ Hid (Kp (Only (w.heap.size + 1)) w3 wr) ∧ Hid (Below w.heap.size w wr)) (fun i _ => 16 - (intOf i).toNat)
            case atStart => exact ⟨0, T, by omega, rfl, Lib.hid (by rw [HTe.out]; rfl), HG3, HR3, Lib.hid (Kp.refl _ _), HB3⟩
            case round =>
              obtain ⟨m, C, hm, rfl, HCe, HG, HR, HK, HB⟩ := hrel
              by_cases hlt : m < 16
              · have hmX : m < (pb ps).length := by rw [HXl.out]; exact hlt
                obtain ⟨x, HX⟩ : ∃ x, Hid ((pb ps)[m] = x) := ⟨_, Lib.hid rfl⟩
                have HCz : Hid (C.size = 17) := Lib.hid (by rw [HCe.out, cellsA_size, List.length_append, List.length_take, List.length_replicate, HXl.out]; omega)
                have HOw := HOwn.out
                rcases HOw.2 with ⟨e1, h0⟩ | ⟨ga, cap', cur, e1, e2, e3, _⟩
                · omega
                injection e1 with e1 _ e6
                subst e1; subst e6
                have hgan : w.heap.size + 2 ≤ ga := by have := e2; rw [HW2.out] at this; exact this
                have hcell : wr.cell? ⟨ga, m, none⟩ = some (.int .u8 (x : Int)) := by
                  refine HK.out.cell (p := ⟨ga, m, none⟩) ?_ (by unfold Only; show ga ≠ _; omega)
                  rw [HOw.cellAt m (by omega), List.getElem?_map, List.getElem?_eq_getElem hmX, HX.out]; rfl
                obtain ⟨v0, hv0⟩ : ∃ v, C[1 + m]? = some v := ⟨_, Array.getElem?_eq_getElem (by rw [HCz.out]; omega)⟩
                have hcl : wr.cell? ⟨w.heap.size + 1, 1 + m, none⟩ = some v0 := (cell_of_row wr _ _ C _ _ HG.out).trans hv0
                have hfr := frozen_of_row wr (w.heap.size + 1) (1 + m) C _ HG.out
                have HG1 := Lib.hid (heap_setCell_same wr (w.heap.size + 1) (1 + m) C _ (.int .u8 (x : Int)) HG.out)
                have HK1 := Lib.hid (HK.out.setCell (X := Only (w.heap.size + 1)) (p := ⟨w.heap.size + 1, 1 + m, none⟩) rfl (.int .u8 (x : Int)))
                have HR1 : Hid ((wr.setCell ⟨w.heap.size + 1, 1 + m, none⟩ (.int .u8 (x : Int))).heap[w.heap.size]? = some (.cells zeroA 47 (0, 0))) := Lib.hid (by rw [Below.heap_setCell _ _ _ _ (by show w.heap.size ≠ w.heap.size + 1; omega)]; exact HR.out)
                have HB1 := Lib.hid (HB3.out.trans (HK1.out.below HB3.out.size (fun q hq => by rw [show q = _ from hq]; omega)))
                have HC1 : Hid (C.setIfInBounds (1 + m) (.int .u8 (x : Int)) = cellsA true ((pb ps).take (m + 1) ++ List.replicate (16 - (m + 1)) 0)) := Lib.hid (by
                  rw [HCe.out, ← step_row hmX (by rw [HXl.out]; omega), HX.out]
                  exact cellsA_set true _ m x)
                clear hv0 HOw e2 e3
                go_wp2
                exact ⟨⟨m + 1, _, by omega, by go_num, HC1, HG1, HR1, HK1, HB1⟩, by simp [intOf]; omega⟩
              · obtain rfl : m = 16 := by omega
                have HEnd : Hid (cellsA true (pb ps) = C) := Lib.hid (by rw [HCe.out, List.take_of_length_le (by rw [HXl.out]; omega)]; simp)
                have HEl := HXl
                have HDz : Hid ((C).size = 17) := Lib.hid (by rw [← HEnd.out, cellsA_size, HEl.out])
                have HOne : Hid ((C).all (·.oneCell') = true) := Lib.hid (by rw [← HEnd.out]; exact cellsA_one _ _)
                have HIV : Hid ((Tryz.prog.info? 47).map (·.size) = some (C).size) := Lib.hid (by rw [HI.out, HDz.out])
                have HZD : Hid (zeroA.size = (C).size) := Lib.hid (by rw [HDz.out, zeroA_size])
                go_wp2_with (first | refine wpList_load_row rfl 47 _ rfl (w.heap.size + 1) rfl 47 C (0, 0) _ HG.out Tryz.underlying47 rfl HIV.out ?_ | refine wpL_store_row rfl _ _ _ rfl w.heap.size C rfl rfl _ zeroA HR.out HIV.out HZD.out HOne.out ?_)
                refine bodyPost_ret (v := .tuple #[.agg C, .int .i64 0]) (results_row2 Tryz.results31 _ _ w.heap.size _ C (0, 0) _ rfl (setRow_heap _ _ zeroA C _ _ HR.out) Tryz.underlying47 rfl HIV.out) rfl ⟨by rw [HVn.out, HEnd.out], ?_⟩
                exact below_setRow HB.out (Nat.le_refl _) _
          · have hI : ((X : Int) != 16) = true := by simp; omega
            have HVn : Hid (V = .tuple #[.agg zeroA, .int .i64 5]) := Lib.hid (by rw [← HV.out, sixD, HC.out]; simp only; rw [ho]; simp only; rw [if_neg h8]; rfl)
            clear ho own h8
            go_wp2_with (refine wpL_store_row rfl _ _ _ rfl w.heap.size zeroA rfl rfl _ zeroA HR3.out HIz.out rfl zeroA_one ?_)
            refine bodyPost_ret (v := .tuple #[.agg zeroA, .int .i64 5]) (results_row2 Tryz.results31 _ _ w.heap.size _ zeroA (0, 0) _ rfl (setRow_heap _ _ zeroA zeroA _ _ HR3.out) Tryz.underlying47 rfl HIz.out) rfl ⟨by rw [HVn.out], ?_⟩
            exact below_setRow HB3.out (Nat.le_refl _) _
    · have HC : Hid (cut2 s.data.toList = some (s.data.toList.take j, s.data.toList.drop (j + 2))) := Lib.hid (cut2_at _ j (by rw [HL.out]; exact hj) hpj.1 hpj.2 hno)
      clear hpj hno
      go_upto_region 3 with (fail)
      go_cut [24] (fun s24 wx => s24 = .bool false ∧ w.alloc (.cells zeroA 47) = wx)
      case first =>
        by_cases h2 : j + 1 + 1 < s.size
        · have hI : (j : Int) + 1 + 1 < (s.size : Int) := by omega
          go_wp2
          go_meet
          exact ⟨rfl, rfl⟩
        · have hI : ¬ (j : Int) + 1 + 1 < (s.size : Int) := by omega
          go_wp2
          go_meet
          exact ⟨rfl, rfl⟩
      case rest =>
      obtain ⟨rfl, rfl⟩ := hcut
      have HXl : Hid ((s.extract 0 j).data.toList = s.data.toList.take j) := Lib.hid (by rw [ext_mid s 0 j (by omega)]; simp)
      have HYl : Hid ((s.extract (j + 2) s.size).data.toList = s.data.toList.drop (j + 2)) := Lib.hid (by rw [ext_asB]; rfl)
      have HXs : Hid ((s.extract 0 j).size ≤ 1048600) := Lib.hid (by simp; omega)
      have HYs : Hid ((s.extract (j + 2) s.size).size ≤ 1048600) := Lib.hid (by simp; omega)
      go_wp2_with (refine wpL_store_row rfl _ _ _ rfl (w.heap.size + 1) T rfl rfl _ zeroA (heap_two w _ _) HTi.out HTZ.out HTo.out ?_)
      refine (RefPieces_any (s.extract 0 j) false _ HXs.out).mono ?_
      rintro e w3 ⟨b3, h3⟩
      have HG3 : Hid (w3.heap[w.heap.size + 1]? = some (.cells T 47 (0, 0))) := Lib.hid ((b3.block _ (lt_of_block HG0.out)).trans HG0.out)
      have HR3 : Hid (w3.heap[w.heap.size]? = some (.cells zeroA 47 (0, 0))) := Lib.hid ((b3.block _ (lt_of_block HR0.out)).trans HR0.out)
      have HB3 : Hid (Below w.heap.size w w3) := Lib.hid (HB0.out.trans (b3.mono HB0.out.size))
      clear b3
      rw [HXl.out] at h3
      cases hx : piecesD false (s.data.toList.take j) with
      | none =>
        rw [hx] at h3
        obtain rfl := h3
        have HVn : Hid (V = .tuple #[.agg zeroA, .int .i64 5]) := Lib.hid (by rw [← HV.out, sixD, HC.out]; simp only; rw [hx]; rfl)
        clear hx
        go_wp2_with fail
        refine (RefPieces_any (s.extract (j + 2) s.size) true _ HYs.out).mono ?_
        rintro e w4 ⟨b4, h4⟩
        have HR4 : Hid (w4.heap[w.heap.size]? = some (.cells zeroA 47 (0, 0))) := Lib.hid ((b4.block _ (lt_of_block HR3.out)).trans HR3.out)
        have HB4 : Hid (Below w.heap.size w w4) := Lib.hid (HB3.out.trans (b4.mono HB3.out.size))
        clear b4
        cases hy : piecesD true (s.extract (j + 2) s.size).data.toList with
        | none =>
          rw [hy] at h4
          obtain rfl := h4
          clear hy
          go_wp2_with (refine wpL_store_row rfl _ _ _ rfl w.heap.size zeroA rfl rfl _ zeroA HR4.out HIz.out rfl zeroA_one ?_)
          refine bodyPost_ret (v := .tuple #[.agg zeroA, .int .i64 5]) (results_row2 Tryz.results31 _ _ w.heap.size _ zeroA (0, 0) _ rfl (setRow_heap _ _ zeroA zeroA _ _ HR4.out) Tryz.underlying47 rfl HIz.out) rfl ⟨by rw [HVn.out], ?_⟩
          exact below_setRow HB4.out (Nat.le_refl _) _
        | some y =>
          rw [hy] at h4
          obtain ⟨v, rfl, own⟩ := h4
          obtain ⟨a, cap, rfl, _⟩ := slice_own own
          clear hy own
          go_wp2_with (refine wpL_store_row rfl _ _ _ rfl w.heap.size zeroA rfl rfl _ zeroA HR4.out HIz.out rfl zeroA_one ?_)
          refine bodyPost_ret (v := .tuple #[.agg zeroA, .int .i64 5]) (results_row2 Tryz.results31 _ _ w.heap.size _ zeroA (0, 0) _ rfl (setRow_heap _ _ zeroA zeroA _ _ HR4.out) Tryz.underlying47 rfl HIz.out) rfl ⟨by rw [HVn.out], ?_⟩
          exact below_setRow HB4.out (Nat.le_refl _) _
      | some x =>
        rw [hx] at h3
        obtain ⟨v, rfl, own⟩ := h3
        obtain ⟨a, cap, rfl, _⟩ := slice_own own
        have HOwn := Lib.hid own
        clear own
        go_wp2_with fail
        refine (RefPieces_any (s.extract (j + 2) s.size) true _ HYs.out).mono ?_
        rintro e w4 ⟨b4, h4⟩
        have HG4 : Hid (w4.heap[w.heap.size + 1]? = some (.cells T 47 (0, 0))) := Lib.hid ((b4.block _ (lt_of_block HG3.out)).trans HG3.out)
        have HR4 : Hid (w4.heap[w.heap.size]? = some (.cells zeroA 47 (0, 0))) := Lib.hid ((b4.block _ (lt_of_block HR3.out)).trans HR3.out)
        have HB4 : Hid (Below w.heap.size w w4) := Lib.hid (HB3.out.trans (b4.mono HB3.out.size))
        have HOwn4 := Lib.hid (own_kept HOwn.out (Kp.of_below (X := fun _ => False) b4) (fun _ _ => id))
        have HS34 := Lib.hid HB3.out.size
        rw [HYl.out] at h4
        clear b4
        cases hy : piecesD true (s.data.toList.drop (j + 2)) with
        | none =>
          rw [hy] at h4
          obtain rfl := h4
          have HVn : Hid (V = .tuple #[.agg zeroA, .int .i64 5]) := Lib.hid (by rw [← HV.out, sixD, HC.out]; simp only; rw [hx]; simp only; rw [hy]; rfl)
          clear hx hy
          go_wp2_with (refine wpL_store_row rfl _ _ _ rfl w.heap.size zeroA rfl rfl _ zeroA HR4.out HIz.out rfl zeroA_one ?_)
          refine bodyPost_ret (v := .tuple #[.agg zeroA, .int .i64 5]) (results_row2 Tryz.results31 _ _ w.heap.size _ zeroA (0, 0) _ rfl (setRow_heap _ _ zeroA zeroA _ _ HR4.out) Tryz.underlying47 rfl HIz.out) rfl ⟨by rw [HVn.out], ?_⟩
          exact below_setRow HB4.out (Nat.le_refl _) _
        | some y =>
          rw [hy] at h4
          obtain ⟨v2, rfl, own2⟩ := h4
          obtain ⟨a2, cap2, rfl, _⟩ := slice_own own2
          have HOwn2 := Lib.hid own2
          have hpx := pb_len x
          have hpy := pb_len y
          obtain ⟨X, hX⟩ : ∃ X, (pb x).length = X := ⟨_, rfl⟩
          obtain ⟨Y, hY⟩ : ∃ Y, (pb y).length = Y := ⟨_, rfl⟩
          rw [hX] at HOwn4 hpx
          rw [hY] at HOwn2 hpy
          rw [hX, hY]
          have HXl := Lib.hid hX
          have HYl := Lib.hid hY
          have hXb : X ≤ 2097300 := by
            have := piecesD_len hx
            rw [List.length_take, HL.out] at this; omega
          have hYb : Y ≤ 2097300 := by
            have := piecesD_len hy
            rw [List.length_drop, HL.out] at this; omega
          by_cases h7 : x.length + y.length ≤ 7
          · have hI : ¬ (14 : Int) < (X : Int) + (Y : Int) := by omega
            have hXY : X + Y ≤ 14 := by omega
            have HVn : Hid (V = .tuple #[.agg (cellsA true (pb (x ++ List.replicate (8 - x.length - y.length) 0 ++ y))), .int .i64 0]) := Lib.hid (by rw [← HV.out, sixD, HC.out]; simp only; rw [hx]; simp only; rw [hy]; simp only; rw [if_pos h7]; rfl)
            have HVl : Hid (pb (x ++ List.replicate (8 - x.length - y.length) 0 ++ y) = pb x ++ List.replicate (16 - X - Y) 0 ++ pb y) := Lib.hid (by
              rw [pb_append, pb_append, pb_zero, show 2 * (8 - x.length - y.length) = 16 - X - Y by omega])
            clear hx hy own2 hX hY hpx hpy h7
            go_wp2_with fail
            go_loopw [14] (fun i wr => ∃ (m : Nat) (C : Array Value), m ≤ X ∧ i = .int .i64 m ∧ Hid (C = cellsA true ((pb x).take m ++ List.replicate (16 - m) 0)) ∧ Hid (wr.heap[w.heap.size + 1]? = some (.cells C 47 (0, 0))) ∧ Hid (wr.heap[w.heap.size]? = some (.cells zeroA 47 (0, 0))) ∧ Hid (Kp (Only (w.heap.size + 1)) w4 wr) ∧ Hid (Below w.heap.size w wr)) (fun i _ => X - (intOf i).toNat)
            case atStart => exact ⟨0, T, by omega, rfl, Lib.hid (by rw [HTe.out]; rfl), HG4, HR4, Lib.hid (Kp.refl _ _), HB4⟩
            case round =>
              obtain ⟨m, C, hm, rfl, HCe, HG, HR, HK, HB⟩ := hrel
              by_cases hlt : m < X
              · have hmX : m < (pb x).length := by rw [HXl.out]; exact hlt
                obtain ⟨u, HX⟩ : ∃ u, Hid ((pb x)[m] = u) := ⟨_, Lib.hid rfl⟩
                have HCz : Hid (C.size = 17) := Lib.hid (by rw [HCe.out, cellsA_size, List.length_append, List.length_take, List.length_replicate, HXl.out]; omega)
                have HOw := HOwn4.out
                rcases HOw.2 with ⟨e1, h0⟩ | ⟨ga, cap', cur, e1, e2, e3, _⟩
                · omega
                injection e1 with e1 _ e6
                subst e1; subst e6
                have hgan : w.heap.size + 2 ≤ ga := by have := e2; rw [HW2.out] at this; exact this
                have hcell : wr.cell? ⟨ga, m, none⟩ = some (.int .u8 (u : Int)) := by
                  refine HK.out.cell (p := ⟨ga, m, none⟩) ?_ (by unfold Only; show ga ≠ _; omega)
                  rw [HOw.cellAt m (by omega), List.getElem?_map, List.getElem?_eq_getElem hmX, HX.out]; rfl
                obtain ⟨v0, hv0⟩ : ∃ v, C[1 + m]? = some v := ⟨_, Array.getElem?_eq_getElem (by rw [HCz.out]; omega)⟩
                have hcl : wr.cell? ⟨w.heap.size + 1, 1 + m, none⟩ = some v0 := (cell_of_row wr _ _ C _ _ HG.out).trans hv0
                have hfr := frozen_of_row wr (w.heap.size + 1) (1 + m) C _ HG.out
                have HG1 := Lib.hid (heap_setCell_same wr (w.heap.size + 1) (1 + m) C _ (.int .u8 (u : Int)) HG.out)
                have HK1 := Lib.hid (HK.out.setCell (X := Only (w.heap.size + 1)) (p := ⟨w.heap.size + 1, 1 + m, none⟩) rfl (.int .u8 (u : Int)))
                have HR1 : Hid ((wr.setCell ⟨w.heap.size + 1, 1 + m, none⟩ (.int .u8 (u : Int))).heap[w.heap.size]? = some (.cells zeroA 47 (0, 0))) := Lib.hid (by rw [Below.heap_setCell _ _ _ _ (by show w.heap.size ≠ w.heap.size + 1; omega)]; exact HR.out)
                have HB1 := Lib.hid (HB4.out.trans (HK1.out.below HB4.out.size (fun q hq => by rw [show q = _ from hq]; omega)))
                have HC1 : Hid (C.setIfInBounds (1 + m) (.int .u8 (u : Int)) = cellsA true ((pb x).take (m + 1) ++ List.replicate (16 - (m + 1)) 0)) := Lib.hid (by
                  rw [HCe.out, ← step_row hmX (by rw [HXl.out]; omega), HX.out]
                  exact cellsA_set true _ m u)
                clear hv0 HOw e2 e3
                go_wp2
                exact ⟨⟨m + 1, _, by omega, by go_num, HC1, HG1, HR1, HK1, HB1⟩, by simp [intOf]; omega⟩
              · obtain rfl : m = X := by omega
                obtain ⟨q, hq⟩ : ∃ q : Nat, (16 : Int) - (Y : Int) = (q : Int) := ⟨16 - Y, by omega⟩
                have HC2 : Hid (C = cellsA true (pb x ++ List.replicate (16 - m - Y) 0 ++ (pb y).take 0 ++ List.replicate (Y - 0) 0)) := Lib.hid (by
                  rw [HCe.out, List.take_of_length_le (by rw [HXl.out]; omega), List.take_zero, List.append_nil, List.append_assoc, List.replicate_append_replicate, show 16 - m - Y + (Y - 0) = 16 - m by omega])
                clear HCe
                clear hlt
                go_wp2_with fail
                obtain ⟨wo, rfl⟩ : ∃ wo, wo = wr := ⟨_, rfl⟩
                go_loopw [15] (fun i wr => ∃ (n : Nat) (C : Array Value), n ≤ Y ∧ i = .int .i64 n ∧ Hid (C = cellsA true (pb x ++ List.replicate (16 - m - Y) 0 ++ (pb y).take n ++ List.replicate (Y - n) 0)) ∧ Hid (wr.heap[w.heap.size + 1]? = some (.cells C 47 (0, 0))) ∧ Hid (wr.heap[w.heap.size]? = some (.cells zeroA 47 (0, 0))) ∧ Hid (Kp (Only (w.heap.size + 1)) w4 wr) ∧ Hid (Below w.heap.size w wr)) (fun i _ => Y - (intOf i).toNat)
                case atStart => exact ⟨0, C, by omega, rfl, HC2, HG, HR, HK, HB⟩
                case round =>
                  clear HC2 HG HR HK HB
                  obtain ⟨n, C, hn, rfl, HCe, HG, HR, HK, HB⟩ := hrel
                  have HCl : Hid ((pb x ++ List.replicate (16 - m - Y) 0 ++ (pb y).take n ++ List.replicate (Y - n) 0).length = 16) := Lib.hid (by
                    rw [List.length_append, List.length_append, List.length_append, List.length_take, List.length_replicate, List.length_replicate, HXl.out, HYl.out]; omega)
                  by_cases hlt : n < Y
                  · have hmY : n < (pb y).length := by rw [HYl.out]; exact hlt
                    obtain ⟨u, HX⟩ : ∃ u, Hid ((pb y)[n] = u) := ⟨_, Lib.hid rfl⟩
                    have HCz : Hid (C.size = 17) := Lib.hid (by rw [HCe.out, cellsA_size, HCl.out])
                    have HOw := HOwn2.out
                    rcases HOw.2 with ⟨e1, h0⟩ | ⟨ga, cap', cur, e1, e2, e3, _⟩
                    · omega
                    injection e1 with e1 _ e6
                    subst e1; subst e6
                    have hgan : w.heap.size + 2 ≤ ga := by have := e2; have := lt_of_block HG3.out; omega
                    have hcell : wr.cell? ⟨ga, n, none⟩ = some (.int .u8 (u : Int)) := by
                      refine HK.out.cell (p := ⟨ga, n, none⟩) ?_ (by unfold Only; show ga ≠ _; omega)
                      rw [HOw.cellAt n (by omega), List.getElem?_map, List.getElem?_eq_getElem hmY, HX.out]; rfl
                    have hqn : q = 16 - Y := by omega
                    have hqb : q + n < 16 := by omega
                    obtain ⟨v0, hv0⟩ : ∃ v, C[1 + (q + n)]? = some v := ⟨_, Array.getElem?_eq_getElem (by rw [HCz.out]; omega)⟩
                    have hcl : wr.cell? ⟨w.heap.size + 1, 1 + (q + n), none⟩ = some v0 := (cell_of_row wr _ _ C _ _ HG.out).trans hv0
                    have hfr := frozen_of_row wr (w.heap.size + 1) (1 + (q + n)) C _ HG.out
                    have HG1 := Lib.hid (heap_setCell_same wr (w.heap.size + 1) (1 + (q + n)) C _ (.int .u8 (u : Int)) HG.out)
                    have HK1 := Lib.hid (HK.out.setCell (X := Only (w.heap.size + 1)) (p := ⟨w.heap.size + 1, 1 + (q + n), none⟩) rfl (.int .u8 (u : Int)))
                    have HR1 : Hid ((wr.setCell ⟨w.heap.size + 1, 1 + (q + n), none⟩ (.int .u8 (u : Int))).heap[w.heap.size]? = some (.cells zeroA 47 (0, 0))) := Lib.hid (by rw [Below.heap_setCell _ _ _ _ (by show w.heap.size ≠ w.heap.size + 1; omega)]; exact HR.out)
                    have HB1 := Lib.hid (HB4.out.trans (HK1.out.below HB4.out.size (fun q hq => by rw [show q = _ from hq]; omega)))
                    have HC1 : Hid (C.setIfInBounds (1 + (q + n)) (.int .u8 (u : Int)) = cellsA true (pb x ++ List.replicate (16 - m - Y) 0 ++ (pb y).take (n + 1) ++ List.replicate (Y - (n + 1)) 0)) := Lib.hid (by
                      have hA : (pb x ++ List.replicate (16 - m - Y) 0).length = q := by rw [List.length_append, List.length_replicate, HXl.out]; omega
                      have hs := set_row (pb x ++ List.replicate (16 - m - Y) 0) (pb y) n (Y - (n + 1)) hmY
                      rw [hA, HX.out] at hs
                      rw [HCe.out, ← hs, show Y - n = Y - (n + 1) + 1 by omega]
                      exact cellsA_set true _ (q + n) u)
                    clear hv0 HOw e2 e3 hqn
                    go_wp2
                    exact ⟨⟨n + 1, _, by omega, by go_num, HC1, HG1, HR1, HK1, HB1⟩, by simp [intOf]; omega⟩
                  · obtain rfl : n = Y := by omega
                    have HEnd : Hid (cellsA true (pb (x ++ List.replicate (8 - x.length - y.length) 0 ++ y)) = C) := Lib.hid (by
                      rw [HCe.out, HVl.out, List.take_of_length_le (by rw [HYl.out]; omega), Nat.sub_self, List.replicate_zero, List.append_nil])
                    have HEl : Hid ((pb (x ++ List.replicate (8 - x.length - y.length) 0 ++ y)).length = 16) := Lib.hid (by
                      rw [HVl.out, List.length_append, List.length_append, List.length_replicate, HXl.out, HYl.out]; omega)
                    have HDz : Hid ((C).size = 17) := Lib.hid (by rw [← HEnd.out, cellsA_size, HEl.out])
                    have HOne : Hid ((C).all (·.oneCell') = true) := Lib.hid (by rw [← HEnd.out]; exact cellsA_one _ _)
                    have HIV : Hid ((Tryz.prog.info? 47).map (·.size) = some (C).size) := Lib.hid (by rw [HI.out, HDz.out])
                    have HZD : Hid (zeroA.size = (C).size) := Lib.hid (by rw [HDz.out, zeroA_size])
                    go_wp2_with (first | refine wpList_load_row rfl 47 _ rfl (w.heap.size + 1) rfl 47 C (0, 0) _ HG.out Tryz.underlying47 rfl HIV.out ?_ | refine wpL_store_row rfl _ _ _ rfl w.heap.size C rfl rfl _ zeroA HR.out HIV.out HZD.out HOne.out ?_)
                    refine bodyPost_ret (v := .tuple #[.agg C, .int .i64 0]) (results_row2 Tryz.results31 _ _ w.heap.size _ C (0, 0) _ rfl (setRow_heap _ _ zeroA C _ _ HR.out) Tryz.underlying47 rfl HIV.out) rfl ⟨by rw [HVn.out, HEnd.out], ?_⟩
                    exact below_setRow HB.out (Nat.le_refl _) _
          · have hI : (14 : Int) < (X : Int) + (Y : Int) := by omega
            have HVn : Hid (V = .tuple #[.agg zeroA, .int .i64 5]) := Lib.hid (by rw [← HV.out, sixD, HC.out]; simp only; rw [hx]; simp only; rw [hy]; simp only; rw [if_neg h7]; rfl)
            clear hx hy own2 hX hY hpx hpy h7
            go_wp2_with (refine wpL_store_row rfl _ _ _ rfl w.heap.size zeroA rfl rfl _ zeroA HR4.out HIz.out rfl zeroA_one ?_)
            refine bodyPost_ret (v := .tuple #[.agg zeroA, .int .i64 5]) (results_row2 Tryz.results31 _ _ w.heap.size _ zeroA (0, 0) _ rfl (setRow_heap _ _ zeroA zeroA _ _ HR4.out) Tryz.underlying47 rfl HIz.out) rfl ⟨by rw [HVn.out], ?_⟩
            exact below_setRow HB4.out (Nat.le_refl _) _

end Go.Proofs.YtjalbfgdhmkclaaGreatDoor
