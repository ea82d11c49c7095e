/-
  Contract: Six: the document's answer.
-/
import Derived.Test.YtgmjfnddeogfdabDoorRdN
import Derived.Test.YtgmjfnddeogfdabDoorAdE
namespace Go.Proofs.YtgmjfnddeogfdabDoor
open Go.RowKit

theorem evs_map {f g : List UInt8 → Option (List Nat)} (hf : ∀ q, f (q.map low) = f q) (hg : ∀ q, g (q.map low) = g q) : ∀ P : List (List UInt8), evs f g (P.map (List.map low)) = evs f g P
  | [] => rfl
  | [q] => hg q
  | q :: p :: P => by
    rw [List.map_cons, evs_cons _ _ _ (by simp), evs_cons _ _ _ (by simp), evs_map hf hg (p :: P), hf]
theorem pc1_low (q : List UInt8) : pc1 (q.map low) = pc1 q := by unfold pc1; rw [List.length_map, cnt_low]
theorem sm1_low (q : List UInt8) : sm1 (q.map low) = sm1 q := by
  unfold sm1
  rw [cnt_low, List.length_map]
  have h1 : (q.map low).head? = some 48 ↔ q.head? = some 48 := by
    cases q with
    | nil => simp
    | cons c l => simp [low_48]
  have h2 : q.map low = [] ↔ q = [] := by simp
  simp only [h1, h2]
theorem four1_low (q : List UInt8) : four1 (q.map low) = four1 q := by
  unfold four1; rw [pts_low 46 low_46, evs_map sm1_low sm1_low]
theorem both1_low (q : List UInt8) : both1 (q.map low) = both1 q := by unfold both1; rw [pc1_low, four1_low]
theorem piecesD_low (en : Bool) (l : List UInt8) : piecesD en (l.map low) = piecesD en l := by
  unfold piecesD
  have h2 : l.map low = [] ↔ l = [] := by simp
  simp only [h2]
  rw [pts_low 58 low_58]
  cases en
  · simp only [Bool.false_eq_true, if_false]; rw [evs_map pc1_low pc1_low]
  · simp only [if_true]; rw [evs_map pc1_low both1_low]
theorem pre_low (l : List UInt8) : ([58, 58] : List UInt8).isPrefixOf (l.map low) = ([58, 58] : List UInt8).isPrefixOf l := by
  have h1 : ∀ a, ((58 : UInt8) == low a) = (58 == a) := fun a => by
    rw [Bool.eq_iff_iff]; simp only [beq_iff_eq]
    exact ⟨fun e => ((low_58 a).1 e.symm).symm, fun e => ((low_58 a).2 e.symm).symm⟩
  match l with
  | [] => rfl
  | [a] => simp [List.isPrefixOf]
  | a :: b :: r => simp only [List.map_cons, List.isPrefixOf, h1]
theorem cut2_low : ∀ l : List UInt8, cut2 (l.map low) = (cut2 l).map fun p => (p.1.map low, p.2.map low)
  | [] => rfl
  | c :: l => by
    have hp := pre_low (c :: l)
    rw [List.map_cons] at hp
    rw [List.map_cons, cut2, cut2, cut2_low l, hp]
    split
    · simp
    · cases cut2 l with
      | none => rfl
      | some x => rfl
theorem sixD_low (l : List UInt8) : sixD (l.map low) = sixD l := by
  unfold sixD
  rw [cut2_low]
  cases cut2 l with
  | none => simp only [Option.map_none]; rw [piecesD_low]
  | some x => obtain ⟨a, b⟩ := x; simp only [Option.map_some]; rw [piecesD_low, piecesD_low]

/-- What is answered. -/
def sixV (o : Option (List Nat)) : Value := match o with
  | some ps => .tuple #[.agg (cellsA true (pb ps)), .int .i64 0]
  | none => .tuple #[.agg zeroA, .int .i64 5]

set_option maxRecDepth 100000 in
set_option maxHeartbeats 1000000 in
theorem Six_any (s : ByteArray) (w : World) (hs : s.size ≤ 1048600) :
    Calls Tryd.prog 8 #[.string s] w fun e w' => e = .returned (sixV (sixD s.data.toList)) ∧ Below w.heap.size w w' := by
  obtain ⟨hz, hi⟩ := zero_of_info infoA
  have HI := Lib.hid hi; clear hi
  have HIz : Hid ((Tryd.prog.info? 24).map (·.size) = some zeroA.size) := Lib.hid (by rw [HI.out, zeroA_size])
  have hzs := zeroA_size
  have HSx : Hid (sixP (lowS s).data.toList = sixD s.data.toList) := Lib.hid (by
    rw [sixP_eq]; exact sixD_low _)
  obtain ⟨o, HO⟩ : ∃ o, Hid (sixD s.data.toList = o) := ⟨_, Lib.hid rfl⟩
  rw [HO.out] at HSx
  rw [HO.out]
  have hls : (lowS s).size ≤ 1048600 := by rw [lowS_size]; exact hs
  have hself : ∀ w, (binOp .eql 24 (.agg zeroA) (.agg zeroA)).run Tryd.prog w = .ok (.bool true) w := fun w => eqA_self false _ (by simp) w
  go_enter Tryd.func8, Tryd.ntmps8
  go_wp2_with fail
  refine (readerOf_any s _ (by unfold maxLen; omega)).mono ?_
  rintro e w1 ⟨b, hb, rfl, r1, b1⟩
  have R1 := Lib.hid r1
  have B1 : Hid (Below w.heap.size w w1) := Lib.hid (((Below.refl _ _).alloc (Nat.le_refl _) _).trans (b1.mono (by simp)))
  have HR1 : Hid (w1.heap[w.heap.size]? = some (.cells zeroA 24 (0, 0))) := Lib.hid ((b1.block _ (by simp)).trans (heap_alloc_new w _))
  have hbw : w.heap.size < b := by simp at hb; omega
  clear b1 r1 hb
  go_wp2_with fail
  refine (six_any b (lowS s) _ R1.out hls (lowS_sml s)).mono ?_
  rintro e w2 ⟨r, r2, k2, hcase⟩
  have R2 := Lib.hid r2
  have hc2 := r2.cell
  have HR2 : Hid (w2.heap[w.heap.size]? = some (.cells zeroA 24 (0, 0))) := Lib.hid (k2.at HR1.out (by unfold Only; omega))
  have B2 : Hid (Below w.heap.size w w2) := Lib.hid (B1.out.trans (k2.below B1.out.size (fun q hq => by rw [show q = b from hq]; omega)))
  rw [HSx.out] at hcase
  clear r2 k2
  rcases hcase with ⟨ps, hps, rfl, hsx⟩ | ⟨rfl, hsx⟩
  · obtain ⟨V, HV⟩ : ∃ V, Hid (cellsA true (pb ps) = V) := ⟨_, Lib.hid rfl⟩
    have hoth : ∀ w, (binOp .eql 24 (.agg V) (.agg zeroA)).run Tryd.prog w = .ok (.bool false) w := fun w => by rw [← HV.out]; exact eqA_other _ _ w
    have HDz : Hid (V.size = 17) := Lib.hid (by rw [← HV.out, cellsA_size, pb_len, hps])
    have HOne : Hid (V.all (·.oneCell') = true) := Lib.hid (by rw [← HV.out]; exact cellsA_one _ _)
    have HIV : Hid ((Tryd.prog.info? 24).map (·.size) = some V.size) := Lib.hid (by rw [HI.out, HDz.out])
    have HZD : Hid (zeroA.size = V.size) := Lib.hid (by rw [HDz.out, zeroA_size])
    rw [HV.out]
    have HRa : ∀ o, Hid ((w2.alloc o).heap[w.heap.size]? = some (.cells zeroA 24 (0, 0))) := fun o => Lib.hid (by rw [Below.heap_alloc _ _ _ (lt_of_block HR2.out)]; exact HR2.out)
    have hca : ∀ o, (w2.alloc o).cell? ⟨b, 0, none⟩ = some (.string (asB r)) := fun o => by
      rw [World.cell?_alloc_lt w2 o _ (block_lt_of_cell hc2)]; exact hc2
    cases r with
    | nil =>
      have HRes : Hid (sixV o = .tuple #[.agg V, .int .i64 0]) := Lib.hid (by rw [hsx, if_pos rfl, ← HV.out]; rfl)
      have hem : (asB []).toList.isEmpty = true := by rw [ByteArray.toList_eq]; rfl
      clear hsx
      go_wp2_with (first | (refine wpL_store_row rfl _ _ _ rfl w2.heap.size V rfl rfl _ zeroA (heap_alloc_new w2 _) HIV.out HZD.out HOne.out ?_; rw [World.setRow_alloc_new]) | refine wpList_load_row rfl 24 _ rfl w2.heap.size rfl 24 V (0, 0) _ (heap_alloc_new w2 _) Tryd.underlying24 rfl HIV.out ?_ | refine wpL_store_row rfl _ _ _ rfl w.heap.size V rfl rfl _ zeroA (HRa _).out HIV.out HZD.out HOne.out ?_)
      refine bodyPost_ret (v := .tuple #[.agg V, .int .i64 0]) (results_row2 Tryd.results8 _ _ w.heap.size _ V (0, 0) _ rfl (setRow_heap _ _ zeroA V _ _ (HRa _).out) Tryd.underlying24 rfl HIV.out) rfl ⟨by rw [HRes.out], ?_⟩
      exact below_setRow (B2.out.alloc B2.out.size _) (Nat.le_refl _) _
    | cons x r =>
      have HRes : Hid (sixV o = .tuple #[.agg zeroA, .int .i64 5]) := Lib.hid (by rw [hsx, if_neg (by simp)]; rfl)
      have hem : (asB (x :: r)).toList.isEmpty = false := by rw [ByteArray.toList_eq]; rfl
      clear hsx
      go_wp2_with (first | (refine wpL_store_row rfl _ _ _ rfl w2.heap.size V rfl rfl _ zeroA (heap_alloc_new w2 _) HIV.out HZD.out HOne.out ?_; rw [World.setRow_alloc_new]) | refine wpList_load_row rfl 24 _ rfl w2.heap.size rfl 24 V (0, 0) _ (heap_alloc_new w2 _) Tryd.underlying24 rfl HIV.out ?_ | refine wpL_store_row rfl _ _ _ rfl w.heap.size zeroA rfl rfl _ zeroA (HRa _).out HIz.out rfl zeroA_one ?_)
      refine bodyPost_ret (v := .tuple #[.agg zeroA, .int .i64 5]) (results_row2 Tryd.results8 _ _ w.heap.size _ zeroA (0, 0) _ rfl (setRow_heap _ _ zeroA zeroA _ _ (HRa _).out) Tryd.underlying24 rfl HIz.out) rfl ⟨by rw [HRes.out], ?_⟩
      exact below_setRow (B2.out.alloc B2.out.size _) (Nat.le_refl _) _
  · have HRa : ∀ o, Hid ((w2.alloc o).heap[w.heap.size]? = some (.cells zeroA 24 (0, 0))) := fun o => Lib.hid (by rw [Below.heap_alloc _ _ _ (lt_of_block HR2.out)]; exact HR2.out)
    have HRes : Hid (sixV o = .tuple #[.agg zeroA, .int .i64 5]) := Lib.hid (by rw [hsx]; rfl)
    clear hsx
    go_wp2_with (first | (refine wpL_store_row rfl _ _ _ rfl w2.heap.size zeroA rfl rfl _ zeroA (heap_alloc_new w2 _) HIz.out rfl zeroA_one ?_; rw [World.setRow_alloc_new]) | refine wpList_load_row rfl 24 _ rfl w2.heap.size rfl 24 zeroA (0, 0) _ (heap_alloc_new w2 _) Tryd.underlying24 rfl HIz.out ?_ | refine wpL_store_row rfl _ _ _ rfl w.heap.size zeroA rfl rfl _ zeroA (HRa _).out HIz.out rfl zeroA_one ?_)
    refine bodyPost_ret (v := .tuple #[.agg zeroA, .int .i64 5]) (results_row2 Tryd.results8 _ _ w.heap.size _ zeroA (0, 0) _ rfl (setRow_heap _ _ zeroA zeroA _ _ (HRa _).out) Tryd.underlying24 rfl HIz.out) rfl ⟨by rw [HRes.out], ?_⟩
    exact below_setRow (B2.out.alloc B2.out.size _) (Nat.le_refl _) _

end Go.Proofs.YtgmjfnddeogfdabDoor
