/-
  The walk of footmanlaw01.AsciiParts.
-/
import Derived.Test.YtjeejpgkhjblnaaDoorPartsM
import Derived.Test.YtjeejpgkhjblnaaDoorAlive
import Derived.Deep.RegionHeld3
import Derived.ArgAppend
namespace Go.Proofs.YtjeejpgkhjblnaaDoor
open Go.RowKit

theorem one_textP (a : UInt8) (w : World) (g : Nat) (hg : g = w.heap.size) : (convert 42 9 (.slice (some ⟨g, 0, none⟩) 1 1)).run Tryd.prog (w.alloc (.cells #[.int .u8 a.toNat] 5)) = .ok (.string ⟨#[a]⟩) (w.alloc (.cells #[.int .u8 a.toNat] 5)) := by
  subst hg
  exact run_convert_bytes_back (P := Tryd.prog) _ 42 9 5 ⟨w.heap.size, 0, none⟩ 1 [a] Tryd.underlying42 Tryd.underlying5 Tryd.underlying9 (fun j hj => by
    have : j = 0 := by simpa using hj
    subst this
    simp [Addr.add])

theorem wpList_wanted {P : Program} {ops : Array Oper} {Q : Exit → Act → World → Prop} {a : Act} {w : World} {rest : List Oper} {o : Oper} (hw : Region.wanted o (yielded ops a.tmps) = true)
    (h : ∀ K : Act → World → Prop, (∀ a w, wpList P ops Q rest a w → K a w) → o.wp P a w K Q) : wpList P ops Q (o :: rest) a w :=
  wpList_step fun K hK => by rw [if_pos hw]; exact h K hK
/-- An append of which the run is known, guarded or not. -/
theorem wpList_append_ran {P : Program} {ops : Array Oper} {Q : Exit → Act → World → Prop} {a : Act} {w : World} {rest : List Oper} {o : Oper} (hw : Region.wanted o (yielded ops a.tmps) = true)
    (s x : Operand) (t : TypeId) (hop : o.op = Op.call { callee := Callee.builtin Builtin.append, args := #[s, x], argTypes := #[t, t] }) (vs vx v' : Value) (w' : World) (hs : a.eval s = vs) (hx : a.eval x = vx)
    (hrun : (Builtin.append_ #[t, t] o.type #[vs, vx]).run P w = .ok v' w') (h : wpList P ops Q rest (a.put o.dst v') w') : wpList P ops Q (o :: rest) a w := by
  refine wpList_wanted hw fun K hK' => ?_
  unfold Oper.wp
  simp [execOp, hop, resolve, invoke, builtin, hs, hx, hrun, Result.andThen]
  exact hK' _ _ h
theorem cat_sizeP (a b : ByteArray) : (a ++ b).size = a.size + b.size := by simp
theorem info9 : (Tryd.prog.info? 9).map (fun i => (i.zero, i.size, i.bytes)) = some (some (.string ⟨#[]⟩), 1, 16) := by kernel_rfl
theorem addr_add (g j : Nat) : (⟨g, 0, none⟩ : Addr).add j = ⟨g, j, none⟩ := by unfold Addr.add; split <;> simp_all
theorem row_adds {w : World} {g : Nat} {t : TypeId} {fr : Nat × Nat} {L : List ByteArray} (h : w.heap[g]? = some (.cells (L.map Value.string).toArray t fr)) : ∀ j v, (L.map Value.string)[j]? = some v → w.cell? ((⟨g, 0, none⟩ : Addr).add j) = some v := by
  intro j v hv
  rw [addr_add, cell_of_row w g _ _ _ _ h, List.getElem?_toArray]; exact hv
/-- What an append made: a slice whose cells are the texts. -/
theorem own_texts {w : World} {base n : Nat} {e : TypeId} {v : Value} {L : List Value} (hn : 0 < n) (h : w.ownsRow base e 1 v n L) :
    ∃ g cap, v = .slice (some ⟨g, 0, none⟩) n cap ∧ ∀ j, j < n → w.cell? ⟨g, j, none⟩ = L[j]? := by
  obtain ⟨h1, h2⟩ := h
  rcases h2 with ⟨_, h2⟩ | ⟨g, cap, cur, rfl, hg, hh, hc⟩
  · omega
  · exact ⟨g, cap, rfl, fun j hj => World.ownsRow.cellAt (base := base) (e := e) (size := 1) (cap := cap) ⟨h1, .inr ⟨g, cap, cur, rfl, hg, hh, hc⟩⟩ j (by omega)⟩

set_option maxHeartbeats 2000000 in
set_option maxRecDepth 100000 in
theorem parts_walk (s t : ByteArray) (u : UInt8) (m : Int) (w : World) (hs : s.size ≤ 140737488351232) (ht : t.size ≤ 140737488351232) (hm : w.cell? ⟨2, 0, none⟩ = some (.int .i64 m)) :
    Calls Tryd.prog 7 #[.string s, .string t, .int .u8 u.toNat] w fun e w' => e = .returned (.bool true) ∧ Below w.heap.size w w' := by
  have HM := Lib.hid hm; clear hm
  by_cases hb : 1048576 < s.size + t.size
  · go_enter Tryd.func7, Tryd.ntmps7
    go_wp2_with fail
    refine (alive_any m _ HM.out).mono ?_
    rintro e w1 ⟨rfl, b1⟩
    have B1 := Lib.hid b1; clear b1
    go_wp2_with fail
    refine (Beyond2_yes w1.heap.size s.size t.size _ (by simp) (by simp) hb (by unfold maxLen; omega)).mono ?_
    rintro e w2 ⟨rfl, rfl⟩
    go_wp2_with fail
    refine (alive_any m _ (cell_old _ (kept_cell B1.out HM.out (Nat.le_refl _)))).mono ?_
    rintro e w2 ⟨rfl, b2⟩
    have B2 := Lib.hid b2; clear b2
    go_wp2
    go_ret
    have h1 := B1.out.size
    exact ⟨rfl, (B1.out.trans ((Below.refl _ _).alloc h1 _)).trans (B2.out.mono (by simp; omega))⟩
  · obtain ⟨A, HA⟩ : ∃ A, Hid (A = partsA u s) := ⟨_, Lib.hid rfl⟩
    obtain ⟨B, HB⟩ : ∃ B, Hid (B = partsA u t) := ⟨_, Lib.hid rfl⟩
    have hAl : A.length ≤ 1048577 := by have := partsA_len_le u s; rw [HA.out]; omega
    have hBl : B.length ≤ 1048577 := by have := partsA_len_le u t; rw [HB.out]; omega
    have hA0 : 0 < A.length := by rw [HA.out]; exact partsA_pos u s
    have hB0 : 0 < B.length := by rw [HB.out]; exact partsA_pos u t
    go_enter Tryd.func7, Tryd.ntmps7
    go_wp2_with fail
    refine (alive_any m _ HM.out).mono ?_
    rintro e w1 ⟨rfl, b1⟩
    have B1 := Lib.hid b1; clear b1
    go_wp2_with fail
    refine (Beyond2_no w1.heap.size s.size t.size _ (by simp) (by simp) (by omega)).mono ?_
    rintro e w2 ⟨rfl, rfl⟩
    go_wp2_with fail
    refine (Split_any s u m _ (by omega) (cell_old _ (kept_cell B1.out HM.out (Nat.le_refl _)))).mono ?_
    rw [← HA.out]
    rintro e w2 ⟨ga, rfl, hga, hra, b2⟩
    have HRa := Lib.hid hra; clear hra
    have B2 : Hid (Below w.heap.size w w2) := Lib.hid (by
      have h1 := B1.out.size
      have h2 := b2
      exact (B1.out.trans ((Below.refl _ _).alloc h1 _)).trans (h2.mono (by simp; omega)))
    have hga' : w.heap.size ≤ ga := by
      have h1 := B1.out.size
      simp at hga; omega
    clear b2 B1 hga
    go_wp2_with fail
    refine (Split_any t u m _ (by omega) (kept_cell B2.out HM.out (Nat.le_refl _))).mono ?_
    rw [← HB.out]
    rintro e w3 ⟨gb, rfl, hgb, hrb, b3⟩
    have HRb := Lib.hid hrb; clear hrb
    have HRa3 : Hid (w3.heap[ga]? = some (.cells (A.map Value.string).toArray 9 (0, 0))) := Lib.hid ((b3.block ga (lt_of_block HRa.out)).trans HRa.out)
    have B3 : Hid (Below w.heap.size w w3) := Lib.hid (B2.out.trans (b3.mono B2.out.size))
    clear b3 hgb
    go_wp2
    go_loop [9, 10] (fun n i => ∃ k : Nat, k ≤ s.size ∧ i = .int .i64 k ∧ n = .int .i64 ((s.data.toList.take k).count u + 1 : Nat)) (fun _ i => s.size - (intOf i).toNat)
    case atStart => exact ⟨0, Nat.zero_le _, rfl, rfl⟩
    case round =>
      obtain ⟨k, hk, rfl, rfl⟩ := hrel
      have hcl : (s.data.toList.take k).count u ≤ k := Nat.le_trans List.count_le_length (List.length_take_le _ _)
      by_cases hlt : k < s.size
      · have hct := count_take s.data.toList u k (by simpa using hlt)
        have hix : s.data.toList[k]'(by simpa using hlt) = s[k] := rfl
        rw [hix] at hct
        by_cases he : s[k] = u
        · have HC : Hid ((s.data.toList.take (k + 1)).count u = (s.data.toList.take k).count u + 1) := Lib.hid (by rw [hct, if_pos he])
          have e1 : ((s[k].toNat : Int) == (u.toNat : Int)) = true := beq_iff_eq.2 (by rw [he])
          clear hct hix he
          go_wp2
          go_round
          case rel => exact ⟨k + 1, by omega, by go_num, by rw [HC.out]; go_num⟩
          case measure => simp [intOf]; omega
        · have HC : Hid ((s.data.toList.take (k + 1)).count u = (s.data.toList.take k).count u) := Lib.hid (by rw [hct, if_neg he]; rfl)
          have e1 : ((s[k].toNat : Int) == (u.toNat : Int)) = false := beq_eq_false_iff_ne.2 (fun h => he (UInt8.toNat_inj.1 (by omega)))
          clear hct hix he
          go_wp2
          go_round
          case rel => exact ⟨k + 1, by omega, by go_num, by rw [HC.out]⟩
          case measure => simp [intOf]; omega
      · have HCnt : Hid ((s.data.toList.take k).count u + 1 = A.length) := Lib.hid (by
          rw [HA.out, partsA_count, List.take_of_length_le (by simp; omega)])
        rw [HCnt.out]
        clear hcl
        go_wp2
        go_loopw [11, 12] (fun i _ wr => ∃ j : Nat, j ≤ A.length ∧ i = .int .i64 j ∧ wr.heap[ga]? = some (.cells (A.map Value.string).toArray 9 (0, 0)) ∧ wr.heap[gb]? = some (.cells (B.map Value.string).toArray 9 (0, 0)) ∧ Below w.heap.size w wr) (fun i _ _ => A.length - (intOf i).toNat)
        case atStart => exact ⟨0, Nat.zero_le _, rfl, HRa3.out, HRb.out, B3.out⟩
        case round =>
          obtain ⟨j, hj, rfl, hra, hrb, hbel⟩ := hrel
          clear HRa HRa3 HRb
          have HRa := Lib.hid hra; clear hra
          have HRb := Lib.hid hrb; clear hrb
          have HBel := Lib.hid hbel; clear hbel
          by_cases hjl : j < A.length
          · have hjl' : (j : Int) < (A.length : Int) := by omega
            obtain ⟨p, HP, htp, hps, HNo⟩ : ∃ p, Hid (p = A[j]) ∧ Hid (trimA p = p) ∧ p.size ≤ s.size ∧ Hid (∀ k (hk : k < p.size), p[k] ≠ u) := by
              have hmem : A[j] ∈ partsA u s := by rw [← HA.out]; exact List.getElem_mem hjl
              exact ⟨A[j], Lib.hid rfl, Lib.hid (partsA_trim u s _ hmem), partsA_size u s _ hmem, Lib.hid (partsA_no u s _ hmem)⟩
            have hc : wr.cell? ⟨ga, j, none⟩ = some (.string p) := by
              have := row_cells HRa.out j hjl
              rw [Nat.zero_add] at this
              rw [this, ← HP.out]
            have hne : (p.toList != p.toList) = false := by simp
            go_wp2
            go_region_held3 (fun w' => w'.cell? ⟨ga, j, none⟩ = some (.string p)) (first | go_keep | exact kept_cell (by assumption) (by assumption) (Nat.le_refl _))
              (first | (go_at_call 11; refine (Trim_any p _ (by unfold maxLen; omega)).mono ?_; rw [htp.out]; rintro e w' ⟨rfl, bT⟩))
            have BT : Hid (Below wr.heap.size wr w') := Lib.hid ⟨bT.os, bT.tape, bT.output, bT.size, bT.block⟩
            clear bT hc
            go_wp2
            go_loop [12] (fun k => ∃ q : Nat, q ≤ p.size ∧ k = .int .i64 q) (fun k => p.size - (intOf k).toNat)
            case atStart => exact ⟨0, Nat.zero_le _, rfl⟩
            case round =>
              obtain ⟨q, hq, rfl⟩ := hrel
              by_cases hql : q < p.size
              · have e2 : ((p[q].toNat : Int) == (u.toNat : Int)) = false := beq_eq_false_iff_ne.2 (fun h => HNo.out q hql (UInt8.toNat_inj.1 (by omega)))
                go_wp2
                go_round
                case rel => exact ⟨q + 1, by omega, by go_num⟩
                case measure => simp [intOf]; omega
              · go_wp2
                refine ⟨⟨j + 1, by omega, by go_num, ?_, ?_, ?_⟩, by simp [intOf]; omega⟩
                · exact (BT.out.block ga (lt_of_block HRa.out)).trans HRa.out
                · exact (BT.out.block gb (lt_of_block HRb.out)).trans HRb.out
                · exact HBel.out.trans (BT.out.mono HBel.out.size)
          · obtain rfl : j = A.length := by omega
            have hone := one_textP u
            have hcs : (s ++ ⟨#[u]⟩ ++ t).size < 4294967281 := by rw [cat_sizeP, cat_sizeP]; show s.size + 1 + t.size < _; omega
            have HCat : Hid (partsA u (s ++ ⟨#[u]⟩ ++ t) = A ++ B) := Lib.hid (by rw [partsA_cat, HA.out, HB.out])
            go_wp2_with fail
            have hmw : (wr.alloc (.cells #[.int .u8 u.toNat] 5)).cell? ⟨2, 0, none⟩ = some (.int .i64 m) := cell_old _ (kept_cell HBel.out HM.out (Nat.le_refl _))
            have hSp := Split_any (s ++ ⟨#[u]⟩ ++ t) u m _ hcs hmw
            rw [HCat.out] at hSp
            refine hSp.mono ?_
            rintro e w5 ⟨gc, rfl, hgc, hrc, b5⟩
            have HRc := Lib.hid hrc; clear hrc
            have HRa5 : Hid (w5.heap[ga]? = some (.cells (A.map Value.string).toArray 9 (0, 0))) := Lib.hid (by
              rw [b5.block ga (by simp; have := lt_of_block HRa.out; omega), Below.heap_alloc _ _ _ (lt_of_block HRa.out)]; exact HRa.out)
            have HRb5 : Hid (w5.heap[gb]? = some (.cells (B.map Value.string).toArray 9 (0, 0))) := Lib.hid (by
              rw [b5.block gb (by simp; have := lt_of_block HRb.out; omega), Below.heap_alloc _ _ _ (lt_of_block HRb.out)]; exact HRb.out)
            have B5 : Hid (Below w.heap.size w w5) := Lib.hid (by
              have h1 := HBel.out.size
              have h2 := b5
              exact (HBel.out.trans ((Below.refl _ _).alloc h1 _)).trans (h2.mono (by simp; omega)))
            have hgc5 : gc < w5.heap.size := lt_of_block HRc.out
            clear b5 hgc
            obtain ⟨i0, hi, hz0, hz1, hz2⟩ := info_parts info9
            obtain ⟨v', w6, hrun, hown, hgrow⟩ := run_append_arg_grows (P := Tryd.prog) w5 25 25 9 i0 (.string ⟨#[]⟩) 1 16 Tryd.underlying25 hi hz0 hz1 hz2 rfl (by decide)
              ⟨ga, 0, none⟩ A.length A.length (A.map Value.string) (by simp) (row_adds HRa5.out) ⟨gb, 0, none⟩ B.length B.length (B.map Value.string) (by simp) (row_adds HRb5.out) (by omega) (by unfold maxLen; omega) (by omega)
            clear hi hz0 hz1 hz2
            obtain ⟨gd, cap, rfl, hcd⟩ := own_texts (by omega) hown
            have HCd := Lib.hid hcd; clear hcd hown
            have HGr := Lib.hid hgrow; clear hgrow
            have HRun := Lib.hid hrun; clear hrun
            go_wp2_with (at_builtin; refine wpList_append_ran (by rfl) _ _ 25 rfl _ _ _ _ rfl rfl HRun.out ?_)
            have hST := SameTexts_eq gc 0 (A.length + B.length) gd 0 cap (A ++ B) w6 (by rw [List.length_append]; unfold maxLen; omega)
              (row_cells ((HGr.out.block gc hgc5 (by simp)).trans HRc.out))
              (fun j hj => by
                have h1 : j < A.length + B.length := by rw [List.length_append] at hj; exact hj
                rw [Nat.zero_add, HCd.out j h1, ← List.map_append, List.getElem?_map, List.getElem?_eq_getElem hj]; rfl)
            rw [List.length_append] at hST
            refine hST.mono ?_
            rintro e w7 ⟨rfl, n, rfl⟩
            clear hST
            go_wp2
            go_ret
            exact ⟨rfl, below_drewN (B5.out.grown HGr.out B5.out.size (fun k hk => by cases hk)) n⟩

theorem byte_ofP (n : Int) (h : (Lit.int .u8 n).wf = true) : ∃ u : UInt8, n = (u.toNat : Int) := by
  have a1 : IntKind.u8.min = 0 := rfl
  have a2 : IntKind.u8.max = 255 := rfl
  simp only [Lit.wf, Bool.and_eq_true, decide_eq_true_eq] at h
  refine ⟨UInt8.ofNat n.toNat, ?_⟩
  rw [UInt8.toNat_ofNat']
  omega
theorem parts_all (s t : ByteArray) (c : Int) (m : Int) (w : World) (hs : s.size ≤ 140737488351232) (ht : t.size ≤ 140737488351232) (hc : (Lit.int .u8 c).wf = true) (hm : w.cell? ⟨2, 0, none⟩ = some (.int .i64 m)) :
    Calls Tryd.prog 7 #[.string s, .string t, .int .u8 c] w fun e w' => e = .returned (.bool true) ∧ Below w.heap.size w w' := by
  obtain ⟨u, rfl⟩ := byte_ofP c hc
  exact parts_walk s t u m w hs ht hm

end Go.Proofs.YtjeejpgkhjblnaaDoor
