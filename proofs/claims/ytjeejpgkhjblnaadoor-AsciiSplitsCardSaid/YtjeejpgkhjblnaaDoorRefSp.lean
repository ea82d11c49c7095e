/-
  Contracts: the document's Split.
-/
import Derived.Test.YtjeejpgkhjblnaaDoorSplM
import Derived.Test.YtjeejpgkhjblnaaDoorRefTr
import Derived.Test.YtjeejpgkhjblnaaDoorLowA
import Derived.ArgAppend
import Derived.Deep.AppendLies
namespace Go.Proofs.YtjeejpgkhjblnaaDoor
open Go.RowKit

theorem infoS : (Tryd.prog.info? 9).map (fun i => (i.zero, i.size, i.bytes)) = some (some (.string ⟨#[]⟩), 1, 16) := by kernel_rfl
theorem append_ranS {P : Program} {ops : Array Oper} {Q : Exit → Act → World → Prop} {a : Act} {w : World} {rest : List Oper} {o : Oper} (hw : Region.wanted o (yielded ops a.tmps) = true)
    (s x : Operand) (t : TypeId) (hop : o.op = Op.call { callee := Callee.builtin Builtin.append, args := #[s, x], argTypes := #[t, t] }) (vs vx v' : Value) (w' : World) (hs : a.eval s = vs) (hx : a.eval x = vx)
    (hrun : (Builtin.append_ #[t, t] o.type #[vs, vx]).run P w = .ok v' w') (h : wpList P ops Q rest (a.put o.dst v') w') : wpList P ops Q (o :: rest) a w := by
  refine wpList_step fun K hK' => ?_
  rw [if_pos hw]
  unfold Oper.wp
  simp [execOp, hop, resolve, invoke, builtin, hs, hx, hrun, Result.andThen]
  exact hK' _ _ h

theorem parts_snoc_eq (a : UInt8) (l : List UInt8) : parts a (l ++ [a]) = parts a l ++ [[]] := parts_append a [] l
theorem parts_snoc_ne (a c : UInt8) (hc : c ≠ a) : ∀ (l : List UInt8) (D : List (List UInt8)) (cur : List UInt8), parts a l = D ++ [cur] → parts a (l ++ [c]) = D ++ [cur ++ [c]]
  | [], D, cur, h => by
    have h1 : D = [] ∧ cur = [] := by
      cases D with
      | nil => simp [parts] at h; exact ⟨rfl, h⟩
      | cons d D => simp [parts] at h
    obtain ⟨rfl, rfl⟩ := h1
    simp [parts, hc, ahead]
  | b :: l, D, cur, h => by
    have ih := parts_snoc_ne a c hc l
    have hne := parts_ne a l
    rw [List.cons_append, parts]
    rw [parts] at h
    by_cases hb : b = a
    · rw [if_pos hb] at h ⊢
      cases D with
      | nil =>
        simp only [List.nil_append, List.cons.injEq] at h
        exact absurd h.2 hne
      | cons d D =>
        simp only [List.cons_append, List.cons.injEq] at h
        rw [ih D cur h.2, ← h.1]; rfl
    · rw [if_neg hb] at h ⊢
      cases e : parts a l with
      | nil => exact absurd e hne
      | cons q qs =>
        rw [e] at h ih
        simp only [ahead] at h
        cases D with
        | nil =>
          simp only [List.nil_append, List.cons.injEq] at h
          have h2 := ih [] q (by rw [h.2]; rfl)
          rw [h2, ← h.1]; rfl
        | cons d D =>
          simp only [List.cons_append, List.cons.injEq] at h
          have h2 := ih (q :: D) cur (by rw [h.2]; rfl)
          rw [h2, ← h.1]; rfl

/-- What the document's Split leaves: a slice of the parts. -/
def RefParted (w : World) (L : List ByteArray) (e : Ending) (w' : World) : Prop :=
  ∃ g cap, e = .returned (.slice (some ⟨g, 0, none⟩) L.length cap) ∧ (∀ j (h : j < L.length), w'.cell? ⟨g, 0 + j, none⟩ = some (.string L[j])) ∧ Below w.heap.size w w'
def strL (l : List UInt8) : Value := .string ⟨(trimL l).toArray⟩
theorem partsA_strL (a : UInt8) (s : ByteArray) : (partsA a s).map Value.string = (parts a s.data.toList).map strL := by
  rw [← rawP_data, List.map_map, partsA, List.map_map]; rfl

/-- One part more. -/
theorem ref_step (base : Nat) (v x : Value) (D : List Value) (w w0 : World) (hx : x.oneCell' = true) (hD : D.length ≤ 1048577) (hb : base ≤ w.heap.size) (hown : w.ownsRow base 9 1 v D.length D) (hB : Below base w0 w) :
    ∃ v' w1, (Builtin.append_ #[25, 25] 25 #[v, .slice (some ⟨w.heap.size, 0, none⟩) 1 1]).run Tryd.prog (w.alloc (.cells #[x] 9)) = .ok v' w1 ∧ w1.ownsRow base 9 1 v' (D ++ [x]).length (D ++ [x]) ∧ Below base w0 w1 := by
  obtain ⟨i0, hi, hz0, hz1, hz2⟩ := info_parts infoS
  have hnews : ∀ j u, ([x] : List Value)[j]? = some u → (w.alloc (.cells #[x] 9)).cell? ((⟨w.heap.size, 0, none⟩ : Addr).add j) = some u :=
    World.news_of_block (cs := #[x]) (t := 9) (fr := (0, 0)) (heap_alloc_new w _)
  obtain ⟨v', w1, hrun, hown', hgrow, _⟩ := run_append_own (P := Tryd.prog) (w.alloc (.cells #[x] 9)) base 25 25 9 i0 (.string ⟨#[]⟩) 1 16 Tryd.underlying25 hi hz0 hz1 hz2 rfl (by decide)
    v D.length D (hown.alloc _) ⟨w.heap.size, 0, none⟩ 1 1 [x] (by simp) hnews (by simp [hx]) (by unfold maxLen; omega) (by omega) (by simp; omega)
  refine ⟨v', w1, hrun, by rw [List.length_append]; exact hown', (hB.alloc hb _).grown hgrow (by simp; omega) (fun q hq => (hown.lt q hq).1)⟩

set_option maxHeartbeats 1000000 in
set_option maxRecDepth 100000 in
theorem RefSplit_any (s : ByteArray) (u : UInt8) (w : World) (hs : s.size ≤ 1048576) :
    Calls Tryd.prog 15 #[.string s, .int .u8 u.toNat] w (RefParted w (partsA u s)) := by
  have hsl : s.data.toList.length = s.size := by simp
  have HSl := Lib.hid hsl; clear hsl
  go_enter Tryd.func15, Tryd.ntmps15
  go_wp2
  go_loopw [5, 6, 7] (fun v f i wr => ∃ (k from_ : Nat) (D : List (List UInt8)), k ≤ s.size + 1 ∧ i = .int .i64 k ∧ f = .int .i64 from_ ∧ from_ ≤ k ∧ D.length ≤ k ∧ wr.ownsRow w.heap.size 9 1 v D.length (D.map strL) ∧ Below w.heap.size w wr ∧
      ((k ≤ s.size ∧ parts u (s.data.toList.take k) = D ++ [(s.data.toList.take k).drop from_]) ∨ (k = s.size + 1 ∧ parts u s.data.toList = D))) (fun _ _ i _ => s.size + 1 - (intOf i).toNat)
  case atStart => exact ⟨0, 0, [], Nat.zero_le _, rfl, rfl, Nat.le_refl _, Nat.zero_le _, World.ownsRow_nil _ _ _ _, Below.refl _ _, .inl ⟨Nat.zero_le _, by simp [parts]⟩⟩
  case round =>
    obtain ⟨k, from_, D, hk, rfl, rfl, hfk, hDk, hown, hB, hP⟩ := hrel
    have HOwn := Lib.hid hown; clear hown
    have HB := Lib.hid hB; clear hB
    by_cases hlt : k ≤ s.size
    · have HP : Hid (parts u (s.data.toList.take k) = D ++ [(s.data.toList.take k).drop from_]) := Lib.hid (by
        rcases hP with ⟨_, h⟩ | ⟨h, _⟩
        · exact h
        · omega)
      clear hP
      have hes : (s.extract from_ k).size ≤ s.size := by
        rw [ext_size _ _ _ hlt]; omega
      have HEx : Hid (trimA (s.extract from_ k) = ⟨(trimL ((s.data.toList.take k).drop from_)).toArray⟩) := Lib.hid (by rw [trimA, ext_data])
      rcases (show k = s.size ∨ (∃ h : k < s.size, s[k] = u) ∨ (∃ h : k < s.size, s[k] ≠ u) from by
        by_cases h : k < s.size
        · by_cases h' : s[k] = u
          · exact .inr (.inl ⟨h, h'⟩)
          · exact .inr (.inr ⟨h, h'⟩)
        · exact .inl (by omega)) with he | ⟨hkl, he⟩ | ⟨hkl, he⟩
      · have e1 : ((k : Int) == (s.size : Int)) = true := beq_iff_eq.2 (by omega)
        have HKe := Lib.hid he
        clear he
        have hke : s.size ≤ k := by rw [HKe.out]; omega
        obtain ⟨v', w1, hrun, hown1, hB1⟩ := ref_step w.heap.size _ (strL ((s.data.toList.take k).drop from_)) (D.map strL) wr w rfl (by simp; omega) HB.out.size (by simpa using HOwn.out) HB.out
        have HRun := Lib.hid hrun
        have HOwn1 := Lib.hid hown1
        have HB1 := Lib.hid hB1
        clear hrun hown1 hB1
        go_wp2_with (first | (go_at_call 12; refine (RefTrim_any (s.extract from_ k) _ (by unfold maxLen; omega)).mono ?_; rw [HEx.out]; rintro e w' ⟨rfl, rfl⟩) | (at_builtin; refine append_ranS (by rfl) _ _ 25 rfl _ _ _ _ rfl rfl HRun.out ?_))
        refine ⟨⟨k + 1, k + 1, D ++ [(s.data.toList.take k).drop from_], by omega, by go_num, by go_num, Nat.le_refl _, by simp; omega, ?_, HB1.out, .inr ⟨by omega, ?_⟩⟩, by simp [intOf]; omega⟩
        · have := HOwn1.out; simp at this ⊢; exact this
        · rw [← HP.out, List.take_of_length_le (by rw [HSl.out]; omega)]
      · have e1 : ((k : Int) == (s.size : Int)) = false := beq_eq_false_iff_ne.2 (by omega)
        have e2 : ((s[k].toNat : Int) == (u.toNat : Int)) = true := beq_iff_eq.2 (by rw [he])
        have HE := Lib.hid he
        clear he
        obtain ⟨v', w1, hrun, hown1, hB1⟩ := ref_step w.heap.size _ (strL ((s.data.toList.take k).drop from_)) (D.map strL) wr w rfl (by simp; omega) HB.out.size (by simpa using HOwn.out) HB.out
        have HRun := Lib.hid hrun
        have HOwn1 := Lib.hid hown1
        have HB1 := Lib.hid hB1
        clear hrun hown1 hB1
        go_wp2_with (first | (go_at_call 12; refine (RefTrim_any (s.extract from_ k) _ (by unfold maxLen; omega)).mono ?_; rw [HEx.out]; rintro e w' ⟨rfl, rfl⟩) | (at_builtin; refine append_ranS (by rfl) _ _ 25 rfl _ _ _ _ rfl rfl HRun.out ?_))
        refine ⟨⟨k + 1, k + 1, D ++ [(s.data.toList.take k).drop from_], by omega, by go_num, by go_num, Nat.le_refl _, by simp; omega, ?_, HB1.out, .inl ⟨by omega, ?_⟩⟩, by simp [intOf]; omega⟩
        · have := HOwn1.out; simp at this ⊢; exact this
        · have ht := take_snoc s k hkl
          rw [HE.out] at ht
          rw [ht, parts_snoc_eq, HP.out]
          congr 2
          rw [List.drop_of_length_le]
          simp; omega
      · have e1 : ((k : Int) == (s.size : Int)) = false := beq_eq_false_iff_ne.2 (by omega)
        have e2 : ((s[k].toNat : Int) == (u.toNat : Int)) = false := beq_eq_false_iff_ne.2 (fun h => he (UInt8.toNat_inj.1 (by omega)))
        have HE := Lib.hid he
        clear he
        go_wp2
        refine ⟨⟨k + 1, from_, D, by omega, by go_num, rfl, by omega, by omega, HOwn.out, HB.out, .inl ⟨by omega, ?_⟩⟩, by simp [intOf]; omega⟩
        have ht := take_snoc s k hkl
        have hd : (s.data.toList.take (k + 1)).drop from_ = (s.data.toList.take k).drop from_ ++ [s[k]] := by
          rw [ht, List.drop_append_of_le_length (by simp; omega)]
        rw [hd, ht]
        exact parts_snoc_ne u s[k] HE.out _ D _ HP.out
    · have HP : Hid (parts u s.data.toList = D) := Lib.hid (by
        rcases hP with ⟨h, _⟩ | ⟨_, h⟩
        · omega
        · exact h)
      clear hP
      have hD0 : 0 < D.length := by rw [← HP.out]; exact List.length_pos_iff.2 (parts_ne u _)
      obtain ⟨hl, h2⟩ := HOwn.out
      rcases h2 with ⟨_, h2⟩ | ⟨g, cap, cur, rfl, hg, hh, hc⟩
      · omega
      · have HCell : Hid (∀ j (h : j < (partsA u s).length), wr.cell? ⟨g, 0 + j, none⟩ = some (.string (partsA u s)[j])) := Lib.hid (fun j hj => by
          have hj' : j < D.length := by rw [← HP.out, ← partsA_len]; exact hj
          have h1 := World.ownsRow.cellAt (base := w.heap.size) (e := 9) (size := 1) (cap := cap) (n := D.length) (xs := D.map strL) ⟨hl, .inr ⟨g, cap, cur, rfl, hg, hh, hc⟩⟩ j (by omega)
          rw [Nat.zero_add, h1, ← HP.out, ← partsA_strL, List.getElem?_map, List.getElem?_eq_getElem hj]; rfl)
        have HLen : Hid (D.length = (partsA u s).length) := Lib.hid (by rw [partsA_len, HP.out])
        clear hh hc hl
        go_wp2
        go_ret
        exact ⟨g, cap, by rw [← HLen.out]; rfl, HCell.out, HB.out⟩

end Go.Proofs.YtjeejpgkhjblnaaDoor
