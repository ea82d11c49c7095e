/-
  Package heads: mayBePut, Find.
-/
import Derived.Test.YtbfnbjffobhllaaDoorHdB
import Derived.Test.YtbfnbjffobhllaaDoorLowB
namespace Go.Proofs.YtbfnbjffobhllaaDoor
open Go.RowKit

theorem infoFd2 (x y : Value) : (Tryd.prog.info? 57).map (·.size) = some [x, y].length := infoFd
def msgC (me ta : ByteArray) (st : Int) (vF vB : Value) : Array Value := #[.string me, .string ta, .int .i64 st, vF, vB]
theorem putOk_eq (m t : List UInt8) (F : List Fld) : putOk m t F = (tokS m && tgtB t && F.all fldB) := rfl
/-- What lies in the next field. -/
structure Nx (w : World) (F : List BF) (b o k : Nat) (x y : ByteArray) : Prop where
  r : w.rangeAt b (o + k * 2) [.string x, .string y]
  e : F[k]? = some (x, y)
theorem nx_of {F : List BF} {a : Option Addr} {b o k : Nat} {w : World} (h : FxAt F a b o w) (hk : k < F.length) : ∃ x y, Nx w F b o k x y :=
  ⟨(F[k]).1, (F[k]).2, h.range k hk, List.getElem?_eq_getElem hk⟩
theorem all_take_snoc {α : Type} {F : List α} {p : α → Bool} {k : Nat} {x : α} (hx : F[k]? = some x) (h : (F.take k).all p = true) (hp : p x = true) : (F.take (k + 1)).all p = true := by
  rw [List.take_add_one, List.all_append, h, hx]
  simp [hp]
set_option maxRecDepth 100000 in
set_option maxHeartbeats 4000000 in
theorem mayBePut_any (me ta : ByteArray) (st : Int) (aF : Option Addr) (cF b o : Nat) (F : List BF) (vB : Value) (w : World) (hF : FxAt F aF b o w) (hm : me.size ≤ maxLen) (ht : ta.size ≤ maxLen)
    (hs : ∀ f ∈ F, f.1.size ≤ maxLen ∧ f.2.size ≤ maxLen) (hn : F.length ≤ maxLen) :
    Calls Tryd.prog 56 #[.agg #[.string me, .string ta, .int .i64 st, .slice aF F.length cF, vB]] w fun e w' => e = .returned (.bool (putOk me.data.toList ta.data.toList (flL F))) ∧ Below w.heap.size w w' := by
  unfold maxLen at hn
  have HT := Lib.hid fun w => Token_any me w hm
  have HG := Lib.hid fun w => isTarget_any ta w ht
  have HFld := Lib.hid fun (f : BF) (hf : f ∈ F) w => isField_any f w (hs f hf).1 (hs f hf).2
  have HFx := Lib.hid hF
  have HP : Hid (putOk me.data.toList ta.data.toList (flL F) = (tokS me.data.toList && tgtB ta.data.toList && F.all fun f => fldB (flB f))) := Lib.hid (by rw [putOk_eq, flL, List.all_map]; rfl)
  obtain ⟨R, HR⟩ : ∃ R, Hid (putOk me.data.toList ta.data.toList (flL F) = R) := ⟨_, Lib.hid rfl⟩
  rw [HR.out] at HP ⊢
  obtain ⟨t, Ht⟩ : ∃ t, Hid (tokS me.data.toList = t) := ⟨_, Lib.hid rfl⟩
  obtain ⟨g, Hg⟩ : ∃ t, Hid (tgtB ta.data.toList = t) := ⟨_, Lib.hid rfl⟩
  rw [Ht.out, Hg.out] at HP
  rw [Ht.out] at HT
  rw [Hg.out] at HG
  obtain ⟨n, HN⟩ : ∃ n, Hid (F.length = n) := ⟨_, Lib.hid rfl⟩
  rw [HN.out] at hn ⊢
  clear hF hm ht hs HR
  have hb0 : Below w.heap.size w (w.alloc (.cells #[.string me, .string ta, .int .i64 st, .slice aF n cF, vB] 26)) := (Below.refl _ _).alloc (Nat.le_refl _) _
  have HB0 := Lib.hid hb0
  clear hb0
  cases t with
  | false =>
    have HRR : Hid (R = false) := Lib.hid HP.out
    clear HP
    go_enter Tryd.func56, Tryd.ntmps56
    go_wp2_with fail
    refine (HT.out _).mono ?_
    rintro e w1 ⟨rfl, hb⟩
    have HB1 := Lib.hid (HB0.out.trans (hb.mono HB0.out.size))
    clear hb
    go_wp2
    go_ret
    exact ⟨ret_bool HRR.out.symm, HB1.out⟩
  | true =>
    go_enter Tryd.func56, Tryd.ntmps56
    go_wp2_with fail
    refine (HT.out _).mono ?_
    rintro e w1 ⟨rfl, hb⟩
    have HB1 := Lib.hid (HB0.out.trans (hb.mono HB0.out.size))
    have hg1 : w1.heap[w.heap.size]? = some (.cells #[.string me, .string ta, .int .i64 st, .slice aF n cF, vB] 26 (0, 0)) := (hb.block _ (by simp)).trans (heap_alloc_new w _)
    have c1 : w1.cell? ⟨w.heap.size, 1, none⟩ = some (.string ta) := by rw [cell_of_row w1 _ 1 _ _ _ hg1]; rfl
    have c3 : w1.cell? ⟨w.heap.size, 3, none⟩ = some (.slice aF n cF) := by rw [cell_of_row w1 _ 3 _ _ _ hg1]; rfl
    clear hb hg1
    cases g with
    | false =>
      have HRR : Hid (R = false) := Lib.hid HP.out
      clear HP
      go_wp2_with fail
      refine (HG.out _).mono ?_
      rintro e w2 ⟨rfl, rfl⟩
      go_wp2
      go_ret
      exact ⟨ret_bool HRR.out.symm, HB1.out⟩
    | true =>
      have HRR : Hid (R = F.all fun f => fldB (flB f)) := Lib.hid HP.out
      clear HP
      go_wp2_with fail
      refine (HG.out _).mono ?_
      rintro e w2 ⟨rfl, rfl⟩
      go_wp2
      go_loopw [4, 18] (fun _ i wr => ∃ k : Nat, k ≤ n ∧ i = .int .i64 k ∧ Hid (Below w.heap.size w wr) ∧ Hid (((F.take k).all fun f => fldB (flB f)) = true)) (fun _ i _ => n - (intOf i).toNat)
      case atStart => exact ⟨0, Nat.zero_le _, rfl, HB1, Lib.hid rfl⟩
      case round =>
        obtain ⟨k, hk, rfl, HB, HA⟩ := hrel
        clear c1 c3
        by_cases hlt : k < n
        · have hkF : k < F.length := by rw [HN.out]; exact hlt
          have HF1 := Lib.hid (HFx.out.later HB.out)
          obtain ⟨x, y, hx⟩ := nx_of HF1.out hkF
          have HX := Lib.hid hx
          obtain rfl := HF1.out.at0 (by omega)
          have hltI : (k : Int) < (n : Int) := by omega
          have HC : Hid (∀ w, Calls Tryd.prog 83 #[.agg #[.string x, .string y]] w fun e w' => e = .returned (.bool (fldB (flB (x, y)))) ∧ Below w.heap.size w w') := Lib.hid fun w => HFld.out (x, y) (List.mem_of_getElem? HX.out.e) w
          obtain ⟨f, Hf⟩ : ∃ f, Hid (fldB (flB (x, y)) = f) := ⟨_, Lib.hid rfl⟩
          rw [Hf.out] at HC
          obtain ⟨W, HW⟩ : ∃ W, Hid (wr.alloc (.cells #[.string x, .string y] 57) = W) := ⟨_, Lib.hid rfl⟩
          have HBW : Hid (Below w.heap.size w W) := Lib.hid (by rw [← HW.out]; exact HB.out.alloc HB.out.size _)
          have HGW : Hid (W.heap[wr.heap.size]? = some (.cells #[.string x, .string y] 57 (0, 0))) := Lib.hid (by rw [← HW.out]; exact heap_alloc_new wr _)
          clear hx hkF
          cases f with
          | true =>
            have HA2 : Hid (((F.take (k + 1)).all fun f => fldB (flB f)) = true) := Lib.hid (all_take_snoc HX.out.e HA.out Hf.out)
            go_wp2_with (first
              | (refine wpList_load_mid rfl 57 _ rfl b (o + k * 2) ?_ [.string x, .string y] _ HX.out.r Tryd.underlying57 rfl (infoFd2 _ _) ?_; (exact rfl))
              | (refine wpL_store_row rfl 57 _ _ rfl wr.heap.size #[.string x, .string y] ?_ ?_ 57 #[.string ⟨#[]⟩, .string ⟨#[]⟩] (heap_alloc_new _ _) infoFd rfl rfl ?_; (exact rfl); (exact rfl); (rw [World.setRow_alloc_new, HW.out]))
              | (refine wpList_load_row rfl 57 _ rfl wr.heap.size ?_ 57 #[.string x, .string y] (0, 0) _ HGW.out Tryd.underlying57 rfl infoFd ?_; (exact rfl)))
            rw [HW.out]
            refine (HC.out W).mono ?_
            rintro e w2 ⟨rfl, hb⟩
            have HB2 := Lib.hid (HBW.out.trans (hb.mono HBW.out.size))
            clear hb
            go_wp2
            go_roundw
            case rel => exact ⟨k + 1, by omega, by go_num, HB2, HA2⟩
            case measure => simp [intOf]; omega
          | false =>
            have HR2 : Hid (R = false) := Lib.hid (by
              rw [HRR.out]
              cases hx : F.all fun f => fldB (flB f) with
              | false => rfl
              | true => have := List.all_eq_true.1 hx _ (List.mem_of_getElem? HX.out.e); rw [Hf.out] at this; cases this)
            go_wp2_with (first
              | (refine wpList_load_mid rfl 57 _ rfl b (o + k * 2) ?_ [.string x, .string y] _ HX.out.r Tryd.underlying57 rfl (infoFd2 _ _) ?_; (exact rfl))
              | (refine wpL_store_row rfl 57 _ _ rfl wr.heap.size #[.string x, .string y] ?_ ?_ 57 #[.string ⟨#[]⟩, .string ⟨#[]⟩] (heap_alloc_new _ _) infoFd rfl rfl ?_; (exact rfl); (exact rfl); (rw [World.setRow_alloc_new, HW.out]))
              | (refine wpList_load_row rfl 57 _ rfl wr.heap.size ?_ 57 #[.string x, .string y] (0, 0) _ HGW.out Tryd.underlying57 rfl infoFd ?_; (exact rfl)))
            rw [HW.out]
            refine (HC.out W).mono ?_
            rintro e w2 ⟨rfl, hb⟩
            have HB2 := Lib.hid (HBW.out.trans (hb.mono HBW.out.size))
            clear hb
            go_wp2
            go_ret
            exact ⟨ret_bool HR2.out.symm, HB2.out⟩
        · have HR2 : Hid (R = true) := Lib.hid (by rw [HRR.out, ← HA.out, List.take_of_length_le (by rw [HN.out]; omega)])
          go_wp2
          go_ret
          exact ⟨ret_bool HR2.out.symm, HB.out⟩

end Go.Proofs.YtbfnbjffobhllaaDoor
