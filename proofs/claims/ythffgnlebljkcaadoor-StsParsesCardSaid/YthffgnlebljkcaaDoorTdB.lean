/-
  Package sts, the document's side: the parts; a directive.
-/
import Derived.Test.YthffgnlebljkcaaDoorTdA
namespace Go.Proofs.YthffgnlebljkcaaDoor
open Go.RowKit Go.Lib

def psV (p : List UInt8) : Value := .string (asB p)
theorem infoStr : (Tryd.prog.info? 9).map (fun i => (i.zero, i.size, i.bytes)) = some (some (.string ⟨#[]⟩), 1, 16) := by kernel_rfl
theorem td_step (base : Nat) (v x : Value) (D : List Value) (w w0 : World) (hx : x.oneCell' = true) (hD : D.length ≤ 1048577) (hb : base ≤ w.heap.size) (hown : w.ownsRow base 9 1 v D.length D) (hB : Below base w0 w) :
    ∃ v' w1, (Builtin.append_ #[46, 46] 46 #[v, .slice (some ⟨w.heap.size, 0, none⟩) 1 1]).run Tryd.prog (w.alloc (.cells #[x] 9)) = .ok v' w1 ∧ w1.ownsRow base 9 1 v' (D ++ [x]).length (D ++ [x]) ∧ Below base w0 w1 ∧ True := by
  obtain ⟨i0, hi, hz0, hz1, hz2⟩ := info_parts infoStr
  have hnews : ∀ j u, ([x] : List Value)[j]? = some u → (w.alloc (.cells #[x] 9)).cell? ((⟨w.heap.size, 0, none⟩ : Addr).add j) = some u :=
    World.news_of_block (cs := #[x]) (t := 9) (fr := (0, 0)) (heap_alloc_new w _)
  obtain ⟨v', w1, hrun, hown', hgrow, _⟩ := run_append_own (P := Tryd.prog) (w.alloc (.cells #[x] 9)) base 46 46 9 i0 (.string ⟨#[]⟩) 1 16 Tryd.underlying46 hi hz0 hz1 hz2 rfl (by decide)
    v D.length D (hown.alloc _) ⟨w.heap.size, 0, none⟩ 1 1 [x] (by simp) hnews (by simp [hx]) (by unfold maxLen; omega) (by omega) (by simp; omega)
  refine ⟨v', w1, hrun, by rw [List.length_append]; exact hown', (hB.alloc hb _).grown hgrow (by simp; omega) (fun q hq => (hown.lt q hq).1), trivial⟩
/-- The scan, at a place. -/
def scanI (l : List UInt8) (L : List (List UInt8)) (f k : Nat) (b : Bool) : Prop :=
  prt l = L ++ ((l.take k).drop f ++ (pfst (l.drop k) b).1) :: (match (pfst (l.drop k) b).2 with
    | none => []
    | some l' => prt l')
theorem scan_start (l : List UInt8) : scanI l [] 0 0 false := by
  unfold scanI
  exact prt_eq l
theorem tk_next {l : List UInt8} {f k : Nat} {c : UInt8} (h : l[k]? = some c) (hf : f ≤ k) : (l.take (k + 1)).drop f = (l.take k).drop f ++ [c] := by
  obtain ⟨hk, _⟩ := List.getElem?_eq_some_iff.1 h
  rw [List.take_add_one, h, List.drop_append_of_le_length (by rw [List.length_take]; omega)]
  rfl
section
variable {l : List UInt8} {L : List (List UInt8)} {f k : Nat} {b : Bool} {c d : UInt8}
theorem scan_mark (h : scanI l L f k b) (hc : l[k]? = some c) (hf : f ≤ k) (h1 : c = 34) : scanI l L f (k + 1) (!b) := by
  unfold scanI at h ⊢
  rw [rqD_step hc] at h
  have e : pfst (c :: l.drop (k + 1)) b = (c :: (pfst (l.drop (k + 1)) (!b)).1, (pfst (l.drop (k + 1)) (!b)).2) := by
    conv => { lhs; unfold pfst }
    rw [if_pos h1]
  rw [e] at h
  rw [h, tk_next hc hf]
  simp
theorem scan_esc (h : scanI l L f k true) (hc : l[k]? = some c) (hd : l[k + 1]? = some d) (hf : f ≤ k) (h1 : c = 92) : scanI l L f (k + 2) true := by
  unfold scanI at h ⊢
  rw [rqD_step hc, rqD_step hd] at h
  have e : pfst (c :: d :: l.drop (k + 1 + 1)) true = (c :: d :: (pfst (l.drop (k + 1 + 1)) true).1, (pfst (l.drop (k + 1 + 1)) true).2) := by
    conv => { lhs; unfold pfst }
    rw [if_neg (by rw [h1]; decide), if_pos ⟨h1, rfl⟩]
  rw [e] at h
  rw [h, tk_next hd (by omega), tk_next hc hf]
  simp
theorem scan_last (h : scanI l L f k true) (hc : l[k]? = some c) (hk : k + 1 = l.length) (hf : f ≤ k) (h1 : c = 92) : prt l = L ++ [l.drop f] := by
  unfold scanI at h
  rw [rqD_step hc, List.drop_of_length_le (show l.length ≤ k + 1 by omega)] at h
  have e : pfst [c] true = ([c], none) := by
    unfold pfst
    rw [if_neg (by rw [h1]; decide), if_pos ⟨h1, rfl⟩]
  rw [e] at h
  rw [h]
  have := tk_next hc hf
  rw [List.take_of_length_le (by omega)] at this
  rw [this]
theorem scan_sep (h : scanI l L f k false) (hc : l[k]? = some c) (h1 : c = 59) : scanI l (L ++ [(l.take k).drop f]) (k + 1) (k + 1) false := by
  unfold scanI at h ⊢
  rw [rqD_step hc] at h
  have e : pfst (c :: l.drop (k + 1)) false = ([], some (l.drop (k + 1))) := by
    conv => { lhs; unfold pfst }
    rw [if_neg (by rw [h1]; decide), if_neg (by simp), if_pos ⟨h1, rfl⟩]
  rw [e] at h
  have h : prt l = L ++ ((l.take k).drop f ++ []) :: prt (l.drop (k + 1)) := h
  rw [h, prt_eq (l.drop (k + 1))]
  have : (l.take (k + 1)).drop (k + 1) = [] := List.drop_of_length_le (by rw [List.length_take]; omega)
  rw [this]
  simp
  cases (pfst (l.drop (k + 1)) false).2 <;> rfl
theorem scan_any (h : scanI l L f k b) (hc : l[k]? = some c) (hf : f ≤ k) (h1 : c ≠ 34) (h2 : ¬ (c = 92 ∧ b = true)) (h3 : ¬ (c = 59 ∧ b = false)) : scanI l L f (k + 1) b := by
  unfold scanI at h ⊢
  rw [rqD_step hc] at h
  have e : pfst (c :: l.drop (k + 1)) b = (c :: (pfst (l.drop (k + 1)) b).1, (pfst (l.drop (k + 1)) b).2) := by
    conv => { lhs; unfold pfst }
    rw [if_neg h1, if_neg h2, if_neg h3]
  rw [e] at h
  rw [h, tk_next hc hf]
  simp
theorem scan_end (h : scanI l L f k b) (hk : k = l.length) : prt l = L ++ [l.drop f] := by
  unfold scanI at h
  rw [List.drop_of_length_le (show l.length ≤ k by omega), List.take_of_length_le (show l.length ≤ k by omega)] at h
  rw [h]
  simp [pfst]
end
/-- What the document's parts leave. -/
def PrtP (w : World) (L : List (List UInt8)) (e : Ending) (w' : World) : Prop :=
  ∃ g cap, e = .returned (.slice (some ⟨g, 0, none⟩) L.length cap) ∧ w.heap.size ≤ g ∧ (∀ j (h : j < L.length), w'.cell? ⟨g, 0 + j, none⟩ = some (psV L[j])) ∧ g < w'.heap.size ∧ Below w.heap.size w w'
theorem ext_part (l : List UInt8) (f k : Nat) : (asB l).extract f k = asB ((l.take k).drop f) := by
  apply ByteArray.ext
  apply Array.toList_inj.1
  rw [ByteArray.data_extract, Array.toList_extract, List.extract_eq_take_drop]
  show (l.drop f).take (k - f) = (l.take k).drop f
  rw [List.drop_take]
set_option maxRecDepth 100000 in
set_option maxHeartbeats 4000000 in
theorem RefParts_any (l : List UInt8) (w : World) (hl : l.length ≤ 65536) : Calls Tryd.prog 22 #[.string (asB l)] w (PrtP w (prt l)) := by
  obtain ⟨S, HS⟩ : ∃ S, Hid (asB l = S) := ⟨_, Lib.hid rfl⟩
  have hz : S.size = l.length := by rw [← HS.out, asB_size]
  rw [HS.out]
  have HZ := Lib.hid hz
  have HLl := Lib.hid hl
  have hs16 : (S.size : Int) ≤ 65536 := by omega
  clear hl hz
  go_enter Tryd.func22, Tryd.ntmps22
  go_wp2
  go_loopw [3, 4, 5, 6] (fun v fr b i wr => ∃ (k f : Nat) (L : List (List UInt8)) (B : Bool), k ≤ S.size + 1 ∧ i = .int .i64 (k : Int) ∧ fr = .int .i64 (f : Int) ∧ b = .bool B ∧ f ≤ k ∧ f ≤ S.size ∧ Hid (L.length ≤ f) ∧ Hid (wr.ownsRow w.heap.size 9 1 v L.length (L.map psV)) ∧ Hid (Below w.heap.size w wr) ∧ Hid ((k ≤ S.size ∧ scanI l L f k B) ∨ (k = S.size + 1 ∧ prt l = L ++ [l.drop f]))) (fun _ _ _ i _ => S.size + 1 - (intOf i).toNat)
  case atStart => exact ⟨0, 0, [], false, by omega, rfl, rfl, rfl, Nat.le_refl _, Nat.zero_le _, Lib.hid (Nat.le_refl _), Lib.hid (World.ownsRow_nil ..), Lib.hid (Below.refl _ _), Lib.hid (.inl ⟨Nat.zero_le _, scan_start l⟩)⟩
  case round =>
    obtain ⟨k, f, L, B, hk, rfl, rfl, rfl, hfk, hfS, HLf, HOw, HB, HP⟩ := hrel
    by_cases hlt : k < S.size
    · obtain ⟨c, hx⟩ : ∃ c : UInt8, S[k]'hlt = c := ⟨_, rfl⟩
      have hc : l[k]? = some c := by
        have := Lib.data_getElem? S k hlt
        rw [hx, ← HS.out] at this
        exact this
      have hsc : scanI l L f k B := by
        rcases HP.out with ⟨_, h⟩ | ⟨h, _⟩
        · exact h
        · omega
      have p1 : (k : Int) < (S.size : Int) := by omega
      by_cases q34 : c.toNat = 34
      · have hcc : c = 34 := by have := UInt8.ofNat_toNat (x := c); rw [q34] at this; rw [← this]; rfl
        have HSc := Lib.hid (scan_mark hsc hc hfk hcc)
        have e1 : ((c.toNat : Int) == 34) = true := by rw [q34]; rfl
        clear q34 hcc hsc hc
        go_wp2
        go_roundw
        case rel => exact ⟨k + 1, f, L, !B, by omega, by go_num, rfl, rfl, by omega, hfS, HLf, HOw, HB, Lib.hid (.inl ⟨by omega, HSc.out⟩)⟩
        case measure => simp [intOf]; omega
      · have e1 : ((c.toNat : Int) == 34) = false := beq_eq_false_iff_ne.2 (by omega)
        have hc34 : c ≠ 34 := fun e => q34 (by rw [e]; rfl)
        cases B with
        | true =>
          by_cases q92 : c.toNat = 92
          · have hcc : c = 92 := by have := UInt8.ofNat_toNat (x := c); rw [q92] at this; rw [← this]; rfl
            have e2 : ((c.toNat : Int) == 92) = true := by rw [q92]; rfl
            have HNx : Hid ((k + 2 ≤ S.size ∧ scanI l L f (k + 2) true) ∨ (k + 2 = S.size + 1 ∧ prt l = L ++ [l.drop f])) := Lib.hid (by
              by_cases hend : k + 1 < S.size
              · have hd : ∃ d, l[k + 1]? = some d := ⟨_, List.getElem?_eq_getElem (by have := HZ.out; omega)⟩
                obtain ⟨d, hd⟩ := hd
                exact .inl ⟨by omega, scan_esc hsc hc hd hfk hcc⟩
              · exact .inr ⟨by omega, scan_last hsc hc (by have := HZ.out; omega) hfk hcc⟩)
            clear q34 q92 hcc hsc hc hc34
            go_wp2
            go_roundw
            case rel => exact ⟨k + 2, f, L, true, by omega, by go_num, rfl, rfl, by omega, hfS, HLf, HOw, HB, HNx⟩
            case measure => simp [intOf]; omega
          · have e2 : ((c.toNat : Int) == 92) = false := beq_eq_false_iff_ne.2 (by omega)
            have HSc := Lib.hid (scan_any hsc hc hfk hc34 (fun e => q92 (by rw [e.1]; rfl)) (fun e => by cases e.2))
            clear q34 q92 hsc hc hc34
            by_cases q59 : c.toNat = 59
            · have e3 : ((c.toNat : Int) == 59) = true := by rw [q59]; rfl
              clear q59
              go_wp2
              go_roundw
              case rel => exact ⟨k + 1, f, L, true, by omega, by go_num, rfl, rfl, by omega, hfS, HLf, HOw, HB, Lib.hid (.inl ⟨by omega, HSc.out⟩)⟩
              case measure => simp [intOf]; omega
            · have e3 : ((c.toNat : Int) == 59) = false := beq_eq_false_iff_ne.2 (by omega)
              clear q59
              go_wp2
              go_roundw
              case rel => exact ⟨k + 1, f, L, true, by omega, by go_num, rfl, rfl, by omega, hfS, HLf, HOw, HB, Lib.hid (.inl ⟨by omega, HSc.out⟩)⟩
              case measure => simp [intOf]; omega
        | false =>
          have e2 : ((c.toNat : Int) == 92) = true ∨ ((c.toNat : Int) == 92) = false := by cases ((c.toNat : Int) == 92) <;> simp
          by_cases q59 : c.toNat = 59
          · have hcc : c = 59 := by have := UInt8.ofNat_toNat (x := c); rw [q59] at this; rw [← this]; rfl
            have e3 : ((c.toNat : Int) == 59) = true := by rw [q59]; rfl
            have e4 : ((c.toNat : Int) == 92) = false := by rw [q59]; rfl
            have HSc := Lib.hid (scan_sep hsc hc hcc)
            have HEx : Hid (S.extract f k = asB ((l.take k).drop f)) := Lib.hid (by rw [← HS.out, ext_part])
            obtain ⟨v', w1, r1, r2, r3, _⟩ := td_step w.heap.size u3 (.string (S.extract f k)) (L.map psV) wr w rfl (by rw [List.length_map]; have := HLf.out; have := HLl.out; have := HZ.out; omega) HB.out.size (by rw [List.length_map]; exact HOw.out) HB.out
            have HRun := Lib.hid r1
            have HOw1 : Hid (w1.ownsRow w.heap.size 9 1 v' (L ++ [(l.take k).drop f]).length ((L ++ [(l.take k).drop f]).map psV)) := Lib.hid (by
              rw [List.map_append, List.length_append]
              rw [List.length_append, List.length_map, HEx.out] at r2
              exact r2)
            have HB1 := Lib.hid r3
            have p3 : (f : Int) ≤ (k : Int) := by omega
            have p4 : (k : Int) ≤ (S.size : Int) := by omega
            clear q34 q59 hcc hsc hc hc34 r1 r2 r3 e2
            go_wp2_with (at_builtin; refine Lib.wpList_append_run _ rfl _ _ _ _ rfl _ _ rfl rfl _ _ HRun.out ?_)
            go_roundw
            case rel => exact ⟨k + 1, k + 1, L ++ [(l.take k).drop f], false, by omega, by go_num, by go_num, rfl, Nat.le_refl _, by omega, Lib.hid (by have := HLf.out; simp; omega), HOw1, HB1, Lib.hid (.inl ⟨by omega, HSc.out⟩)⟩
            case measure => simp [intOf]; omega
          · have e3 : ((c.toNat : Int) == 59) = false := beq_eq_false_iff_ne.2 (by omega)
            have HSc := Lib.hid (scan_any hsc hc hfk hc34 (fun e => by cases e.2) (fun e => q59 (by rw [e.1]; rfl)))
            clear q34 q59 hsc hc hc34
            rcases e2 with e2 | e2
            · go_wp2
              go_roundw
              case rel => exact ⟨k + 1, f, L, false, by omega, by go_num, rfl, rfl, by omega, hfS, HLf, HOw, HB, Lib.hid (.inl ⟨by omega, HSc.out⟩)⟩
              case measure => simp [intOf]; omega
            · go_wp2
              go_roundw
              case rel => exact ⟨k + 1, f, L, false, by omega, by go_num, rfl, rfl, by omega, hfS, HLf, HOw, HB, Lib.hid (.inl ⟨by omega, HSc.out⟩)⟩
              case measure => simp [intOf]; omega
    · have HE : Hid (prt l = L ++ [l.drop f]) := Lib.hid (by
        rcases HP.out with ⟨h1, h2⟩ | ⟨_, h⟩
        · exact scan_end h2 (by have := HZ.out; omega)
        · exact h)
      have HEx : Hid (S.extract f S.size = asB (l.drop f)) := Lib.hid (by rw [← HS.out, asB_drop])
      obtain ⟨v', w1, r1, r2, r3, _⟩ := td_step w.heap.size u3 (.string (S.extract f S.size)) (L.map psV) wr w rfl (by rw [List.length_map]; have := HLf.out; have := HLl.out; have := HZ.out; omega) HB.out.size (by rw [List.length_map]; exact HOw.out) HB.out
      have HRun := Lib.hid r1
      have HOw1 : Hid (w1.ownsRow w.heap.size 9 1 v' (prt l).length ((prt l).map psV)) := Lib.hid (by
        rw [HE.out, List.map_append, List.length_append]
        rw [List.length_append, List.length_map, HEx.out] at r2
        exact r2)
      have HB1 := Lib.hid r3
      have p3 : (f : Int) ≤ (S.size : Int) := by omega
      have hge : ¬ (k : Int) < (S.size : Int) := by omega
      clear r1 r2 r3
      go_wp2_with (at_builtin; refine Lib.wpList_append_run _ rfl _ _ _ _ rfl _ _ rfl rfl _ _ HRun.out ?_)
      go_ret
      have hne : (prt l).length ≠ 0 := by rw [HE.out]; simp
      rcases HOw1.out.2 with ⟨_, hn⟩ | ⟨g, cap, cur, hv, hg, hh, hcm⟩
      · exact absurd hn hne
      · subst hv
        refine ⟨g, cap, rfl, hg, fun j hj => ?_, lt_of_block hh, HB1.out⟩
        have := HOw1.out.cellAt j (by omega)
        rw [Nat.zero_add, this, List.getElem?_map, List.getElem?_eq_getElem hj]
        rfl

theorem results_four {fn : Func} {t u v x : Tmp} (h : fn.results = #[.tmp t, .tmp u, .tmp v, .tmp x]) (tmps : Array Value) (P : Program) (w : World) :
    (results fn tmps).run P w = .ok (.tuple #[tmps.getD t undef, tmps.getD u undef, tmps.getD v undef, tmps.getD x undef]) w := by
  simp [results, h]
/-- What the document's directive leaves. -/
def DirR (w : World) (o : Option TsE) (e : Ending) (w' : World) : Prop :=
  ∃ n v h, e = .returned (.tuple #[.string n, .string v, .bool h, .bool o.isSome]) ∧ n.size ≤ 65536 ∧ v.size ≤ 65536 ∧ (∀ x, o = some x → n = asB x.1 ∧ v = asB x.2.2 ∧ h = x.2.1) ∧ Below w.heap.size w w'
theorem rqD_len : ∀ (l a t : List UInt8), rqD l a = some t → t.length ≤ a.length + l.length
  | [], a, t, h => by cases h
  | [c], a, t, h => by
    unfold rqD at h
    split at h
    · simp at h; rw [← h]; omega
    · split at h
      · cases h
      · split at h
        · cases h
        · cases h
  | c :: d :: l, a, t, h => by
    unfold rqD at h
    split at h
    · simp at h
    · split at h
      · simp only at h
        split at h
        · have := rqD_len l _ t h
          simp at this ⊢; omega
        · cases h
      · split at h
        · have := rqD_len (d :: l) _ t h
          simp at this ⊢; omega
        · cases h

end Go.Proofs.YthffgnlebljkcaaDoor
