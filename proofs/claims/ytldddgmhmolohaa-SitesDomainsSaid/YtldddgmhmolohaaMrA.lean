/-
  Contract: the document's Hex.
  Contract: the document's Digit.
  Contracts: the document's parts, count, number, digits.
-/
import Derived.Test.YtldddgmhmolohaaRows
import Derived.Test.YtldddgmhmolohaaMaA
import Derived.WalkSpells
import Derived.WalkLawsBesides
import Derived.Deep.QuietTactic
import Derived.BigQuiet
import Derived.Test.YtldddgmhmolohaaMpA
namespace Go.Proofs.Ytldddgmhmolohaa
open Go.RowKit

/-- What the document's Hex answers. -/
def hexI (c : UInt8) : Int := if hexV c < 16 then (hexV c : Int) else -1
theorem hexI_yes {c : UInt8} (h : hexV c < 16) : hexI c = (hexV c : Int) := by rw [hexI, if_pos h]
theorem hexI_no {c : UInt8} (h : ¬ hexV c < 16) : hexI c = -1 := by rw [hexI, if_neg h]

set_option maxRecDepth 100000 in
set_option maxHeartbeats 400000 in
theorem Hex_any (c : UInt8) (w : World) :
    Calls Try.prog 52 #[.int .u8 c.toNat] w fun e w' => e = .returned (.int .i64 (hexI c)) ∧ w = w' := by
  have hby := byte_lt c
  by_cases h1 : 48 ≤ c.toNat ∧ c.toNat ≤ 57
  · have HR : Hid (hexI c = (c.toNat : Int) - 48) := Lib.hid (by
      have hv : hexV c = c.toNat - 48 := by rw [hexV, if_pos h1]
      rw [hexI_yes (by rw [hv]; omega), hv]; omega)
    obtain ⟨a1, a2⟩ := h1
    go_enter Try.func52, Try.ntmps52
    go_wp2
    go_ret
    exact ⟨ret_int HR.out.symm, rfl⟩
  · by_cases h2 : 65 ≤ c.toNat ∧ c.toNat ≤ 70
    · have HR : Hid (hexI c = (c.toNat : Int) - 65 + 10) := Lib.hid (by
        have hv : hexV c = c.toNat - 55 := by rw [hexV, if_neg h1, if_pos h2]
        rw [hexI_yes (by rw [hv]; omega), hv]; omega)
      obtain ⟨a1, a2⟩ := h2
      have a0 : 57 < c.toNat := by omega
      have a3 : c.toNat < 97 := by omega
      clear h1
      go_enter Try.func52, Try.ntmps52
      go_wp2
      go_ret
      exact ⟨ret_int HR.out.symm, rfl⟩
    · by_cases h3 : 97 ≤ c.toNat ∧ c.toNat ≤ 102
      · have HR : Hid (hexI c = (c.toNat : Int) - 97 + 10) := Lib.hid (by
          have hv : hexV c = c.toNat - 87 := by rw [hexV, if_neg h1, if_neg h2, if_pos h3]
          rw [hexI_yes (by rw [hv]; omega), hv]; omega)
        obtain ⟨a1, a2⟩ := h3
        have a0 : 70 < c.toNat := by omega
        clear h1 h2
        go_enter Try.func52, Try.ntmps52
        go_wp2
        go_ret
        exact ⟨ret_int HR.out.symm, rfl⟩
      · have HR : Hid (hexI c = -1) := Lib.hid (by
          have hv : hexV c = 16 := by rw [hexV, if_neg h1, if_neg h2, if_neg h3]
          rw [hexI_no (by rw [hv]; omega)])
        go_enter Try.func52, Try.ntmps52
        go_wp2
        all_goals first
          | omega
          | (go_ret; exact ⟨ret_int HR.out.symm, rfl⟩)

end Go.Proofs.Ytldddgmhmolohaa
namespace Go.Proofs.Ytldddgmhmolohaa
open Go.RowKit

set_option maxHeartbeats 400000 in
theorem Digit_any (c : Int) (w : World) :
    Calls Try.prog 45 #[.int .u8 c] w fun e w' => e = .returned (.bool (inR 48 57 c)) ∧ w = w' := by
  by_cases h1 : 48 ≤ c
  all_goals
    go_enter Try.func45, Try.ntmps45
    go_wp2
    go_ret
    exact ⟨ret_bool (by simp [inR]; omega), rfl⟩

end Go.Proofs.Ytldddgmhmolohaa
namespace Go.Proofs.Ytldddgmhmolohaa
open Go.RowKit

theorem rf_infoS : (Try.prog.info? 9).map (fun i => (i.zero, i.size, i.bytes)) = some (some (.string ⟨#[]⟩), 1, 16) := by kernel_rfl
/-- A text is put behind a row. -/
theorem rf_appS (base : Nat) (v : Value) (D : List Value) (x : Value) (w : World) (hown : w.ownsRow base 9 1 v D.length D) (hx : x.oneCell' = true) (hD : D.length ≤ 10000000) (hb : base ≤ w.heap.size) :
    ∃ v' w1, (Builtin.append_ #[49, 49] 49 #[v, .slice (some ⟨w.heap.size, 0, none⟩) 1 1]).run Try.prog (w.alloc (.cells #[x] 9)) = .ok v' w1 ∧ w1.ownsRow base 9 1 v' (D ++ [x]).length (D ++ [x]) ∧ Below base w w1 := by
  obtain ⟨i0, hi, hz0, hz1, hz2⟩ := info_parts rf_infoS
  have hnews : ∀ j u, [x][j]? = some u → (w.alloc (.cells #[x] 9)).cell? ((⟨w.heap.size, 0, none⟩ : Addr).add j) = some u :=
    World.news_of_block (cs := #[x]) (t := 9) (fr := (0, 0)) (heap_alloc_new w _)
  obtain ⟨v', w1, hrun, hown', hgrow, _⟩ := run_append_own (P := Try.prog) (w.alloc (.cells #[x] 9)) base 49 49 9 i0 (.string ⟨#[]⟩) 1 16 Try.underlying49 hi hz0 hz1 hz2 rfl (by decide)
    v D.length D (hown.alloc _) ⟨w.heap.size, 0, none⟩ 1 1 [x] rfl hnews (by simpa using hx) (by unfold maxLen; omega) (by omega) (by simp; omega)
  refine ⟨v', w1, hrun, by rw [List.length_append]; exact hown', ((Below.refl _ _).alloc hb _).grown hgrow (by simp; omega) (fun q hq => (hown.lt q hq).1)⟩

/-- While the parts are cut: k bytes are looked at, the last part begins at f. -/
def CutP (a : UInt8) (l : List UInt8) (f k : Nat) (D : List ByteArray) : Prop :=
  (k ≤ l.length → f ≤ k ∧ pts a l = D.map (·.data.toList) ++ pts a (l.drop f) ∧ ∀ j, f ≤ j → (hj : j < l.length) → j < k → l[j] ≠ a) ∧ (k = l.length + 1 → pts a l = D.map (·.data.toList))
theorem cutP_no {a : UInt8} {l : List UInt8} {f k : Nat} {D : List ByteArray} (h : CutP a l f k D) (hk : k < l.length) (hc : l[k] ≠ a) : CutP a l f (k + 1) D := by
  obtain ⟨h1, h2, h3⟩ := h.1 (by omega)
  refine ⟨fun _ => ⟨by omega, h2, fun j hf hj hjk => ?_⟩, fun e => by omega⟩
  by_cases e : j = k
  · subst e; exact hc
  · exact h3 j hf hj (by omega)
theorem drop_no {a : UInt8} {l : List UInt8} {f k : Nat} (h3 : ∀ j, f ≤ j → (hj : j < l.length) → j < k → l[j] ≠ a) : ∀ c ∈ (l.drop f).take (k - f), c ≠ a := by
  intro c hc
  obtain ⟨i, hi, rfl⟩ := List.mem_iff_getElem.1 hc
  rw [List.length_take, List.length_drop] at hi
  rw [List.getElem_take, List.getElem_drop]
  exact h3 (f + i) (by omega) (by omega) (by omega)
theorem cutP_at {a : UInt8} {l : List UInt8} {f k : Nat} {D : List ByteArray} {x : ByteArray} (h : CutP a l f k D) (hk : k < l.length) (hc : l[k] = a) (hx : x.data.toList = (l.drop f).take (k - f)) : CutP a l (k + 1) (k + 1) (D ++ [x]) := by
  obtain ⟨h1, h2, h3⟩ := h.1 (by omega)
  refine ⟨fun _ => ⟨Nat.le_refl _, ?_, fun j hf hj hjk => by omega⟩, fun e => by omega⟩
  have hs : l.drop f = (l.drop f).take (k - f) ++ a :: l.drop (k + 1) := by
    conv => lhs; rw [← List.take_append_drop (k - f) (l.drop f)]
    rw [List.drop_drop, show f + (k - f) = k by omega, List.drop_eq_getElem_cons hk, hc]
  rw [h2, hs, pts_front a _ _ (drop_no h3)]
  simp [hx]
theorem cutP_end {a : UInt8} {l : List UInt8} {f : Nat} {D : List ByteArray} {x : ByteArray} (h : CutP a l f l.length D) (hx : x.data.toList = l.drop f) : CutP a l (l.length + 1) (l.length + 1) (D ++ [x]) := by
  obtain ⟨h1, h2, h3⟩ := h.1 (Nat.le_refl _)
  refine ⟨fun e => by omega, fun _ => ?_⟩
  have hn : ∀ c ∈ l.drop f, c ≠ a := by
    have := drop_no h3
    rwa [List.take_of_length_le (by rw [List.length_drop]; exact Nat.le_refl _)] at this
  rw [h2, pts_none a _ hn]
  simp [hx]
theorem ext_mid (t : ByteArray) (f k : Nat) (_hk : k ≤ t.size) : (t.extract f k).data.toList = (t.data.toList.drop f).take (k - f) := by
  rw [ByteArray.data_extract, Array.toList_extract, List.extract_eq_take_drop]

set_option maxRecDepth 100000 in
set_option maxHeartbeats 1000000 in
theorem RefParts_any (s : ByteArray) (a : UInt8) (w : World) (hs : s.size ≤ 1048600) :
    Calls Try.prog 34 #[.string s, .int .u8 (a.toNat : Int)] w fun e w' => ∃ (v : Value) (D : List ByteArray), e = .returned v ∧ D.map (·.data.toList) = pts a s.data.toList ∧ w'.ownsRow w.heap.size 9 1 v D.length (D.map Value.string) ∧ Below w.heap.size w w' := by
  have hl := lenB s
  have HL := Lib.hid hl
  go_enter Try.func34, Try.ntmps34
  go_wp2
  go_loopw [5, 6, 7] (fun v f i wr => ∃ (F k : Nat) (D : List ByteArray), k ≤ s.size + 1 ∧ F ≤ k ∧ i = .int .i64 k ∧ f = .int .i64 F ∧ D.length ≤ k ∧ Hid (CutP a s.data.toList F k D) ∧ Hid (wr.ownsRow w.heap.size 9 1 v D.length (D.map Value.string)) ∧ Hid (Below w.heap.size w wr)) (fun _ _ i _ => s.size + 1 - (intOf i).toNat)
  case atStart => exact ⟨0, 0, [], Nat.zero_le _, Nat.le_refl _, rfl, rfl, Nat.le_refl _, Lib.hid ⟨fun _ => ⟨Nat.le_refl _, by simp, fun j h1 h2 h3 => by omega⟩, fun h => by omega⟩, Lib.hid ⟨rfl, .inl ⟨rfl, rfl⟩⟩, Lib.hid (Below.refl _ _)⟩
  case round =>
    obtain ⟨F, k, D, hk, hF, rfl, rfl, hDl, HC, HO, HB⟩ := hrel
    by_cases hlt : k < s.size
    · have hby := byte_lt s[k]
      by_cases hc : s[k] = a
      · have hcI : ((s[k].toNat : Int) == (a.toNat : Int)) = true := by rw [hc]; simp
        have HC1 : Hid (CutP a s.data.toList (k + 1) (k + 1) (D ++ [s.extract F k])) := Lib.hid (cutP_at HC.out (by omega) hc (ext_mid s F k (by omega)))
        obtain ⟨v', w1, hrun, hown, hbel⟩ := rf_appS w.heap.size _ (D.map Value.string) (.string (s.extract F k)) wr (by rw [List.length_map]; exact HO.out) rfl (by rw [List.length_map]; omega) HB.out.size
        have HRun := Lib.hid hrun
        have HO1 : Hid (w1.ownsRow w.heap.size 9 1 v' (D ++ [s.extract F k]).length ((D ++ [s.extract F k]).map Value.string)) := Lib.hid (by
          have : (D ++ [s.extract F k]).map Value.string = D.map Value.string ++ [Value.string (s.extract F k)] := by simp
          rw [this]
          have e2 : (D ++ [s.extract F k]).length = (D.map Value.string ++ [Value.string (s.extract F k)]).length := by simp
          rw [e2]; exact hown)
        have HB1 := Lib.hid (HB.out.trans hbel)
        clear hc hrun hown hbel
        go_wp2_with (at_builtin; refine Lib.wpList_append_run _ rfl _ _ _ _ rfl _ _ rfl rfl _ _ HRun.out ?_)
        exact ⟨⟨k + 1, k + 1, D ++ [s.extract F k], by omega, Nat.le_refl _, by go_num, by go_num, by simp; omega, HC1, HO1, HB1⟩, by simp [intOf]; omega⟩
      · have hcI : ((s[k].toNat : Int) == (a.toNat : Int)) = false := beq_eq_false_iff_ne.2 (fun e => hc (UInt8.toNat_inj.1 (by omega)))
        have HC1 : Hid (CutP a s.data.toList F (k + 1) D) := Lib.hid (cutP_no HC.out (by omega) hc)
        clear hc
        go_wp2
        exact ⟨⟨F, k + 1, D, by omega, by omega, by go_num, rfl, by omega, HC1, HO, HB⟩, by simp [intOf]; omega⟩
    · by_cases hend : k = s.size
      · subst hend
        have HC1 : Hid (CutP a s.data.toList (s.size + 1) (s.size + 1) (D ++ [s.extract F s.size])) := Lib.hid (by
          have := cutP_end (x := s.extract F s.size) (by rw [HL.out]; exact HC.out) (by rw [ext_mid s F s.size (Nat.le_refl _), List.take_of_length_le (by rw [List.length_drop, HL.out]; omega)])
          rwa [HL.out] at this)
        obtain ⟨v', w1, hrun, hown, hbel⟩ := rf_appS w.heap.size _ (D.map Value.string) (.string (s.extract F s.size)) wr (by rw [List.length_map]; exact HO.out) rfl (by rw [List.length_map]; omega) HB.out.size
        have HRun := Lib.hid hrun
        have HO1 : Hid (w1.ownsRow w.heap.size 9 1 v' (D ++ [s.extract F s.size]).length ((D ++ [s.extract F s.size]).map Value.string)) := Lib.hid (by
          have : (D ++ [s.extract F s.size]).map Value.string = D.map Value.string ++ [Value.string (s.extract F s.size)] := by simp
          rw [this]
          have e2 : (D ++ [s.extract F s.size]).length = (D.map Value.string ++ [Value.string (s.extract F s.size)]).length := by simp
          rw [e2]; exact hown)
        have HB1 := Lib.hid (HB.out.trans hbel)
        clear hrun hown hbel hl
        go_wp2_with (at_builtin; refine Lib.wpList_append_run _ rfl _ _ _ _ rfl _ _ rfl rfl _ _ HRun.out ?_)
        exact ⟨⟨s.size + 1, s.size + 1, D ++ [s.extract F s.size], by omega, Nat.le_refl _, by go_num, by go_num, by simp; omega, HC1, HO1, HB1⟩, by simp [intOf]⟩
      · obtain rfl : k = s.size + 1 := by omega
        have HD := Lib.hid (HC.out.2 (by rw [HL.out]))
        clear hl
        go_wp2
        go_ret
        exact ⟨_, D, rfl, HD.out.symm, HO.out, HB.out⟩

end Go.Proofs.Ytldddgmhmolohaa
