/-
  Contracts: the document's parts, pair, age of setcookie.
  Contracts: what an attribute says, by the document.
  Contracts: what an attribute says, by the document: a site, no attribute; all.
  Contract: the document's Parse.
-/
import Derived.Test.YtblofndehbagnaaGreatDoorScE
import Derived.Test.YtblofndehbagnaaGreatDoorTrimA
import Derived.Test.YtblofndehbagnaaGreatDoorRDg
import Derived.Test.YtblofndehbagnaaGreatDoorRefL
import Derived.Test.YtblofndehbagnaaGreatDoorDrE
namespace Go.Proofs.YtblofndehbagnaaGreatDoor
open Go.RowKit

set_option maxHeartbeats 400000 in
theorem Blank_any (c : UInt8) (w : World) :
    Calls Tryz.prog 73 #[.int .u8 c.toNat] w fun e w' => e = .returned (.bool (bl c)) ∧ w = w' := by
  by_cases h1 : c = 32
  · subst h1
    go_enter Tryz.func73, Tryz.ntmps73
    go_wp2
    go_ret
    exact ⟨rfl, rfl⟩
  · by_cases h2 : c = 9
    · subst h2
      go_enter Tryz.func73, Tryz.ntmps73
      go_wp2
      go_ret
      exact ⟨rfl, rfl⟩
    · have HB : Hid (bl c = false) := Lib.hid (by rw [Bool.eq_false_iff]; intro h; rcases (bl_iff c).1 h with h | h <;> contradiction)
      have e1 : ((c.toNat : Int) == 32) = false := beq_eq_false_iff_ne.2 (fun h => h1 (UInt8.toNat_inj.1 (by simp; omega)))
      have e2 : ((c.toNat : Int) == 9) = false := beq_eq_false_iff_ne.2 (fun h => h2 (UInt8.toNat_inj.1 (by simp; omega)))
      clear h1 h2
      go_enter Tryz.func73, Tryz.ntmps73
      go_wp2
      go_ret
      exact ⟨ret_bool HB.out.symm, rfl⟩

theorem ext_data (t : ByteArray) (a b : Nat) : (t.extract a b).data.toList = (t.data.toList.take b).drop a := by
  rw [ByteArray.data_extract, Array.toList_extract, List.extract_eq_take_drop, List.drop_take]
theorem data_len (t : ByteArray) : t.data.toList.length = t.size := by simp
theorem head_of (t : ByteArray) (h : 0 < t.size) : t.data.toList = t[0] :: t.data.toList.drop 1 := by
  have hl := data_len t
  cases e : t.data.toList with
  | nil => rw [e] at hl; simp at hl; omega
  | cons c r =>
    have : t[0] = c := by
      have h1 : t.data.toList[0]? = some t[0] := by rw [List.getElem?_eq_getElem (by omega)]; rfl
      rw [e] at h1; simpa using h1.symm
    rw [this]; rfl
theorem last_of (t : ByteArray) (h : 0 < t.size) : t.data.toList = t.data.toList.take (t.size - 1) ++ [t[t.size - 1]'(by omega)] := by
  have hl := data_len t
  have h1 := List.take_succ_eq_append_getElem (l := t.data.toList) (i := t.size - 1) (by omega)
  have h2 : t.data.toList.take (t.size - 1 + 1) = t.data.toList := List.take_of_length_le (by omega)
  rw [h2] at h1
  exact h1
theorem ba_ext {a b : ByteArray} (h : a.data.toList = b.data.toList) : a = b := by
  cases a; cases b; simp only at h; congr 1; exact Array.toList_inj.1 h
theorem ext_size (t : ByteArray) (a b : Nat) (hb : b ≤ t.size) : (t.extract a b).size = b - a := by
  rw [← data_len, ext_data, List.length_drop, List.length_take, data_len]; omega
def strSize : Value → Nat
  | .string t => t.size
  | _ => 0

set_option maxHeartbeats 1000000 in
theorem RefTrim_any (s : ByteArray) (w : World) (hs : s.size ≤ maxLen) :
    Calls Tryz.prog 41 #[.string s] w fun e w' => e = .returned (.string (trimA s)) ∧ w = w' := by
  unfold maxLen at hs
  go_enter Tryz.func41, Tryz.ntmps41
  go_wp2
  go_loop [0] (fun v => ∃ t : ByteArray, v = .string t ∧ t.size ≤ s.size ∧ trimL t.data.toList = trimL s.data.toList) (fun v => strSize v)
  case atStart => exact ⟨s, rfl, Nat.le_refl _, rfl⟩
  case round =>
    obtain ⟨t, rfl, ht, he⟩ := hrel
    have HE := Lib.hid he; clear he
    rcases (show (∃ h : 0 < t.size, bl t[0] = true) ∨ (∃ h : 0 < t.size, bl t[0] = false) ∨ ¬ 0 < t.size from by
      by_cases h : 0 < t.size
      · cases hb : bl t[0]
        · exact .inr (.inl ⟨h, hb⟩)
        · exact .inl ⟨h, hb⟩
      · exact .inr (.inr h)) with ⟨h0, hb⟩ | ⟨h0, hb⟩ | h0
    · have HB := Lib.hid hb; clear hb
      go_wp2_with (go_at_call 73; refine (Blank_any _ _).mono ?_; rw [HB.out]; rintro e w' ⟨rfl, rfl⟩)
      refine ⟨⟨_, rfl, ?_, ?_⟩, ?_⟩
      · rw [ext_size _ _ _ (Nat.le_refl _)]; omega
      · rw [← HE.out, ext_data, List.take_of_length_le (by rw [data_len]; omega)]
        conv => rhs; rw [head_of t h0]
        rw [trimL_cons _ _ HB.out]
      · show (t.extract 1 t.size).size < t.size
        rw [ext_size _ _ _ (Nat.le_refl _)]; omega
    · have HD : Hid (∀ c, t.data.toList.head? = some c → bl c = false) := Lib.hid (fun c hc => by
        rw [head_of t h0] at hc; simp only [List.head?_cons, Option.some.injEq] at hc; rw [← hc]; exact hb)
      have HB := Lib.hid hb; clear hb
      go_wp2_with (go_at_call 73; refine (Blank_any _ _).mono ?_; rw [HB.out]; rintro e w' ⟨rfl, rfl⟩)
      go_loop [0] (fun v => ∃ t : ByteArray, v = .string t ∧ t.size ≤ s.size ∧ trimL t.data.toList = trimL s.data.toList ∧ (∀ c, t.data.toList.head? = some c → bl c = false)) (fun v => strSize v)
      case atStart => exact ⟨t, rfl, ht, HE.out, HD.out⟩
      case round =>
        obtain ⟨r, rfl, hr, he, hd⟩ := hrel
        have HE2 := Lib.hid he; clear he
        have HD2 := Lib.hid hd; clear hd
        clear HE HD
        rcases (show (∃ h : 0 < r.size, bl (r[r.size - 1]'(by omega)) = true) ∨ (∃ h : 0 < r.size, bl (r[r.size - 1]'(by omega)) = false) ∨ ¬ 0 < r.size from by
          by_cases h : 0 < r.size
          · cases hb : bl (r[r.size - 1]'(by omega))
            · exact .inr (.inl ⟨h, hb⟩)
            · exact .inl ⟨h, hb⟩
          · exact .inr (.inr h)) with ⟨g0, hb⟩ | ⟨g0, hb⟩ | g0
        · have HB2 := Lib.hid hb; clear hb
          go_wp2_with (go_at_call 73; refine (Blank_any _ _).mono ?_; rw [HB2.out]; rintro e w' ⟨rfl, rfl⟩)
          refine ⟨⟨_, rfl, ?_, ?_, ?_⟩, ?_⟩
          · rw [ext_size _ _ _ (by omega)]; omega
          · rw [← HE2.out, ext_data, List.drop_zero]
            conv => rhs; rw [last_of r g0]
            rw [trimL_snoc _ _ HB2.out]
          · intro c hc
            refine HD2.out c ?_
            rw [ext_data, List.drop_zero] at hc
            rw [last_of r g0, List.head?_append, hc]; rfl
          · show (r.extract 0 (r.size - 1)).size < r.size
            rw [ext_size _ _ _ (by omega)]; omega
        · have HF : Hid (r = trimA s) := Lib.hid (ba_ext (by
            show _ = trimL s.data.toList
            rw [← HE2.out]
            exact (trimL_of HD2.out (fun c hc => by rw [last_of r g0] at hc; simp at hc; rw [← hc]; exact hb)).symm))
          have HB2 := Lib.hid hb; clear hb
          go_wp2_with (go_at_call 73; refine (Blank_any _ _).mono ?_; rw [HB2.out]; rintro e w' ⟨rfl, rfl⟩)
          go_ret
          exact ⟨by rw [← HF.out]; rfl, rfl⟩
        · have HF : Hid (r = trimA s) := Lib.hid (ba_ext (by
            show _ = trimL s.data.toList
            rw [← HE2.out]
            have := data_len r
            cases e : r.data.toList with
            | nil => rfl
            | cons a q => rw [e] at this; simp at this; omega))
          go_wp2
          go_ret
          exact ⟨by rw [← HF.out]; rfl, rfl⟩
    · have HD : Hid (∀ c, t.data.toList.head? = some c → bl c = false) := Lib.hid (fun c hc => by
        have := data_len t
        cases e : t.data.toList with
        | nil => rw [e] at hc; cases hc
        | cons a r => rw [e] at this; simp at this; omega)
      go_wp2
      go_loop [0] (fun v => ∃ t : ByteArray, v = .string t ∧ t.size ≤ s.size ∧ trimL t.data.toList = trimL s.data.toList ∧ (∀ c, t.data.toList.head? = some c → bl c = false)) (fun v => strSize v)
      case atStart => exact ⟨t, rfl, ht, HE.out, HD.out⟩
      case round =>
        obtain ⟨r, rfl, hr, he, hd⟩ := hrel
        have HE2 := Lib.hid he; clear he
        have HD2 := Lib.hid hd; clear hd
        clear HE HD
        rcases (show (∃ h : 0 < r.size, bl (r[r.size - 1]'(by omega)) = true) ∨ (∃ h : 0 < r.size, bl (r[r.size - 1]'(by omega)) = false) ∨ ¬ 0 < r.size from by
          by_cases h : 0 < r.size
          · cases hb : bl (r[r.size - 1]'(by omega))
            · exact .inr (.inl ⟨h, hb⟩)
            · exact .inl ⟨h, hb⟩
          · exact .inr (.inr h)) with ⟨g0, hb⟩ | ⟨g0, hb⟩ | g0
        · have HB2 := Lib.hid hb; clear hb
          go_wp2_with (go_at_call 73; refine (Blank_any _ _).mono ?_; rw [HB2.out]; rintro e w' ⟨rfl, rfl⟩)
          refine ⟨⟨_, rfl, ?_, ?_, ?_⟩, ?_⟩
          · rw [ext_size _ _ _ (by omega)]; omega
          · rw [← HE2.out, ext_data, List.drop_zero]
            conv => rhs; rw [last_of r g0]
            rw [trimL_snoc _ _ HB2.out]
          · intro c hc
            refine HD2.out c ?_
            rw [ext_data, List.drop_zero] at hc
            rw [last_of r g0, List.head?_append, hc]; rfl
          · show (r.extract 0 (r.size - 1)).size < r.size
            rw [ext_size _ _ _ (by omega)]; omega
        · have HF : Hid (r = trimA s) := Lib.hid (ba_ext (by
            show _ = trimL s.data.toList
            rw [← HE2.out]
            exact (trimL_of HD2.out (fun c hc => by rw [last_of r g0] at hc; simp at hc; rw [← hc]; exact hb)).symm))
          have HB2 := Lib.hid hb; clear hb
          go_wp2_with (go_at_call 73; refine (Blank_any _ _).mono ?_; rw [HB2.out]; rintro e w' ⟨rfl, rfl⟩)
          go_ret
          exact ⟨by rw [← HF.out]; rfl, rfl⟩
        · have HF : Hid (r = trimA s) := Lib.hid (ba_ext (by
            show _ = trimL s.data.toList
            rw [← HE2.out]
            have := data_len r
            cases e : r.data.toList with
            | nil => rfl
            | cons a q => rw [e] at this; simp at this; omega))
          go_wp2
          go_ret
          exact ⟨by rw [← HF.out]; rfl, rfl⟩

end Go.Proofs.YtblofndehbagnaaGreatDoor
namespace Go.Proofs.YtblofndehbagnaaGreatDoor
open Go.RowKit

theorem sc_infoS5 : (Tryz.prog.info? 9).map (fun i => (i.zero, i.size, i.bytes)) = some (some (.string ⟨#[]⟩), 1, 16) := by kernel_rfl
theorem sc_appS4 (base : Nat) (v : Value) (D : List Value) (x : Value) (w : World) (hown : w.ownsRow base 9 1 v D.length D) (hx : x.oneCell' = true) (hD : D.length ≤ 10000000) (hb : base ≤ w.heap.size) :
    ∃ v' w1, (Builtin.append_ #[38, 38] 38 #[v, .slice (some ⟨w.heap.size, 0, none⟩) 1 1]).run Tryz.prog (w.alloc (.cells #[x] 9)) = .ok v' w1 ∧ w1.ownsRow base 9 1 v' (D ++ [x]).length (D ++ [x]) ∧ (w.alloc (.cells #[x] 9)).grownBy w1 v.ownBlock ∧ (v'.ownBlock = v.ownBlock ∨ v'.ownBlock = some (w.heap.size + 1)) ∧ Below base w w1 := by
  obtain ⟨i0, hi, hz0, hz1, hz2⟩ := info_parts sc_infoS5
  have hnews : ∀ j u, [x][j]? = some u → (w.alloc (.cells #[x] 9)).cell? ((⟨w.heap.size, 0, none⟩ : Addr).add j) = some u :=
    World.news_of_block (cs := #[x]) (t := 9) (fr := (0, 0)) (heap_alloc_new w _)
  obtain ⟨v', w1, hrun, hown', hgrow, _, hlie⟩ := run_append_own_at (P := Tryz.prog) (w.alloc (.cells #[x] 9)) base 38 38 9 i0 (.string ⟨#[]⟩) 1 16 Tryz.underlying38 hi hz0 hz1 hz2 rfl (by decide)
    v D.length D (hown.alloc _) ⟨w.heap.size, 0, none⟩ 1 1 [x] rfl hnews (by simpa using hx) (by unfold maxLen; omega) (by omega) (by simp; omega)
  refine ⟨v', w1, hrun, by rw [List.length_append]; exact hown', hgrow, by rw [World.size_alloc] at hlie; exact hlie, ((Below.refl _ _).alloc hb _).grown hgrow (by simp; omega) (fun q hq => (hown.lt q hq).1)⟩
theorem cutP_at5 : ∀ (n v : List UInt8), (∀ c ∈ n, c ≠ 61) → cutP 61 (n ++ 61 :: v) = (n, v, true)
  | [], _, _ => by rw [List.nil_append, cutP, if_pos rfl]
  | c :: n, v, h => by
    rw [List.cons_append, cutP, if_neg (h c (List.mem_cons_self ..)), cutP_at5 n v fun d hd => h d (List.mem_cons_of_mem _ hd)]
theorem cutP_not5 : ∀ (n : List UInt8), (∀ c ∈ n, c ≠ 61) → cutP 61 n = (n, [], false)
  | [], _ => rfl
  | c :: n, h => by
    rw [cutP, if_neg (h c (List.mem_cons_self ..)), cutP_not5 n fun d hd => h d (List.mem_cons_of_mem _ hd)]
theorem parts_none5 (a : UInt8) : ∀ l : List UInt8, (∀ c ∈ l, c ≠ a) → parts a l = [l]
  | [], _ => rfl
  | c :: l, h => by
    rw [parts, if_neg (h c (List.mem_cons_self ..)), parts_none5 a l fun d hd => h d (List.mem_cons_of_mem _ hd)]; rfl
def prt59 (s : ByteArray) : List ByteArray := (parts 59 s.data.toList).map asB
theorem parts_front (a : UInt8) (l r : List UInt8) (h : ∀ c ∈ l, c ≠ a) : parts a (l ++ a :: r) = l :: parts a r := by
  rw [parts_append, parts_none5 a l h]; rfl
theorem sc_appS5 (base : Nat) (v : Value) (D : List Value) (x : Value) (w : World) (hown : w.ownsRow base 9 1 v D.length D) (hx : x.oneCell' = true) (hD : D.length ≤ 10000000) (hb : base ≤ w.heap.size) :
    ∃ v' w1, (Builtin.append_ #[38, 38] 38 #[v, .slice (some ⟨w.heap.size, 0, none⟩) 1 1]).run Tryz.prog (w.alloc (.cells #[x] 9)) = .ok v' w1 ∧ w1.ownsRow base 9 1 v' (D ++ [x]).length (D ++ [x]) ∧ Below base w w1 := by
  obtain ⟨v', w1, h1, h2, _, _, h3⟩ := sc_appS4 base v D x w hown hx hD hb
  exact ⟨v', w1, h1, h2, h3⟩
/-- While the parts are cut: k bytes are looked at, the last part begins at f. -/
def CutS (a : UInt8) (l : List UInt8) (f k : Nat) (D : List ByteArray) : Prop :=
  (k ≤ l.length → f ≤ k ∧ parts a l = D.map (·.data.toList) ++ parts a (l.drop f) ∧ ∀ j, f ≤ j → (hj : j < l.length) → j < k → l[j] ≠ a) ∧ (k = l.length + 1 → parts a l = D.map (·.data.toList))
theorem cutS_no {a : UInt8} {l : List UInt8} {f k : Nat} {D : List ByteArray} (h : CutS a l f k D) (hk : k < l.length) (hc : l[k] ≠ a) : CutS a l f (k + 1) D := by
  obtain ⟨h1, h2, h3⟩ := h.1 (by omega)
  refine ⟨fun _ => ⟨by omega, h2, fun j hf hj hjk => ?_⟩, fun e => by omega⟩
  by_cases e : j = k
  · subst e; exact hc
  · exact h3 j hf hj (by omega)
theorem drop_no10 {a : UInt8} {l : List UInt8} {f k : Nat} (h3 : ∀ j, f ≤ j → (hj : j < l.length) → j < k → l[j] ≠ a) : ∀ c ∈ (l.drop f).take (k - f), c ≠ a := by
  intro c hc
  obtain ⟨i, hi, rfl⟩ := List.mem_iff_getElem.1 hc
  rw [List.length_take, List.length_drop] at hi
  rw [List.getElem_take, List.getElem_drop]
  exact h3 (f + i) (by omega) (by omega) (by omega)
theorem cutS_at {a : UInt8} {l : List UInt8} {f k : Nat} {D : List ByteArray} {x : ByteArray} (h : CutS a l f k D) (hk : k < l.length) (hc : l[k] = a) (hx : x.data.toList = (l.drop f).take (k - f)) : CutS a l (k + 1) (k + 1) (D ++ [x]) := by
  obtain ⟨h1, h2, h3⟩ := h.1 (by omega)
  refine ⟨fun _ => ⟨Nat.le_refl _, ?_, fun j hf hj hjk => by omega⟩, fun e => by omega⟩
  have hs : l.drop f = (l.drop f).take (k - f) ++ a :: l.drop (k + 1) := by
    conv => lhs; rw [← List.take_append_drop (k - f) (l.drop f)]
    rw [List.drop_drop, show f + (k - f) = k by omega, List.drop_eq_getElem_cons hk, hc]
  rw [h2, hs, parts_front a _ _ (drop_no10 h3)]
  simp [hx]
theorem cutS_end {a : UInt8} {l : List UInt8} {f : Nat} {D : List ByteArray} {x : ByteArray} (h : CutS a l f l.length D) (hx : x.data.toList = l.drop f) : CutS a l (l.length + 1) (l.length + 1) (D ++ [x]) := by
  obtain ⟨h1, h2, h3⟩ := h.1 (Nat.le_refl _)
  refine ⟨fun e => by omega, fun _ => ?_⟩
  have hn : ∀ c ∈ l.drop f, c ≠ a := by
    have := drop_no10 h3
    rwa [List.take_of_length_le (by rw [List.length_drop]; exact Nat.le_refl _)] at this
  rw [h2, parts_none5 a _ hn]
  simp [hx]
theorem ext_mid10 (t : ByteArray) (f k : Nat) (_hk : k ≤ t.size) : (t.extract f k).data.toList = (t.data.toList.drop f).take (k - f) := by
  rw [ByteArray.data_extract, Array.toList_extract, List.extract_eq_take_drop]

set_option maxRecDepth 100000 in
set_option maxHeartbeats 1000000 in
theorem RefParts10_any (s : ByteArray) (w : World) (hs : s.size ≤ 1048600) :
    Calls Tryz.prog 26 #[.string s] w fun e w' => ∃ (v : Value), e = .returned v ∧ w'.ownsRow w.heap.size 9 1 v (prt59 s).length ((prt59 s).map Value.string) ∧ Below w.heap.size w w' := by
  have hl := lenB s
  have HL := Lib.hid hl
  go_enter Tryz.func26, Tryz.ntmps26
  go_wp2
  go_loopw [3, 4, 5] (fun v f i wr => ∃ (F k : Nat) (D : List ByteArray), k ≤ s.size + 1 ∧ F ≤ k ∧ i = .int .i64 k ∧ f = .int .i64 F ∧ D.length ≤ k ∧ Hid (CutS 59 s.data.toList F k D) ∧ Hid (wr.ownsRow w.heap.size 9 1 v D.length (D.map Value.string)) ∧ Hid (Below w.heap.size w wr)) (fun _ _ i _ => s.size + 1 - (intOf i).toNat)
  case atStart => exact ⟨0, 0, [], Nat.zero_le _, Nat.le_refl _, rfl, rfl, Nat.le_refl _, Lib.hid ⟨fun _ => ⟨Nat.le_refl _, by simp, fun j h1 h2 h3 => by omega⟩, fun h => by omega⟩, Lib.hid ⟨rfl, .inl ⟨rfl, rfl⟩⟩, Lib.hid (Below.refl _ _)⟩
  case round =>
    obtain ⟨F, k, D, hk, hF, rfl, rfl, hDl, HC, HO, HB⟩ := hrel
    by_cases hlt : k < s.size
    · have hby := byte_lt s[k]
      by_cases hc : s[k] = 59
      · have hcI : ((s[k].toNat : Int) == 59) = true := by rw [hc]; rfl
        have HC1 : Hid (CutS 59 s.data.toList (k + 1) (k + 1) (D ++ [s.extract F k])) := Lib.hid (cutS_at HC.out (by omega) hc (ext_mid10 s F k (by omega)))
        obtain ⟨v', w1, hrun, hown, hbel⟩ := sc_appS5 w.heap.size _ (D.map Value.string) (.string (s.extract F k)) wr (by rw [List.length_map]; exact HO.out) rfl (by rw [List.length_map]; omega) HB.out.size
        have HRun := Lib.hid hrun
        have HO1 : Hid (w1.ownsRow w.heap.size 9 1 v' (D ++ [s.extract F k]).length ((D ++ [s.extract F k]).map Value.string)) := Lib.hid (by
          have : (D ++ [s.extract F k]).map Value.string = D.map Value.string ++ [Value.string (s.extract F k)] := by simp
          rw [this]
          have e2 : (D ++ [s.extract F k]).length = (D.map Value.string ++ [Value.string (s.extract F k)]).length := by simp
          rw [e2]; exact hown)
        have HB1 := Lib.hid (HB.out.trans hbel)
        clear hc hrun hown hbel
        go_wp2_with (at_builtin; refine Lib.wpList_append_run _ rfl _ _ _ _ rfl _ _ rfl rfl _ _ HRun.out ?_)
        exact ⟨⟨k + 1, k + 1, D ++ [s.extract F k], by omega, Nat.le_refl _, by go_num, by go_num, by simp; omega, HC1, HO1, HB1⟩, by simp [intOf]; omega⟩
      · have hcI : ((s[k].toNat : Int) == 59) = false := beq_eq_false_iff_ne.2 (fun e => hc (UInt8.toNat_inj.1 (by have : (59 : UInt8).toNat = 59 := rfl; omega)))
        have HC1 : Hid (CutS 59 s.data.toList F (k + 1) D) := Lib.hid (cutS_no HC.out (by omega) hc)
        clear hc
        go_wp2
        exact ⟨⟨F, k + 1, D, by omega, by omega, by go_num, rfl, by omega, HC1, HO, HB⟩, by simp [intOf]; omega⟩
    · by_cases hend : k = s.size
      · subst hend
        have HC1 : Hid (CutS 59 s.data.toList (s.size + 1) (s.size + 1) (D ++ [s.extract F s.size])) := Lib.hid (by
          have := cutS_end (x := s.extract F s.size) (by rw [HL.out]; exact HC.out) (by rw [ext_mid10 s F s.size (Nat.le_refl _), List.take_of_length_le (by rw [List.length_drop, HL.out]; omega)])
          rwa [HL.out] at this)
        obtain ⟨v', w1, hrun, hown, hbel⟩ := sc_appS5 w.heap.size _ (D.map Value.string) (.string (s.extract F s.size)) wr (by rw [List.length_map]; exact HO.out) rfl (by rw [List.length_map]; omega) HB.out.size
        have HRun := Lib.hid hrun
        have HO1 : Hid (w1.ownsRow w.heap.size 9 1 v' (D ++ [s.extract F s.size]).length ((D ++ [s.extract F s.size]).map Value.string)) := Lib.hid (by
          have : (D ++ [s.extract F s.size]).map Value.string = D.map Value.string ++ [Value.string (s.extract F s.size)] := by simp
          rw [this]
          have e2 : (D ++ [s.extract F s.size]).length = (D.map Value.string ++ [Value.string (s.extract F s.size)]).length := by simp
          rw [e2]; exact hown)
        have HB1 := Lib.hid (HB.out.trans hbel)
        clear hrun hown hbel hl
        go_wp2_with (at_builtin; refine Lib.wpList_append_run _ rfl _ _ _ _ rfl _ _ rfl rfl _ _ HRun.out ?_)
        exact ⟨⟨s.size + 1, s.size + 1, D ++ [s.extract F s.size], by omega, Nat.le_refl _, by go_num, by go_num, by simp; omega, HC1, HO1, HB1⟩, by simp [intOf]⟩
      · obtain rfl : k = s.size + 1 := by omega
        have HD : Hid (prt59 s = D) := Lib.hid (by
          have := HC.out.2 (by rw [HL.out])
          unfold prt59
          rw [this, List.map_map]
          conv => rhs; rw [← List.map_id D]
          exact List.map_congr_left (fun x _ => rfl))
        clear hl
        go_wp2
        go_ret
        exact ⟨_, rfl, by rw [HD.out]; exact HO.out, HB.out⟩



theorem sl_to (s : ByteArray) (k : Nat) (hk : k ≤ s.size) (w : World) : (Instr.slice 9 (.string s) none (some (.int .i64 (k : Int))) none).run Tryz.prog w = .ok (.string (asB (s.data.toList.take k))) w := by
  have h := run_slice_string_to_if (P := Tryz.prog) (w := w) 9 s .i64 (k : Int) Tryz.underlying9
  rw [if_pos ⟨by omega, by omega⟩, Int.toNat_natCast] at h
  rw [h, show s.extract 0 k = asB (s.data.toList.take k) from ba_list (by rw [ext_mid10 s 0 k hk]; rfl)]
theorem sl_from (s : ByteArray) (k : Nat) (hk : k ≤ s.size) (v : Int) (hv : v = k) (w : World) : (Instr.slice 9 (.string s) (some (.int .i64 v)) none none).run Tryz.prog w = .ok (.string (asB (s.data.toList.drop k))) w := by
  subst hv
  have h := run_slice_string_from_if (P := Tryz.prog) (w := w) 9 s .i64 (k : Int) Tryz.underlying9
  rw [if_pos ⟨by omega, by omega⟩, Int.toNat_natCast] at h
  rw [h, show s.extract k s.size = asB (s.data.toList.drop k) from ba_list (by rw [ext_mid10 s k s.size (Nat.le_refl _), List.take_of_length_le (by rw [List.length_drop, lenB]; exact Nat.le_refl _)]; rfl)]

set_option maxHeartbeats 2000000 in
set_option maxRecDepth 100000 in
theorem RefPair10_any (s : ByteArray) (hs : s.size ≤ 1048600) (w : World) :
    Calls Tryz.prog 27 #[.string s] w fun e w' => e = .returned (.tuple #[.string (pnm s), .string (pvl s), .bool (eqF s)]) ∧ Below w.heap.size w w' := by
  have hl := lenB s
  go_enter Tryz.func27, Tryz.ntmps27
  go_wp2
  go_loop [5] (fun i => ∃ k : Nat, k ≤ s.size ∧ i = .int .i64 k ∧ Hid (∀ c ∈ s.data.toList.take k, c ≠ 61)) (fun i => s.size - (intOf i).toNat)
  case atStart => exact ⟨0, Nat.zero_le _, rfl, Lib.hid fun c hc => by simp at hc⟩
  case round =>
    obtain ⟨k, hk, rfl, HN⟩ := hrel
    by_cases hlt : k < s.size
    · have hby := byte_lt s[k]
      have hkI : (k : Int) < (s.size : Int) := by omega
      have hsplit : s.data.toList = s.data.toList.take k ++ s[k] :: s.data.toList.drop (k + 1) := by
        have e : s[k] = s.data.toList[k]'(by omega) := by simp [ByteArray.getElem_eq_getElem_data]
        conv => lhs; rw [← List.take_append_drop k s.data.toList, List.drop_eq_getElem_cons (by omega)]
        rw [e]
      by_cases hc : s[k] = 61
      · have e1 : ((s[k].toNat : Int) == 61) = true := by rw [hc]; rfl
        have hcut : cutP 61 s.data.toList = (s.data.toList.take k, s.data.toList.drop (k + 1), true) := by
          conv => lhs; rw [hsplit, hc]
          exact cutP_at5 _ _ HN.out
        have hp : pnm s = trimA (asB (s.data.toList.take k)) := by unfold pnm; rw [hcut]
        have hv : pvl s = trimA (asB (s.data.toList.drop (k + 1))) := by unfold pvl; rw [hcut]
        have hf : eqF s = true := by unfold eqF; rw [hcut]
        have HP : Hid (∀ w', ∃ n, w' = w.drewN n → Ending.returned (.tuple #[.string (trimA (asB (s.data.toList.take k))), .string (trimA (asB (s.data.toList.drop (k + 1)))), .bool true]) = .returned (.tuple #[.string (pnm s), .string (pvl s), .bool (eqF s)])) := Lib.hid fun w' => ⟨0, fun _ => by rw [hp, hv, hf]⟩
        have HE : Hid (Value.tuple #[.string (trimA (asB (s.data.toList.take k))), .string (trimA (asB (s.data.toList.drop (k + 1)))), .bool true] = .tuple #[.string (pnm s), .string (pvl s), .bool (eqF s)]) := Lib.hid (by rw [hp, hv, hf])
        have hsl1 := fun w => sl_to s k hk w
        have hsl2 := fun w => sl_from s (k + 1) (by omega) ((k : Int) + 1) (by omega) w
        have hT1 : Hid (∀ w, Calls Tryz.prog 41 #[.string (asB (s.data.toList.take k))] w fun e w' => e = .returned (.string (trimA (asB (s.data.toList.take k)))) ∧ w' = w) := Lib.hid fun w => (RefTrim_any _ w (by rw [asB_size, List.length_take]; unfold maxLen; omega)).mono fun e w' h => ⟨h.1, h.2.symm⟩
        have hT2 : Hid (∀ w, Calls Tryz.prog 41 #[.string (asB (s.data.toList.drop (k + 1)))] w fun e w' => e = .returned (.string (trimA (asB (s.data.toList.drop (k + 1))))) ∧ w' = w) := Lib.hid fun w => (RefTrim_any _ w (by rw [asB_size, List.length_drop]; unfold maxLen; omega)).mono fun e w' h => ⟨h.1, h.2.symm⟩
        generalize trimA (asB (s.data.toList.take k)) = R1 at *
        generalize trimA (asB (s.data.toList.drop (k + 1))) = R2 at *
        generalize asB (s.data.toList.take k) = A1 at *
        generalize asB (s.data.toList.drop (k + 1)) = A2 at *
        clear hc hsplit hcut hp hv hf HN HP hl
        go_wp2_with fail
        go_quiet ((first | (with_reducible exact Calls.quiet_of_same (hT1.out _)) | (with_reducible exact Calls.quiet_of_same (hT2.out _))))
        go_wp2
        go_ret3
        exact ⟨by rw [← HE.out]; rfl, Kp.below (X := fun _ => False) ((Kp.refl _ _).drewN _) (Nat.le_refl _) (fun _ h => h.elim)⟩
      · have e1 : ((s[k].toNat : Int) == 61) = false := beq_eq_false_iff_ne.2 (fun e => hc (UInt8.toNat_inj.1 (by have : (61 : UInt8).toNat = 61 := rfl; omega)))
        have HN2 : Hid (∀ c ∈ s.data.toList.take (k + 1), c ≠ 61) := Lib.hid fun c hcm => by
          rw [take_snoc s k hlt, List.mem_append, List.mem_singleton] at hcm
          rcases hcm with h | rfl
          · exact HN.out c h
          · exact hc
        clear hc hsplit
        go_wp2
        exact ⟨⟨k + 1, by omega, by go_num, HN2⟩, by simp [intOf]; omega⟩
    · obtain rfl : k = s.size := by omega
      have hcut : cutP 61 s.data.toList = (s.data.toList, [], false) := cutP_not5 _ (by
        have := HN.out
        rwa [List.take_of_length_le (by omega)] at this)
      have HE : Hid (Value.tuple #[.string (trimA s), .string ⟨#[]⟩, .bool false] = .tuple #[.string (pnm s), .string (pvl s), .bool (eqF s)]) := Lib.hid (by
        unfold pnm pvl eqF; rw [hcut]; rfl)
      have hT := Lib.hid fun w => RefTrim_any s w (by unfold maxLen; omega)
      clear hcut HN hl
      go_wp2_with fail
      refine (hT.out _).mono ?_
      rintro e w2 ⟨rfl, rfl⟩
      go_wp2
      go_ret3
      exact ⟨by rw [← HE.out]; rfl, Below.refl _ _⟩

/-- The digits so far, no more than may be. -/
def capN (l : List UInt8) : Int := min 2147483647 (num l)
theorem capN_snoc (l : List UInt8) (c : UInt8) (h : allR 48 57 l = true) (h1 : 48 ≤ (c.toNat : Int)) : capN (l ++ [c]) = min 2147483647 (10 * capN l + ((c.toNat : Int) - 48)) := by
  unfold capN
  rw [num_snoc]
  have := (num_bd l h).1
  omega
theorem capN_bd (l : List UInt8) (h : allR 48 57 l = true) : 0 ≤ capN l ∧ capN l ≤ 2147483647 := by
  unfold capN
  have := (num_bd l h).1
  omega
set_option maxHeartbeats 4000000 in
set_option maxRecDepth 100000 in
theorem RefAge10_any (v : ByteArray) (hs : v.size ≤ 1048600) (w : World) :
    Calls Tryz.prog 44 #[.string v] w fun e w' => e = .returned (ageR v.data.toList) ∧ w = w' := by
  have hlv := lenB v
  obtain ⟨R, HR⟩ : ∃ R, Hid (ageR v.data.toList = R) := ⟨_, Lib.hid rfl⟩
  rw [HR.out]
  have HDg := Lib.hid fun c w => Digit_any c w
  by_cases h45 : v.data.toList.head? = some 45
  · have hv0 : v.size ≠ 0 := fun e => by
      have : v.data.toList = [] := List.length_eq_zero_iff.1 (by omega)
      rw [this] at h45; cases h45
    have hv1 : 0 < v.size := by omega
    have hb0 : v[0] = 45 := by
      have e : v[0] = v.data.toList[0]'(by omega) := by simp [ByteArray.getElem_eq_getElem_data]
      rw [e]
      rw [List.head?_eq_getElem?, List.getElem?_eq_getElem (by omega)] at h45
      injection h45
    have hbI : ((v[0].toNat : Int) == 45) = true := by rw [hb0]; rfl
    obtain ⟨a1, a2, a3⟩ := str_full hv0
    have hsl := fun w => sl_from v 1 (by omega) 1 rfl w
    obtain ⟨T, HT⟩ : ∃ T, Hid (asB (v.data.toList.drop 1) = T) := ⟨_, Lib.hid rfl⟩
    have hTs : T.size ≤ 1048600 := by rw [← HT.out, asB_size, List.length_drop]; omega
    rw [HT.out] at hsl
    clear hb0 hv0
    go_enter Tryz.func44, Tryz.ntmps44
    go_wp2
    have HL : Hid (ageL v.data.toList = T.data.toList) := Lib.hid (by unfold ageL; rw [if_pos h45]; rw [← HT.out]; rfl)
    go_loop [5, 6] (fun n i => ∃ k : Nat, k ≤ T.size ∧ i = .int .i64 k ∧ n = .int .i64 (capN (T.data.toList.take k)) ∧ Hid (allR 48 57 (T.data.toList.take k) = true)) (fun _ i => T.size - (intOf i).toNat)
    case atStart => exact ⟨0, Nat.zero_le _, rfl, rfl, Lib.hid rfl⟩
    case round =>
      obtain ⟨k, hk, rfl, rfl, HA⟩ := hrel
      by_cases hlt : k < T.size
      · have hby := byte_lt T[k]
        have hkI : (k : Int) < (T.size : Int) := by omega
        obtain ⟨b0, b1⟩ := capN_bd _ HA.out
        have HS := Lib.hid (take_snoc T k hlt)
        by_cases hd : inR 48 57 (T[k].toNat : Int) = true
        · obtain ⟨d0, d1⟩ := inR_true.1 hd
          have HN : Hid (capN (T.data.toList.take (k + 1)) = min 2147483647 (10 * capN (T.data.toList.take k) + ((T[k].toNat : Int) - 48))) := Lib.hid (by rw [HS.out]; exact capN_snoc _ _ HA.out d0)
          have HA2 : Hid (allR 48 57 (T.data.toList.take (k + 1)) = true) := Lib.hid (by rw [HS.out, allR_snoc, HA.out, hd]; rfl)
          obtain ⟨N, HNN⟩ : ∃ N, Hid (capN (T.data.toList.take k) = N) := ⟨_, Lib.hid rfl⟩
          rw [HNN.out] at b0 b1 HN ⊢
          have HD := Lib.hid fun w => HDg.out (T[k].toNat : Int) w
          rw [hd] at HD
          clear hd
          go_wp2_with fail
          refine (HD.out _).mono ?_
          rintro e w2 ⟨rfl, rfl⟩
          go_wp2
          exact ⟨⟨k + 1, by omega, by go_num, by rw [HN.out], HA2⟩, by simp [intOf]; omega⟩
        · have hdf : inR 48 57 (T[k].toNat : Int) = false := by simpa using hd
          have HRR : Hid (R = .tuple #[.int .i64 0, .bool false]) := Lib.hid (by
            rw [← HR.out, ageR, if_neg]
            unfold ageB
            rw [HL.out, allR_take_false 48 57 T k hlt hdf]; simp)
          have HD := Lib.hid fun w => HDg.out (T[k].toNat : Int) w
          rw [hdf] at HD
          clear hd hdf
          go_wp2_with fail
          refine (HD.out _).mono ?_
          rintro e w2 ⟨rfl, rfl⟩
          go_wp2
          go_ret2
          exact ⟨by rw [HRR.out]; rfl, rfl⟩
      · obtain rfl : k = T.size := by omega
        obtain ⟨b0, b1⟩ := capN_bd _ HA.out
        have hall : allR 48 57 T.data.toList = true := by
          have := HA.out
          rwa [List.take_of_length_le (by rw [lenB]; exact Nat.le_refl _)] at this
        obtain ⟨N, HNN⟩ : ∃ N, Hid (capN (T.data.toList.take T.size) = N) := ⟨_, Lib.hid rfl⟩
        have hN : min 2147483647 (num T.data.toList) = N := by
          rw [← HNN.out, List.take_of_length_le (by rw [lenB]; exact Nat.le_refl _)]; rfl
        rw [HNN.out] at b0 b1 ⊢
        by_cases h0 : T.size = 0
        · have hnil : T.data.toList = [] := List.length_eq_zero_iff.1 (by rw [lenB]; exact h0)
          obtain rfl : N = 0 := by rw [← hN, hnil]; rfl
          have HRR : Hid (R = .tuple #[.int .i64 0, .bool false]) := Lib.hid (by
            rw [← HR.out, ageR, if_neg]
            unfold ageB
            rw [HL.out, hnil]; simp)
          obtain ⟨a1, a2, hxx⟩ := str_empty h0
          clear hxx
          have a3 : (T.toList == []) = true := beq_iff_eq.2 a1
          clear hall hN hnil HA
          go_wp2
          go_ret2
          exact ⟨by rw [HRR.out]; first | rfl | simp [a2], rfl⟩
        · have hne : T.data.toList ≠ [] := fun e => h0 (by rw [← lenB, e]; rfl)
          have HRR : Hid (R = .tuple #[.int .i64 (-N), .bool true]) := Lib.hid (by
            rw [← HR.out, ageR, if_pos (by unfold ageB; rw [HL.out, hall, Bool.and_true]; cases hx : T.data.toList with | nil => exact absurd hx hne | cons => rfl)]
            unfold ageV
            rw [if_pos h45, HL.out, hN])
          obtain ⟨a1, a2, a3⟩ := str_full h0
          clear hall hN hne HA
          go_wp2
          go_ret2
          exact ⟨by rw [HRR.out]; first | rfl | simp [a3], rfl⟩
  · by_cases hv0 : v.size = 0
    · obtain ⟨a1, a2, hxx⟩ := str_empty hv0
      clear hxx
      have a3 : (v.toList == []) = true := beq_iff_eq.2 a1
      have hnil : v.data.toList = [] := List.length_eq_zero_iff.1 (by rw [lenB]; exact hv0)
      have HRR : Hid (R = .tuple #[.int .i64 0, .bool false]) := Lib.hid (by
        rw [← HR.out, ageR, if_neg]
        unfold ageB ageL
        rw [hnil]; simp)
      have hv00 : (v.size : Int) = 0 := by omega
      clear hnil h45
      go_enter Tryz.func44, Tryz.ntmps44
      go_wp2
      refine wp_loop_rounds 1 ?_
      rw [rounds_succ]
      go_wp2
      go_ret2
      exact ⟨by rw [HRR.out]; first | rfl | simp [a2], rfl⟩
    · have hv1 : 0 < v.size := by omega
      have hb0 : v[0] ≠ 45 := fun e0 => h45 (by
        have e : v[0] = v.data.toList[0]'(by omega) := by simp [ByteArray.getElem_eq_getElem_data]
        rw [e] at e0
        rw [List.head?_eq_getElem?, List.getElem?_eq_getElem (by omega), e0])
      have hbI : ((v[0].toNat : Int) == 45) = false := beq_eq_false_iff_ne.2 (fun e => hb0 (UInt8.toNat_inj.1 (by have : (45 : UInt8).toNat = 45 := rfl; omega)))
      obtain ⟨a1, a2, a3⟩ := str_full hv0
      have hby0 := byte_lt v[0]
      clear hb0
      go_enter Tryz.func44, Tryz.ntmps44
      go_wp2
      clear a1 a2 a3
      have HL : Hid (ageL v.data.toList = v.data.toList) := Lib.hid (by unfold ageL; rw [if_neg h45])
      go_loop [5, 6] (fun n i => ∃ k : Nat, k ≤ v.size ∧ i = .int .i64 k ∧ n = .int .i64 (capN (v.data.toList.take k)) ∧ Hid (allR 48 57 (v.data.toList.take k) = true)) (fun _ i => v.size - (intOf i).toNat)
      case atStart => exact ⟨0, Nat.zero_le _, rfl, rfl, Lib.hid rfl⟩
      case round =>
        obtain ⟨k, hk, rfl, rfl, HA⟩ := hrel
        by_cases hlt : k < v.size
        · have hby := byte_lt v[k]
          have hkI : (k : Int) < (v.size : Int) := by omega
          obtain ⟨b0, b1⟩ := capN_bd _ HA.out
          have HS := Lib.hid (take_snoc v k hlt)
          by_cases hd : inR 48 57 (v[k].toNat : Int) = true
          · obtain ⟨d0, d1⟩ := inR_true.1 hd
            have HN : Hid (capN (v.data.toList.take (k + 1)) = min 2147483647 (10 * capN (v.data.toList.take k) + ((v[k].toNat : Int) - 48))) := Lib.hid (by rw [HS.out]; exact capN_snoc _ _ HA.out d0)
            have HA2 : Hid (allR 48 57 (v.data.toList.take (k + 1)) = true) := Lib.hid (by rw [HS.out, allR_snoc, HA.out, hd]; rfl)
            obtain ⟨N, HNN⟩ : ∃ N, Hid (capN (v.data.toList.take k) = N) := ⟨_, Lib.hid rfl⟩
            rw [HNN.out] at b0 b1 HN ⊢
            have HD := Lib.hid fun w => HDg.out (v[k].toNat : Int) w
            rw [hd] at HD
            clear hd
            go_wp2_with fail
            refine (HD.out _).mono ?_
            rintro e w2 ⟨rfl, rfl⟩
            go_wp2
            exact ⟨⟨k + 1, by omega, by go_num, by rw [HN.out], HA2⟩, by simp [intOf]; omega⟩
          · have hdf : inR 48 57 (v[k].toNat : Int) = false := by simpa using hd
            have HRR : Hid (R = .tuple #[.int .i64 0, .bool false]) := Lib.hid (by
              rw [← HR.out, ageR, if_neg]
              unfold ageB
              rw [HL.out, allR_take_false 48 57 v k hlt hdf]; simp)
            have HD := Lib.hid fun w => HDg.out (v[k].toNat : Int) w
            rw [hdf] at HD
            clear hd hdf
            go_wp2_with fail
            refine (HD.out _).mono ?_
            rintro e w2 ⟨rfl, rfl⟩
            go_wp2
            go_ret2
            exact ⟨by rw [HRR.out]; rfl, rfl⟩
        · obtain rfl : k = v.size := by omega
          obtain ⟨b0, b1⟩ := capN_bd _ HA.out
          have hall : allR 48 57 v.data.toList = true := by
            have := HA.out
            rwa [List.take_of_length_le (by rw [lenB]; exact Nat.le_refl _)] at this
          obtain ⟨N, HNN⟩ : ∃ N, Hid (capN (v.data.toList.take v.size) = N) := ⟨_, Lib.hid rfl⟩
          have hN : min 2147483647 (num v.data.toList) = N := by
            rw [← HNN.out, List.take_of_length_le (by rw [lenB]; exact Nat.le_refl _)]; rfl
          rw [HNN.out] at b0 b1 ⊢
          by_cases h0 : v.size = 0
          · have hnil : v.data.toList = [] := List.length_eq_zero_iff.1 (by rw [lenB]; exact h0)
            obtain rfl : N = 0 := by rw [← hN, hnil]; rfl
            have HRR : Hid (R = .tuple #[.int .i64 0, .bool false]) := Lib.hid (by
              rw [← HR.out, ageR, if_neg]
              unfold ageB
              rw [HL.out, hnil]; simp)
            obtain ⟨a1, a2, hxx⟩ := str_empty h0
            clear hxx
            have a3 : (v.toList == []) = true := beq_iff_eq.2 a1
            clear hall hN hnil HA
            go_wp2
            go_ret2
            exact ⟨by rw [HRR.out]; first | rfl | simp [a2], rfl⟩
          · have hne : v.data.toList ≠ [] := fun e => h0 (by rw [← lenB, e]; rfl)
            have HRR : Hid (R = .tuple #[.int .i64 N, .bool true]) := Lib.hid (by
              rw [← HR.out, ageR, if_pos (by unfold ageB; rw [HL.out, hall, Bool.and_true]; cases hx : v.data.toList with | nil => exact absurd hx hne | cons => rfl)]
              unfold ageV
              rw [if_neg h45, HL.out, hN])
            obtain ⟨a1, a2, a3⟩ := str_full h0
            clear hall hN hne HA
            go_wp2
            go_ret2
            exact ⟨by rw [HRR.out]; first | rfl | simp [a3], rfl⟩

end Go.Proofs.YtblofndehbagnaaGreatDoor
namespace Go.Proofs.YtblofndehbagnaaGreatDoor
open Go.RowKit

def CtAt (w : World) (b : Nat) (t : Cki) : Prop := w.heap[b]? = some (.cells (ckR t) 24 (0, 0))
theorem CtAt.cell {w : World} {b : Nat} {t : Cki} (h : CtAt w b t) (k : Nat) {v : Value} (hv : (ckR t)[k]? = some v) : w.cell? ⟨b, k, none⟩ = some v := by
  rw [cell_of_row w b k _ _ _ h]; exact hv
theorem CtAt.free {w : World} {b : Nat} {t : Cki} (h : CtAt w b t) (k : Nat) : w.frozen? ⟨b, k, none⟩ = false := frozen_of_row w b k _ _ h
theorem CtAt.lt {w : World} {b : Nat} {t : Cki} (h : CtAt w b t) : b < w.heap.size := lt_of_block h
theorem CtAt.set {w : World} {b : Nat} {t t' : Cki} (h : CtAt w b t) (k : Nat) (v : Value) (e : (ckR t).setIfInBounds k v = ckR t') : CtAt (w.setCell ⟨b, k, none⟩ v) b t' := by
  unfold CtAt at *
  rw [heap_setCell_same _ _ _ _ _ _ h, e]
theorem CtAt.below {w w' : World} {b : Nat} {t : Cki} (h : CtAt w b t) (hb : Below w.heap.size w w') : CtAt w' b t := (hb.block b h.lt).trans h
def SaidT (w : World) (b : Nat) (t : Cki) (e : Ending) (w' : World) : Prop := e = .returned (.tuple #[]) ∧ CtAt w' b t ∧ Kp (Only b) w w'
theorem head_ne {v : ByteArray} (h : 0 < v.size) (c : UInt8) : (v[0] = c ↔ v.data.toList.head? = some c) := by
  have hl : 0 < v.data.toList.length := by rw [lenB]; exact h
  have e : v[0] = v.data.toList[0] := by simp [ByteArray.getElem_eq_getElem_data]
  rw [e, List.head?_eq_getElem?, List.getElem?_eq_getElem hl]
  simp
theorem nhead {v : ByteArray} (h : v.size = 0) (c : UInt8) : ¬ v.data.toList.head? = some c := by
  have : v.data.toList = [] := List.length_eq_zero_iff.1 (by rw [lenB]; exact h)
  rw [this]; simp

set_option maxHeartbeats 4000000 in
set_option maxRecDepth 100000 in
theorem rsay_ex (b : Nat) (t : Cki) (N v : ByteArray) (hN : N.size ≤ 1048600) (hv : v.size ≤ 1048600) (w : World) (h : CtAt w b t) (hk : lowS N = ({ data := #[101, 120, 112, 105, 114, 101, 115] } : ByteArray)) :
    Calls Tryz.prog 28 #[.pointer (some ⟨b, 0, none⟩), .string N, .string v] w (SaidT w b (sayEx t v)) := by
  have HL := Lib.hid (RefLower_any N w (by unfold maxLen; omega))
  rw [hk] at HL
  clear hk
  have HC := Lib.hid fun w => RefCookie_any v hv w
  obtain ⟨R, HR⟩ : ∃ R, Hid (cookR (toldT v) = R) := ⟨_, Lib.hid rfl⟩
  rw [HR.out] at HC
  have HS : Hid (sayEx t v = if cookB (toldT v) then { t with ex := R, hx := true } else t) := Lib.hid (by unfold sayEx; rw [HR.out])
  cases hB : cookB (toldT v) with
  | true =>
    rw [hB] at HC
    have HP : Hid (∀ w1, Below w.heap.size w w1 → w1.cell? ⟨b, 4, none⟩ = some (.int .i64 t.ex) ∧ w1.frozen? ⟨b, 4, none⟩ = false ∧ (w1.setCell ⟨b, 4, none⟩ (.int .i64 R)).cell? ⟨b, 5, none⟩ = some (.bool t.hx) ∧ (w1.setCell ⟨b, 4, none⟩ (.int .i64 R)).frozen? ⟨b, 5, none⟩ = false ∧
        SaidT w b (sayEx t v) (.returned (.tuple #[])) ((w1.setCell ⟨b, 4, none⟩ (.int .i64 R)).setCell ⟨b, 5, none⟩ (.bool true))) := Lib.hid fun w1 hb => by
      have h1 := h.below hb
      have h2 : CtAt (w1.setCell ⟨b, 4, none⟩ (.int .i64 R)) b { t with ex := R } := h1.set 4 _ rfl
      refine ⟨h1.cell 4 rfl, h1.free 4, h2.cell 5 rfl, h2.free 5, rfl, ?_, kp_set1 (kp_set1 (Kp.of_below hb) 4 _) 5 _⟩
      rw [HS.out, hB, if_pos rfl]
      exact h2.set 5 _ rfl
    clear h HS hB
    go_enter Tryz.func28, Tryz.ntmps28
    go_wp2_with fail
    refine HL.out.mono ?_
    rintro e w1 ⟨rfl, b1⟩
    go_wp2_with fail
    refine (HC.out w1).mono ?_
    rintro e w2 ⟨rfl, b2⟩
    obtain ⟨c4, f4, c5, f5, hp⟩ := HP.out _ (b1.trans (b2.mono b1.size))
    have HPP := Lib.hid hp
    clear hp
    go_wp2
    refine bodyPost_ret (results_none rfl _ _ _) rfl ?_
    exact HPP.out
  | false =>
    rw [hB] at HC
    have HP : Hid (∀ w1, Below w.heap.size w w1 → SaidT w b (sayEx t v) (.returned (.tuple #[])) w1) := Lib.hid fun w1 hb => ⟨rfl, by rw [HS.out, hB, if_neg (by decide)]; exact h.below hb, Kp.of_below hb⟩
    clear h HS hB
    go_enter Tryz.func28, Tryz.ntmps28
    go_wp2_with fail
    refine HL.out.mono ?_
    rintro e w1 ⟨rfl, b1⟩
    go_wp2_with fail
    refine (HC.out w1).mono ?_
    rintro e w2 ⟨rfl, b2⟩
    have HPP := Lib.hid (HP.out _ (b1.trans (b2.mono b1.size)))
    go_wp2
    refine bodyPost_ret (results_none rfl _ _ _) rfl ?_
    exact HPP.out

set_option maxHeartbeats 4000000 in
set_option maxRecDepth 100000 in
theorem rsay_ag (b : Nat) (t : Cki) (N v : ByteArray) (hN : N.size ≤ 1048600) (hv : v.size ≤ 1048600) (w : World) (h : CtAt w b t) (hk : lowS N = ({ data := #[109, 97, 120, 45, 97, 103, 101] } : ByteArray)) :
    Calls Tryz.prog 28 #[.pointer (some ⟨b, 0, none⟩), .string N, .string v] w (SaidT w b (sayAg t v)) := by
  have HL := Lib.hid (RefLower_any N w (by unfold maxLen; omega))
  rw [hk] at HL
  clear hk
  have HC := Lib.hid fun w => RefAge10_any v hv w
  obtain ⟨R, HR⟩ : ∃ R, Hid (ageV v.data.toList = R) := ⟨_, Lib.hid rfl⟩
  unfold ageR at HC
  rw [HR.out] at HC
  have HS : Hid (sayAg t v = if ageB v.data.toList then { t with ag := R, ha := true } else t) := Lib.hid (by unfold sayAg; rw [HR.out])
  cases hB : ageB v.data.toList with
  | true =>
    rw [hB, if_pos rfl] at HC
    have HP : Hid (∀ w1, Below w.heap.size w w1 → w1.cell? ⟨b, 6, none⟩ = some (.int .i64 t.ag) ∧ w1.frozen? ⟨b, 6, none⟩ = false ∧ (w1.setCell ⟨b, 6, none⟩ (.int .i64 R)).cell? ⟨b, 7, none⟩ = some (.bool t.ha) ∧ (w1.setCell ⟨b, 6, none⟩ (.int .i64 R)).frozen? ⟨b, 7, none⟩ = false ∧
        SaidT w b (sayAg t v) (.returned (.tuple #[])) ((w1.setCell ⟨b, 6, none⟩ (.int .i64 R)).setCell ⟨b, 7, none⟩ (.bool true))) := Lib.hid fun w1 hb => by
      have h1 := h.below hb
      have h2 : CtAt (w1.setCell ⟨b, 6, none⟩ (.int .i64 R)) b { t with ag := R } := h1.set 6 _ rfl
      refine ⟨h1.cell 6 rfl, h1.free 6, h2.cell 7 rfl, h2.free 7, rfl, ?_, kp_set1 (kp_set1 (Kp.of_below hb) 6 _) 7 _⟩
      rw [HS.out, hB, if_pos rfl]
      exact h2.set 7 _ rfl
    clear h HS hB
    go_enter Tryz.func28, Tryz.ntmps28
    go_wp2_with fail
    refine HL.out.mono ?_
    rintro e w1 ⟨rfl, b1⟩
    go_wp2_with fail
    refine (HC.out w1).mono ?_
    rintro e w2 ⟨rfl, rfl⟩
    obtain ⟨c4, f4, c5, f5, hp⟩ := HP.out _ (b1)
    have HPP := Lib.hid hp
    clear hp
    go_wp2
    refine bodyPost_ret (results_none rfl _ _ _) rfl ?_
    exact HPP.out
  | false =>
    rw [hB, if_neg (by decide)] at HC
    have HP : Hid (∀ w1, Below w.heap.size w w1 → SaidT w b (sayAg t v) (.returned (.tuple #[])) w1) := Lib.hid fun w1 hb => ⟨rfl, by rw [HS.out, hB, if_neg (by decide)]; exact h.below hb, Kp.of_below hb⟩
    clear h HS hB
    go_enter Tryz.func28, Tryz.ntmps28
    go_wp2_with fail
    refine HL.out.mono ?_
    rintro e w1 ⟨rfl, b1⟩
    go_wp2_with fail
    refine (HC.out w1).mono ?_
    rintro e w2 ⟨rfl, rfl⟩
    have HPP := Lib.hid (HP.out _ (b1))
    go_wp2
    refine bodyPost_ret (results_none rfl _ _ _) rfl ?_
    exact HPP.out

set_option maxHeartbeats 4000000 in
set_option maxRecDepth 100000 in
theorem rsay_dm (b : Nat) (t : Cki) (N v : ByteArray) (hN : N.size ≤ 1048600) (hv : v.size ≤ 1048600) (w : World) (h : CtAt w b t) (hk : lowS N = ({ data := #[100, 111, 109, 97, 105, 110] } : ByteArray)) :
    Calls Tryz.prog 28 #[.pointer (some ⟨b, 0, none⟩), .string N, .string v] w (SaidT w b (sayDm t v)) := by
  have HL := Lib.hid (RefLower_any N w (by unfold maxLen; omega))
  rw [hk] at HL
  clear hk
  have HP : Hid (∀ U w1, U = asB (unpt v.data.toList) → Below w.heap.size w w1 → w1.cell? ⟨b, 2, none⟩ = some (.string t.dm) ∧ w1.frozen? ⟨b, 2, none⟩ = false ∧ SaidT w b (sayDm t v) (.returned (.tuple #[])) (w1.setCell ⟨b, 2, none⟩ (.string (lowS U)))) :=
    Lib.hid fun U w1 hU hb => by subst hU; exact ⟨(h.below hb).cell 2 rfl, (h.below hb).free 2, rfl, (h.below hb).set 2 _ rfl, kp_set1 (Kp.of_below hb) 2 _⟩
  clear h
  by_cases h0 : v.size = 0
  · have hU : v = asB (unpt v.data.toList) := by unfold unpt; rw [if_neg (nhead h0 46)]; rfl
    obtain ⟨a1, a2, hxx⟩ := str_empty h0
    clear hxx
    have HU := Lib.hid hU
    clear hU
    have HLU := Lib.hid fun w => RefLower_any (v) w (by unfold maxLen; omega)
    go_enter Tryz.func28, Tryz.ntmps28
    go_wp2_with fail
    refine HL.out.mono ?_
    rintro e w1 ⟨rfl, b1⟩
    go_wp2_with fail
    refine (HLU.out w1).mono ?_
    rintro e w2 ⟨rfl, b2⟩
    obtain ⟨c2, f2, hp⟩ := HP.out (v) _ (HU.out) (b1.trans (b2.mono b1.size))
    have HPP := Lib.hid hp
    clear hp
    go_wp2
    refine bodyPost_ret (results_none rfl _ _ _) rfl ?_
    exact HPP.out
  · have hp0 : 0 < v.size := by omega
    obtain ⟨a1, a2, a3⟩ := str_full h0
    have hby := byte_lt v[0]
    by_cases hc : v[0] = 46
    · have hU : asB (v.data.toList.drop 1) = asB (unpt v.data.toList) := by unfold unpt; rw [if_pos ((head_ne hp0 46).1 hc)]
      have e1 : ((v[0].toNat : Int) == 46) = true := by rw [hc]; rfl
      have hsl := fun w => sl_from v 1 (by omega) 1 rfl w
      have HU := Lib.hid hU
      have hus : (asB (v.data.toList.drop 1)).size ≤ 1048600 := by rw [asB_size, List.length_drop, lenB]; omega
      obtain ⟨U, HUU⟩ : ∃ U, Hid (asB (v.data.toList.drop 1) = U) := ⟨_, Lib.hid rfl⟩
      rw [HUU.out] at HU hsl hus
      clear hU hc
      have HLU := Lib.hid fun w => RefLower_any (U) w (by unfold maxLen; omega)
      go_enter Tryz.func28, Tryz.ntmps28
      go_wp2_with fail
      refine HL.out.mono ?_
      rintro e w1 ⟨rfl, b1⟩
      go_wp2_with fail
      refine (HLU.out w1).mono ?_
      rintro e w2 ⟨rfl, b2⟩
      obtain ⟨c2, f2, hp⟩ := HP.out (U) _ (HU.out) (b1.trans (b2.mono b1.size))
      have HPP := Lib.hid hp
      clear hp
      go_wp2
      refine bodyPost_ret (results_none rfl _ _ _) rfl ?_
      exact HPP.out
    · have hU : v = asB (unpt v.data.toList) := by unfold unpt; rw [if_neg fun e => hc ((head_ne hp0 46).2 e)]; rfl
      have e1 : ((v[0].toNat : Int) == 46) = false := beq_eq_false_iff_ne.2 (fun e => hc (UInt8.toNat_inj.1 (by have : (46 : UInt8).toNat = 46 := rfl; omega)))
      have HU := Lib.hid hU
      clear hU hc
      have HLU := Lib.hid fun w => RefLower_any (v) w (by unfold maxLen; omega)
      go_enter Tryz.func28, Tryz.ntmps28
      go_wp2_with fail
      refine HL.out.mono ?_
      rintro e w1 ⟨rfl, b1⟩
      go_wp2_with fail
      refine (HLU.out w1).mono ?_
      rintro e w2 ⟨rfl, b2⟩
      obtain ⟨c2, f2, hp⟩ := HP.out (v) _ (HU.out) (b1.trans (b2.mono b1.size))
      have HPP := Lib.hid hp
      clear hp
      go_wp2
      refine bodyPost_ret (results_none rfl _ _ _) rfl ?_
      exact HPP.out

set_option maxHeartbeats 4000000 in
set_option maxRecDepth 100000 in
theorem rsay_pa (b : Nat) (t : Cki) (N v : ByteArray) (hN : N.size ≤ 1048600) (hv : v.size ≤ 1048600) (w : World) (h : CtAt w b t) (hk : lowS N = ({ data := #[112, 97, 116, 104] } : ByteArray)) :
    Calls Tryz.prog 28 #[.pointer (some ⟨b, 0, none⟩), .string N, .string v] w (SaidT w b (sayPa t v)) := by
  have HL := Lib.hid (RefLower_any N w (by unfold maxLen; omega))
  rw [hk] at HL
  clear hk
  have HP : Hid (∀ w1, Below w.heap.size w w1 → w1.cell? ⟨b, 3, none⟩ = some (.string t.pa) ∧ w1.frozen? ⟨b, 3, none⟩ = false ∧ (w1.setCell ⟨b, 3, none⟩ (.string ⟨#[]⟩)).cell? ⟨b, 3, none⟩ = some (.string ⟨#[]⟩) ∧ (w1.setCell ⟨b, 3, none⟩ (.string ⟨#[]⟩)).frozen? ⟨b, 3, none⟩ = false ∧
      (¬ v.data.toList.head? = some 47 → SaidT w b (sayPa t v) (.returned (.tuple #[])) (w1.setCell ⟨b, 3, none⟩ (.string ⟨#[]⟩))) ∧
      (v.data.toList.head? = some 47 → SaidT w b (sayPa t v) (.returned (.tuple #[])) ((w1.setCell ⟨b, 3, none⟩ (.string ⟨#[]⟩)).setCell ⟨b, 3, none⟩ (.string v)))) := Lib.hid fun w1 hb => by
    have h1 := h.below hb
    have h2 : CtAt (w1.setCell ⟨b, 3, none⟩ (.string ⟨#[]⟩)) b { t with pa := noB } := h1.set 3 _ rfl
    refine ⟨h1.cell 3 rfl, h1.free 3, h2.cell 3 rfl, h2.free 3, fun hn => ⟨rfl, ?_, kp_set1 (Kp.of_below hb) 3 _⟩, fun hy => ⟨rfl, ?_, kp_set1 (kp_set1 (Kp.of_below hb) 3 _) 3 _⟩⟩
    · unfold sayPa; rw [if_neg hn]; exact h2
    · unfold sayPa; rw [if_pos hy]; exact h2.set 3 _ rfl
  clear h
  by_cases h0 : v.size = 0
  · have hn0 := Lib.hid (nhead h0 47)
    obtain ⟨a1, a2, hxx⟩ := str_empty h0
    clear hxx
    go_enter Tryz.func28, Tryz.ntmps28
    go_wp2_with fail
    refine HL.out.mono ?_
    rintro e w1 ⟨rfl, b1⟩
    obtain ⟨c3, f3, c3b, f3b, hn, hy⟩ := HP.out _ b1
    have HPP := Lib.hid (hn hn0.out)
    clear hn hy
    clear c3b f3b
    go_wp2
    refine bodyPost_ret (results_none rfl _ _ _) rfl ?_
    exact HPP.out
  · have hp0 : 0 < v.size := by omega
    obtain ⟨a1, a2, a3⟩ := str_full h0
    have hby := byte_lt v[0]
    by_cases hc : v[0] = 47
    · have hn0 := Lib.hid ((head_ne hp0 47).1 hc)
      have e1 : ((v[0].toNat : Int) == 47) = true := by rw [hc]; rfl
      clear hc
      go_enter Tryz.func28, Tryz.ntmps28
      go_wp2_with fail
      refine HL.out.mono ?_
      rintro e w1 ⟨rfl, b1⟩
      obtain ⟨c3, f3, c3b, f3b, hn, hy⟩ := HP.out _ b1
      have HPP := Lib.hid (hy hn0.out)
      clear hn hy
      obtain ⟨W, HW⟩ : ∃ W, Hid (w1.setCell ⟨b, 3, none⟩ (.string ⟨#[]⟩) = W) := ⟨_, Lib.hid rfl⟩
      go_upto_region 17 with (fail)
      rw [HW.out]
      rw [HW.out] at c3b f3b HPP
      clear c3 f3
      go_wp2
      refine bodyPost_ret (results_none rfl _ _ _) rfl ?_
      exact HPP.out
    · have hn0 := Lib.hid fun e => hc ((head_ne hp0 47).2 e)
      have e1 : ((v[0].toNat : Int) == 47) = false := beq_eq_false_iff_ne.2 (fun e => hc (UInt8.toNat_inj.1 (by have : (47 : UInt8).toNat = 47 := rfl; omega)))
      clear hc
      go_enter Tryz.func28, Tryz.ntmps28
      go_wp2_with fail
      refine HL.out.mono ?_
      rintro e w1 ⟨rfl, b1⟩
      obtain ⟨c3, f3, c3b, f3b, hn, hy⟩ := HP.out _ b1
      have HPP := Lib.hid (hn hn0.out)
      clear hn hy
      clear c3b f3b
      go_wp2
      refine bodyPost_ret (results_none rfl _ _ _) rfl ?_
      exact HPP.out

set_option maxHeartbeats 4000000 in
set_option maxRecDepth 100000 in
theorem rsay_se (b : Nat) (t : Cki) (N v : ByteArray) (hN : N.size ≤ 1048600) (_hv : v.size ≤ 1048600) (w : World) (h : CtAt w b t) (hk : lowS N = ({ data := #[115, 101, 99, 117, 114, 101] } : ByteArray)) :
    Calls Tryz.prog 28 #[.pointer (some ⟨b, 0, none⟩), .string N, .string v] w (SaidT w b ({ t with se := true })) := by
  have HL := Lib.hid (RefLower_any N w (by unfold maxLen; omega))
  rw [hk] at HL
  clear hk
  have HP : Hid (∀ w1, Below w.heap.size w w1 → w1.cell? ⟨b, 8, none⟩ = some (.bool t.se) ∧ w1.frozen? ⟨b, 8, none⟩ = false ∧ SaidT w b { t with se := true } (.returned (.tuple #[])) (w1.setCell ⟨b, 8, none⟩ (.bool true))) :=
    Lib.hid fun w1 hb => ⟨(h.below hb).cell 8 rfl, (h.below hb).free 8, rfl, (h.below hb).set 8 _ rfl, kp_set1 (Kp.of_below hb) 8 _⟩
  clear h
  go_enter Tryz.func28, Tryz.ntmps28
  go_wp2_with fail
  refine HL.out.mono ?_
  rintro e w1 ⟨rfl, b1⟩
  obtain ⟨c2, f2, hp⟩ := HP.out _ b1
  have HPP := Lib.hid hp
  clear hp
  go_wp2
  refine bodyPost_ret (results_none rfl _ _ _) rfl ?_
  exact HPP.out

set_option maxHeartbeats 4000000 in
set_option maxRecDepth 100000 in
theorem rsay_hi (b : Nat) (t : Cki) (N v : ByteArray) (hN : N.size ≤ 1048600) (_hv : v.size ≤ 1048600) (w : World) (h : CtAt w b t) (hk : lowS N = ({ data := #[104, 116, 116, 112, 111, 110, 108, 121] } : ByteArray)) :
    Calls Tryz.prog 28 #[.pointer (some ⟨b, 0, none⟩), .string N, .string v] w (SaidT w b ({ t with hi := true })) := by
  have HL := Lib.hid (RefLower_any N w (by unfold maxLen; omega))
  rw [hk] at HL
  clear hk
  have HP : Hid (∀ w1, Below w.heap.size w w1 → w1.cell? ⟨b, 9, none⟩ = some (.bool t.hi) ∧ w1.frozen? ⟨b, 9, none⟩ = false ∧ SaidT w b { t with hi := true } (.returned (.tuple #[])) (w1.setCell ⟨b, 9, none⟩ (.bool true))) :=
    Lib.hid fun w1 hb => ⟨(h.below hb).cell 9 rfl, (h.below hb).free 9, rfl, (h.below hb).set 9 _ rfl, kp_set1 (Kp.of_below hb) 9 _⟩
  clear h
  go_enter Tryz.func28, Tryz.ntmps28
  go_wp2_with fail
  refine HL.out.mono ?_
  rintro e w1 ⟨rfl, b1⟩
  obtain ⟨c2, f2, hp⟩ := HP.out _ b1
  have HPP := Lib.hid hp
  clear hp
  go_wp2
  refine bodyPost_ret (results_none rfl _ _ _) rfl ?_
  exact HPP.out

end Go.Proofs.YtblofndehbagnaaGreatDoor
namespace Go.Proofs.YtblofndehbagnaaGreatDoor
open Go.RowKit

set_option maxHeartbeats 4000000 in
set_option maxRecDepth 100000 in
theorem rsay_no (b : Nat) (t : Cki) (N v : ByteArray) (hN : N.size ≤ 1048600) (w : World) (h : CtAt w b t) (hk : ∀ j, j < 7 → (lowS N).data.toList ≠ keyL7.getD j []) :
    Calls Tryz.prog 28 #[.pointer (some ⟨b, 0, none⟩), .string N, .string v] w (SaidT w b t) := by
  have HL := Lib.hid (RefLower_any N w (by unfold maxLen; omega))
  have HP : Hid (∀ w1, Below w.heap.size w w1 → SaidT w b t (.returned (.tuple #[])) w1) := Lib.hid fun w1 hb => ⟨rfl, h.below hb, Kp.of_below hb⟩
  have m0 : ((lowS N).toList == [101, 120, 112, 105, 114, 101, 115]) = false := beq_eq_false_iff_ne.2 fun e => hk 0 (by decide) (by rw [← ByteArray.toList_eq, e]; rfl)
  have m1 : ((lowS N).toList == [109, 97, 120, 45, 97, 103, 101]) = false := beq_eq_false_iff_ne.2 fun e => hk 1 (by decide) (by rw [← ByteArray.toList_eq, e]; rfl)
  have m2 : ((lowS N).toList == [100, 111, 109, 97, 105, 110]) = false := beq_eq_false_iff_ne.2 fun e => hk 2 (by decide) (by rw [← ByteArray.toList_eq, e]; rfl)
  have m3 : ((lowS N).toList == [112, 97, 116, 104]) = false := beq_eq_false_iff_ne.2 fun e => hk 3 (by decide) (by rw [← ByteArray.toList_eq, e]; rfl)
  have m4 : ((lowS N).toList == [115, 101, 99, 117, 114, 101]) = false := beq_eq_false_iff_ne.2 fun e => hk 4 (by decide) (by rw [← ByteArray.toList_eq, e]; rfl)
  have m5 : ((lowS N).toList == [104, 116, 116, 112, 111, 110, 108, 121]) = false := beq_eq_false_iff_ne.2 fun e => hk 5 (by decide) (by rw [← ByteArray.toList_eq, e]; rfl)
  have m6 : ((lowS N).toList == [115, 97, 109, 101, 115, 105, 116, 101]) = false := beq_eq_false_iff_ne.2 fun e => hk 6 (by decide) (by rw [← ByteArray.toList_eq, e]; rfl)
  generalize lowS N = K at *
  clear h hk
  go_enter Tryz.func28, Tryz.ntmps28
  go_wp2_with fail
  refine HL.out.mono ?_
  rintro e w1 ⟨rfl, b1⟩
  have HPP := Lib.hid (HP.out _ b1)
  go_wp2
  refine bodyPost_ret (results_none rfl _ _ _) rfl ?_
  exact HPP.out

set_option maxHeartbeats 4000000 in
set_option maxRecDepth 100000 in
theorem rsay_si (b : Nat) (t : Cki) (N v : ByteArray) (hN : N.size ≤ 1048600) (hv : v.size ≤ 1048600) (w : World) (h : CtAt w b t) (hk : lowS N = ({ data := #[115, 97, 109, 101, 115, 105, 116, 101] } : ByteArray)) :
    Calls Tryz.prog 28 #[.pointer (some ⟨b, 0, none⟩), .string N, .string v] w (SaidT w b (saySi t v)) := by
  have HL := Lib.hid (RefLower_any N w (by unfold maxLen; omega))
  rw [hk] at HL
  clear hk
  have HL2 := Lib.hid fun w => RefLower_any v w (by unfold maxLen; omega)
  have hl2 : (lowS v).data.toList = v.data.toList.map low := rfl
  have HP : Hid (∀ w1, Below w.heap.size w w1 → w1.cell? ⟨b, 10, none⟩ = some (.int .u8 t.si) ∧ w1.frozen? ⟨b, 10, none⟩ = false ∧
      (∀ w3, Below (w1.setCell ⟨b, 10, none⟩ (.int .u8 0)).heap.size (w1.setCell ⟨b, 10, none⟩ (.int .u8 0)) w3 → w3.cell? ⟨b, 10, none⟩ = some (.int .u8 0) ∧ w3.frozen? ⟨b, 10, none⟩ = false ∧ SaidT w b { t with si := 0 } (.returned (.tuple #[])) w3 ∧ ∀ n, SaidT w b { t with si := n } (.returned (.tuple #[])) (w3.setCell ⟨b, 10, none⟩ (.int .u8 n)))) := Lib.hid fun w1 hb => by
    have h1 := h.below hb
    have h2 : CtAt (w1.setCell ⟨b, 10, none⟩ (.int .u8 0)) b { t with si := 0 } := h1.set 10 _ rfl
    refine ⟨h1.cell 10 rfl, h1.free 10, fun w3 hb3 => ?_⟩
    have h3 := h2.below hb3
    have k3 := (kp_set1 (Kp.of_below (X := Only b) hb) 10 (.int .u8 0)).trans (Kp.of_below hb3)
    exact ⟨h3.cell 10 rfl, h3.free 10, ⟨rfl, h3, k3⟩, fun n => ⟨rfl, h3.set 10 _ rfl, kp_set1 k3 10 _⟩⟩
  clear h
  by_cases hx : v.data.toList.map low = [115, 116, 114, 105, 99, 116]
  · have hlit : lowS v = ({ data := #[115, 116, 114, 105, 99, 116] } : ByteArray) := ba_list (by rw [hl2, hx])
    rw [hlit] at HL2
    have HS : Hid (saySi t v = { t with si := 1 }) := Lib.hid (by unfold saySi; rw [hx]; rfl)
    clear hlit hx hl2
    rw [HS.out]
    go_enter Tryz.func28, Tryz.ntmps28
    go_wp2_with fail
    refine HL.out.mono ?_
    rintro e w1 ⟨rfl, b1⟩
    obtain ⟨c10, f10, hp⟩ := HP.out _ b1
    have HPq := Lib.hid hp
    clear hp
    obtain ⟨W, HW⟩ : ∃ W, Hid (w1.setCell ⟨b, 10, none⟩ (.int .u8 0) = W) := ⟨_, Lib.hid rfl⟩
    rw [HW.out] at HPq
    go_wp2_with fail
    rw [HW.out]
    refine (HL2.out W).mono ?_
    rintro e w3 ⟨rfl, b3⟩
    obtain ⟨c10b, f10b, hq0, hq⟩ := HPq.out _ b3
    have HPP := Lib.hid (hq 1)
    clear hq0 hq c10 f10
    go_wp2
    refine bodyPost_ret (results_none rfl _ _ _) rfl ?_
    exact HPP.out
  by_cases hx2 : v.data.toList.map low = [108, 97, 120]
  · have hx := hx2
    have hlit : lowS v = ({ data := #[108, 97, 120] } : ByteArray) := ba_list (by rw [hl2, hx])
    rw [hlit] at HL2
    have HS : Hid (saySi t v = { t with si := 2 }) := Lib.hid (by unfold saySi; rw [hx]; rfl)
    clear hlit hx hl2
    rw [HS.out]
    go_enter Tryz.func28, Tryz.ntmps28
    go_wp2_with fail
    refine HL.out.mono ?_
    rintro e w1 ⟨rfl, b1⟩
    obtain ⟨c10, f10, hp⟩ := HP.out _ b1
    have HPq := Lib.hid hp
    clear hp
    obtain ⟨W, HW⟩ : ∃ W, Hid (w1.setCell ⟨b, 10, none⟩ (.int .u8 0) = W) := ⟨_, Lib.hid rfl⟩
    rw [HW.out] at HPq
    go_wp2_with fail
    rw [HW.out]
    refine (HL2.out W).mono ?_
    rintro e w3 ⟨rfl, b3⟩
    obtain ⟨c10b, f10b, hq0, hq⟩ := HPq.out _ b3
    have HPP := Lib.hid (hq 2)
    clear hq0 hq c10 f10
    go_wp2
    refine bodyPost_ret (results_none rfl _ _ _) rfl ?_
    exact HPP.out
  by_cases hx3 : v.data.toList.map low = [110, 111, 110, 101]
  · have hx := hx3
    have hlit : lowS v = ({ data := #[110, 111, 110, 101] } : ByteArray) := ba_list (by rw [hl2, hx])
    rw [hlit] at HL2
    have HS : Hid (saySi t v = { t with si := 3 }) := Lib.hid (by unfold saySi; rw [hx]; rfl)
    clear hlit hx hl2
    rw [HS.out]
    go_enter Tryz.func28, Tryz.ntmps28
    go_wp2_with fail
    refine HL.out.mono ?_
    rintro e w1 ⟨rfl, b1⟩
    obtain ⟨c10, f10, hp⟩ := HP.out _ b1
    have HPq := Lib.hid hp
    clear hp
    obtain ⟨W, HW⟩ : ∃ W, Hid (w1.setCell ⟨b, 10, none⟩ (.int .u8 0) = W) := ⟨_, Lib.hid rfl⟩
    rw [HW.out] at HPq
    go_wp2_with fail
    rw [HW.out]
    refine (HL2.out W).mono ?_
    rintro e w3 ⟨rfl, b3⟩
    obtain ⟨c10b, f10b, hq0, hq⟩ := HPq.out _ b3
    have HPP := Lib.hid (hq 3)
    clear hq0 hq c10 f10
    go_wp2
    refine bodyPost_ret (results_none rfl _ _ _) rfl ?_
    exact HPP.out
  have h1 := hx
  have h2 := hx2
  have h3 := hx3
  clear hx hx2 hx3
  have HS : Hid (saySi t v = { t with si := 0 }) := Lib.hid (by unfold saySi siteV; rw [if_neg h1, if_neg h2, if_neg h3])
  have m0 : ((lowS v).toList == [115, 116, 114, 105, 99, 116]) = false := beq_eq_false_iff_ne.2 fun e => h1 (by rw [← hl2, ← ByteArray.toList_eq, e])
  have m1 : ((lowS v).toList == [108, 97, 120]) = false := beq_eq_false_iff_ne.2 fun e => h2 (by rw [← hl2, ← ByteArray.toList_eq, e])
  have m2 : ((lowS v).toList == [110, 111, 110, 101]) = false := beq_eq_false_iff_ne.2 fun e => h3 (by rw [← hl2, ← ByteArray.toList_eq, e])
  generalize lowS v = K2 at *
  clear hl2 h1 h2 h3
  rw [HS.out]
  go_enter Tryz.func28, Tryz.ntmps28
  go_wp2_with fail
  refine HL.out.mono ?_
  rintro e w1 ⟨rfl, b1⟩
  obtain ⟨c10, f10, hp⟩ := HP.out _ b1
  have HPq := Lib.hid hp
  clear hp
  obtain ⟨W, HW⟩ : ∃ W, Hid (w1.setCell ⟨b, 10, none⟩ (.int .u8 0) = W) := ⟨_, Lib.hid rfl⟩
  rw [HW.out] at HPq
  go_wp2_with fail
  rw [HW.out]
  refine (HL2.out W).mono ?_
  rintro e w3 ⟨rfl, b3⟩
  obtain ⟨c10b, f10b, hq0, hq⟩ := HPq.out _ b3
  have HPP := Lib.hid (hq0)
  clear hq0 hq c10 f10
  go_wp2
  refine bodyPost_ret (results_none rfl _ _ _) rfl ?_
  exact HPP.out

theorem RefSays_any (b : Nat) (t : Cki) (N v : ByteArray) (hN : N.size ≤ 1048600) (hv : v.size ≤ 1048600) (w : World) (h : CtAt w b t) :
    Calls Tryz.prog 28 #[.pointer (some ⟨b, 0, none⟩), .string N, .string v] w (SaidT w b (say t (N.data.toList.map low) v)) := by
  have hl : (lowS N).data.toList = N.data.toList.map low := rfl
  by_cases hk7 : ∃ j, j < 7 ∧ N.data.toList.map low = keyL7.getD j []
  · obtain ⟨j, hj, e⟩ := hk7
    have hk : lowS N = asB (keyL7.getD j []) := ba_list (by rw [hl, e]; rfl)
    rw [e]
    match j, hj with
    | 0, _ => exact rsay_ex b t N v hN hv w h hk
    | 1, _ => exact rsay_ag b t N v hN hv w h hk
    | 2, _ => exact rsay_dm b t N v hN hv w h hk
    | 3, _ => exact rsay_pa b t N v hN hv w h hk
    | 4, _ => exact rsay_se b t N v hN hv w h hk
    | 5, _ => exact rsay_hi b t N v hN hv w h hk
    | 6, _ => exact rsay_si b t N v hN hv w h hk
  · rw [say_none t _ v fun j hj e => hk7 ⟨j, hj, e⟩]
    exact rsay_no b t N v hN w h fun j hj e => hk7 ⟨j, hj, by rw [← hl]; exact e⟩

end Go.Proofs.YtblofndehbagnaaGreatDoor
namespace Go.Proofs.YtblofndehbagnaaGreatDoor
open Go.RowKit

set_option maxHeartbeats 4000000 in
set_option maxRecDepth 100000 in
theorem RParse_long (s : ByteArray) (w : World) (hs : 65536 < s.size) :
    Calls Tryz.prog 12 #[.string s] w fun e w' => e = .returned (.tuple #[.agg (ckR ck0), .int .i64 3]) ∧ Below w.heap.size w w' := by
  have hsI : (65536 : Int) < (s.size : Int) := by omega
  clear hs
  go_enter Tryz.func12, Tryz.ntmps12
  go_wp2_with fail
  exact bodyPost_ret (v := .tuple #[.agg (ckR ck0), .int .i64 3]) (sc_row2 (P := Tryz.prog) Tryz.results12 _ _ w.heap.size _ _ (0, 0) _ rfl (zbox_at w) Tryz.underlying24 rfl infoTo) rfl ⟨rfl, zbox_below w⟩

set_option maxHeartbeats 4000000 in
set_option maxRecDepth 100000 in
theorem RParse_ctl (s : ByteArray) (w : World) (hs : ¬ 65536 < s.size) (hc : s.data.toList.any ctlB = true) :
    Calls Tryz.prog 12 #[.string s] w fun e w' => e = .returned (.tuple #[.agg (ckR ck0), .int .i64 4]) ∧ Below w.heap.size w w' := by
  have hsI : ¬ (65536 : Int) < (s.size : Int) := by omega
  have HC := Lib.hid hc
  clear hs hc
  go_enter Tryz.func12, Tryz.ntmps12
  go_wp2
  go_loop [4] (fun i => ∃ k : Nat, k ≤ s.size ∧ i = .int .i64 k ∧ Hid ((s.data.toList.take k).any ctlB = false)) (fun i => s.size - (intOf i).toNat)
  case atStart => exact ⟨0, Nat.zero_le _, rfl, Lib.hid rfl⟩
  case round =>
    obtain ⟨k, hk, rfl, HT⟩ := hrel
    by_cases hlt : k < s.size
    · have hb := byte_lt s[k]
      cases hc : ctlB s[k] with
      | true =>
        have hc' : s[k].toNat = 127 ∨ (s[k].toNat < 32 ∧ s[k].toNat ≠ 9) := by
          unfold ctlB at hc
          simpa using hc
        clear hc
        rcases hc' with h1 | ⟨h1, h2⟩
        · have e1 : ((s[k].toNat : Int) == 127) = true := beq_iff_eq.2 (by omega)
          clear h1
          go_wp2_with fail
          exact bodyPost_ret (v := .tuple #[.agg (ckR ck0), .int .i64 4]) (sc_row2 (P := Tryz.prog) Tryz.results12 _ _ w.heap.size _ _ (0, 0) _ rfl (zbox_at w) Tryz.underlying24 rfl infoTo) rfl ⟨rfl, zbox_below w⟩
        · have e1 : ((s[k].toNat : Int) == 127) = false := beq_eq_false_iff_ne.2 (by omega)
          have e2 : (s[k].toNat : Int) < 32 := by omega
          have e2b : decide ((s[k].toNat : Int) < 32) = true := decide_eq_true e2
          have e3 : ((s[k].toNat : Int) != 9) = true := bne_iff_ne.2 (by omega)
          clear h1 h2
          go_wp2_with fail
          exact bodyPost_ret (v := .tuple #[.agg (ckR ck0), .int .i64 4]) (sc_row2 (P := Tryz.prog) Tryz.results12 _ _ w.heap.size _ _ (0, 0) _ rfl (zbox_at w) Tryz.underlying24 rfl infoTo) rfl ⟨rfl, zbox_below w⟩
      | false =>
        have HN := Lib.hid (show (s.data.toList.take (k + 1)).any ctlB = false by rw [take_snoc s k hlt, anyC_snoc, HT.out, hc]; rfl)
        have hc' : s[k].toNat ≠ 127 ∧ (32 ≤ s[k].toNat ∨ s[k].toNat = 9) := by
          unfold ctlB at hc
          simp at hc
          omega
        clear hc
        obtain ⟨h1, h2⟩ := hc'
        have e1 : ((s[k].toNat : Int) == 127) = false := beq_eq_false_iff_ne.2 (by omega)
        rcases h2 with h2 | h2
        · have e2 : (32 : Int) ≤ (s[k].toNat : Int) := by omega
          have e2b : decide ((s[k].toNat : Int) < 32) = false := decide_eq_false (by omega)
          clear h1 h2
          go_wp2
          exact ⟨⟨k + 1, by omega, by go_num, HN⟩, by simp [intOf]; omega⟩
        · have e2 : (s[k].toNat : Int) < 32 := by omega
          have e2b : decide ((s[k].toNat : Int) < 32) = true := decide_eq_true e2
          have e3 : ((s[k].toNat : Int) != 9) = false := by rw [bne_eq_false_iff_eq]; omega
          clear h1 h2
          go_wp2
          exact ⟨⟨k + 1, by omega, by go_num, HN⟩, by simp [intOf]; omega⟩
    · obtain rfl : k = s.size := by omega
      have := HT.out
      rw [List.take_of_length_le (by rw [lenB]; exact Nat.le_refl _), HC.out] at this
      cases this


set_option maxHeartbeats 4000000 in
set_option maxRecDepth 100000 in
theorem RParse_some (s : ByteArray) (w : World) (hs : ¬ 65536 < s.size) (hc : s.data.toList.any ctlB = false) :
    Calls Tryz.prog 12 #[.string s] w fun e w' => e = .returned (.tuple #[.agg (ckR (prsF (prt59 s)).1), .int .i64 (prsF (prt59 s)).2]) ∧ Below w.heap.size w w' := by
  have hsI : ¬ (65536 : Int) < (s.size : Int) := by omega
  have HC := Lib.hid hc
  have HBx := Lib.hid (zbox_below w)
  have HAx := Lib.hid (zbox_at w)
  have HZx := Lib.hid (zbox_size w)
  have HSp := Lib.hid (RefParts10_any s (ZBox w) (by omega))
  obtain ⟨p, r, hpr⟩ : ∃ p r, prt59 s = p :: r := by
    cases hp : prt59 s with
    | nil =>
      have := List.map_eq_nil_iff.1 hp
      exact absurd this (parts_ne 59 _)
    | cons p r => exact ⟨p, r, rfl⟩
  have hps : ∀ x ∈ prt59 s, x.size ≤ 65536 := fun x hx => by
    obtain ⟨l, hl, rfl⟩ := List.mem_map.1 hx
    have h1 := rawP_size 59 s (asB l) (by rw [← rawP_data] at hl; obtain ⟨y, hy, rfl⟩ := List.mem_map.1 hl; exact hy)
    omega
  have hln : (prt59 s).length ≤ 65537 := by
    unfold prt59
    rw [List.length_map, parts_count]
    have := List.count_le_length (a := (59 : UInt8)) (l := s.data.toList)
    rw [lenB] at this
    omega
  rw [hpr] at HSp hps hln ⊢
  obtain ⟨W0, HW0⟩ : ∃ W, Hid (ZBox w = W) := ⟨_, Lib.hid rfl⟩
  rw [HW0.out] at HBx HAx HZx HSp
  clear hs hc hpr
  obtain ⟨n, Hn⟩ : ∃ n, Hid ((p :: r).length = n) := ⟨_, Lib.hid rfl⟩
  rw [Hn.out] at HSp hln
  go_enter Tryz.func12, Tryz.ntmps12
  go_wp2
  go_loop [4] (fun i => ∃ k : Nat, k ≤ s.size ∧ i = .int .i64 k ∧ Hid ((s.data.toList.take k).any ctlB = false)) (fun i => s.size - (intOf i).toNat)
  case atStart => exact ⟨0, Nat.zero_le _, rfl, Lib.hid rfl⟩
  case round =>
    obtain ⟨k, hk, rfl, HT⟩ := hrel
    by_cases hlt : k < s.size
    · have hb := byte_lt s[k]
      cases hc : ctlB s[k] with
      | true =>
        have := anyC_take_true s k hlt hc
        rw [HC.out] at this
        cases this
      | false =>
        have HN := Lib.hid (show (s.data.toList.take (k + 1)).any ctlB = false by rw [take_snoc s k hlt, anyC_snoc, HT.out, hc]; rfl)
        have hc' : s[k].toNat ≠ 127 ∧ (32 ≤ s[k].toNat ∨ s[k].toNat = 9) := by
          unfold ctlB at hc
          simp at hc
          omega
        clear hc
        obtain ⟨h1, h2⟩ := hc'
        have e1 : ((s[k].toNat : Int) == 127) = false := beq_eq_false_iff_ne.2 (by omega)
        rcases h2 with h2 | h2
        · have e2 : (32 : Int) ≤ (s[k].toNat : Int) := by omega
          have e2b : decide ((s[k].toNat : Int) < 32) = false := decide_eq_false (by omega)
          clear h1 h2
          go_wp2
          exact ⟨⟨k + 1, by omega, by go_num, HN⟩, by simp [intOf]; omega⟩
        · have e2 : (s[k].toNat : Int) < 32 := by omega
          have e2b : decide ((s[k].toNat : Int) < 32) = true := decide_eq_true e2
          have e3 : ((s[k].toNat : Int) != 9) = false := by rw [bne_eq_false_iff_eq]; omega
          clear h1 h2
          go_wp2
          exact ⟨⟨k + 1, by omega, by go_num, HN⟩, by simp [intOf]; omega⟩
    · obtain rfl : k = s.size := by omega
      go_wp2_with fail
      refine (show Calls Tryz.prog 26 _ (ZBox w) _ from by rw [HW0.out]; exact HSp.out).mono ?_
      rintro e w2 ⟨v, rfl, hown, b2⟩
      obtain ⟨g, cp, rfl, hg, hgl⟩ := hown.form (by rw [← Hn.out]; simp)
      obtain ⟨h, hh⟩ : ∃ h, w2.heap.size = h := ⟨_, rfl⟩
      obtain ⟨W3, HW3⟩ : ∃ W, Hid (w2.alloc (.cells (ckR ck0) 24) = W) := ⟨_, Lib.hid rfl⟩
      have hA3 : ∀ j x, (p :: r)[j]? = some x → W3.cell? ⟨g, j, none⟩ = some (.string x) := fun j x hj => by
        obtain ⟨hjl, hjx⟩ := List.getElem?_eq_some_iff.1 hj
        have h1 : w2.cell? ⟨g, j, none⟩ = some (.string x) := by
          rw [hown.cellAt j (by rw [← Hn.out]; omega), List.getElem?_map, hj]; rfl
        rw [← HW3.out]
        rw [World.cell?_alloc_old]
        · exact h1
        · show g ≠ w2.heap.size; omega
      have hx : W3.cell? ⟨g, 0, none⟩ = some (.string p) := hA3 0 p rfl
      have HB3 : Hid (Below w2.heap.size w2 W3) := Lib.hid (by rw [← HW3.out]; exact (Below.refl _ _).alloc (Nat.le_refl _) _)
      have HT3 : Hid (CtAt W3 h ck0) := Lib.hid (by rw [← HW3.out, ← hh]; exact heap_alloc_new w2 _)
      have h3s : W3.heap.size = h + 1 := by rw [← HW3.out, ← hh]; simp
      have hwh : w.heap.size < h := by have := b2.size; have := HZx.out; omega
      have HW4 : Hid (∀ w4, Below W3.heap.size W3 w4 → Hid (CtAt w4 h ck0) ∧ Hid (w4.heap[w.heap.size]? = some (.cells (ckR ck0) 24 (0, 0))) ∧ Hid (Below w.heap.size w w4)) := Lib.hid fun w4 b4 => by
        have hr2 : w2.heap[w.heap.size]? = some (.cells (ckR ck0) 24 (0, 0)) := (b2.block _ (by rw [HZx.out]; omega)).trans HAx.out
        have hr3 : W3.heap[w.heap.size]? = some (.cells (ckR ck0) 24 (0, 0)) := (HB3.out.block _ (by omega)).trans hr2
        refine ⟨Lib.hid (HT3.out.below b4), Lib.hid ((b4.block _ (by omega)).trans hr3), Lib.hid ?_⟩
        exact HBx.out.trans ((b2.trans ((HB3.out.trans (b4.mono (by omega))).mono b2.size)).mono HBx.out.size)
      have HX : Hid (∀ j x, (p :: r)[j]? = some x → ∀ w4 wr, Below W3.heap.size W3 w4 → Kp (Only h) w4 wr → wr.cell? ⟨g, j, none⟩ = some (.string x)) := Lib.hid fun j x hj w4 wr b4 k => by
        refine k.cell ((b4.cell (p := ⟨g, j, none⟩) (by show g < _; omega)).trans (hA3 j x hj)) (fun e => by have : g = h := e; omega)
      have HGh : Hid (g < h) := Lib.hid (by omega)
      have HPr := Lib.hid (RefPair10_any p (by have := hps p (List.mem_cons_self ..); omega) W3)
      have hPN := pnm_le p
      have hPV := pvl_le p
      have hpz := hps p (List.mem_cons_self ..)
      have hn1 : 1 ≤ n := by rw [← Hn.out]; simp
      have hn0 : (0 : Int) < (n : Int) := by omega
      have hrn : r.length + 1 = n := by rw [← Hn.out]; rfl
      clear hA3 hown hg hgl b2 h3s HB3
      go_upto_region 10 with (fail)
      rw [show (w2.alloc (.cells #[.string ⟨#[]⟩, .string ⟨#[]⟩, .string ⟨#[]⟩, .string ⟨#[]⟩, .int .i64 0, .bool false, .int .i64 0, .bool false, .bool false, .bool false, .int .u8 0] 24)) = W3 from HW3.out]
      try rw [hh]
      cases hE : eqF p with
      | true =>
        have HPF0 : Hid (prsF (p :: r) = if 4096 < (pnm p).size + (pvl p).size then (ck0, 3) else if (pnm p).size = 0 ∧ (pvl p).size = 0 then (ck0, 4) else (r.foldl heard { ck0 with nm := pnm p, vl := pvl p }, 0)) := Lib.hid (by
          unfold prsF fnm fvl
          simp only [hE, if_true])
        rw [hE] at HPr
        clear hE
        generalize pnm p = N at *
        generalize pvl p = V at *
        by_cases h1 : 4096 < N.size + V.size
        · have HPF : Hid (prsF (p :: r) = (ck0, 3)) := Lib.hid (by rw [HPF0.out, if_pos h1])
          have h1I : (4096 : Int) < (N.size : Int) + (V.size : Int) := by omega
          go_wp2_with fail
          refine HPr.out.mono ?_
          rintro e w4 ⟨rfl, b4⟩
          obtain ⟨HT4, HR4, HB4⟩ := HW4.out w4 b4
          have HB34 := Lib.hid b4
          clear b4
          have HA5 : Hid ((w4.setRow w.heap.size (ckR ck0)).heap[w.heap.size]? = some (.cells (ckR ck0) 24 (0, 0))) := Lib.hid (setRow_heap w4 _ _ _ _ _ HR4.out)
          have HB5 : Hid (Below w.heap.size w (w4.setRow w.heap.size (ckR ck0))) := Lib.hid (sc_below HB4.out _ _ (Nat.le_refl _))
          obtain ⟨W5, HW5⟩ : ∃ W, Hid (w4.setRow w.heap.size (ckR ck0) = W) := ⟨_, Lib.hid rfl⟩
          rw [HW5.out] at HA5 HB5
          go_wp2_with (refine wpL_store_row rfl 24 _ _ rfl w.heap.size (ckR ck0) ?_ ?_ 24 (ckR ck0) ?_ ?_ ?_ ?_ ?_; exact rfl; exact rfl; exact HR4.out; exact infoTo; exact rfl; exact ckR_one _; rw [HW5.out])
          exact bodyPost_ret (v := .tuple #[.agg (ckR ck0), .int .i64 3]) (sc_row2 (P := Tryz.prog) Tryz.results12 _ _ w.heap.size _ _ (0, 0) _ rfl HA5.out Tryz.underlying24 rfl infoTo) rfl ⟨by rw [HPF.out], HB5.out⟩

        by_cases h2 : N.size = 0
        · by_cases h3 : V.size = 0
          · have HPF : Hid (prsF (p :: r) = (ck0, 4)) := Lib.hid (by rw [HPF0.out, if_neg h1, if_pos ⟨h2, h3⟩])
            obtain ⟨a1, a2, rfl⟩ := str_empty h2
            obtain ⟨b1, b2, rfl⟩ := str_empty h3
            clear HPF0 h1 hPN hPV
            go_wp2_with fail
            refine HPr.out.mono ?_
            rintro e w4 ⟨rfl, b4⟩
            obtain ⟨HT4, HR4, HB4⟩ := HW4.out w4 b4
            have HB34 := Lib.hid b4
            clear b4
            have HA5 : Hid ((w4.setRow w.heap.size (ckR ck0)).heap[w.heap.size]? = some (.cells (ckR ck0) 24 (0, 0))) := Lib.hid (setRow_heap w4 _ _ _ _ _ HR4.out)
            have HB5 : Hid (Below w.heap.size w (w4.setRow w.heap.size (ckR ck0))) := Lib.hid (sc_below HB4.out _ _ (Nat.le_refl _))
            obtain ⟨W5, HW5⟩ : ∃ W, Hid (w4.setRow w.heap.size (ckR ck0) = W) := ⟨_, Lib.hid rfl⟩
            rw [HW5.out] at HA5 HB5
            go_wp2_with (refine wpL_store_row rfl 24 _ _ rfl w.heap.size (ckR ck0) ?_ ?_ 24 (ckR ck0) ?_ ?_ ?_ ?_ ?_; exact rfl; exact rfl; exact HR4.out; exact infoTo; exact rfl; exact ckR_one _; rw [HW5.out])
            exact bodyPost_ret (v := .tuple #[.agg (ckR ck0), .int .i64 4]) (sc_row2 (P := Tryz.prog) Tryz.results12 _ _ w.heap.size _ _ (0, 0) _ rfl HA5.out Tryz.underlying24 rfl infoTo) rfl ⟨by rw [HPF.out], HB5.out⟩

          · have HPF : Hid (prsF (p :: r) = (r.foldl heard { ck0 with nm := N, vl := V }, 0)) := Lib.hid (by rw [HPF0.out, if_neg h1, if_neg fun h => h3 h.2])
            obtain ⟨a1, a2, rfl⟩ := str_empty h2
            obtain ⟨b1, b2, b3⟩ := str_full h3
            have h1I : ¬ (4096 : Int) < 0 + (V.size : Int) := by have : (noB).size = 0 := rfl; omega
            obtain ⟨T0, HT0⟩ : ∃ T0, Hid ({ ck0 with nm := noB, vl := V } = T0) := ⟨_, Lib.hid rfl⟩
            replace HPF : Hid (prsF (p :: r) = (r.foldl heard T0, 0)) := Lib.hid (by rw [← HT0.out]; exact HPF.out)
            clear HPF0 h1
            go_wp2_with fail
            refine HPr.out.mono ?_
            rintro e w4 ⟨rfl, b4⟩
            obtain ⟨HT4, HR4, HB4⟩ := HW4.out w4 b4
            have HB34 := Lib.hid b4
            clear b4
            have hc4 : CtAt w4 h ck0 := HT4.out
            have hc5 : CtAt (w4.setCell ⟨h, 0, none⟩ (.string noB)) h { ck0 with nm := noB } := hc4.set 0 _ rfl
            have HC6 : Hid (CtAt ((w4.setCell ⟨h, 0, none⟩ (.string noB)).setCell ⟨h, 1, none⟩ (.string V)) h T0) := Lib.hid (by rw [← HT0.out]; exact hc5.set 1 _ rfl)
            have HK6 : Hid (Kp (Only h) w4 ((w4.setCell ⟨h, 0, none⟩ (.string noB)).setCell ⟨h, 1, none⟩ (.string V))) := Lib.hid (kp_set1 (kp_set1 (Kp.refl _ _) 0 _) 1 _)
            have c0 : w4.cell? ⟨h, 0, none⟩ = some (.string ⟨#[]⟩) := hc4.cell 0 rfl
            have f0 := hc4.free 0
            have c1 : (w4.setCell ⟨h, 0, none⟩ (.string noB)).cell? ⟨h, 1, none⟩ = some (.string ⟨#[]⟩) := hc5.cell 1 rfl
            have f1 := hc5.free 1
            clear hc4 hc5
            go_wp2
            go_loopw [10] (fun i wr => ∃ k : Nat, 1 ≤ k ∧ k ≤ n ∧ i = .int .i64 k ∧ Hid (CtAt wr h ((r.take (k - 1)).foldl heard T0)) ∧ Hid (Kp (Only h) w4 wr)) (fun i _ => n - (intOf i).toNat)
            case atStart => exact ⟨1, Nat.le_refl _, hn1, rfl, HC6, HK6⟩
            case round =>
              obtain ⟨k, hk1, hk, rfl, HCr, HK⟩ := hrel
              clear c0 f0 c1 f1
              by_cases hlt2 : k < n
              · have hkL : k - 1 < r.length := by omega
                obtain ⟨x, Hx⟩ : ∃ x, Hid (r[k - 1] = x) := ⟨_, Lib.hid rfl⟩
                have hxs : x.size ≤ 1048600 := by rw [← Hx.out]; have := hps _ (List.mem_cons_of_mem p (List.getElem_mem hkL)); omega
                have hx : wr.cell? ⟨g, k, none⟩ = some (.string x) := HX.out k x (by rw [← Hx.out, List.getElem?_cons, if_neg (by omega), List.getElem?_eq_getElem hkL]) w4 wr HB34.out HK.out
                have HP := Lib.hid (RefPair10_any x hxs wr)
                have hN1 := pnm_le x
                have hV1 := pvl_le x
                obtain ⟨T, HT1⟩ : ∃ T, Hid ((r.take (k - 1)).foldl heard T0 = T) := ⟨_, Lib.hid rfl⟩
                rw [HT1.out] at HCr
                have HF : Hid ((r.take (k + 1 - 1)).foldl heard T0 = heard T x) := Lib.hid (by
                  rw [show k + 1 - 1 = (k - 1) + 1 by omega, List.take_succ_eq_append_getElem hkL, List.foldl_append, HT1.out, Hx.out]; rfl)
                have hHe : heard T x = if (pvl x).size ≤ 1024 then say T ((pnm x).data.toList.map low) (pvl x) else T := rfl
                rw [hHe] at HF
                clear hHe
                have hNs : (pnm x).size ≤ 1048600 := by omega
                have hVs : (pvl x).size ≤ 1048600 := by omega
                generalize pnm x = N2 at *
                generalize pvl x = V2 at *
                generalize eqF x = E2 at *
                clear hN1 hV1
                have hkI : (k : Int) < (n : Int) := by omega
                by_cases hv : V2.size ≤ 1024
                · rw [if_pos hv] at HF
                  have hvI : (V2.size : Int) ≤ 1024 := by omega
                  go_wp2_with fail
                  refine HP.out.mono ?_
                  rintro e w7 ⟨rfl, b7⟩
                  have HSy := Lib.hid (RefSays_any h T N2 V2 hNs hVs w7 (HCr.out.below b7))
                  have HB7 := Lib.hid b7
                  clear b7
                  go_wp2_with fail
                  refine HSy.out.mono ?_
                  rintro e w8 ⟨rfl, c8, k8⟩
                  rw [← HF.out] at c8
                  have HC8 := Lib.hid c8
                  have HK8 := Lib.hid (HK.out.trans ((Kp.of_below HB7.out).trans k8))
                  clear c8 k8
                  go_wp2
                  exact ⟨⟨k + 1, by omega, by omega, by go_num, HC8, HK8⟩, by simp [intOf]; omega⟩
                · rw [if_neg hv] at HF
                  have hvI : ¬ (V2.size : Int) ≤ 1024 := by omega
                  go_wp2_with fail
                  refine HP.out.mono ?_
                  rintro e w7 ⟨rfl, b7⟩
                  have c8 := HCr.out.below b7
                  rw [← HF.out] at c8
                  have HC8 := Lib.hid c8
                  have HK8 := Lib.hid (HK.out.trans (Kp.of_below b7))
                  clear c8 b7
                  go_wp2
                  exact ⟨⟨k + 1, by omega, by omega, by go_num, HC8, HK8⟩, by simp [intOf]; omega⟩
              · obtain rfl : k = n := by omega
                obtain ⟨TT, HTT⟩ : ∃ TT, Hid (r.foldl heard T0 = TT) := ⟨_, Lib.hid rfl⟩
                have HCT : Hid (CtAt wr h TT) := Lib.hid (by
                  have := HCr.out
                  rwa [List.take_of_length_le (by omega), HTT.out] at this)
                have HA5 : Hid (wr.heap[w.heap.size]? = some (.cells (ckR ck0) 24 (0, 0))) := Lib.hid (HK.out.at HR4.out (fun e => by have : w.heap.size = h := e; omega))
                have HA6 : Hid ((wr.setRow w.heap.size (ckR TT)).heap[w.heap.size]? = some (.cells (ckR TT) 24 (0, 0))) := Lib.hid (setRow_heap wr _ _ _ _ _ HA5.out)
                have HA7 : Hid (Below w.heap.size w (wr.setRow w.heap.size (ckR TT))) := Lib.hid (sc_below (HB4.out.trans (HK.out.below (B := w.heap.size) (by have := lt_of_block HR4.out; omega) (fun k hk => by rw [show k = h from hk]; omega))) _ _ (Nat.le_refl _))
                obtain ⟨W6, HW6⟩ : ∃ W, Hid (wr.setRow w.heap.size (ckR TT) = W) := ⟨_, Lib.hid rfl⟩
                rw [HW6.out] at HA6 HA7
                obtain ⟨V, HV, hVs, hV1⟩ : ∃ V, Hid (ckR TT = V) ∧ Hid (V.size = 11) ∧ Hid (V.all (·.oneCell') = true) := ⟨_, Lib.hid rfl, Lib.hid rfl, Lib.hid (ckR_one _)⟩
                unfold CtAt at HCT
                rw [HV.out] at HA6 HCT HW6
                clear hlt2 hk
                go_wp2_with (first
                  | (refine wpList_load_row rfl 24 _ rfl h ?_ 24 V (0, 0) _ ?_ Tryz.underlying24 rfl ?_ ?_; (exact rfl); (exact HCT.out); (rw [hVs.out]; exact infoTo))
                  | (refine wpL_store_row rfl 24 _ _ rfl w.heap.size V ?_ ?_ 24 (ckR ck0) ?_ ?_ ?_ ?_ ?_; exact rfl; exact rfl; exact HA5.out; (rw [hVs.out]; exact infoTo); (rw [hVs.out]; rfl); exact hV1.out; rw [HW6.out]))
                exact bodyPost_ret (v := .tuple #[.agg V, .int .i64 0]) (sc_row2 (P := Tryz.prog) Tryz.results12 _ _ w.heap.size _ _ (0, 0) _ rfl HA6.out Tryz.underlying24 rfl (by rw [hVs.out]; exact infoTo)) rfl ⟨by rw [HPF.out, HTT.out, HV.out], HA7.out⟩

        · have HPF : Hid (prsF (p :: r) = (r.foldl heard { ck0 with nm := N, vl := V }, 0)) := Lib.hid (by rw [HPF0.out, if_neg h1, if_neg fun h => h2 h.1])
          obtain ⟨b1, b2, b3⟩ := str_full h2
          have h1I : ¬ (4096 : Int) < (N.size : Int) + (V.size : Int) := by omega
          obtain ⟨T0, HT0⟩ : ∃ T0, Hid ({ ck0 with nm := N, vl := V } = T0) := ⟨_, Lib.hid rfl⟩
          replace HPF : Hid (prsF (p :: r) = (r.foldl heard T0, 0)) := Lib.hid (by rw [← HT0.out]; exact HPF.out)
          clear HPF0 h1
          go_wp2_with fail
          refine HPr.out.mono ?_
          rintro e w4 ⟨rfl, b4⟩
          obtain ⟨HT4, HR4, HB4⟩ := HW4.out w4 b4
          have HB34 := Lib.hid b4
          clear b4
          have hc4 : CtAt w4 h ck0 := HT4.out
          have hc5 : CtAt (w4.setCell ⟨h, 0, none⟩ (.string N)) h { ck0 with nm := N } := hc4.set 0 _ rfl
          have HC6 : Hid (CtAt ((w4.setCell ⟨h, 0, none⟩ (.string N)).setCell ⟨h, 1, none⟩ (.string V)) h T0) := Lib.hid (by rw [← HT0.out]; exact hc5.set 1 _ rfl)
          have HK6 : Hid (Kp (Only h) w4 ((w4.setCell ⟨h, 0, none⟩ (.string N)).setCell ⟨h, 1, none⟩ (.string V))) := Lib.hid (kp_set1 (kp_set1 (Kp.refl _ _) 0 _) 1 _)
          have c0 : w4.cell? ⟨h, 0, none⟩ = some (.string ⟨#[]⟩) := hc4.cell 0 rfl
          have f0 := hc4.free 0
          have c1 : (w4.setCell ⟨h, 0, none⟩ (.string N)).cell? ⟨h, 1, none⟩ = some (.string ⟨#[]⟩) := hc5.cell 1 rfl
          have f1 := hc5.free 1
          clear hc4 hc5
          go_wp2
          go_loopw [10] (fun i wr => ∃ k : Nat, 1 ≤ k ∧ k ≤ n ∧ i = .int .i64 k ∧ Hid (CtAt wr h ((r.take (k - 1)).foldl heard T0)) ∧ Hid (Kp (Only h) w4 wr)) (fun i _ => n - (intOf i).toNat)
          case atStart => exact ⟨1, Nat.le_refl _, hn1, rfl, HC6, HK6⟩
          case round =>
            obtain ⟨k, hk1, hk, rfl, HCr, HK⟩ := hrel
            clear c0 f0 c1 f1
            by_cases hlt2 : k < n
            · have hkL : k - 1 < r.length := by omega
              obtain ⟨x, Hx⟩ : ∃ x, Hid (r[k - 1] = x) := ⟨_, Lib.hid rfl⟩
              have hxs : x.size ≤ 1048600 := by rw [← Hx.out]; have := hps _ (List.mem_cons_of_mem p (List.getElem_mem hkL)); omega
              have hx : wr.cell? ⟨g, k, none⟩ = some (.string x) := HX.out k x (by rw [← Hx.out, List.getElem?_cons, if_neg (by omega), List.getElem?_eq_getElem hkL]) w4 wr HB34.out HK.out
              have HP := Lib.hid (RefPair10_any x hxs wr)
              have hN1 := pnm_le x
              have hV1 := pvl_le x
              obtain ⟨T, HT1⟩ : ∃ T, Hid ((r.take (k - 1)).foldl heard T0 = T) := ⟨_, Lib.hid rfl⟩
              rw [HT1.out] at HCr
              have HF : Hid ((r.take (k + 1 - 1)).foldl heard T0 = heard T x) := Lib.hid (by
                rw [show k + 1 - 1 = (k - 1) + 1 by omega, List.take_succ_eq_append_getElem hkL, List.foldl_append, HT1.out, Hx.out]; rfl)
              have hHe : heard T x = if (pvl x).size ≤ 1024 then say T ((pnm x).data.toList.map low) (pvl x) else T := rfl
              rw [hHe] at HF
              clear hHe
              have hNs : (pnm x).size ≤ 1048600 := by omega
              have hVs : (pvl x).size ≤ 1048600 := by omega
              generalize pnm x = N2 at *
              generalize pvl x = V2 at *
              generalize eqF x = E2 at *
              clear hN1 hV1
              have hkI : (k : Int) < (n : Int) := by omega
              by_cases hv : V2.size ≤ 1024
              · rw [if_pos hv] at HF
                have hvI : (V2.size : Int) ≤ 1024 := by omega
                go_wp2_with fail
                refine HP.out.mono ?_
                rintro e w7 ⟨rfl, b7⟩
                have HSy := Lib.hid (RefSays_any h T N2 V2 hNs hVs w7 (HCr.out.below b7))
                have HB7 := Lib.hid b7
                clear b7
                go_wp2_with fail
                refine HSy.out.mono ?_
                rintro e w8 ⟨rfl, c8, k8⟩
                rw [← HF.out] at c8
                have HC8 := Lib.hid c8
                have HK8 := Lib.hid (HK.out.trans ((Kp.of_below HB7.out).trans k8))
                clear c8 k8
                go_wp2
                exact ⟨⟨k + 1, by omega, by omega, by go_num, HC8, HK8⟩, by simp [intOf]; omega⟩
              · rw [if_neg hv] at HF
                have hvI : ¬ (V2.size : Int) ≤ 1024 := by omega
                go_wp2_with fail
                refine HP.out.mono ?_
                rintro e w7 ⟨rfl, b7⟩
                have c8 := HCr.out.below b7
                rw [← HF.out] at c8
                have HC8 := Lib.hid c8
                have HK8 := Lib.hid (HK.out.trans (Kp.of_below b7))
                clear c8 b7
                go_wp2
                exact ⟨⟨k + 1, by omega, by omega, by go_num, HC8, HK8⟩, by simp [intOf]; omega⟩
            · obtain rfl : k = n := by omega
              obtain ⟨TT, HTT⟩ : ∃ TT, Hid (r.foldl heard T0 = TT) := ⟨_, Lib.hid rfl⟩
              have HCT : Hid (CtAt wr h TT) := Lib.hid (by
                have := HCr.out
                rwa [List.take_of_length_le (by omega), HTT.out] at this)
              have HA5 : Hid (wr.heap[w.heap.size]? = some (.cells (ckR ck0) 24 (0, 0))) := Lib.hid (HK.out.at HR4.out (fun e => by have : w.heap.size = h := e; omega))
              have HA6 : Hid ((wr.setRow w.heap.size (ckR TT)).heap[w.heap.size]? = some (.cells (ckR TT) 24 (0, 0))) := Lib.hid (setRow_heap wr _ _ _ _ _ HA5.out)
              have HA7 : Hid (Below w.heap.size w (wr.setRow w.heap.size (ckR TT))) := Lib.hid (sc_below (HB4.out.trans (HK.out.below (B := w.heap.size) (by have := lt_of_block HR4.out; omega) (fun k hk => by rw [show k = h from hk]; omega))) _ _ (Nat.le_refl _))
              obtain ⟨W6, HW6⟩ : ∃ W, Hid (wr.setRow w.heap.size (ckR TT) = W) := ⟨_, Lib.hid rfl⟩
              rw [HW6.out] at HA6 HA7
              obtain ⟨V, HV, hVs, hV1⟩ : ∃ V, Hid (ckR TT = V) ∧ Hid (V.size = 11) ∧ Hid (V.all (·.oneCell') = true) := ⟨_, Lib.hid rfl, Lib.hid rfl, Lib.hid (ckR_one _)⟩
              unfold CtAt at HCT
              rw [HV.out] at HA6 HCT HW6
              clear hlt2 hk
              go_wp2_with (first
                | (refine wpList_load_row rfl 24 _ rfl h ?_ 24 V (0, 0) _ ?_ Tryz.underlying24 rfl ?_ ?_; (exact rfl); (exact HCT.out); (rw [hVs.out]; exact infoTo))
                | (refine wpL_store_row rfl 24 _ _ rfl w.heap.size V ?_ ?_ 24 (ckR ck0) ?_ ?_ ?_ ?_ ?_; exact rfl; exact rfl; exact HA5.out; (rw [hVs.out]; exact infoTo); (rw [hVs.out]; rfl); exact hV1.out; rw [HW6.out]))
              exact bodyPost_ret (v := .tuple #[.agg V, .int .i64 0]) (sc_row2 (P := Tryz.prog) Tryz.results12 _ _ w.heap.size _ _ (0, 0) _ rfl HA6.out Tryz.underlying24 rfl (by rw [hVs.out]; exact infoTo)) rfl ⟨by rw [HPF.out, HTT.out, HV.out], HA7.out⟩
      | false =>
        have HPF0 : Hid (prsF (p :: r) = if 4096 < (pnm p).size then (ck0, 3) else if (pnm p).size = 0 then (ck0, 4) else (r.foldl heard { ck0 with nm := noB, vl := pnm p }, 0)) := Lib.hid (by
          unfold prsF fnm fvl
          simp only [hE, Bool.false_eq_true, if_false]
          rw [show noB.size = 0 from rfl, Nat.zero_add]
          simp only [true_and])
        rw [hE] at HPr
        clear hE
        generalize pnm p = N at *
        generalize pvl p = V at *
        by_cases h1 : 4096 < N.size
        · have HPF : Hid (prsF (p :: r) = (ck0, 3)) := Lib.hid (by rw [HPF0.out, if_pos h1])
          have h1I : (4096 : Int) < 0 + (N.size : Int) := by omega
          go_wp2_with fail
          refine HPr.out.mono ?_
          rintro e w4 ⟨rfl, b4⟩
          obtain ⟨HT4, HR4, HB4⟩ := HW4.out w4 b4
          have HB34 := Lib.hid b4
          clear b4
          have HA5 : Hid ((w4.setRow w.heap.size (ckR ck0)).heap[w.heap.size]? = some (.cells (ckR ck0) 24 (0, 0))) := Lib.hid (setRow_heap w4 _ _ _ _ _ HR4.out)
          have HB5 : Hid (Below w.heap.size w (w4.setRow w.heap.size (ckR ck0))) := Lib.hid (sc_below HB4.out _ _ (Nat.le_refl _))
          obtain ⟨W5, HW5⟩ : ∃ W, Hid (w4.setRow w.heap.size (ckR ck0) = W) := ⟨_, Lib.hid rfl⟩
          rw [HW5.out] at HA5 HB5
          go_wp2_with (refine wpL_store_row rfl 24 _ _ rfl w.heap.size (ckR ck0) ?_ ?_ 24 (ckR ck0) ?_ ?_ ?_ ?_ ?_; exact rfl; exact rfl; exact HR4.out; exact infoTo; exact rfl; exact ckR_one _; rw [HW5.out])
          exact bodyPost_ret (v := .tuple #[.agg (ckR ck0), .int .i64 3]) (sc_row2 (P := Tryz.prog) Tryz.results12 _ _ w.heap.size _ _ (0, 0) _ rfl HA5.out Tryz.underlying24 rfl infoTo) rfl ⟨by rw [HPF.out], HB5.out⟩

        by_cases h2 : N.size = 0
        · have HPF : Hid (prsF (p :: r) = (ck0, 4)) := Lib.hid (by rw [HPF0.out, if_neg h1, if_pos h2])
          obtain ⟨a1, a2, rfl⟩ := str_empty h2
          clear HPF0 h1 hPN hPV
          go_wp2_with fail
          refine HPr.out.mono ?_
          rintro e w4 ⟨rfl, b4⟩
          obtain ⟨HT4, HR4, HB4⟩ := HW4.out w4 b4
          have HB34 := Lib.hid b4
          clear b4
          have HA5 : Hid ((w4.setRow w.heap.size (ckR ck0)).heap[w.heap.size]? = some (.cells (ckR ck0) 24 (0, 0))) := Lib.hid (setRow_heap w4 _ _ _ _ _ HR4.out)
          have HB5 : Hid (Below w.heap.size w (w4.setRow w.heap.size (ckR ck0))) := Lib.hid (sc_below HB4.out _ _ (Nat.le_refl _))
          obtain ⟨W5, HW5⟩ : ∃ W, Hid (w4.setRow w.heap.size (ckR ck0) = W) := ⟨_, Lib.hid rfl⟩
          rw [HW5.out] at HA5 HB5
          go_wp2_with (refine wpL_store_row rfl 24 _ _ rfl w.heap.size (ckR ck0) ?_ ?_ 24 (ckR ck0) ?_ ?_ ?_ ?_ ?_; exact rfl; exact rfl; exact HR4.out; exact infoTo; exact rfl; exact ckR_one _; rw [HW5.out])
          exact bodyPost_ret (v := .tuple #[.agg (ckR ck0), .int .i64 4]) (sc_row2 (P := Tryz.prog) Tryz.results12 _ _ w.heap.size _ _ (0, 0) _ rfl HA5.out Tryz.underlying24 rfl infoTo) rfl ⟨by rw [HPF.out], HB5.out⟩

        · have HPF : Hid (prsF (p :: r) = (r.foldl heard { ck0 with nm := noB, vl := N }, 0)) := Lib.hid (by rw [HPF0.out, if_neg h1, if_neg h2])
          obtain ⟨b1, b2, b3⟩ := str_full h2
          have h1I : ¬ (4096 : Int) < 0 + (N.size : Int) := by omega
          obtain ⟨T0, HT0⟩ : ∃ T0, Hid ({ ck0 with nm := noB, vl := N } = T0) := ⟨_, Lib.hid rfl⟩
          replace HPF : Hid (prsF (p :: r) = (r.foldl heard T0, 0)) := Lib.hid (by rw [← HT0.out]; exact HPF.out)
          clear HPF0 h1
          go_wp2_with fail
          refine HPr.out.mono ?_
          rintro e w4 ⟨rfl, b4⟩
          obtain ⟨HT4, HR4, HB4⟩ := HW4.out w4 b4
          have HB34 := Lib.hid b4
          clear b4
          have hc4 : CtAt w4 h ck0 := HT4.out
          have hc5 : CtAt (w4.setCell ⟨h, 0, none⟩ (.string ⟨#[]⟩)) h { ck0 with nm := ⟨#[]⟩ } := hc4.set 0 _ rfl
          have HC6 : Hid (CtAt ((w4.setCell ⟨h, 0, none⟩ (.string ⟨#[]⟩)).setCell ⟨h, 1, none⟩ (.string N)) h T0) := Lib.hid (by rw [← HT0.out]; exact hc5.set 1 _ rfl)
          have HK6 : Hid (Kp (Only h) w4 ((w4.setCell ⟨h, 0, none⟩ (.string ⟨#[]⟩)).setCell ⟨h, 1, none⟩ (.string N))) := Lib.hid (kp_set1 (kp_set1 (Kp.refl _ _) 0 _) 1 _)
          have c0 : w4.cell? ⟨h, 0, none⟩ = some (.string ⟨#[]⟩) := hc4.cell 0 rfl
          have f0 := hc4.free 0
          have c1 : (w4.setCell ⟨h, 0, none⟩ (.string ⟨#[]⟩)).cell? ⟨h, 1, none⟩ = some (.string ⟨#[]⟩) := hc5.cell 1 rfl
          have f1 := hc5.free 1
          clear hc4 hc5
          go_wp2
          go_loopw [10] (fun i wr => ∃ k : Nat, 1 ≤ k ∧ k ≤ n ∧ i = .int .i64 k ∧ Hid (CtAt wr h ((r.take (k - 1)).foldl heard T0)) ∧ Hid (Kp (Only h) w4 wr)) (fun i _ => n - (intOf i).toNat)
          case atStart => exact ⟨1, Nat.le_refl _, hn1, rfl, HC6, HK6⟩
          case round =>
            obtain ⟨k, hk1, hk, rfl, HCr, HK⟩ := hrel
            clear c0 f0 c1 f1
            by_cases hlt2 : k < n
            · have hkL : k - 1 < r.length := by omega
              obtain ⟨x, Hx⟩ : ∃ x, Hid (r[k - 1] = x) := ⟨_, Lib.hid rfl⟩
              have hxs : x.size ≤ 1048600 := by rw [← Hx.out]; have := hps _ (List.mem_cons_of_mem p (List.getElem_mem hkL)); omega
              have hx : wr.cell? ⟨g, k, none⟩ = some (.string x) := HX.out k x (by rw [← Hx.out, List.getElem?_cons, if_neg (by omega), List.getElem?_eq_getElem hkL]) w4 wr HB34.out HK.out
              have HP := Lib.hid (RefPair10_any x hxs wr)
              have hN1 := pnm_le x
              have hV1 := pvl_le x
              obtain ⟨T, HT1⟩ : ∃ T, Hid ((r.take (k - 1)).foldl heard T0 = T) := ⟨_, Lib.hid rfl⟩
              rw [HT1.out] at HCr
              have HF : Hid ((r.take (k + 1 - 1)).foldl heard T0 = heard T x) := Lib.hid (by
                rw [show k + 1 - 1 = (k - 1) + 1 by omega, List.take_succ_eq_append_getElem hkL, List.foldl_append, HT1.out, Hx.out]; rfl)
              have hHe : heard T x = if (pvl x).size ≤ 1024 then say T ((pnm x).data.toList.map low) (pvl x) else T := rfl
              rw [hHe] at HF
              clear hHe
              have hNs : (pnm x).size ≤ 1048600 := by omega
              have hVs : (pvl x).size ≤ 1048600 := by omega
              generalize pnm x = N2 at *
              generalize pvl x = V2 at *
              generalize eqF x = E2 at *
              clear hN1 hV1
              have hkI : (k : Int) < (n : Int) := by omega
              by_cases hv : V2.size ≤ 1024
              · rw [if_pos hv] at HF
                have hvI : (V2.size : Int) ≤ 1024 := by omega
                go_wp2_with fail
                refine HP.out.mono ?_
                rintro e w7 ⟨rfl, b7⟩
                have HSy := Lib.hid (RefSays_any h T N2 V2 hNs hVs w7 (HCr.out.below b7))
                have HB7 := Lib.hid b7
                clear b7
                go_wp2_with fail
                refine HSy.out.mono ?_
                rintro e w8 ⟨rfl, c8, k8⟩
                rw [← HF.out] at c8
                have HC8 := Lib.hid c8
                have HK8 := Lib.hid (HK.out.trans ((Kp.of_below HB7.out).trans k8))
                clear c8 k8
                go_wp2
                exact ⟨⟨k + 1, by omega, by omega, by go_num, HC8, HK8⟩, by simp [intOf]; omega⟩
              · rw [if_neg hv] at HF
                have hvI : ¬ (V2.size : Int) ≤ 1024 := by omega
                go_wp2_with fail
                refine HP.out.mono ?_
                rintro e w7 ⟨rfl, b7⟩
                have c8 := HCr.out.below b7
                rw [← HF.out] at c8
                have HC8 := Lib.hid c8
                have HK8 := Lib.hid (HK.out.trans (Kp.of_below b7))
                clear c8 b7
                go_wp2
                exact ⟨⟨k + 1, by omega, by omega, by go_num, HC8, HK8⟩, by simp [intOf]; omega⟩
            · obtain rfl : k = n := by omega
              obtain ⟨TT, HTT⟩ : ∃ TT, Hid (r.foldl heard T0 = TT) := ⟨_, Lib.hid rfl⟩
              have HCT : Hid (CtAt wr h TT) := Lib.hid (by
                have := HCr.out
                rwa [List.take_of_length_le (by omega), HTT.out] at this)
              have HA5 : Hid (wr.heap[w.heap.size]? = some (.cells (ckR ck0) 24 (0, 0))) := Lib.hid (HK.out.at HR4.out (fun e => by have : w.heap.size = h := e; omega))
              have HA6 : Hid ((wr.setRow w.heap.size (ckR TT)).heap[w.heap.size]? = some (.cells (ckR TT) 24 (0, 0))) := Lib.hid (setRow_heap wr _ _ _ _ _ HA5.out)
              have HA7 : Hid (Below w.heap.size w (wr.setRow w.heap.size (ckR TT))) := Lib.hid (sc_below (HB4.out.trans (HK.out.below (B := w.heap.size) (by have := lt_of_block HR4.out; omega) (fun k hk => by rw [show k = h from hk]; omega))) _ _ (Nat.le_refl _))
              obtain ⟨W6, HW6⟩ : ∃ W, Hid (wr.setRow w.heap.size (ckR TT) = W) := ⟨_, Lib.hid rfl⟩
              rw [HW6.out] at HA6 HA7
              obtain ⟨V, HV, hVs, hV1⟩ : ∃ V, Hid (ckR TT = V) ∧ Hid (V.size = 11) ∧ Hid (V.all (·.oneCell') = true) := ⟨_, Lib.hid rfl, Lib.hid rfl, Lib.hid (ckR_one _)⟩
              unfold CtAt at HCT
              rw [HV.out] at HA6 HCT HW6
              clear hlt2 hk
              go_wp2_with (first
                | (refine wpList_load_row rfl 24 _ rfl h ?_ 24 V (0, 0) _ ?_ Tryz.underlying24 rfl ?_ ?_; (exact rfl); (exact HCT.out); (rw [hVs.out]; exact infoTo))
                | (refine wpL_store_row rfl 24 _ _ rfl w.heap.size V ?_ ?_ 24 (ckR ck0) ?_ ?_ ?_ ?_ ?_; exact rfl; exact rfl; exact HA5.out; (rw [hVs.out]; exact infoTo); (rw [hVs.out]; rfl); exact hV1.out; rw [HW6.out]))
              exact bodyPost_ret (v := .tuple #[.agg V, .int .i64 0]) (sc_row2 (P := Tryz.prog) Tryz.results12 _ _ w.heap.size _ _ (0, 0) _ rfl HA6.out Tryz.underlying24 rfl (by rw [hVs.out]; exact infoTo)) rfl ⟨by rw [HPF.out, HTT.out, HV.out], HA7.out⟩


theorem RefParse10_any (s : ByteArray) (w : World) :
    Calls Tryz.prog 12 #[.string s] w fun e w' => e = .returned (.tuple #[.agg (ckR (prsC s).1), .int .i64 (prsC s).2]) ∧ Below w.heap.size w w' := by
  rw [prsC_eq]
  unfold prsL
  rw [lenB]
  by_cases h1 : 65536 < s.size
  · rw [if_pos h1]; exact RParse_long s w h1
  · rw [if_neg h1]
    cases h2 : s.data.toList.any ctlB with
    | true => rw [if_pos rfl]; exact RParse_ctl s w h1 h2
    | false => rw [if_neg (by decide)]; exact RParse_some s w h1 h2

end Go.Proofs.YtblofndehbagnaaGreatDoor
