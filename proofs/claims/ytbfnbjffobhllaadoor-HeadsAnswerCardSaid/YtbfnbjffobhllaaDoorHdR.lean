/-
  Package heads, plain words: answers as they are told; lines with control bytes; values of names.
-/
import Derived.Test.YtbfnbjffobhllaaDoorHdQ
namespace Go.Proofs.YtbfnbjffobhllaaDoor
open Go.RowKit

theorem hd_low : ∀ k : Fin 256, low (low (UInt8.ofNat k.1)) = low (UInt8.ofNat k.1) := by decide +kernel
theorem hd_mapLow (n : List UInt8) : (n.map low).map low = n.map low := by
  rw [List.map_map]
  refine List.map_congr_left fun c _ => ?_
  have := hd_low ⟨c.toNat, c.toNat_lt⟩
  simp only [UInt8.ofNat_toNat] at this
  exact this
theorem find_app (A B : List Fld) (n : List UInt8) : findD (A ++ B) n = findD A n ++ findD B (n.map low) := by
  unfold findD
  rw [List.filter_append, List.map_append, hd_mapLow]
theorem find_cons (f : Fld) (F : List Fld) (n : List UInt8) : findD (f :: F) n = (if f.1.map low = n.map low then [f.2] else []) ++ findD F n := by
  unfold findD
  rw [List.filter_cons]
  by_cases h : f.1.map low = n.map low <;> simp [h]
theorem find_snoc (F : List Fld) (f : Fld) (n : List UInt8) : findD (F ++ [f]) n = findD F n ++ (if f.1.map low = n.map low then [f.2] else []) := by
  unfold findD
  rw [List.filter_append, List.map_append]
  by_cases h : f.1.map low = n.map low <;> simp [h]
theorem find_le (F : List Fld) (n : List UInt8) : (findD F n).length ≤ F.length := by
  unfold findD
  rw [List.length_map]
  exact List.length_filter_le ..
/-- Three digits. -/
def dig3 (k : Nat) : List UInt8 := [UInt8.ofNat (48 + k / 100), UInt8.ofNat (48 + k / 10 % 10), UInt8.ofNat (48 + k % 10)]
def okDig (k : Nat) : Bool := decide (numV (dig3 (k + 100)) 999 = (k : Int) + 100) && (dig3 (k + 100)).all fun c => c != 32 && c != 13 && c != 10
theorem okDig_all : ∀ k : Fin 900, okDig k.1 = true := by decide +kernel
theorem dig3_num {k : Nat} (h1 : 100 ≤ k) (h2 : k < 1000) : numV (dig3 k) 999 = (k : Int) ∧ (32 : UInt8) ∉ dig3 k ∧ (10 : UInt8) ∉ dig3 k := by
  have h := okDig_all ⟨k - 100, by omega⟩
  unfold okDig at h
  rw [Bool.and_eq_true] at h
  have e : k - 100 + 100 = k := by omega
  simp only [e] at h
  have h3 := of_decide_eq_true h.1
  refine ⟨by omega, fun hm => ?_, fun hm => ?_⟩
  · have := List.all_eq_true.1 h.2 _ hm
    simp at this
  · have := List.all_eq_true.1 h.2 _ hm
    simp at this
/-- A response's first line. -/
def ansR (v : List UInt8) (k : Nat) (w : List UInt8) : List UInt8 := v ++ [32] ++ dig3 k ++ w
def tailB (w : List UInt8) : Bool := match w with
  | [] => true
  | c :: l => (c == 32) && l.all txB
theorem ver_ok {v : List UInt8} (h : v = http0 ∨ v = http1) : (32 : UInt8) ∉ v ∧ (13 : UInt8) ∉ v ∧ (10 : UInt8) ∉ v ∧ (v = http1 ∨ v = http0) := by
  rcases h with rfl | rfl
  · exact ⟨by decide, by decide, by decide, .inr rfl⟩
  · exact ⟨by decide, by decide, by decide, .inl rfl⟩
theorem res_cut1 {v : List UInt8} (hv : v = http0 ∨ v = http1) (r : List UInt8) : Lib.cut (v ++ [32] ++ r) [32] = (v, r, true) := by
  have := cut_one 32 v r (ver_ok hv).1
  rw [List.append_assoc]; exact this
theorem res_put {v w : List UInt8} {k : Nat} (hv : v = http0 ∨ v = http1) (h1 : 100 ≤ k) (h2 : k < 1000) (hw : tailB w = true) : resD (ansR v k w) = some ([], [], (k : Int)) := by
  obtain ⟨d1, d2, d3⟩ := dig3_num h1 h2
  have c1 : Lib.cut (ansR v k w) [32] = (v, dig3 k ++ w, true) := by
    have := res_cut1 hv (dig3 k ++ w)
    unfold ansR
    rw [← List.append_assoc] at this; exact this
  unfold resD resV resG resW
  rw [c1]
  cases w with
  | nil =>
    have c2 := cut_none 32 [] (dig3 k) d2
    show (if _ ∧ (Lib.cut (dig3 k ++ []) [32]).1.length = 3 ∧ _ ∧ _ then _ else _) = _
    simp only [List.append_nil]
    rw [c2, d1, if_pos ⟨(ver_ok hv).2.2.2, rfl, rfl, by omega⟩]
  | cons c l =>
    unfold tailB at hw
    rw [Bool.and_eq_true, beq_iff_eq] at hw
    obtain ⟨rfl, hl⟩ := hw
    have c2 := cut_one 32 (dig3 k) l d2
    show (if _ ∧ (Lib.cut (dig3 k ++ 32 :: l) [32]).1.length = 3 ∧ _ ∧ _ then _ else _) = _
    simp only
    rw [c2, d1, if_pos ⟨(ver_ok hv).2.2.2, rfl, hl, by omega⟩]
/-- A whole answer. -/
def ansF (p q : List UInt8) (f : Fld) : List UInt8 := f.1 ++ [58] ++ (p ++ f.2 ++ q)
def ansT (v : List UInt8) (k : Nat) (w p q : List UInt8) (F : List Fld) : List UInt8 := joinP (ansR v k w :: F.map (ansF p q)) ++ crlf
theorem bl_clean {p : List UInt8} (hp : ∀ c ∈ p, bl c = true) : (10 : UInt8) ∉ p := fun hm => by
  rcases (bl_iff _).1 (hp _ hm) with e | e <;> cases e
theorem ans_read {v w p q : List UInt8} {k : Nat} {F : List Fld} (hv : v = http0 ∨ v = http1) (h1 : 100 ≤ k) (h2 : k < 1000) (hw : tailB w = true) (hp : ∀ c ∈ p, bl c = true) (hq : ∀ c ∈ q, bl c = true)
    (hF : ∀ f ∈ F, fldB f = true) (hn : F.length ≤ 256) (hl : (ansT v k w p q F).length ≤ 65536) : readD resD (ansT v k w p q F) = ((([], [], (k : Int)), F), ((ansT v k w p q F).length : Int), 0) := by
  obtain ⟨d1, d2, d3⟩ := dig3_num h1 h2
  have hL : HdL (ansR v k w :: F.map (ansF p q)) := by
    refine ⟨by simp, ?_, by unfold ansT at hl; rw [List.length_append] at hl; exact hl⟩
    intro l hl
    rcases List.mem_cons.1 hl with rfl | hl
    · refine ⟨noCL_10 ?_, by unfold ansR; simp⟩
      have hw10 : (10 : UInt8) ∉ w := by
        cases w with
        | nil => exact fun h => (by cases h)
        | cons c l =>
          unfold tailB at hw
          rw [Bool.and_eq_true, beq_iff_eq] at hw
          intro hm
          rcases List.mem_cons.1 hm with e | e
          · rw [hw.1] at e; cases e
          · exact (tx_mem hw.2 e).2 rfl
      unfold ansR
      simp only [List.mem_append, not_or]
      exact ⟨⟨⟨(ver_ok hv).2.2.1, by decide⟩, d3⟩, hw10⟩
    · obtain ⟨f, hf, rfl⟩ := List.mem_map.1 hl
      obtain ⟨f1, f2, f3⟩ := fld_parts (hF f hf)
      refine ⟨noCL_10 ?_, by unfold ansF; simp⟩
      unfold ansF
      simp only [List.mem_append, not_or]
      exact ⟨⟨tok_no f1 10 (.inl (by decide)), by decide⟩, ⟨bl_clean hp, fun hm => (tx_mem f2 hm).2 rfl⟩, bl_clean hq⟩
  have hr := hL.read [] resD
  rw [List.append_nil, msgD_cons, res_put hv h1 h2 hw, gath_map (ansF p q) F fun f hf => fld_line (hF f hf) hp hq] at hr
  unfold ansT
  rw [hr]
  show (if 256 < F.length then _ else _) = _
  rw [if_neg (by omega), List.length_append]
  rfl
/-- A first line that is none, a line that is no field. -/
theorem bad_read {L : List (List UInt8)} (h : HdL L) (hm : msgD resD L = none) : readD resD (joinP L ++ crlf) = (msg0, 0, 8) := by
  have := h.read [] resD
  rw [List.append_nil, hm] at this
  exact this
def ctlB (c : UInt8) : Bool := !txB c
theorem ctl_any {l : List UInt8} {c : UInt8} (h : c ∈ l) (hc : txB c = false) : l.all txB = false := by
  cases hx : l.all txB with
  | false => rfl
  | true => rw [all_mem hx h] at hc; cases hc
theorem noCL_mid {s t : List UInt8} {c : UInt8} (hs : s.all txB = true) (ht : t.all txB = true) : noCL (s ++ [c] ++ t) = true := by
  by_cases h : c = 10
  · refine noCL_13 ?_
    simp only [List.mem_append, not_or, List.mem_singleton]
    exact ⟨⟨fun hm => (tx_mem hs hm).1 rfl, by rw [h]; decide⟩, fun hm => (tx_mem ht hm).1 rfl⟩
  · refine noCL_10 ?_
    simp only [List.mem_append, not_or, List.mem_singleton]
    exact ⟨⟨fun hm => (tx_mem hs hm).2 rfl, Ne.symm h⟩, fun hm => (tx_mem ht hm).2 rfl⟩
theorem tx_app {a b : List UInt8} (ha : a.all txB = true) (hb : b.all txB = true) : (a ++ b).all txB = true := by rw [List.all_append, ha, hb]; rfl
/-- The three heads of HeadsLines. -/
def hl200 : List UInt8 := http1 ++ [32] ++ [50, 48, 48]
theorem bad_first {s t : List UInt8} {c : UInt8} (hs : s.all txB = true) (ht : t.all txB = true) (hc : txB c = false) (hl : s.length + t.length ≤ 60000) : readD resD (joinP [hl200 ++ [32] ++ s ++ [c] ++ t] ++ crlf) = (msg0, 0, 8) := by
  have ha : (hl200 ++ [32] ++ s).all txB = true := tx_app (by decide) hs
  refine bad_read ⟨by simp, ?_, ?_⟩ ?_
  · intro l hl
    rw [List.mem_singleton.1 hl]
    exact ⟨noCL_mid ha ht, by simp⟩
  · rw [joinP_cons]
    simp only [joinP_nil, List.append_nil, List.length_append, List.length_cons, List.length_nil, crlf, hl200, http1]
    omega
  · rw [msgD_cons]
    have e : hl200 ++ [32] ++ s ++ [c] ++ t = http1 ++ [32] ++ ([50, 48, 48] ++ 32 :: (s ++ [c] ++ t)) := by simp [hl200]
    have c1 := res_cut1 (v := http1) (.inr rfl) ([50, 48, 48] ++ 32 :: (s ++ [c] ++ t))
    have c2 := cut_one 32 [50, 48, 48] (s ++ [c] ++ t) (by decide)
    have : resD (hl200 ++ [32] ++ s ++ [c] ++ t) = none := by
      unfold resD resV resG resW
      rw [e, c1]
      simp only
      rw [c2, if_neg]
      intro h
      have h3 := h.2.2.1
      rw [ctl_any (c := c) (by simp) hc] at h3
      cases h3
    rw [this]; rfl
theorem res_200 : resD hl200 = some ([], [], 200) := by
  have := res_put (v := http1) (k := 200) (w := []) (.inr rfl) (by decide) (by decide) rfl
  exact this
theorem bad_line {x : List UInt8} (hx : fldD x = none) (hn : noCL x = true) (h0 : x ≠ []) (hl : x.length ≤ 60100) : readD resD (joinP [hl200, x] ++ crlf) = (msg0, 0, 8) := by
  refine bad_read ⟨by simp, ?_, ?_⟩ ?_
  · intro l hl
    rcases List.mem_cons.1 hl with rfl | hl
    · exact ⟨noCL_10 (by decide), by decide⟩
    · rw [List.mem_singleton.1 hl]; exact ⟨hn, h0⟩
  · rw [joinP_cons, joinP_cons]
    simp only [joinP_nil, List.append_nil, List.length_append, List.length_cons, List.length_nil, crlf, hl200, http1]
    omega
  · rw [msgD_cons, res_200]
    have : gath [x] [] = none := by unfold gath; rw [hx]
    rw [this]; rfl
/-- Trimming takes blanks alone away. -/
theorem cutL_mem {l : List UInt8} {c : UInt8} (h : c ∈ l) (hb : bl c = false) : c ∈ cutL l := by
  unfold cutL
  induction l with
  | nil => cases h
  | cons d l ih =>
    rw [List.dropWhile_cons]
    split
    · rename_i hd
      rcases List.mem_cons.1 h with rfl | h
      · rw [hd] at hb; cases hb
      · exact ih h
    · exact h
theorem trim_mem {l : List UInt8} {c : UInt8} (h : c ∈ l) (hb : bl c = false) : c ∈ trimL l := by
  show c ∈ cutL (cutR l)
  refine cutL_mem ?_ hb
  unfold cutR
  rw [List.mem_reverse]
  exact cutL_mem (List.mem_reverse.2 h) hb
theorem ctl_bl {c : UInt8} (h : txB c = false) : bl c = false := by
  cases hb : bl c with
  | false => rfl
  | true =>
    rcases (bl_iff c).1 hb with rfl | rfl <;> cases h
theorem bad_value {s t : List UInt8} {c : UInt8} (hs : s.all txB = true) (ht : t.all txB = true) (hc : txB c = false) (hl : s.length + t.length ≤ 60000) : readD resD (joinP [hl200, [65, 58, 32] ++ s ++ [c] ++ t ++ [33]] ++ crlf) = (msg0, 0, 8) := by
  have e : [65, 58, 32] ++ s ++ [c] ++ t ++ [33] = ([65, 58, 32] ++ s) ++ [c] ++ (t ++ [33]) := by simp
  have c1 : Lib.cut ([65, 58, 32] ++ s ++ [c] ++ t ++ [33]) [58] = ([65], [32] ++ s ++ [c] ++ t ++ [33], true) := by
    have := cut_one 58 [65] ([32] ++ s ++ [c] ++ t ++ [33]) (by decide)
    exact this
  refine bad_line ?_ ?_ (by simp) (by simp; omega)
  · unfold fldD fldV
    rw [c1, if_neg]
    intro h
    have := (fld_parts h.2).2.1
    rw [ctl_any (c := c) (trim_mem (by simp) (ctl_bl hc)) hc] at this
    cases this
  · rw [e]
    exact noCL_mid (tx_app (by decide) hs) (tx_app ht (by decide))
theorem bad_name {c : UInt8} (hc : txB c = false) : readD resD (joinP [hl200, [c] ++ [65, 58]] ++ crlf) = (msg0, 0, 8) := by
  have hn : c ≠ 58 := fun e => by rw [e] at hc; cases hc
  have c1 : Lib.cut ([c] ++ [65, 58]) [58] = ([c, 65], [], true) := by
    have := cut_one 58 [c, 65] [] (by simp [Ne.symm hn])
    exact this
  refine bad_line ?_ ?_ (by simp) (by simp)
  · unfold fldD fldV
    rw [c1, if_neg]
    intro h
    have := (fld_parts h.2).1
    have := tokS_mem this (c := c) (by simp)
    have h3 : txB c = true := tx_iff.2 (by omega)
    rw [h3] at hc; cases hc
  · exact noCL_mid (s := []) (t := [65, 58]) rfl (by decide)
/-- Bytes without an end. -/
theorem read_none {b : List UInt8} (rd : List UInt8 → Option Fst12) (h : (10 : UInt8) ∉ b) : (readD rd b).2.2 = if 65536 ≤ b.length then 3 else 7 := by
  have hx := idx_no h
  have : aheadE b = if 65536 ≤ b.length then 3 else 7 := by unfold aheadE; rw [hx, if_neg (by decide)]
  unfold readD
  rw [this]
  split <;> rfl

end Go.Proofs.YtbfnbjffobhllaaDoor
