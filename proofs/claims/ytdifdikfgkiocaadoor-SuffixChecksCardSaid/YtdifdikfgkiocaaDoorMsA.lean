/-
  Plain words on rules: a part, a rule, the rules that fit, how many parts a suffix has, what is answered.
  Contracts: footmanlaw01.TextsSize of some texts, TwinTexts, LeftTexts.
  Contracts: suffix.isPart, isParts, isRule, Check.
  Contracts: suffix.endsWith, ruleOf, fitting: the rules that fit, one by one.
  Plain words on suffixes: whose names are whose; without rules; rules in another order.
  Contracts: suffix.isName, lastParts, Suffix, Own; great of suffix's statements.
  Plain words on rules: the document's rule is the program's; a host's last parts, told one by one.
-/
import Derived.Test.YtdifdikfgkiocaaDoorMhK
import Derived.Test.YtdifdikfgkiocaaDoorMrA
import Derived.Test.YtdifdikfgkiocaaDoorMhA
import Derived.OwnWalk
import Derived.Lib.AppendZeros
import Derived.RegionTactic
import Derived.Test.YtdifdikfgkiocaaDoorShelfC
import Derived.RangeFuncNested
import Derived.RangeFuncBound
import Derived.RangeFuncCalls
import Derived.RangeFuncLeaves
import Derived.Shelf.Abstract
import Derived.Shelf.RegionOpen
import Derived.OwnWalkIn
import Derived.TacticsInMore
import Derived.LoopNIn
import Derived.LoopIn
import Derived.RangeFuncBox
namespace Go.Proofs.YtdifdikfgkiocaaDoor
open Go.RowKit

/-- A sign of a part. -/
def sgnB (c : UInt8) : Bool := decide (0 ≤ Lib.indexByte [97, 98, 99, 100, 101, 102, 103, 104, 105, 106, 107, 108, 109, 110, 111, 112, 113, 114, 115, 116, 117, 118, 119, 120, 121, 122, 48, 49, 50, 51, 52, 53, 54, 55, 56, 57, 45] c)
theorem sgnB_eq : ∀ c : UInt8, sgnB c = (decide (48 ≤ c.toNat ∧ c.toNat ≤ 57) || decide (c.toNat = 45) || decide (97 ≤ c.toNat ∧ c.toNat ≤ 122)) := by
  have h : ∀ n : Fin 256, sgnB (UInt8.ofNat n.1) = (decide (48 ≤ (UInt8.ofNat n.1).toNat ∧ (UInt8.ofNat n.1).toNat ≤ 57) || decide ((UInt8.ofNat n.1).toNat = 45) || decide (97 ≤ (UInt8.ofNat n.1).toNat ∧ (UInt8.ofNat n.1).toNat ≤ 122)) := by decide +kernel
  intro c
  have := h ⟨c.toNat, c.toNat_lt⟩
  simpa only [UInt8.ofNat_toNat] using this
def partB (p : ByteArray) : Bool := p.data.toList.all sgnB && (decide (0 < p.size) && decide (p.size ≤ 63))
def partsB (s : ByteArray) : Bool := decide (s.size ≤ 253) && (rawB 46 s).all partB
/-- Does a rule begin with an exclamation mark? -/
def exB (s : ByteArray) : Bool := Lib.hasPrefix s.data.toList [33]
def bareS (s : ByteArray) : ByteArray := ⟨(Lib.trimPrefix s.data.toList [33]).toArray⟩
def starS (s : ByteArray) : ByteArray := ⟨(Lib.trimPrefix s.data.toList [42, 46]).toArray⟩
def pointB (s : ByteArray) : Bool := decide (0 ≤ Lib.indexByte s.data.toList 46)
def ruleB (s : ByteArray) : Bool := if exB s then partsB (bareS s) && pointB (bareS s) else partsB (starS s)
def rulesB (R : List ByteArray) : Bool := decide (R.length ≤ 1024) && R.all ruleB
/-- A rule's parts. -/
def bareL (s : ByteArray) : List ByteArray := rawB 46 (bareS s)
theorem bareS_size (s : ByteArray) : (bareS s).size ≤ s.size := by
  have h := lenB s
  show (Lib.trimPrefix s.data.toList [33]).toArray.size ≤ _
  rw [List.size_toArray, Lib.trimPrefix]
  split
  · rw [List.length_drop]; omega
  · omega
theorem starS_size (s : ByteArray) : (starS s).size ≤ s.size := by
  have h := lenB s
  show (Lib.trimPrefix s.data.toList [42, 46]).toArray.size ≤ _
  rw [List.size_toArray, Lib.trimPrefix]
  split
  · rw [List.length_drop]; omega
  · omega
theorem partB_no {p : ByteArray} {k : Nat} (h : k < p.size) (hc : sgnB p[k] = false) : partB p = false := by
  rw [partB]
  have : p.data.toList.all sgnB = false := by
    rw [← Bool.not_eq_true, List.all_eq_true]
    intro hall
    have h2 : p[k] ∈ p.data.toList := by
      have : k < p.data.toList.length := by rw [lenB]; exact h
      exact (show p.data.toList[k] = p[k] from rfl) ▸ List.getElem_mem this
    rw [hall _ h2] at hc; cases hc
  rw [this]; rfl
theorem partB_all {p : ByteArray} (h : ∀ k (hk : k < p.size), sgnB p[k] = true) : partB p = (decide (0 < p.size) && decide (p.size ≤ 63)) := by
  rw [partB]
  have : p.data.toList.all sgnB = true := by
    rw [List.all_eq_true]
    intro c hc
    obtain ⟨k, hk, rfl⟩ := List.getElem_of_mem hc
    exact h k (by rw [← lenB]; exact hk)
  rw [this]; rfl
theorem all_no {f : ByteArray → Bool} {L : List ByteArray} {k : Nat} (h : k < L.length) (hf : f L[k] = false) : L.all f = false := by
  rw [← Bool.not_eq_true, List.all_eq_true]
  intro hall
  rw [hall _ (List.getElem_mem h)] at hf; cases hf
theorem all_yes {f : ByteArray → Bool} {L : List ByteArray} (h : ∀ k (hk : k < L.length), f L[k] = true) : L.all f = true := by
  rw [List.all_eq_true]
  intro c hc
  obtain ⟨k, hk, rfl⟩ := List.getElem_of_mem hc
  exact h k hk

theorem pts_two {a : UInt8} {l : List UInt8} (h : a ∈ l) : 2 ≤ (pts a l).length := by
  obtain ⟨x, y, rfl⟩ := List.append_of_mem h
  rw [pts_append, List.length_append]
  have h1 := List.length_pos_iff.2 (pts_ne a x)
  have h2 := List.length_pos_iff.2 (pts_ne a y)
  omega
theorem pts_one {a : UInt8} {l : List UInt8} (h : a ∉ l) : pts a l = [l] := pts_none a l (fun _ hc e => h (e ▸ hc))
theorem ix_mem (a : UInt8) : ∀ l : List UInt8, 0 ≤ Lib.indexByte l a ↔ a ∈ l
  | [] => by simp [Lib.indexByte]
  | c :: l => by
    have ih := ix_mem a l
    rw [List.mem_cons, Lib.indexByte]
    by_cases h : c = a
    · subst h; simp
    · have h1 : (c == a) = false := beq_eq_false_iff_ne.2 h
      rw [h1]
      by_cases h2 : Lib.indexByte l a = -1
      · rw [h2] at ih ⊢
        simp only [Bool.false_eq_true, if_false]
        constructor
        · intro h3; simp at h3
        · rintro (h3 | h3)
          · exact absurd h3.symm h
          · have := ih.2 h3; omega
      · have h4 : (Lib.indexByte l a == -1) = false := beq_eq_false_iff_ne.2 h2
        simp only [h4, Bool.false_eq_true, if_false]
        constructor
        · intro h3
          exact .inr (ih.1 (by have := Lib.indexByte_ge l a; omega))
        · rintro (h3 | h3)
          · exact absurd h3.symm h
          · have := ih.2 h3; omega
theorem raw_two (s : ByteArray) : 2 ≤ (rawB 46 s).length ↔ pointB s = true := by
  rw [rawB_eq, List.length_map, pointB, decide_eq_true_eq, ix_mem]
  constructor
  · intro h
    by_cases hm : 46 ∈ s.data.toList
    · exact hm
    · rw [pts_one hm] at h; simp at h
  · exact pts_two
end Go.Proofs.YtdifdikfgkiocaaDoor
namespace Go.Proofs.YtdifdikfgkiocaaDoor
open Go.RowKit

/-- Texts that lie in a row. -/
structure TxAt (R : List ByteArray) (a0 : Option Addr) (b off : Nat) (w : World) : Prop where
  at0 : 0 < R.length → a0 = some ⟨b, off, none⟩
  cell : ∀ j (h : j < R.length), w.cell? ⟨b, off + j, none⟩ = some (.string R[j])
theorem TxAt.later {R : List ByteArray} {a0 : Option Addr} {b off : Nat} {w w' : World} (h : TxAt R a0 b off w) (hb : Below w.heap.size w w') : TxAt R a0 b off w' :=
  ⟨h.at0, fun j hj => (hb.cell (block_lt_of_cell (h.cell j hj))).trans (h.cell j hj)⟩

def szL (L : List ByteArray) : Nat := (L.map (·.size)).sum
theorem szL_take (L : List ByteArray) (k : Nat) (h : k < L.length) : szL (L.take (k + 1)) = szL (L.take k) + L[k].size := by
  rw [List.take_succ_eq_append_getElem h, szL, szL, List.map_append, List.sum_append]; simp
theorem szL_mem {x : ByteArray} : ∀ {L : List ByteArray}, x ∈ L → x.size ≤ szL L
  | [], h => by cases h
  | y :: L, h => by
    have e : szL (y :: L) = y.size + szL L := by simp [szL]
    rcases List.mem_cons.1 h with rfl | h
    · omega
    · have := szL_mem h; omega

set_option maxRecDepth 100000 in
set_option maxHeartbeats 1000000 in
theorem TextsSz_any (L : List ByteArray) (a0 : Option Addr) (b off cap : Nat) (w : World) (hA : 0 < L.length → a0 = some ⟨b, off, none⟩) (hc : ∀ j (h : j < L.length), w.cell? ⟨b, off + j, none⟩ = some (.string L[j])) (hn : L.length ≤ 2000) (hs : ∀ x ∈ L, x.size ≤ 140737488355328) :
    Calls Tryd.prog 9 #[.slice a0 L.length cap] w fun e w' => ∃ r : Nat, e = .returned (.int .i64 r) ∧ (r ≤ 1048576 → L.length + szL L = r) ∧ Below w.heap.size w w' := by
  have HC := Lib.hid hc; clear hc
  have HS := Lib.hid hs; clear hs
  have HAd := Lib.hid hA; clear hA
  obtain ⟨n, HN⟩ : ∃ n, Hid (L.length = n) := ⟨_, Lib.hid rfl⟩
  rw [HN.out] at hn ⊢
  go_enter Tryd.func9, Tryd.ntmps9
  go_wp2
  go_loopw [3, 4] (fun z i wr => ∃ k r : Nat, k ≤ n ∧ r ≤ n + k * 140737488355328 ∧ i = .int .i64 k ∧ z = .int .i64 r ∧ Hid (r = n + szL (L.take k)) ∧ Hid (Below w.heap.size w wr)) (fun _ i _ => n - (intOf i).toNat)
  case atStart => exact ⟨0, n, Nat.zero_le _, by omega, rfl, rfl, Lib.hid (by simp [szL]), Lib.hid (Below.refl _ _)⟩
  case round =>
    obtain ⟨k, r, hk, hr, rfl, rfl, HR, HB⟩ := hrel
    by_cases hlt : k < n
    · by_cases hbig : r ≤ 1048576
      · have hkL : k < L.length := by rw [HN.out]; exact hlt
        obtain ⟨x, Hx⟩ : ∃ x, Hid (L[k] = x) := ⟨_, Lib.hid rfl⟩
        have hxs : x.size ≤ 140737488355328 := by rw [← Hx.out]; exact HS.out _ (List.getElem_mem hkL)
        have hx : wr.cell? ⟨b, off + k, none⟩ = some (.string x) := by rw [← Hx.out]; exact (HB.out.cell (block_lt_of_cell (HC.out k hkL))).trans (HC.out k hkL)
        have ha : a0 = some ⟨b, off, none⟩ := HAd.out (by omega)
        subst ha
        have hbI : (r : Int) ≤ 1048576 := by omega
        have HR2 : Hid (r + x.size = n + szL (L.take (k + 1))) := Lib.hid (by rw [szL_take L k hkL, Hx.out, HR.out]; omega)
        go_wp2
        exact ⟨⟨k + 1, r + x.size, by omega, by omega, by go_num, by go_num, HR2, HB⟩, by simp [intOf]; omega⟩
      · have hbI : (1048576 : Int) < (r : Int) := by omega
        go_wp2
        go_ret
        exact ⟨r, rfl, fun h => by omega, HB.out⟩
    · obtain rfl : k = n := by omega
      go_wp2
      go_ret
      refine ⟨r, rfl, fun h => ?_, HB.out⟩
      have := HR.out
      rw [List.take_of_length_le (by rw [HN.out]; exact Nat.le_refl _)] at this
      omega

def spareS : ByteArray := ⟨#[115, 112, 97, 114, 101]⟩
/-- A twin: the texts, and one more behind them. -/
def TwinAt (L : List ByteArray) (g c : Nat) (w : World) : Prop := (∃ C, w.heap[g]? = some (.cells C 9 (0, 0)) ∧ (∀ j, j < L.length + 1 → C[j]? = ((L ++ [spareS]).map Value.string)[j]?)) ∧ L.length + 1 ≤ c
theorem TwinAt.cell {L : List ByteArray} {g c : Nat} {w : World} (h : TwinAt L g c w) (j : Nat) (hj : j < L.length) : w.cell? ⟨g, 0 + j, none⟩ = some (.string L[j]) := by
  obtain ⟨⟨C, hC, hj2⟩, _⟩ := h
  rw [cell_of_row _ _ _ _ _ _ hC, Nat.zero_add, hj2 j (by omega), List.getElem?_map, List.getElem?_append_left hj, List.getElem?_eq_getElem hj]; rfl
theorem TwinAt.spare {L : List ByteArray} {g c : Nat} {w : World} (h : TwinAt L g c w) : w.cell? ⟨g, L.length, none⟩ = some (.string spareS) := by
  obtain ⟨⟨C, hC, hj2⟩, _⟩ := h
  rw [cell_of_row _ _ _ _ _ _ hC, hj2 _ (by omega), List.getElem?_map, List.getElem?_append_right (Nat.le_refl _), Nat.sub_self]; rfl
theorem TwinAt.lt {L : List ByteArray} {g c : Nat} {w : World} (h : TwinAt L g c w) : g < w.heap.size := by
  obtain ⟨⟨C, hC, _⟩, _⟩ := h
  exact lt_of_block hC
theorem TwinAt.later {L : List ByteArray} {g c : Nat} {w w' : World} (h : TwinAt L g c w) (hb : Below w.heap.size w w') : TwinAt L g c w' := by
  obtain ⟨⟨C, hC, h2⟩, h3⟩ := h
  exact ⟨⟨C, (hb.block g (lt_of_block hC)).trans hC, h2⟩, h3⟩

set_option maxRecDepth 100000 in
set_option maxHeartbeats 1000000 in
theorem TwinTexts_any (L : List ByteArray) (a0 : Option Addr) (b off cap : Nat) (w : World) (hA : 0 < L.length → a0 = some ⟨b, off, none⟩) (hc : ∀ j (h : j < L.length), w.cell? ⟨b, off + j, none⟩ = some (.string L[j])) (hn : L.length ≤ 100000) :
    Calls Tryd.prog 5 #[.slice a0 L.length cap] w fun e w' => ∃ g c, e = .returned (.slice (some ⟨g, 0, none⟩) L.length c) ∧ w.heap.size ≤ g ∧ TwinAt L g c w' ∧ Below w.heap.size w w' := by
  have HC := Lib.hid hc; clear hc
  have HAd := Lib.hid hA; clear hA
  obtain ⟨n, HN⟩ : ∃ n, Hid (L.length = n) := ⟨_, Lib.hid rfl⟩
  rw [HN.out] at hn ⊢
  obtain ⟨i0, hi, hz0, hz1, hz2⟩ := info_parts rf_infoS
  have Hi := Lib.hid hi; have Hz0 := Lib.hid hz0; have Hz1 := Lib.hid hz1; have Hz2 := Lib.hid hz2
  have hb16 : i0.bytes * (n + 1) ≤ 281474976710656 := by rw [hz2]; omega
  clear hi hz0 hz1 hz2
  go_enter Tryd.func5, Tryd.ntmps5
  go_wp2_with (refine wpList_make_own _ rfl _ _ 22 rfl w.heap.size 9 i0 (.string ⟨#[]⟩) 1 Tryd.underlying22 Hi.out Hz0.out Hz1.out .i64 .i64 ((n : Int) + 1) (n + 1) rfl rfl (by omega) hb16 (by unfold maxLen; omega) (Nat.le_refl _) ?_; intro w1 hown hgrow; have HO := Lib.hid hown; have HG := Lib.hid hgrow; clear hown hgrow)
  have HB1 : Hid (Below w.heap.size w w1) := Lib.hid ((Below.refl _ _).grown HG.out (Nat.le_refl _) (fun q hq => by cases hq))
  go_loopw [3, 4] (fun v i wr => ∃ k : Nat, k ≤ n ∧ i = .int .i64 k ∧ Hid (wr.ownsRow w.heap.size 9 1 v ((L.take k).map Value.string).length ((L.take k).map Value.string)) ∧ Hid (Below w.heap.size w wr)) (fun _ i _ => n - (intOf i).toNat)
  case atStart => exact ⟨0, Nat.zero_le _, rfl, HO, HB1⟩
  case round =>
    obtain ⟨k, hk, rfl, HOw, HB⟩ := hrel
    by_cases hlt : k < n
    · have hkL : k < L.length := by rw [HN.out]; exact hlt
      obtain ⟨x, Hx⟩ : ∃ x, Hid (L[k] = x) := ⟨_, Lib.hid rfl⟩
      have hx : wr.cell? ⟨b, off + k, none⟩ = some (.string x) := by rw [← Hx.out]; exact (HB.out.cell (block_lt_of_cell (HC.out k hkL))).trans (HC.out k hkL)
      have ha : a0 = some ⟨b, off, none⟩ := HAd.out (by omega)
      subst ha
      obtain ⟨v', w2, hrun, hown, hbel⟩ := rf_appS w.heap.size _ ((L.take k).map Value.string) (.string x) wr HOw.out rfl (by rw [List.length_map, List.length_take]; omega) HB.out.size
      have HRun := Lib.hid hrun
      have HO1 : Hid (w2.ownsRow w.heap.size 9 1 v' ((L.take (k + 1)).map Value.string).length ((L.take (k + 1)).map Value.string)) := Lib.hid (by
        have : (L.take (k + 1)).map Value.string = (L.take k).map Value.string ++ [Value.string x] := by rw [List.take_succ_eq_append_getElem hkL, Hx.out]; simp
        rw [this]; exact hown)
      have HB2 := Lib.hid (HB.out.trans hbel)
      clear hrun hown hbel
      go_wp2_with (at_builtin; refine Lib.wpList_append_run _ rfl _ _ _ _ rfl _ _ rfl rfl _ _ HRun.out ?_)
      exact ⟨⟨k + 1, by omega, by go_num, HO1, HB2⟩, by simp [intOf]; omega⟩
    · obtain rfl : k = n := by omega
      obtain ⟨v', w2, hrun, hown, hbel⟩ := rf_appS w.heap.size _ ((L.take k).map Value.string) (.string spareS) wr HOw.out rfl (by rw [List.length_map, List.length_take]; omega) HB.out.size
      have hl : ((L.take k).map Value.string ++ [Value.string spareS]).length = k + 1 := by rw [List.length_append, List.length_map, List.length_take, HN.out, Nat.min_self]; rfl
      have hm : (L.take k).map Value.string ++ [Value.string spareS] = (L ++ [spareS]).map Value.string := by rw [List.take_of_length_le (by rw [HN.out]; exact Nat.le_refl _)]; simp
      rw [hl, hm] at hown
      have HB2 := Lib.hid (HB.out.trans hbel)
      have HRun := Lib.hid hrun
      rcases hown.2 with ⟨_, h⟩ | ⟨g, c, cur, rfl, hg, hgb, hcap, hrow⟩
      · omega
      · have HRes : Hid (TwinAt L g c w2) := Lib.hid ⟨⟨cur, hgb, fun j hj => by
          have := World.ownsRow.cellAt hown j (by rw [HN.out] at hj; omega)
          rw [cell_of_row _ _ _ _ _ _ hgb] at this
          exact this⟩, by rw [HN.out]; exact hcap⟩
        have HGe := Lib.hid hg
        have hcI : (k : Int) + 1 ≤ (c : Int) := by omega
        clear hrun hown hbel hl hm hg hgb hrow hcap
        go_wp2_with (at_builtin; refine Lib.wpList_append_run _ rfl _ _ _ _ rfl _ _ rfl rfl _ _ HRun.out ?_)
        go_ret
        exact ⟨g, c, rfl, HGe.out, HRes.out, HB2.out⟩

set_option maxRecDepth 100000 in
set_option maxHeartbeats 1000000 in
theorem LeftTexts_any (L : List ByteArray) (a0 : Option Addr) (b off cap g c : Nat) (w : World) (hA : 0 < L.length → a0 = some ⟨b, off, none⟩) (hc : ∀ j (h : j < L.length), w.cell? ⟨b, off + j, none⟩ = some (.string L[j])) (hn : L.length ≤ 100000) (hT : TwinAt L g c w) :
    Calls Tryd.prog 8 #[.slice (some ⟨g, 0, none⟩) L.length c, .slice a0 L.length cap] w fun e w' => e = .returned (.bool true) ∧ Below w.heap.size w w' := by
  have HC := Lib.hid hc; clear hc
  have HAd := Lib.hid hA; clear hA
  have HTw := Lib.hid hT
  have hsp := hT.spare
  have hlc := hT.2
  obtain ⟨n, HN⟩ : ∃ n, Hid (L.length = n) := ⟨_, Lib.hid rfl⟩
  rw [HN.out] at hn hsp hlc ⊢
  have hnn : ((n : Int) != (n : Int)) = false := by simp
  have hcI : (n : Int) + 1 ≤ (c : Int) := by omega
  have hcd : decide (c ≤ n) = false := decide_eq_false (by omega)
  have hse : (spareS.toList == [115, 112, 97, 114, 101]) = true := by rw [ByteArray.toList_eq]; rfl
  clear hT
  have HSp := Lib.hid hsp; clear hsp
  go_enter Tryd.func8, Tryd.ntmps8
  go_wp2
  go_loopw [5] (fun i wr => ∃ k : Nat, k ≤ n ∧ i = .int .i64 k ∧ ∃ m, wr = w.drewN m) (fun i _ => n - (intOf i).toNat)
  case atStart => exact ⟨0, Nat.zero_le _, rfl, 0, rfl⟩
  case round =>
    obtain ⟨k, hk, rfl, m, rfl⟩ := hrel
    by_cases hlt : k < n
    · have hkL : k < L.length := by rw [HN.out]; exact hlt
      have ha := HTw.out.cell k hkL
      have hb := HC.out k hkL
      have haa : a0 = some ⟨b, off, none⟩ := HAd.out (by omega)
      subst haa
      rw [Nat.zero_add] at ha
      have hne : (L[k].toList != L[k].toList) = false := by simp
      have hlt' : (k : Int) < (n : Int) := by omega
      go_wp2
      go_quiet (fail)
      go_wp2
      exact ⟨⟨k + 1, by omega, by go_num, _, rfl⟩, by simp [intOf]; omega⟩
    · obtain rfl : k = n := by omega
      have h1 := HSp.out
      go_wp2
      go_ret
      exact ⟨rfl, { os := rfl, tape := rfl, output := rfl, size := Nat.le_refl _, block := fun _ _ => rfl }⟩

/-- Texts that are no more than may be gone through. -/
def Fair (R : List ByteArray) (h : ByteArray) : Prop := R.length ≤ 2000 ∧ (∀ r ∈ R, r.size ≤ 50000) ∧ h.size ≤ 1000

end Go.Proofs.YtdifdikfgkiocaaDoor
namespace Go.Proofs.YtdifdikfgkiocaaDoor
open Go.RowKit

set_option maxRecDepth 100000 in
set_option maxHeartbeats 1000000 in
theorem isPart_any (p : ByteArray) (w : World) (hp : p.size ≤ 9000000) :
    Calls Tryd.prog 21 #[.string p] w fun e w' => e = .returned (.bool (partB p)) ∧ w = w' := by
  have CI : Hid (∀ (c : UInt8) w, Calls Tryd.prog 28 #[.string ⟨#[97, 98, 99, 100, 101, 102, 103, 104, 105, 106, 107, 108, 109, 110, 111, 112, 113, 114, 115, 116, 117, 118, 119, 120, 121, 122, 48, 49, 50, 51, 52, 53, 54, 55, 56, 57, 45]⟩, .int .u8 (c.toNat : Int)] w fun e w' => ∃ j : Int, e = .returned (.int .i64 j) ∧ sgnB c = decide (0 ≤ j) ∧ w = w') := Lib.hid (fun c w => by
    have := Tryd.strings_IndexByte ⟨#[97, 98, 99, 100, 101, 102, 103, 104, 105, 106, 107, 108, 109, 110, 111, 112, 113, 114, 115, 116, 117, 118, 119, 120, 121, 122, 48, 49, 50, 51, 52, 53, 54, 55, 56, 57, 45]⟩ (c.toNat : Int) w
    rw [show (c.toNat : Int).toNat.toUInt8 = c by simp] at this
    exact this.mono fun e w' ⟨h1, h2⟩ => ⟨_, h1, rfl, h2.symm⟩)
  go_enter Tryd.func21, Tryd.ntmps21
  go_wp2
  go_loop [3, 6] (fun _ i => ∃ k : Nat, k ≤ p.size ∧ i = .int .i64 k ∧ Hid (∀ j (h : j < p.size), j < k → sgnB p[j] = true)) (fun _ i => p.size - (intOf i).toNat)
  case atStart => exact ⟨0, Nat.zero_le _, rfl, Lib.hid (fun _ _ h => absurd h (Nat.not_lt_zero _))⟩
  case round =>
    obtain ⟨k, hk, rfl, HOk⟩ := hrel
    by_cases hlt : k < p.size
    · go_wp2_with fail
      refine (CI.out p[k] _).mono ?_
      rintro e w1 ⟨j, rfl, hj, rfl⟩
      by_cases h0 : j < 0
      · have HR : Hid (partB p = false) := Lib.hid (partB_no hlt (by rw [hj, decide_eq_false (by omega)]))
        clear hj
        go_wp2
        go_ret
        exact ⟨ret_bool (by rw [HR.out]), rfl⟩
      · have h1 : 0 ≤ j := by omega
        have HS : Hid (sgnB p[k] = true) := Lib.hid (by rw [hj, decide_eq_true h1])
        clear hj h0
        go_wp2
        go_round
        case rel => exact ⟨k + 1, by omega, by go_num, Lib.hid (fun j hj hjk => by
          by_cases e : j = k
          · subst e; exact HS.out
          · exact HOk.out j hj (by omega))⟩
        case measure => simp [intOf]; omega
    · have HR : Hid (partB p = (decide (0 < p.size) && decide (p.size ≤ 63))) := Lib.hid (partB_all (fun j hj => HOk.out j hj (by omega)))
      clear HOk
      by_cases h1 : 0 < p.size
      · by_cases h2 : p.size ≤ 63
        · have HR2 : Hid (partB p = true) := Lib.hid (by rw [HR.out, decide_eq_true h1, decide_eq_true h2]; rfl)
          have d1 : (0 : Int) < (p.size : Int) := by omega
          have d2 : (p.size : Int) ≤ 63 := by omega
          clear HR
          go_wp2
          go_ret
          exact ⟨ret_bool (by rw [HR2.out]), rfl⟩
        · have HR2 : Hid (partB p = false) := Lib.hid (by rw [HR.out, decide_eq_false h2, Bool.and_false])
          have d1 : (0 : Int) < (p.size : Int) := by omega
          have d2 : (63 : Int) < (p.size : Int) := by omega
          clear HR
          go_wp2
          go_ret
          exact ⟨ret_bool (by rw [HR2.out]; first | rfl | exact decide_eq_false (by omega)), rfl⟩
      · have HR2 : Hid (partB p = false) := Lib.hid (by rw [HR.out, decide_eq_false h1, Bool.false_and])
        have d1 : (p.size : Int) ≤ 0 := by omega
        clear HR
        go_wp2
        go_ret
        exact ⟨ret_bool (by rw [HR2.out]), rfl⟩

set_option maxRecDepth 100000 in
set_option maxHeartbeats 1000000 in
theorem isParts_any (s : ByteArray) (m : Int) (w : World) (hs : s.size ≤ 1000000) (hm : w.cell? ⟨0, 0, none⟩ = some (.int .i64 m)) :
    Calls Tryd.prog 13 #[.string s] w fun e w' => e = .returned (.bool (partsB s)) ∧ Below w.heap.size w w' := by
  have HM := Lib.hid hm; clear hm
  by_cases hbig : 253 < s.size
  · have HR : Hid (partsB s = false) := Lib.hid (by rw [partsB, decide_eq_false (by omega), Bool.false_and])
    have hI : (253 : Int) < (s.size : Int) := by omega
    go_enter Tryd.func13, Tryd.ntmps13
    go_wp2
    go_ret
    exact ⟨ret_bool (by rw [HR.out]), Below.refl _ _⟩
  have hI : (s.size : Int) ≤ 253 := by omega
  obtain ⟨P, HP⟩ : ∃ P, Hid (rawB 46 s = P) := ⟨_, Lib.hid rfl⟩
  have HR : Hid (partsB s = P.all partB) := Lib.hid (by rw [partsB, decide_eq_true (by omega), Bool.true_and, HP.out])
  obtain ⟨n, HN⟩ : ∃ n, Hid (P.length = n) := ⟨_, Lib.hid rfl⟩
  have hn : n ≤ 254 := by rw [← HN.out, ← HP.out]; have := rawB_count 46 s; omega
  have HPs : Hid (∀ p ∈ P, p.size ≤ 253) := Lib.hid (fun p hp => by rw [← HP.out] at hp; have := (rawB_mem 46 s p hp).1; omega)
  have HS : Hid (Calls Tryd.prog 20 #[.string s, .string ⟨#[46]⟩] w fun e w' => e = .returned (.slice (some ⟨w.heap.size, 0, none⟩) n n) ∧ w.alloc (.cells (P.map Value.string).toArray 9) = w') := Lib.hid (by
    have := Tryd.strings_Split s ⟨#[46]⟩ m w (by omega) HM.out (Nat.le_refl 1)
    rw [show Lib.splitB ⟨#[46]⟩ 0 (Lib.countB s ⟨#[46]⟩) s = P from HP.out, show Lib.countB s ⟨#[46]⟩ + 1 = n by rw [← rawB_len, HP.out, HN.out]] at this
    exact this.mono fun e w' ⟨h1, h2⟩ => ⟨h1, h2.symm⟩)
  have HRow : Hid ((w.alloc (.cells (P.map Value.string).toArray 9)).heap[w.heap.size]? = some (.cells (P.map Value.string).toArray 9 (0, 0))) := Lib.hid (heap_alloc_new w _)
  have HB : Hid (Below w.heap.size w (w.alloc (.cells (P.map Value.string).toArray 9))) := Lib.hid ((Below.refl _ _).alloc (Nat.le_refl _) _)
  clear hbig
  go_enter Tryd.func13, Tryd.ntmps13
  go_wp2_with fail
  refine HS.out.mono ?_
  rintro e w1 ⟨rfl, hw1⟩
  obtain ⟨W, HW⟩ : ∃ W, Hid (w.alloc (.cells (P.map Value.string).toArray 9) = W) := ⟨_, Lib.hid rfl⟩
  obtain rfl : W = w1 := HW.out.symm.trans hw1
  rw [HW.out] at HRow HB
  clear hw1
  go_wp2
  go_loop [4, 11] (fun _ i => ∃ k : Nat, k ≤ n ∧ i = .int .i64 k ∧ Hid (∀ j (h : j < P.length), j < k → partB P[j] = true)) (fun _ i => n - (intOf i).toNat)
  case atStart => exact ⟨0, Nat.zero_le _, rfl, Lib.hid (fun _ _ h => absurd h (Nat.not_lt_zero _))⟩
  case round =>
    obtain ⟨k, hk, rfl, HOk⟩ := hrel
    by_cases hlt : k < n
    · have hkP : k < P.length := by rw [HN.out]; exact hlt
      obtain ⟨p, Hp⟩ : ∃ p, Hid (P[k] = p) := ⟨_, Lib.hid rfl⟩
      have hps : p.size ≤ 253 := by rw [← Hp.out]; exact HPs.out _ (List.getElem_mem hkP)
      have hc : W.cell? ⟨w.heap.size, k, none⟩ = some (.string p) := by
        rw [cell_of_row W _ _ _ _ _ HRow.out, List.getElem?_toArray, List.getElem?_map, List.getElem?_eq_getElem hkP, Hp.out]; rfl
      obtain ⟨c, Hc⟩ : ∃ c, Hid (partB p = c) := ⟨_, Lib.hid rfl⟩
      have HCp := Lib.hid (isPart_any p)
      rw [Hc.out] at HCp
      cases c
      · have HR2 : Hid (partsB s = false) := Lib.hid (by rw [HR.out]; exact all_no hkP (by rw [Hp.out]; exact Hc.out))
        go_wp2_with fail
        refine (HCp.out _ (by omega)).mono ?_
        rintro e w1 ⟨rfl, rfl⟩
        go_wp2
        go_ret
        exact ⟨ret_bool (by rw [HR2.out]), HB.out⟩
      · go_wp2_with fail
        refine (HCp.out _ (by omega)).mono ?_
        rintro e w1 ⟨rfl, rfl⟩
        go_wp2
        go_round
        case rel => exact ⟨k + 1, by omega, by go_num, Lib.hid (fun j hj hjk => by
          by_cases e : j = k
          · subst e; rw [Hp.out]; exact Hc.out
          · exact HOk.out j hj (by omega))⟩
        case measure => simp [intOf]; omega
    · have HR2 : Hid (partsB s = true) := Lib.hid (by rw [HR.out]; exact all_yes (fun j hj => HOk.out j hj (by rw [HN.out] at hj; omega)))
      go_wp2
      go_ret
      exact ⟨ret_bool (by rw [HR2.out]), HB.out⟩

set_option maxRecDepth 100000 in
set_option maxHeartbeats 1000000 in
theorem isRule_any (s : ByteArray) (m : Int) (w : World) (hs : s.size ≤ 1000000) (hm : w.cell? ⟨0, 0, none⟩ = some (.int .i64 m)) :
    Calls Tryd.prog 10 #[.string s] w fun e w' => e = .returned (.bool (ruleB s)) ∧ Below w.heap.size w w' := by
  have HM := Lib.hid hm; clear hm
  obtain ⟨x, Hx⟩ : ∃ x, Hid (exB s = x) := ⟨_, Lib.hid rfl⟩
  obtain ⟨D, HD⟩ : ∃ D, Hid (bareS s = D) := ⟨_, Lib.hid rfl⟩
  obtain ⟨T, HT⟩ : ∃ T, Hid (starS s = T) := ⟨_, Lib.hid rfl⟩
  have hDs : D.size ≤ 1000000 := by rw [← HD.out]; have := bareS_size s; omega
  have hTs : T.size ≤ 1000000 := by rw [← HT.out]; have := starS_size s; omega
  have HC : Hid (∀ w, Calls Tryd.prog 12 #[.string s, .string ⟨#[33]⟩] w fun e w' => e = .returned (.tuple #[.string D, .bool x]) ∧ w = w') := Lib.hid (fun w => by
    have := Tryd.strings_CutPrefix s ⟨#[33]⟩ w
    rw [show Lib.hasPrefix s.data.toList (⟨#[33]⟩ : ByteArray).data.toList = x from Hx.out, show (⟨(Lib.trimPrefix s.data.toList (⟨#[33]⟩ : ByteArray).data.toList).toArray⟩ : ByteArray) = D from HD.out] at this
    exact this.mono fun e w' ⟨h1, h2⟩ => ⟨h1, h2.symm⟩)
  have HTp : Hid (∀ w, Calls Tryd.prog 15 #[.string s, .string ⟨#[42, 46]⟩] w fun e w' => e = .returned (.string T) ∧ w = w') := Lib.hid (fun w => by
    have := Tryd.strings_TrimPrefix s ⟨#[42, 46]⟩ w
    rw [show (⟨(Lib.trimPrefix s.data.toList (⟨#[42, 46]⟩ : ByteArray).data.toList).toArray⟩ : ByteArray) = T from HT.out] at this
    exact this.mono fun e w' ⟨h1, h2⟩ => ⟨h1, h2.symm⟩)
  have HCo : Hid (∀ w, Calls Tryd.prog 14 #[.string D, .string ⟨#[46]⟩] w fun e w' => e = .returned (.bool (pointB D)) ∧ w = w') := Lib.hid (fun w =>
    (Tryd.strings_Contains_one D 46 w).mono fun e w' ⟨h1, h2⟩ => ⟨h1, h2.symm⟩)
  have HR : Hid (ruleB s = if x then partsB D && pointB D else partsB T) := Lib.hid (by rw [ruleB, Hx.out, HD.out, HT.out])
  cases x
  · have HR2 : Hid (ruleB s = partsB T) := Lib.hid HR.out
    go_enter Tryd.func10, Tryd.ntmps10
    go_wp2_with fail
    refine (HC.out _).mono ?_
    rintro e w1 ⟨rfl, rfl⟩
    go_wp2_with fail
    refine (HTp.out _).mono ?_
    rintro e w1 ⟨rfl, rfl⟩
    go_wp2_with fail
    refine (isParts_any T m _ hTs HM.out).mono ?_
    rintro e w1 ⟨rfl, b1⟩
    have B1 := Lib.hid b1; clear b1
    go_wp2
    go_ret
    exact ⟨ret_bool (by rw [HR2.out]), B1.out⟩
  · have HR2 : Hid (ruleB s = (partsB D && pointB D)) := Lib.hid HR.out
    obtain ⟨y, Hy⟩ : ∃ y, Hid (partsB D = y) := ⟨_, Lib.hid rfl⟩
    have CP := Lib.hid (fun w hm => isParts_any D m w hDs hm)
    rw [Hy.out] at CP HR2
    cases y
    · go_enter Tryd.func10, Tryd.ntmps10
      go_wp2_with fail
      refine (HC.out _).mono ?_
      rintro e w1 ⟨rfl, rfl⟩
      go_wp2_with fail
      refine (CP.out _ HM.out).mono ?_
      rintro e w1 ⟨rfl, b1⟩
      have B1 := Lib.hid b1; clear b1
      go_wp2
      go_ret
      exact ⟨ret_bool (by rw [HR2.out]; rfl), B1.out⟩
    · go_enter Tryd.func10, Tryd.ntmps10
      go_wp2_with fail
      refine (HC.out _).mono ?_
      rintro e w1 ⟨rfl, rfl⟩
      go_wp2_with fail
      refine (CP.out _ HM.out).mono ?_
      rintro e w1 ⟨rfl, b1⟩
      have B1 := Lib.hid b1; clear b1
      go_wp2_with fail
      refine (HCo.out _).mono ?_
      rintro e w1 ⟨rfl, rfl⟩
      go_wp2
      go_ret
      exact ⟨ret_bool (by rw [HR2.out]; rfl), B1.out⟩

set_option maxRecDepth 100000 in
set_option maxHeartbeats 1000000 in
theorem Check_any (R : List ByteArray) (a0 : Option Addr) (b off cap : Nat) (m : Int) (w : World) (hT : TxAt R a0 b off w) (hn : R.length ≤ 2000000) (hz : ∀ r ∈ R, r.size ≤ 50000) (hm : w.cell? ⟨0, 0, none⟩ = some (.int .i64 m)) :
    Calls Tryd.prog 6 #[.slice a0 R.length cap] w fun e w' => e = .returned (.bool (rulesB R)) ∧ Below w.heap.size w w' := by
  have HM := Lib.hid hm; clear hm
  have HTx := Lib.hid hT; clear hT
  have HZ := Lib.hid hz; clear hz
  obtain ⟨n, HN⟩ : ∃ n, Hid (R.length = n) := ⟨_, Lib.hid rfl⟩
  rw [HN.out] at hn ⊢
  by_cases hbig : 1024 < n
  · have HR : Hid (rulesB R = false) := Lib.hid (by rw [rulesB, HN.out, decide_eq_false (by omega), Bool.false_and])
    have hI : (1024 : Int) < (n : Int) := by omega
    go_enter Tryd.func6, Tryd.ntmps6
    go_wp2
    go_ret
    exact ⟨ret_bool (by rw [HR.out]), Below.refl _ _⟩
  have hI : (n : Int) ≤ 1024 := by omega
  have HR : Hid (rulesB R = R.all ruleB) := Lib.hid (by rw [rulesB, HN.out, decide_eq_true (by omega), Bool.true_and])
  clear hbig
  go_enter Tryd.func6, Tryd.ntmps6
  go_wp2
  go_loopw [4, 10] (fun _ i wr => ∃ k : Nat, k ≤ n ∧ i = .int .i64 k ∧ Hid (Below w.heap.size w wr) ∧ Hid (∀ j (h : j < R.length), j < k → ruleB R[j] = true)) (fun _ i _ => n - (intOf i).toNat)
  case atStart => exact ⟨0, Nat.zero_le _, rfl, Lib.hid (Below.refl _ _), Lib.hid (fun _ _ h => absurd h (Nat.not_lt_zero _))⟩
  case round =>
    obtain ⟨k, hk, rfl, HB, HOk⟩ := hrel
    by_cases hlt : k < n
    · have hkP : k < R.length := by rw [HN.out]; exact hlt
      obtain ⟨p, Hp⟩ : ∃ p, Hid (R[k] = p) := ⟨_, Lib.hid rfl⟩
      have hps : p.size ≤ 50000 := by rw [← Hp.out]; exact HZ.out _ (List.getElem_mem hkP)
      have hc : wr.cell? ⟨b, off + k, none⟩ = some (.string p) := by rw [← Hp.out]; exact (HTx.out.later HB.out).cell k hkP
      have ha : a0 = some ⟨b, off, none⟩ := HTx.out.at0 (by omega)
      subst ha
      obtain ⟨c, Hc⟩ : ∃ c, Hid (ruleB p = c) := ⟨_, Lib.hid rfl⟩
      have HCp := Lib.hid (fun w hm => isRule_any p m w (by omega) hm)
      rw [Hc.out] at HCp
      have HMr : Hid (wr.cell? ⟨0, 0, none⟩ = some (.int .i64 m)) := Lib.hid ((HB.out.cell (block_lt_of_cell HM.out)).trans HM.out)
      cases c
      · have HR2 : Hid (rulesB R = false) := Lib.hid (by rw [HR.out]; exact all_no hkP (by rw [Hp.out]; exact Hc.out))
        go_wp2_with fail
        refine (HCp.out _ HMr.out).mono ?_
        rintro e w1 ⟨rfl, b1⟩
        have B1 : Hid (Below w.heap.size w w1) := Lib.hid (keepW HB.out b1)
        clear b1 hc
        go_wp2
        go_ret
        exact ⟨ret_bool (by rw [HR2.out]), B1.out⟩
      · go_wp2_with fail
        refine (HCp.out _ HMr.out).mono ?_
        rintro e w1 ⟨rfl, b1⟩
        have B1 : Hid (Below w.heap.size w w1) := Lib.hid (keepW HB.out b1)
        clear b1 hc
        go_wp2
        go_roundw
        case rel => exact ⟨k + 1, by omega, by go_num, B1, Lib.hid (fun j hj hjk => by
          by_cases e : j = k
          · subst e; rw [Hp.out]; exact Hc.out
          · exact HOk.out j hj (by omega))⟩
        case measure => simp [intOf]; omega
    · have HR2 : Hid (rulesB R = true) := Lib.hid (by rw [HR.out]; exact all_yes (fun j hj => HOk.out j hj (by rw [HN.out] at hj; omega)))
      go_wp2
      go_ret
      exact ⟨ret_bool (by rw [HR2.out]), HB.out⟩

end Go.Proofs.YtdifdikfgkiocaaDoor
namespace Go.Proofs.YtdifdikfgkiocaaDoor
open Go.RowKit Go.Shelf
attribute [local go_sem] Oper.semAt_some

abbrev Fit := { x : Nat × Nat × Bool // x.2.1 ≤ 60000 }
def fitR (x : Fit) : Nat × Bool := x.1.2
def NoEx (pre : List Fit) : Prop := ∀ x ∈ pre, (fitR x).2 = false
theorem NoEx.map {pre : List Fit} (h : NoEx pre) : ∀ x ∈ pre.map fitR, x.2 = false := fun x hx => by
  obtain ⟨y, hy, rfl⟩ := List.mem_map.1 hx
  exact h y hy
end Go.Proofs.YtdifdikfgkiocaaDoor
namespace Go.Proofs.YtdifdikfgkiocaaDoor
open Go.RowKit

end Go.Proofs.YtdifdikfgkiocaaDoor
namespace Go.Proofs.YtdifdikfgkiocaaDoor
open Go.RowKit

set_option maxRecDepth 100000 in
set_option maxHeartbeats 1000000 in
theorem great_any (R : List ByteArray) (a0 : Option Addr) (b off cap : Nat) (h : ByteArray) (w : World) (hT : TxAt R a0 b off w) (hn : R.length ≤ 140737488355328) (hs : ∀ x ∈ R, x.size ≤ 140737488355328) (hh : h.size ≤ 140737488355328) :
    Calls Tryd.prog 4 #[.slice a0 R.length cap, .string h] w fun e w' => ∃ g : Bool, e = .returned (.bool g) ∧ (g = false → Fair R h) ∧ Below w.heap.size w w' := by
  obtain ⟨n, HN⟩ : ∃ n, Hid (R.length = n) := ⟨_, Lib.hid rfl⟩
  by_cases hbig : 2000 < n
  · rw [HN.out] at hn ⊢
    have hI : (2000 : Int) < (n : Int) := by omega
    go_enter Tryd.func4, Tryd.ntmps4
    go_wp2
    go_ret
    exact ⟨true, rfl, fun h => (by cases h), Below.refl _ _⟩
  have hI : (n : Int) ≤ 2000 := by omega
  have CT := Lib.hid (TextsSz_any R a0 b off cap w hT.at0 hT.cell (by rw [HN.out]; omega) hs)
  rw [HN.out] at hn CT ⊢
  have HS := Lib.hid hs
  clear hs hT hbig
  go_enter Tryd.func4, Tryd.ntmps4
  go_wp2_with fail
  refine CT.out.mono ?_
  rintro e w1 ⟨r, rfl, hr, b1⟩
  have B1 := Lib.hid b1; clear b1
  by_cases h2 : 50000 < r
  · have hrI : (50000 : Int) < (r : Int) := by omega
    clear hr
    go_wp2
    go_ret
    exact ⟨true, rfl, fun h => (by cases h), B1.out⟩
  have hrI : (r : Int) ≤ 50000 := by omega
  have hsum := hr (by omega)
  have HZ : Hid (∀ x ∈ R, x.size ≤ 50000) := Lib.hid (fun x hx => by have := szL_mem hx; omega)
  clear hr hsum h2
  by_cases h3 : 1000 < h.size
  · have hsI : (1000 : Int) < (h.size : Int) := by omega
    go_wp2
    go_ret
    exact ⟨true, rfl, fun h => (by cases h), B1.out⟩
  · have hsI : (h.size : Int) ≤ 1000 := by omega
    go_wp2
    go_ret
    exact ⟨false, ret_bool (by rw [decide_eq_false (show ¬ (2000 : Int) < (n : Int) by omega), decide_eq_false (show ¬ (50000 : Int) < (r : Int) by omega), decide_eq_false (show ¬ (1000 : Int) < (h.size : Int) by omega)]; rfl), fun _ => ⟨by rw [HN.out]; omega, HZ.out, by omega⟩, B1.out⟩

end Go.Proofs.YtdifdikfgkiocaaDoor
namespace Go.Proofs.YtdifdikfgkiocaaDoor
open Go.RowKit

/-- The document's rule. -/
def mayR (s : ByteArray) : Bool :=
  if exB s then decide (2 ≤ (bareL s).length) && ((bareL s).all partB && decide (s.size - 1 ≤ 253))
  else if 1 < (rawB 46 s).length ∧ (rawB 46 s)[0]? = some ⟨#[42]⟩ then (rawB 46 s).tail.all partB && decide (s.size - 2 ≤ 253)
  else (rawB 46 s).all partB && decide (s.size ≤ 253)
theorem pts_star (t : List UInt8) : pts 46 (42 :: 46 :: t) = [42] :: pts 46 t := by
  rw [pts, if_neg (by decide), pts, if_pos rfl, ahd]
theorem star_of {s : ByteArray} (h : 1 < (rawB 46 s).length) (h0 : (rawB 46 s)[0]? = some ⟨#[42]⟩) : ∃ t, s.data.toList = 42 :: 46 :: t := by
  have hj := join_pts 46 s.data.toList
  rw [← rawB_data] at hj
  match hr : rawB 46 s with
  | [] => rw [hr] at h; simp at h
  | [x] => rw [hr] at h; simp at h
  | x :: y :: r =>
    rw [hr] at h0 hj
    have hx : x = ⟨#[42]⟩ := by simpa using h0
    subst hx
    rw [List.map_cons, List.map_cons, join_split] at hj
    exact ⟨_, hj.symm⟩
theorem mayR_eq (s : ByteArray) : mayR s = ruleB s := by
  have hl := lenB s
  rw [mayR, ruleB]
  by_cases he : exB s = true
  · rw [if_pos he, if_pos he]
    have hs : (bareS s).size = s.size - 1 := by
      show (Lib.trimPrefix s.data.toList [33]).toArray.size = _
      rw [List.size_toArray, Lib.trimPrefix, if_pos (show Lib.hasPrefix s.data.toList [33] = true from he), List.length_drop, hl]; rfl
    rw [partsB, hs]
    have h2 : decide (2 ≤ (bareL s).length) = pointB (bareS s) := by
      rw [Bool.eq_iff_iff, decide_eq_true_eq]; exact raw_two _
    rw [h2]
    show (pointB (bareS s) && ((bareL s).all partB && decide (s.size - 1 ≤ 253))) = ((decide (s.size - 1 ≤ 253) && (bareL s).all partB) && pointB (bareS s))
    rw [Bool.and_comm (decide _) _, Bool.and_comm]
  · rw [if_neg he, if_neg he]
    by_cases hst : 1 < (rawB 46 s).length ∧ (rawB 46 s)[0]? = some ⟨#[42]⟩
    · rw [if_pos hst]
      obtain ⟨t, ht⟩ := star_of hst.1 hst.2
      have hp : Lib.hasPrefix s.data.toList [42, 46] = true := by rw [ht]; rfl
      have hst2 : (starS s).data.toList = t := by
        show Lib.trimPrefix s.data.toList [42, 46] = t
        rw [Lib.trimPrefix, if_pos hp, ht]; rfl
      have hsz : (starS s).size = s.size - 2 := by
        rw [← lenB (starS s), hst2, ← hl, ht]; rfl
      have hraw : (rawB 46 s).tail = rawB 46 (starS s) := by
        rw [rawB_eq, rawB_eq, hst2, ht, pts_star]; rfl
      rw [partsB, hsz, hraw, Bool.and_comm]
    · rw [if_neg hst]
      have hp : Lib.hasPrefix s.data.toList [42, 46] = false := by
        rw [← Bool.not_eq_true]
        intro hp
        refine hst ?_
        obtain ⟨t, ht⟩ := List.isPrefixOf_iff_prefix.1 hp
        have hr : rawB 46 s = ⟨#[42]⟩ :: (pts 46 t).map asB := by
          rw [rawB_eq, ← ht]
          show List.map asB (pts 46 (42 :: 46 :: t)) = _
          rw [pts_star]; rfl
        rw [hr]
        have hne := List.length_pos_iff.2 (pts_ne 46 t)
        exact ⟨by rw [List.length_cons, List.length_map]; omega, rfl⟩
      have hs : starS s = s := by
        refine ba_of ?_
        show Lib.trimPrefix s.data.toList [42, 46] = _
        rw [Lib.trimPrefix, if_neg (by rw [hp]; simp)]
      rw [hs, partsB, Bool.and_comm]
end Go.Proofs.YtdifdikfgkiocaaDoor
