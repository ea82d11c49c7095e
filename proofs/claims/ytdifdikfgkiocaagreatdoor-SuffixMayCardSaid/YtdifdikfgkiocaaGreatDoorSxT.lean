/-
  Contracts: footmanlaw01.TextsSize of some texts, TwinTexts, LeftTexts.
-/
import Derived.Test.YtdifdikfgkiocaaGreatDoorMrA
import Derived.Test.YtdifdikfgkiocaaGreatDoorMhA
import Derived.OwnWalk
import Derived.Lib.AppendZeros
import Derived.RegionTactic
namespace Go.Proofs.YtdifdikfgkiocaaGreatDoor
open Go.RowKit

/-- Texts that lie in a row. -/
structure TxAt (R : List ByteArray) (a0 : Option Addr) (b off : Nat) (w : World) : Prop where
  at0 : 0 < R.length → a0 = some ⟨b, off, none⟩
  cell : ∀ j (h : j < R.length), w.cell? ⟨b, off + j, none⟩ = some (.string R[j])
theorem TxAt.later {R : List ByteArray} {a0 : Option Addr} {b off : Nat} {w w' : World} (h : TxAt R a0 b off w) (hb : Below w.heap.size w w') : TxAt R a0 b off w' :=
  ⟨h.at0, fun j hj => (hb.cell (block_lt_of_cell (h.cell j hj))).trans (h.cell j hj)⟩

def szL (L : List ByteArray) : Nat := (L.map (·.size)).sum
theorem szL_take (L : List ByteArray) (k : Nat) (h : k < L.length) : szL (L.take (k + 1)) = szL (L.take k) + L[k].size := by
  rw [List.take_succ_eq_append_getElem h, szL, szL, List.map_append, List.sum_append]; simp
theorem szL_mem {x : ByteArray} : ∀ {L : List ByteArray}, x ∈ L → x.size ≤ szL L
  | [], h => by cases h
  | y :: L, h => by
    have e : szL (y :: L) = y.size + szL L := by simp [szL]
    rcases List.mem_cons.1 h with rfl | h
    · omega
    · have := szL_mem h; omega

set_option maxRecDepth 100000 in
set_option maxHeartbeats 1000000 in
theorem TextsSz_any (L : List ByteArray) (a0 : Option Addr) (b off cap : Nat) (w : World) (hA : 0 < L.length → a0 = some ⟨b, off, none⟩) (hc : ∀ j (h : j < L.length), w.cell? ⟨b, off + j, none⟩ = some (.string L[j])) (hn : L.length ≤ 2000) (hs : ∀ x ∈ L, x.size ≤ 140737488355328) :
    Calls Tryz.prog 23 #[.slice a0 L.length cap] w fun e w' => ∃ r : Nat, e = .returned (.int .i64 r) ∧ (r ≤ 1048576 → L.length + szL L = r) ∧ Below w.heap.size w w' := by
  have HC := Lib.hid hc; clear hc
  have HS := Lib.hid hs; clear hs
  have HAd := Lib.hid hA; clear hA
  obtain ⟨n, HN⟩ : ∃ n, Hid (L.length = n) := ⟨_, Lib.hid rfl⟩
  rw [HN.out] at hn ⊢
  go_enter Tryz.func23, Tryz.ntmps23
  go_wp2
  go_loopw [3, 4] (fun z i wr => ∃ k r : Nat, k ≤ n ∧ r ≤ n + k * 140737488355328 ∧ i = .int .i64 k ∧ z = .int .i64 r ∧ Hid (r = n + szL (L.take k)) ∧ Hid (Below w.heap.size w wr)) (fun _ i _ => n - (intOf i).toNat)
  case atStart => exact ⟨0, n, Nat.zero_le _, by omega, rfl, rfl, Lib.hid (by simp [szL]), Lib.hid (Below.refl _ _)⟩
  case round =>
    obtain ⟨k, r, hk, hr, rfl, rfl, HR, HB⟩ := hrel
    by_cases hlt : k < n
    · by_cases hbig : r ≤ 1048576
      · have hkL : k < L.length := by rw [HN.out]; exact hlt
        obtain ⟨x, Hx⟩ : ∃ x, Hid (L[k] = x) := ⟨_, Lib.hid rfl⟩
        have hxs : x.size ≤ 140737488355328 := by rw [← Hx.out]; exact HS.out _ (List.getElem_mem hkL)
        have hx : wr.cell? ⟨b, off + k, none⟩ = some (.string x) := by rw [← Hx.out]; exact (HB.out.cell (block_lt_of_cell (HC.out k hkL))).trans (HC.out k hkL)
        have ha : a0 = some ⟨b, off, none⟩ := HAd.out (by omega)
        subst ha
        have hbI : (r : Int) ≤ 1048576 := by omega
        have HR2 : Hid (r + x.size = n + szL (L.take (k + 1))) := Lib.hid (by rw [szL_take L k hkL, Hx.out, HR.out]; omega)
        go_wp2
        exact ⟨⟨k + 1, r + x.size, by omega, by omega, by go_num, by go_num, HR2, HB⟩, by simp [intOf]; omega⟩
      · have hbI : (1048576 : Int) < (r : Int) := by omega
        go_wp2
        go_ret
        exact ⟨r, rfl, fun h => by omega, HB.out⟩
    · obtain rfl : k = n := by omega
      go_wp2
      go_ret
      refine ⟨r, rfl, fun h => ?_, HB.out⟩
      have := HR.out
      rw [List.take_of_length_le (by rw [HN.out]; exact Nat.le_refl _)] at this
      omega

def spareS : ByteArray := ⟨#[115, 112, 97, 114, 101]⟩
/-- A twin: the texts, and one more behind them. -/
def TwinAt (L : List ByteArray) (g c : Nat) (w : World) : Prop := (∃ C, w.heap[g]? = some (.cells C 9 (0, 0)) ∧ (∀ j, j < L.length + 1 → C[j]? = ((L ++ [spareS]).map Value.string)[j]?)) ∧ L.length + 1 ≤ c
theorem TwinAt.cell {L : List ByteArray} {g c : Nat} {w : World} (h : TwinAt L g c w) (j : Nat) (hj : j < L.length) : w.cell? ⟨g, 0 + j, none⟩ = some (.string L[j]) := by
  obtain ⟨⟨C, hC, hj2⟩, _⟩ := h
  rw [cell_of_row _ _ _ _ _ _ hC, Nat.zero_add, hj2 j (by omega), List.getElem?_map, List.getElem?_append_left hj, List.getElem?_eq_getElem hj]; rfl
theorem TwinAt.spare {L : List ByteArray} {g c : Nat} {w : World} (h : TwinAt L g c w) : w.cell? ⟨g, L.length, none⟩ = some (.string spareS) := by
  obtain ⟨⟨C, hC, hj2⟩, _⟩ := h
  rw [cell_of_row _ _ _ _ _ _ hC, hj2 _ (by omega), List.getElem?_map, List.getElem?_append_right (Nat.le_refl _), Nat.sub_self]; rfl
theorem TwinAt.lt {L : List ByteArray} {g c : Nat} {w : World} (h : TwinAt L g c w) : g < w.heap.size := by
  obtain ⟨⟨C, hC, _⟩, _⟩ := h
  exact lt_of_block hC
theorem TwinAt.later {L : List ByteArray} {g c : Nat} {w w' : World} (h : TwinAt L g c w) (hb : Below w.heap.size w w') : TwinAt L g c w' := by
  obtain ⟨⟨C, hC, h2⟩, h3⟩ := h
  exact ⟨⟨C, (hb.block g (lt_of_block hC)).trans hC, h2⟩, h3⟩

set_option maxRecDepth 100000 in
set_option maxHeartbeats 1000000 in
theorem TwinTexts_any (L : List ByteArray) (a0 : Option Addr) (b off cap : Nat) (w : World) (hA : 0 < L.length → a0 = some ⟨b, off, none⟩) (hc : ∀ j (h : j < L.length), w.cell? ⟨b, off + j, none⟩ = some (.string L[j])) (hn : L.length ≤ 100000) :
    Calls Tryz.prog 11 #[.slice a0 L.length cap] w fun e w' => ∃ g c, e = .returned (.slice (some ⟨g, 0, none⟩) L.length c) ∧ w.heap.size ≤ g ∧ TwinAt L g c w' ∧ Below w.heap.size w w' := by
  have HC := Lib.hid hc; clear hc
  have HAd := Lib.hid hA; clear hA
  obtain ⟨n, HN⟩ : ∃ n, Hid (L.length = n) := ⟨_, Lib.hid rfl⟩
  rw [HN.out] at hn ⊢
  obtain ⟨i0, hi, hz0, hz1, hz2⟩ := info_parts rf_infoS
  have Hi := Lib.hid hi; have Hz0 := Lib.hid hz0; have Hz1 := Lib.hid hz1; have Hz2 := Lib.hid hz2
  have hb16 : i0.bytes * (n + 1) ≤ 281474976710656 := by rw [hz2]; omega
  clear hi hz0 hz1 hz2
  go_enter Tryz.func11, Tryz.ntmps11
  go_wp2_with (refine wpList_make_own _ rfl _ _ 22 rfl w.heap.size 9 i0 (.string ⟨#[]⟩) 1 Tryz.underlying22 Hi.out Hz0.out Hz1.out .i64 .i64 ((n : Int) + 1) (n + 1) rfl rfl (by omega) hb16 (by unfold maxLen; omega) (Nat.le_refl _) ?_; intro w1 hown hgrow; have HO := Lib.hid hown; have HG := Lib.hid hgrow; clear hown hgrow)
  have HB1 : Hid (Below w.heap.size w w1) := Lib.hid ((Below.refl _ _).grown HG.out (Nat.le_refl _) (fun q hq => by cases hq))
  go_loopw [3, 4] (fun v i wr => ∃ k : Nat, k ≤ n ∧ i = .int .i64 k ∧ Hid (wr.ownsRow w.heap.size 9 1 v ((L.take k).map Value.string).length ((L.take k).map Value.string)) ∧ Hid (Below w.heap.size w wr)) (fun _ i _ => n - (intOf i).toNat)
  case atStart => exact ⟨0, Nat.zero_le _, rfl, HO, HB1⟩
  case round =>
    obtain ⟨k, hk, rfl, HOw, HB⟩ := hrel
    by_cases hlt : k < n
    · have hkL : k < L.length := by rw [HN.out]; exact hlt
      obtain ⟨x, Hx⟩ : ∃ x, Hid (L[k] = x) := ⟨_, Lib.hid rfl⟩
      have hx : wr.cell? ⟨b, off + k, none⟩ = some (.string x) := by rw [← Hx.out]; exact (HB.out.cell (block_lt_of_cell (HC.out k hkL))).trans (HC.out k hkL)
      have ha : a0 = some ⟨b, off, none⟩ := HAd.out (by omega)
      subst ha
      obtain ⟨v', w2, hrun, hown, hbel⟩ := rf_appS w.heap.size _ ((L.take k).map Value.string) (.string x) wr HOw.out rfl (by rw [List.length_map, List.length_take]; omega) HB.out.size
      have HRun := Lib.hid hrun
      have HO1 : Hid (w2.ownsRow w.heap.size 9 1 v' ((L.take (k + 1)).map Value.string).length ((L.take (k + 1)).map Value.string)) := Lib.hid (by
        have : (L.take (k + 1)).map Value.string = (L.take k).map Value.string ++ [Value.string x] := by rw [List.take_succ_eq_append_getElem hkL, Hx.out]; simp
        rw [this]; exact hown)
      have HB2 := Lib.hid (HB.out.trans hbel)
      clear hrun hown hbel
      go_wp2_with (at_builtin; refine Lib.wpList_append_run _ rfl _ _ _ _ rfl _ _ rfl rfl _ _ HRun.out ?_)
      exact ⟨⟨k + 1, by omega, by go_num, HO1, HB2⟩, by simp [intOf]; omega⟩
    · obtain rfl : k = n := by omega
      obtain ⟨v', w2, hrun, hown, hbel⟩ := rf_appS w.heap.size _ ((L.take k).map Value.string) (.string spareS) wr HOw.out rfl (by rw [List.length_map, List.length_take]; omega) HB.out.size
      have hl : ((L.take k).map Value.string ++ [Value.string spareS]).length = k + 1 := by rw [List.length_append, List.length_map, List.length_take, HN.out, Nat.min_self]; rfl
      have hm : (L.take k).map Value.string ++ [Value.string spareS] = (L ++ [spareS]).map Value.string := by rw [List.take_of_length_le (by rw [HN.out]; exact Nat.le_refl _)]; simp
      rw [hl, hm] at hown
      have HB2 := Lib.hid (HB.out.trans hbel)
      have HRun := Lib.hid hrun
      rcases hown.2 with ⟨_, h⟩ | ⟨g, c, cur, rfl, hg, hgb, hcap, hrow⟩
      · omega
      · have HRes : Hid (TwinAt L g c w2) := Lib.hid ⟨⟨cur, hgb, fun j hj => by
          have := World.ownsRow.cellAt hown j (by rw [HN.out] at hj; omega)
          rw [cell_of_row _ _ _ _ _ _ hgb] at this
          exact this⟩, by rw [HN.out]; exact hcap⟩
        have HGe := Lib.hid hg
        have hcI : (k : Int) + 1 ≤ (c : Int) := by omega
        clear hrun hown hbel hl hm hg hgb hrow hcap
        go_wp2_with (at_builtin; refine Lib.wpList_append_run _ rfl _ _ _ _ rfl _ _ rfl rfl _ _ HRun.out ?_)
        go_ret
        exact ⟨g, c, rfl, HGe.out, HRes.out, HB2.out⟩

set_option maxRecDepth 100000 in
set_option maxHeartbeats 1000000 in
theorem LeftTexts_any (L : List ByteArray) (a0 : Option Addr) (b off cap g c : Nat) (w : World) (hA : 0 < L.length → a0 = some ⟨b, off, none⟩) (hc : ∀ j (h : j < L.length), w.cell? ⟨b, off + j, none⟩ = some (.string L[j])) (hn : L.length ≤ 100000) (hT : TwinAt L g c w) :
    Calls Tryz.prog 14 #[.slice (some ⟨g, 0, none⟩) L.length c, .slice a0 L.length cap] w fun e w' => e = .returned (.bool true) ∧ Below w.heap.size w w' := by
  have HC := Lib.hid hc; clear hc
  have HAd := Lib.hid hA; clear hA
  have HTw := Lib.hid hT
  have hsp := hT.spare
  have hlc := hT.2
  obtain ⟨n, HN⟩ : ∃ n, Hid (L.length = n) := ⟨_, Lib.hid rfl⟩
  rw [HN.out] at hn hsp hlc ⊢
  have hnn : ((n : Int) != (n : Int)) = false := by simp
  have hcI : (n : Int) + 1 ≤ (c : Int) := by omega
  have hcd : decide (c ≤ n) = false := decide_eq_false (by omega)
  have hse : (spareS.toList == [115, 112, 97, 114, 101]) = true := by rw [ByteArray.toList_eq]; rfl
  clear hT
  have HSp := Lib.hid hsp; clear hsp
  go_enter Tryz.func14, Tryz.ntmps14
  go_wp2
  go_loopw [5] (fun i wr => ∃ k : Nat, k ≤ n ∧ i = .int .i64 k ∧ ∃ m, wr = w.drewN m) (fun i _ => n - (intOf i).toNat)
  case atStart => exact ⟨0, Nat.zero_le _, rfl, 0, rfl⟩
  case round =>
    obtain ⟨k, hk, rfl, m, rfl⟩ := hrel
    by_cases hlt : k < n
    · have hkL : k < L.length := by rw [HN.out]; exact hlt
      have ha := HTw.out.cell k hkL
      have hb := HC.out k hkL
      have haa : a0 = some ⟨b, off, none⟩ := HAd.out (by omega)
      subst haa
      rw [Nat.zero_add] at ha
      have hne : (L[k].toList != L[k].toList) = false := by simp
      have hlt' : (k : Int) < (n : Int) := by omega
      go_wp2
      go_quiet (fail)
      go_wp2
      exact ⟨⟨k + 1, by omega, by go_num, _, rfl⟩, by simp [intOf]; omega⟩
    · obtain rfl : k = n := by omega
      have h1 := HSp.out
      go_wp2
      go_ret
      exact ⟨rfl, { os := rfl, tape := rfl, output := rfl, size := Nat.le_refl _, block := fun _ _ => rfl }⟩

/-- Texts that are no more than may be gone through. -/
def Fair (R : List ByteArray) (h : ByteArray) : Prop := R.length ≤ 2000 ∧ (∀ r ∈ R, r.size ≤ 50000) ∧ h.size ≤ 1000

end Go.Proofs.YtdifdikfgkiocaaGreatDoor
