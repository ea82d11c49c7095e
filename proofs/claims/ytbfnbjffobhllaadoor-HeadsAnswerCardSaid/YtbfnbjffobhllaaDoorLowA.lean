/-
  Contracts: moved, its closure, changed over that closure, Lower, Same.
-/
import Derived.Test.YtbfnbjffobhllaaDoorAscW
import Derived.OneCell
import Derived.Laws.IdiomStrings
import Derived.Laws.EntriesVeiled
namespace Go.Proofs.YtbfnbjffobhllaaDoor
open Go.RowKit

def low (c : UInt8) : UInt8 := if 65 ≤ c.toNat ∧ c.toNat ≤ 90 then c + 32 else c
theorem low_yes (c : UInt8) (h1 : 65 ≤ c.toNat) (h2 : c.toNat ≤ 90) : ((low c).toNat : Int) = (c.toNat : Int) - 65 + 97 := by
  rw [low, if_pos ⟨h1, h2⟩, UInt8.toNat_add]; simp; omega
theorem low_no (c : UInt8) (h : ¬ (65 ≤ c.toNat ∧ c.toNat ≤ 90)) : low c = c := by rw [low, if_neg h]

theorem cell_old {W : World} {a : Addr} {v : Value} (o : Obj) (h : W.cell? a = some v) : (W.alloc o).cell? a = some v := by
  rw [World.cell?_alloc_lt W o a (block_lt_of_cell h)]; exact h
theorem cell_new (W : World) (n : Nat) (v : Value) (t : TypeId) (hn : n = W.heap.size) : (W.alloc (.cells #[v] t)).cell? ⟨n, 0, none⟩ = some v := by
  rw [World.cell?_alloc_at _ _ _ _ hn]; rfl
theorem frozen_alloc_mark (w : World) (c : Array Value) (t : TypeId) (a i : Nat) (h : i < a) : (w.alloc (.cells c t (a, a + 1))).frozen? ⟨w.heap.size, i, none⟩ = false := by
  unfold World.frozen?
  rw [heap_alloc_new]
  simp
  omega
theorem setCell_alloc_mark (w : World) (c : Array Value) (t : TypeId) (fr : Nat × Nat) (i : Nat) (v : Value) :
    (w.alloc (.cells c t fr)).setCell ⟨w.heap.size, i, none⟩ v = w.alloc (.cells (c.setIfInBounds i v) t fr) := by
  unfold World.setCell World.alloc
  congr 1
  apply Array.ext_getElem?
  intro k
  rw [Array.getElem?_modify]
  by_cases hk : w.heap.size = k
  · subst hk
    simp
  · have hk' : k ≠ w.heap.size := fun e => hk e.symm
    simp [hk, hk', Array.getElem?_push]

/-- What the closure of moved leads to. -/
structure Led (w : World) (p q r x y : Nat) : Prop where
  hp : w.cell? ⟨p, 0, none⟩ = some (.func (.func 103) #[] #[.pointer (some ⟨x, 0, none⟩), .pointer (some ⟨y, 0, none⟩)])
  hq : w.cell? ⟨q, 0, none⟩ = some (.int .u8 65)
  hr : w.cell? ⟨r, 0, none⟩ = some (.int .u8 97)
  hx : w.cell? ⟨x, 0, none⟩ = some (.int .u8 65)
  hy : w.cell? ⟨y, 0, none⟩ = some (.int .u8 90)

theorem Led.alloc {w : World} {p q r x y : Nat} (L : Led w p q r x y) (o : Obj) : Led (w.alloc o) p q r x y :=
  ⟨cell_old o L.hp, cell_old o L.hq, cell_old o L.hr, cell_old o L.hx, cell_old o L.hy⟩
theorem Led.drew {w : World} {p q r x y : Nat} (L : Led w p q r x y) : Led w.drew p q r x y := ⟨L.hp, L.hq, L.hr, L.hx, L.hy⟩

set_option maxHeartbeats 400000 in
theorem movedC_any (c : UInt8) (p q r x y : Nat) (w : World) (L : Led w p q r x y) :
    Calls Tryd.prog 92 #[.int .u8 c.toNat, .pointer (some ⟨p, 0, none⟩), .pointer (some ⟨q, 0, none⟩), .pointer (some ⟨r, 0, none⟩)] w fun e w' => e = .returned (.int .u8 (low c).toNat) ∧ w = w' := by
  obtain ⟨hp, hq, hr, hx, hy⟩ := L
  by_cases h : 65 ≤ c.toNat ∧ c.toNat ≤ 90
  · have HL := Lib.hid (low_yes c h.1 h.2)
    have HR : Hid (inR 65 90 c.toNat = true) := inR_true.2 (by omega)
    obtain ⟨h1, h2⟩ := h
    go_enter Tryd.func92, Tryd.ntmps92
    go_wp2_with (go_at_call 103; refine (withinC_any _ 65 90 x y _ hx hy).mono ?_; rw [HR.out]; rintro e w' ⟨rfl, rfl⟩)
    go_ret
    exact ⟨ret_int HL.out.symm, rfl⟩
  · have HL := Lib.hid (low_no c h)
    have HR : Hid (inR 65 90 c.toNat = false) := inR_false.2 (by omega)
    clear h
    go_enter Tryd.func92, Tryd.ntmps92
    go_wp2_with (go_at_call 103; refine (withinC_any _ 65 90 x y _ hx hy).mono ?_; rw [HR.out]; rintro e w' ⟨rfl, rfl⟩)
    go_ret
    exact ⟨ret_int (by rw [HL.out]), rfl⟩

set_option maxHeartbeats 400000 in
theorem moved_any (w : World) :
    Calls Tryd.prog 63 #[.int .u8 65, .int .u8 90, .int .u8 97] w fun e w' => e = .returned (.func (.func 92) #[] #[.pointer (some ⟨w.heap.size + 4, 0, none⟩), .pointer (some ⟨w.heap.size, 0, none⟩), .pointer (some ⟨w.heap.size + 1, 0, none⟩)]) ∧ Below w.heap.size w w' ∧ Led w' (w.heap.size + 4) w.heap.size (w.heap.size + 1) (w.heap.size + 2) (w.heap.size + 3) ∧ w'.heap.size = w.heap.size + 5 := by
  have hmf := mkf
  go_enter Tryd.func63, Tryd.ntmps63
  go_wp2_with (go_at_call 91; refine (within_any _ _ _).mono ?_; rintro e w' ⟨rfl, rfl⟩)
  go_ret
  refine ⟨rfl, (((((Below.refl _ _).alloc (Nat.le_refl _) _).alloc (by simp) _).alloc (by simp; omega) _).alloc (by simp; omega) _).alloc (by simp; omega) _, ⟨?_, ?_, ?_, ?_, ?_⟩, by simp⟩
  · exact cell_new _ _ _ _ (by simp)
  · exact cell_old _ (cell_old _ (cell_old _ (cell_old _ (cell_new _ _ _ _ rfl))))
  · exact cell_old _ (cell_old _ (cell_old _ (cell_new _ _ _ _ (by simp))))
  · exact cell_old _ (cell_old _ (cell_new _ _ _ _ (by simp)))
  · exact cell_old _ (cell_new _ _ _ _ (by simp))

/-- The first k bytes in small letters. -/
def lowTo (s : ByteArray) (k : Nat) : ByteArray := ⟨((s.data.toList.take k).map low ++ s.data.toList.drop k).toArray⟩
theorem lowTo_size (s : ByteArray) (k : Nat) (h : k ≤ s.size) : (lowTo s k).size = s.size := by
  have : s.data.size = s.size := rfl
  simp only [lowTo, ByteArray.size, List.size_toArray, List.length_append, List.length_map, List.length_take, List.length_drop, Array.length_toList]; omega
theorem lowTo_zero (s : ByteArray) : lowTo s 0 = s := by simp [lowTo]
theorem lowTo_all (s : ByteArray) : lowTo s s.size = ⟨(s.data.toList.map low).toArray⟩ := by
  have h : s.data.toList.length = s.size := by simp
  rw [lowTo, List.take_of_length_le (by omega), List.drop_of_length_le (by omega), List.append_nil]
theorem lowTo_at (s : ByteArray) (k j : Nat) (hj : j < s.size) (hk : k ≤ s.size) : (lowTo s k).data[j]? = some (if j < k then low s[j] else s[j]) := by
  have hl : s.data.toList.length = s.size := by simp
  have hg : s.data.toList[j]? = some s[j] := by
    rw [List.getElem?_eq_getElem (by omega)]; rfl
  simp only [lowTo, List.getElem?_toArray]
  by_cases h : j < k
  · rw [List.getElem?_append_left (by simp; omega), if_pos h, List.getElem?_map, List.getElem?_take_of_lt h, hg]; rfl
  · rw [List.getElem?_append_right (by simp; omega), if_neg h, List.getElem?_drop]
    have : k + (j - ((s.data.toList.take k).map low).length) = j := by simp; omega
    rw [this, hg]
theorem lowRow_at (s : ByteArray) (k j cap : Nat) (hj : j < s.size) (hk : k ≤ s.size) : (bytesRow (lowTo s k) cap)[j]? = some (.int .u8 ((if j < k then low s[j] else s[j]).toNat : Int)) := by
  have h1 := lowTo_size s k hk
  have h2 : j < (lowTo s k).data.size := by show j < (lowTo s k).size; omega
  rw [bytesRow_at _ _ _ h2]
  have h3 := lowTo_at s k j hj hk
  rw [Array.getElem?_eq_getElem h2] at h3
  rw [Option.some.inj h3]
theorem lowRow_size (s : ByteArray) (k cap : Nat) (hk : k ≤ s.size) (hc : s.size ≤ cap) : (bytesRow (lowTo s k) cap).size = cap := by
  have h1 := lowTo_size s k hk
  have h2 : (lowTo s k).data.size = (lowTo s k).size := rfl
  simp [bytesRow, h2, h1]; omega
theorem lowRow_set (s : ByteArray) (k cap : Nat) (hk : k < s.size) (hc : s.size ≤ cap) : (bytesRow (lowTo s k) cap).setIfInBounds k (.int .u8 ((low s[k]).toNat : Int)) = bytesRow (lowTo s (k + 1)) cap := by
  apply Array.ext_getElem?
  intro j
  have hz := lowRow_size s k cap (by omega) hc
  have hz' := lowRow_size s (k + 1) cap (by omega) hc
  rw [Array.getElem?_setIfInBounds]
  by_cases e : k = j
  · subst e
    rw [if_pos rfl, if_pos (by omega), lowRow_at s (k + 1) k cap hk (by omega), if_pos (by omega)]
  · rw [if_neg e]
    by_cases hj : j < s.size
    · rw [lowRow_at s k j cap hj (by omega), lowRow_at s (k + 1) j cap hj (by omega)]
      by_cases hjk : j < k
      · rw [if_pos hjk, if_pos (by omega)]
      · rw [if_neg hjk, if_neg (by omega)]
    · have h1 := lowTo_size s k (by omega)
      have h2 := lowTo_size s (k + 1) (by omega)
      have h3 : (lowTo s k).data.size = (lowTo s k).size := rfl
      have h4 : (lowTo s (k + 1)).data.size = (lowTo s (k + 1)).size := rfl
      simp only [bytesRow, h1, h2]
      rw [Array.getElem?_append_right (by simp; omega), Array.getElem?_append_right (by simp; omega)]
      simp only [Array.size_map, h3, h4, h1, h2]

set_option maxHeartbeats 400000 in
theorem changed_any (s : ByteArray) (p q r x y : Nat) (w : World) (hs : s.size ≤ maxLen) (L : Led w p q r x y) :
    Calls Tryd.prog 62 #[.string s, .func (.func 92) #[] #[.pointer (some ⟨p, 0, none⟩), .pointer (some ⟨q, 0, none⟩), .pointer (some ⟨r, 0, none⟩)]] w fun e w' => e = .returned (.string ⟨(s.data.toList.map low).toArray⟩) ∧ Below w.heap.size w w' := by
  unfold maxLen at hs
  have hcv := fun (w : World) => run_bytes_of_string (P := Tryd.prog) w 9 24 5 s Tryd.underlying9 Tryd.underlying24 Tryd.underlying5
  have hge := grownCap_ge w s.size 0 5
  have HM : Hid ((bytesRow s (grownCap w s.size 0 5)).size = grownCap w s.size 0 5) := by
    have := lowRow_size s 0 (grownCap w s.size 0 5) (Nat.zero_le _) hge
    rw [lowTo_zero] at this
    exact Lib.hid this
  go_enter Tryd.func62, Tryd.ntmps62
  go_wp2
  clear hcv
  rw [HM.out]
  generalize grownCap w s.size 0 5 = cap at *
  go_loopw [6, 7, 12] (fun _ _ i wr => ∃ k : Nat, k ≤ s.size ∧ i = .int .i64 k ∧ wr = (w.alloc (.cells (bytesRow (lowTo s k) cap) 5 (cap, cap + 1))).drew) (fun _ _ i _ => s.size - (intOf i).toNat)
  case atStart => exact ⟨0, Nat.zero_le _, rfl, by rw [lowTo_zero]⟩
  case round =>
    obtain ⟨k, hk, rfl, rfl⟩ := hrel
    obtain ⟨R, HR⟩ : ∃ R, Hid (R = bytesRow (lowTo s k) cap) := ⟨_, rfl⟩
    rw [← HR.out]
    by_cases hlt : k < s.size
    · have hc : (w.alloc (.cells R 5 (cap, cap + 1))).cell? ⟨w.heap.size, k, none⟩ = some (.int .u8 (s[k].toNat : Int)) := by rw [World.cell?_alloc_mark, HR.out, lowRow_at s k k cap hlt hk, if_neg (by omega)]
      have hf : (w.alloc (.cells R 5 (cap, cap + 1))).frozen? ⟨w.heap.size, k, none⟩ = false := frozen_alloc_mark _ _ _ _ _ (by omega)
      have L' : Led (w.alloc (.cells R 5 (cap, cap + 1))).drew p q r x y := (L.alloc _).drew
      have HS := Lib.hid (lowRow_set s k cap hlt hge)
      go_wp2_with (go_at_call 92; refine (movedC_any _ p q r x y _ L').mono ?_; rintro e w' ⟨rfl, rfl⟩)
      refine ⟨⟨k + 1, by omega, by go_num, ?_⟩, by simp [intOf]; omega⟩
      rw [setCell_alloc_mark, HR.out, HS.out]
    · obtain rfl : k = s.size := by omega
      have hb := run_convert_bytes_back (P := Tryd.prog) (w.alloc (.cells R 5 (cap, cap + 1))).drew 24 9 5 ⟨w.heap.size, 0, none⟩ cap (s.data.toList.map low) Tryd.underlying24 Tryd.underlying5 Tryd.underlying9 (fun j hj => by
        have hj' : j < s.size := by simpa using hj
        have e : (⟨w.heap.size, 0, none⟩ : Addr).add j = ⟨w.heap.size, j, none⟩ := by unfold Addr.add; split <;> simp_all
        rw [World.cell?_drew, e, World.cell?_alloc_mark, HR.out, lowRow_at s s.size j cap hj' (Nat.le_refl _), if_pos hj']
        simp [ByteArray.getElem_eq_getElem_data])
      rw [show (s.data.toList.map low).length = s.size by simp] at hb
      go_wp2
      go_ret
      exact ⟨rfl, ((Below.refl _ _).alloc (Nat.le_refl _) _).drew⟩

end Go.Proofs.YtbfnbjffobhllaaDoor
