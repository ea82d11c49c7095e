/-
  The reader of a cookie's date: its block; a number's cut; a word's cut.
-/
import Derived.Test.YtllpdnmhabpbcaaGreatDoorKp
import Derived.Test.YtllpdnmhabpbcaaGreatDoorDtI
import Derived.Test.YtllpdnmhabpbcaaGreatDoorDtB
import Derived.Test.YtllpdnmhabpbcaaGreatDoorAscA
import Derived.Laws.Pointers
namespace Go.Proofs.YtllpdnmhabpbcaaGreatDoor
open Go.RowKit

/-- What the reader holds. -/
structure DrS where
  rest : ByteArray
  t0 : Bool
  t1 : Bool
  t2 : Bool
  t3 : Bool
  h : Int
  i : Int
  s : Int
  d : Int
  m : Int
  y : Int
def DrS.cells (r : DrS) : Array Value := #[.string r.rest, .bool r.t0, .bool r.t1, .bool r.t2, .bool r.t3, .int .i64 r.h, .int .i64 r.i, .int .i64 r.s, .int .i64 r.d, .int .i64 r.m, .int .i64 r.y]
def DrAt (w : World) (b : Nat) (s : DrS) : Prop := w.heap[b]? = some (.cells s.cells 124 (0, 0))
theorem DrAt.cell {w : World} {b : Nat} {s : DrS} (h : DrAt w b s) (k : Nat) {v : Value} (hv : s.cells[k]? = some v) : w.cell? ⟨b, k, none⟩ = some v := by
  rw [cell_of_row w b k _ _ _ h]; exact hv
theorem DrAt.free {w : World} {b : Nat} {s : DrS} (h : DrAt w b s) (k : Nat) : w.frozen? ⟨b, k, none⟩ = false := frozen_of_row w b k _ _ h
theorem DrAt.lt {w : World} {b : Nat} {s : DrS} (h : DrAt w b s) : b < w.heap.size := lt_of_block h
theorem DrAt.set {w : World} {b : Nat} {s s' : DrS} (h : DrAt w b s) (k : Nat) (v : Value) (e : s.cells.setIfInBounds k v = s'.cells) : DrAt (w.setCell ⟨b, k, none⟩ v) b s' := by
  unfold DrAt at *
  rw [heap_setCell_same _ _ _ _ _ _ h, e]
theorem DrAt.below {w w' : World} {b : Nat} {s : DrS} (h : DrAt w b s) (hb : Below w.heap.size w w') : DrAt w' b s := (hb.block b h.lt).trans h
theorem Kp.set1 {b : Nat} {a w : World} (h : Kp (Only b) a w) (k : Nat) (v : Value) : Kp (Only b) a (w.setCell ⟨b, k, none⟩ v) := h.setCell (p := ⟨b, k, none⟩) rfl v

theorem ascB_bt : AscB BT := fun j h => by
  have : ∀ n : Fin 33, (BT[n.1]'(Nat.lt_of_lt_of_le n.2 (by decide))).toNat < 128 := by decide +kernel
  exact this ⟨j, h⟩
theorem ascB_dg : AscB DG := fun j h => by
  have : ∀ n : Fin 10, (DG[n.1]'(Nat.lt_of_lt_of_le n.2 (by decide))).toNat < 128 := by decide +kernel
  exact this ⟨j, h⟩
theorem IndexAny_bt (s : ByteArray) (w : World) (hs : s.size < 4294967281) :
    Calls Tryz.prog 119 #[.string s, .string BT] w fun e w' => e = .returned (.int .i64 (Lib.indexAny s.data.toList BT.data.toList)) ∧ Below w.heap.size w w' := by
  by_cases h8 : s.size ≤ 8
  · exact IndexAny_short s BT w ascB_bt (by decide) h8
  · exact IndexAny_long s BT w (by decide) (by omega) hs (by decide) ascB_bt.get
theorem TrimLeft_bt (s : ByteArray) (w : World) :
    Calls Tryz.prog 80 #[.string s, .string BT] w fun e w' => e = .returned (.string (asB (s.data.toList.dropWhile btw))) ∧ Below w.heap.size w w' := by
  have := Tryz.strings_TrimLeft_laid s BT w (by decide) ascB_bt.get
  rw [trim_bt] at this
  exact this
theorem TrimLeft_dg (s : ByteArray) (w : World) :
    Calls Tryz.prog 80 #[.string s, .string DG] w fun e w' => e = .returned (.string (asB (s.data.toList.dropWhile isD))) ∧ Below w.heap.size w w' := by
  have := Tryz.strings_TrimLeft_laid s DG w (by decide) ascB_dg.get
  rw [trim_dg] at this
  exact this

/-- What a number's cut answers. -/
def cutV (o : Option (Int × List UInt8)) : Value := match o with
  | some (n, r) => .tuple #[.int .i64 n, .string (asB r), .bool true]
  | none => .tuple #[.int .i64 0, .string ⟨#[]⟩, .bool false]
theorem take_run (s : ByteArray) : (s.extract 0 (s.data.toList.takeWhile isD).length).data.toList = s.data.toList.takeWhile isD := by
  rw [ByteArray.data_extract, Array.toList_extract, List.extract_eq_take_drop]
  simp only [List.drop_zero, Nat.sub_zero]
  exact (List.prefix_iff_eq_take.1 (List.takeWhile_prefix isD)).symm
theorem all_run (l : List UInt8) : allR 48 57 (l.takeWhile isD) = true := List.all_takeWhile (p := isD) (l := l)

set_option maxHeartbeats 1000000 in
set_option maxRecDepth 100000 in
theorem cutNumber_any (s : ByteArray) (least most : Nat) (h1 : 1 ≤ least) (h2 : most ≤ 4) (hs : s.size ≤ 1048600) (w : World) :
    Calls Tryz.prog 124 #[.string s, .int .i64 (least : Int), .int .i64 (most : Int)] w fun e w' => e = .returned (cutV (toldN least most s.data.toList)) ∧ Below w.heap.size w w' := by
  obtain ⟨k, Hk⟩ : ∃ k, Hid ((s.data.toList.takeWhile isD).length = k) := ⟨_, Lib.hid rfl⟩
  obtain ⟨r, Hr⟩ : ∃ r, Hid (s.data.toList.dropWhile isD = r) := ⟨_, Lib.hid rfl⟩
  have hsum : k + r.length = s.size := by
    rw [← Hk.out, ← Hr.out, ← List.length_append, List.takeWhile_append_dropWhile, lenB]
  have hrs : (asB r).size = r.length := rfl
  have HT := Lib.hid (fun w => TrimLeft_dg s w)
  rw [Hr.out] at HT
  have hks : (k : Int) ≤ (s.size : Int) := by omega
  have hcnt : (s.size : Int) - (r.length : Int) = (k : Int) := by omega
  by_cases hl : k < least
  · have HV : Hid (toldN least most s.data.toList = none) := Lib.hid (by unfold toldN; rw [Hk.out, if_neg (by omega)])
    have hl' : (k : Int) < (least : Int) := by omega
    rw [HV.out]
    go_enter Tryz.func124, Tryz.ntmps124
    go_wp2_with fail
    refine (HT.out _).mono ?_
    rintro e w1 ⟨rfl, bel⟩
    go_wp2
    go_ret3
    exact ⟨rfl, bel⟩
  · have hl' : ¬ (k : Int) < (least : Int) := by omega
    by_cases hm : most < k
    · have HV : Hid (toldN least most s.data.toList = none) := Lib.hid (by unfold toldN; rw [Hk.out, if_neg (by omega)])
      have hm' : (most : Int) < (k : Int) := by omega
      rw [HV.out]
      go_enter Tryz.func124, Tryz.ntmps124
      go_wp2_with fail
      refine (HT.out _).mono ?_
      rintro e w1 ⟨rfl, bel⟩
      go_wp2
      go_ret3
      exact ⟨rfl, bel⟩
    · have hm' : ¬ (most : Int) < (k : Int) := by omega
      have HV : Hid (toldN least most s.data.toList = some (num (s.data.toList.takeWhile isD), r)) := Lib.hid (by unfold toldN; rw [Hk.out, if_pos (by omega), Hr.out])
      have hex : (s.extract 0 k).data.toList = s.data.toList.takeWhile isD := by rw [← Hk.out]; exact take_run s
      have hbd := num_bd _ (all_run s.data.toList)
      rw [Hk.out] at hbd
      have h10 : (10 : Int) ^ k ≤ 10 ^ 4 := by
        have := Nat.pow_le_pow_right (show 0 < 10 by omega) (show k ≤ 4 by omega)
        exact_mod_cast this
      have hny := num_yes (s.data.toList.takeWhile isD) 9999 (by rw [Hk.out]; omega) (by rw [Hk.out]; omega) (all_run _) (by omega)
      have HN : Hid (∀ w, Calls Tryz.prog 79 #[.string (s.extract 0 k), .int .i64 9999] w fun e w' => e = .returned (.tuple #[.int .i64 (num (s.data.toList.takeWhile isD)), .bool true]) ∧ Below w.heap.size w w') := Lib.hid (fun w => by
        have hsz : (s.extract 0 k).size ≤ maxLen := by
          rw [← lenB, hex, Hk.out]; unfold maxLen; omega
        have := Number_any (s.extract 0 k) 9999 w hsz
        rw [hex, hny.1, hny.2] at this
        exact this)
      rw [HV.out]
      clear hex hbd h10 hny
      go_enter Tryz.func124, Tryz.ntmps124
      go_wp2_with fail
      refine (HT.out _).mono ?_
      rintro e w1 ⟨rfl, bel⟩
      have HB := Lib.hid bel
      clear bel
      go_wp2_with fail
      refine (HN.out _).mono ?_
      rintro e w2 ⟨rfl, bel2⟩
      go_wp2
      go_ret3
      exact ⟨rfl, HB.out.trans (bel2.mono HB.out.size)⟩

set_option maxHeartbeats 400000 in
theorem wholeYear_any (y : Int) (h0 : 0 ≤ y) (h1 : y ≤ 9999) (w : World) :
    Calls Tryz.prog 125 #[.int .i64 y] w fun e w' => e = .returned (.int .i64 (whole y)) ∧ w = w' := by
  unfold whole
  by_cases h : y < 70
  · rw [if_pos h]
    go_enter Tryz.func125, Tryz.ntmps125
    go_wp2
    go_ret
    exact ⟨rfl, rfl⟩
  · rw [if_neg h]
    by_cases g : y < 100
    · rw [if_pos g]
      go_enter Tryz.func125, Tryz.ntmps125
      go_wp2
      go_ret
      exact ⟨rfl, rfl⟩
    · rw [if_neg g]
      go_enter Tryz.func125, Tryz.ntmps125
      go_wp2
      go_ret
      exact ⟨rfl, rfl⟩

theorem ba_eq {a b : ByteArray} (h : a.data.toList = b.data.toList) : a = b := by
  cases a; cases b; simp only at h; congr 1; exact Array.toList_inj.1 h
theorem asB_to (l : List UInt8) (k : Nat) : (asB l).extract 0 k = asB (l.take k) := ba_eq (by
  rw [ByteArray.data_extract, Array.toList_extract, List.extract_eq_take_drop, asB_data, asB_data]; simp)
theorem asB_from (l : List UInt8) (k : Nat) : (asB l).extract k l.length = asB (l.drop k) := ba_eq (by
  rw [ByteArray.data_extract, Array.toList_extract, List.extract_eq_take_drop, asB_data, asB_data, List.take_of_length_le (by simp)])
theorem ret_str {a b : ByteArray} (h : a = b) : Ending.returned (.string a) = .returned (.string b) := by rw [h]
set_option maxHeartbeats 1000000 in
set_option maxRecDepth 100000 in
theorem cutWord_any (b : Nat) (s : DrS) (hs : s.rest.size ≤ 1048600) (w : World) (h : DrAt w b s) :
    Calls Tryz.prog 102 #[.pointer (some ⟨b, 0, none⟩)] w fun e w' =>
      e = .returned (.string (asB ((s.rest.data.toList.dropWhile btw).takeWhile nob))) ∧ DrAt w' b { s with rest := asB ((s.rest.data.toList.dropWhile btw).dropWhile nob) } ∧ Kp (Only b) w w' := by
  have HR := Lib.hid h
  have c1 := h.cell 0 (v := .string s.rest) rfl
  clear h
  have HT := Lib.hid (fun w => TrimLeft_bt s.rest w)
  obtain ⟨l, Hl⟩ : ∃ l, Hid (s.rest.data.toList.dropWhile btw = l) := ⟨_, Lib.hid rfl⟩
  have hll : l.length ≤ 1048600 := by
    rw [← Hl.out]
    have := (List.dropWhile_suffix (l := s.rest.data.toList) btw).length_le
    rw [lenB] at this; omega
  rw [Hl.out] at HT ⊢
  have hls : (asB l).size = l.length := rfl
  have HI := Lib.hid (fun w => IndexAny_bt (asB l) w (by rw [hls]; omega))
  rw [asB_data] at HI
  rcases any_bt l with ⟨e1, e2, e3⟩ | ⟨k, e0, e1, e2, e3⟩
  · rw [e1] at HI
    rw [e2, e3]
    clear e1 e2 e3
    go_enter Tryz.func102, Tryz.ntmps102
    go_wp2_with fail
    refine (HT.out _).mono ?_
    rintro e w1 ⟨rfl, bel⟩
    have HB := Lib.hid bel
    clear bel
    go_wp2_with fail
    refine (HI.out _).mono ?_
    rintro e w2 ⟨rfl, bel2⟩
    have HB2 : Hid (Below w.heap.size w w2) := Lib.hid (HB.out.trans (bel2.mono HB.out.size))
    have HR2 := Lib.hid (HR.out.below HB2.out)
    have c2 := HR2.out.cell 0 (v := .string s.rest) rfl
    have f2 := HR2.out.free 0
    clear bel2 c1
    go_wp2
    go_ret
    refine ⟨?_, HR2.out.set 0 _ ?_, (Kp.of_below HB2.out).set1 0 _⟩
    · refine ret_str ((asB_to l l.length).trans ?_)
      rw [List.take_of_length_le (Nat.le_refl _)]
    · rfl
  · have hk1 : (k : Int) ≤ (l.length : Int) := by omega
    have hk2 : ¬ (k : Int) < 0 := by omega
    rw [e1] at HI
    rw [e2, e3]
    clear e1 e2 e3
    go_enter Tryz.func102, Tryz.ntmps102
    go_wp2_with fail
    refine (HT.out _).mono ?_
    rintro e w1 ⟨rfl, bel⟩
    have HB := Lib.hid bel
    clear bel
    go_wp2_with fail
    refine (HI.out _).mono ?_
    rintro e w2 ⟨rfl, bel2⟩
    have HB2 : Hid (Below w.heap.size w w2) := Lib.hid (HB.out.trans (bel2.mono HB.out.size))
    have HR2 := Lib.hid (HR.out.below HB2.out)
    have c2 := HR2.out.cell 0 (v := .string s.rest) rfl
    have f2 := HR2.out.free 0
    clear bel2 c1
    go_wp2
    go_ret
    refine ⟨?_, HR2.out.set 0 _ ?_, (Kp.of_below HB2.out).set1 0 _⟩
    · exact ret_str (asB_to l k)
    · rw [asB_from]
      rfl

end Go.Proofs.YtllpdnmhabpbcaaGreatDoor
