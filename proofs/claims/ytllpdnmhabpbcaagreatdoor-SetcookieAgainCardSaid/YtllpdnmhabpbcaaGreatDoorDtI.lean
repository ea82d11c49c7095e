/-
  Contract of Go's library at this program: strings.IndexAny at plain bytes, of whatever text.
-/
import Derived.Test.YtllpdnmhabpbcaaGreatDoorShelfE
import Derived.Test.YtllpdnmhabpbcaaGreatDoorMath
import Derived.Test.YtllpdnmhabpbcaaGreatDoorAscW
import Derived.Lib.DecodeN
import Derived.Lib.IndexLaws
import Derived.Laws.RangeAny
import Derived.Deep.LoopGhost
import Derived.BigQuiet
import Derived.Lib.OthersKept
namespace Go.Proofs.YtllpdnmhabpbcaaGreatDoor
open Go.RowKit Go.Lib

def AscB (s : ByteArray) : Prop := ∀ (j : Nat) (h : j < s.size), (s[j]'h).toNat < 128
theorem AscB.get {s : ByteArray} (h : AscB s) : ∀ (j : Nat) b, s.data.toList[j]? = some b → b.toNat < 128 := by
  intro j b hb
  have hj : j < s.size := by
    have := (List.getElem?_eq_some_iff.1 hb).1
    simpa using this
  have := Lib.data_getElem? s j hj
  rw [this] at hb
  cases hb
  exact h j hj
theorem AscB.not {s : ByteArray} (h : AscB s) (c : UInt8) (hc : 128 ≤ c.toNat) : s.data.toList.contains c = false := by
  rw [List.contains_eq_any_beq, List.any_eq_false]
  intro b hb
  obtain ⟨j, hj⟩ := List.mem_iff_getElem?.1 hb
  have := h.get j b hj
  intro e
  have e2 : c = b := by simpa using e
  subst e2; omega
theorem idx_high : ∀ (l : List UInt8) (c : UInt8), (∀ b ∈ l, b.toNat < 128) → 128 ≤ c.toNat → Lib.indexByte l c = -1
  | [], c, _, _ => rfl
  | b :: l, c, h, hc => by
    have hb := h b (by simp)
    have hne : (b == c) = false := beq_eq_false_iff_ne.2 (fun e => by subst e; omega)
    rw [Lib.indexByte, hne, idx_high l c (fun x hx => h x (List.mem_cons_of_mem _ hx)) hc]
    rfl
theorem dec_conts (n b0 b1 b2 b3 : Nat) :
    (2 ≤ (decodeN n b0 b1 b2 b3).2 → 128 ≤ b1 ∧ 1 < n) ∧ (3 ≤ (decodeN n b0 b1 b2 b3).2 → 128 ≤ b2 ∧ 2 < n) ∧ (4 ≤ (decodeN n b0 b1 b2 b3).2 → 128 ≤ b3 ∧ 3 < n) ∧ (decodeN n b0 b1 b2 b3).2 ≤ 4 := by
  unfold decodeN
  repeat' split
  all_goals (simp only; omega)
theorem dec_valid (n b0 b1 b2 b3 : Nat) (h0 : b0 < 256) : (decodeN n b0 b1 b2 b3).1 < 55296 ∨ (57343 < (decodeN n b0 b1 b2 b3).1 ∧ (decodeN n b0 b1 b2 b3).1 ≤ 1114111) := by
  unfold decodeN
  repeat' split
  all_goals (simp only; omega)
theorem rune_ok (s : ByteArray) (i : Nat) : (Utf8.decode s i).1 < 55296 ∨ (57343 < (Utf8.decode s i).1 ∧ (Utf8.decode s i).1 ≤ 1114111) := by
  rw [decode_at]; exact dec_valid _ _ _ _ _ (UInt8.toNat_lt _)
theorem valid_of (r : Nat) (h : r < 55296 ∨ (57343 < r ∧ r ≤ 1114111)) : Utf8.valid (r : Int) = true := by
  simp only [Utf8.valid, Bool.and_eq_true, Bool.or_eq_true, decide_eq_true_eq]
  omega
theorem get_bang (s : ByteArray) (j : Nat) (h : j < s.size) : s.get! j = s[j]'h := by
  simp [ByteArray.get!, getElem!_pos, h]
  rfl
/-- The bytes of a rune beyond the plain ones are none of them. -/
theorem rune_bytes (s : ByteArray) (i : Nat) (hi : i < s.size) (h : 128 ≤ (s[i]'hi).toNat) : 1 ≤ (Utf8.decode s i).2 ∧ i + (Utf8.decode s i).2 ≤ s.size ∧ ∀ j (hj : j < s.size), i ≤ j → j < i + (Utf8.decode s i).2 → 128 ≤ (s[j]'hj).toNat := by
  have h1 := (decode_high s i hi h).2
  obtain ⟨c1, c2, c3, c4⟩ := dec_conts (s.size - i) (s.get! i).toNat (s.get! (i + 1)).toNat (s.get! (i + 2)).toNat (s.get! (i + 3)).toNat
  rw [← decode_at] at c1 c2 c3 c4
  refine ⟨h1, by omega, fun j hj h2 h3 => ?_⟩
  rcases (show j = i ∨ j = i + 1 ∨ j = i + 2 ∨ j = i + 3 by omega) with rfl | rfl | rfl | rfl
  · exact h
  · have := (c1 (by omega)).1; rwa [get_bang s _ hj] at this
  · have := (c2 (by omega)).1; rwa [get_bang s _ hj] at this
  · have := (c3 (by omega)).1; rwa [get_bang s _ hj] at this

set_option maxHeartbeats 400000 in
theorem ValidRune_any (r : Nat) (hr : r < 55296 ∨ (57343 < r ∧ r ≤ 1114111)) (w : World) :
    Calls Tryz.prog 114 #[.int .i32 (r : Int)] w fun e w' => e = .returned (.bool true) ∧ w = w' := by
  by_cases h : r < 55296
  · have h2 : (r : Int) < 55296 := by omega
    have h3 : (0 : Int) ≤ (r : Int) := by omega
    clear hr
    go_enter Tryz.func114, Tryz.ntmps114
    go_wp2
    go_ret
    exact ⟨rfl, rfl⟩
  · have h2 : ¬ (r : Int) < 55296 := by omega
    have h3 : (0 : Int) ≤ (r : Int) := by omega
    have h4 : (57343 : Int) < (r : Int) := by omega
    have h5 : (r : Int) ≤ 1114111 := by omega
    clear hr
    go_enter Tryz.func114, Tryz.ntmps114
    go_wp2
    go_ret
    exact ⟨rfl, rfl⟩

set_option maxHeartbeats 4000000 in
set_option maxRecDepth 100000 in
theorem IndexRune_err (s : ByteArray) (hA : AscB s) (w : World) :
    Calls Tryz.prog 98 #[.string s, .int .i32 65533] w fun e w' => e = .returned (.int .i64 (-1)) ∧ Below w.heap.size w w' := by
  have HA := Lib.hid hA
  clear hA
  go_enter Tryz.func98, Tryz.ntmps98
  go_wp2
  go_loopg [5, 6] s.size (fun g _ _ wx => ∃ i : Nat, i + g = s.size ∧ wx = w.iter s i)
  case atStart => exact ⟨0, by omega, rfl⟩
  case round =>
    obtain ⟨i, hig, rfl⟩ := hrel
    cases gk with
    | zero =>
      obtain rfl : i = s.size := by omega
      have hnx := run_next_end (P := Tryz.prog) w s s.size
      go_wp2
      go_ret
      exact ⟨rfl, (Below.refl _ _).alloc (Nat.le_refl _) _⟩
    | succ g =>
      have hi : i < s.size := by omega
      obtain ⟨x, hx⟩ : ∃ x : UInt8, s[i]'hi = x := ⟨_, rfl⟩
      have hx128 : x.toNat < 128 := by rw [← hx]; exact HA.out i hi
      have hnx := fun ty => run_next_ascii (P := Tryz.prog) w s i ty hi (by rw [hx]; exact hx128)
      rw [hx] at hnx
      have hne : ((x.toNat : Int) == 65533) = false := beq_eq_false_iff_ne.2 (by omega)
      clear hx
      go_wp2
      go_roundg g
      case measure => omega
      case rel => exact ⟨i + 1, by omega, rfl⟩

set_option maxHeartbeats 4000000 in
set_option maxRecDepth 100000 in
theorem IndexRune_high (s : ByteArray) (hA : AscB s) (h4 : 4 < s.size) (r : Nat) (hr : 128 ≤ r) (hv : r < 55296 ∨ (57343 < r ∧ r ≤ 1114111)) (hne : r ≠ 65533) (w : World) :
    Calls Tryz.prog 98 #[.string s, .int .i32 (r : Int)] w fun e w' => e = .returned (.int .i64 (-1)) ∧ Below w.heap.size w w' := by
  have h0 : (0 : Int) ≤ (r : Int) := by omega
  have h128 : ¬ (r : Int) < 128 := by omega
  have hne' : ((r : Int) == 65533) = false := beq_eq_false_iff_ne.2 (by omega)
  have HVR := Lib.hid (fun w => ValidRune_any r hv w)
  obtain ⟨e1, e2, e3⟩ := encode_facts (r : Int) (valid_of r hv) (by omega)
  obtain ⟨R, hR⟩ : ∃ R, Utf8.encode (r : Int) = R := ⟨_, rfl⟩
  rw [hR] at e1 e2 e3
  obtain ⟨L, hL⟩ : ∃ L : Nat, L + 1 = R.size := ⟨R.size - 1, by omega⟩
  have hLs : L < s.size := by omega
  have hLR : L < R.size := by omega
  have hL4 : (L : Int) < 4 := by omega
  have hLi : (R.size : Int) - 1 = (L : Int) := by omega
  have hc : 128 ≤ (R[L]'hLR).toNat := by
    have := e3 (by omega)
    have e : R.size - 1 = L := by omega
    simp only [e] at this
    exact this
  have ha : (s[L]'hLs).toNat < 128 := hA L hLs
  obtain ⟨c, Hc⟩ : ∃ c : UInt8, R[L]'hLR = c := ⟨_, rfl⟩
  obtain ⟨a, Ha⟩ : ∃ a : UInt8, s[L]'hLs = a := ⟨_, rfl⟩
  rw [Hc] at hc
  rw [Ha] at ha
  have hac : ((a.toNat : Int) != (c.toNat : Int)) = true := bne_iff_ne.2 (by omega)
  have hIx : ∀ (u : ByteArray) w, (∃ k, u = s.extract k s.size) → Calls Tryz.prog 113 #[.string u, .int .u8 (c.toNat : Int)] w fun e w' => e = .returned (.int .i64 (-1)) ∧ w' = w := by
    rintro u w ⟨k, rfl⟩
    refine (Tryz.strings_IndexByte _ _ w).mono fun e w' ⟨he, hw⟩ => ⟨?_, hw⟩
    rw [he]
    have e2 : ((c.toNat : Int)).toNat.toUInt8 = c := by simp
    rw [e2, idx_high _ c (fun b hb => ?_) hc]
    rw [ByteArray.data_extract, Array.toList_extract, List.extract_eq_take_drop] at hb
    obtain ⟨j, hj⟩ := List.mem_iff_getElem?.1 (List.mem_of_mem_drop (List.mem_of_mem_take hb))
    exact hA.get j b hj
  have HIx := Lib.hid hIx
  clear hIx e1 e2 e3 hA hv hr hc
  go_enter Tryz.func98, Tryz.ntmps98
  go_wp2_with fail
  refine (HVR.out _).mono ?_
  rintro e w' ⟨rfl, rfl⟩
  have hsz : (R.size : Int) = (L : Int) + 1 := by omega
  have hLz : (L : Int) < (s.size : Int) := by omega
  go_wp2
  go_step3
  go_wp2
  go_loop [9, 10] (fun v f => v = .int .i64 (L : Int) ∧ f = .int .i64 0) (fun _ _ => 0)
  case atStart => exact ⟨by go_num, rfl⟩
  case round =>
    obtain ⟨rfl, rfl⟩ := hrel
    go_wp2
    go_step3
    go_wp2
    go_quiet (fail)
    go_wp2
    have HBq : Hid (Below w.heap.size w (w.drewN nq)) := Lib.hid ⟨rfl, rfl, rfl, Nat.le_refl _, fun _ _ => rfl⟩
    generalize w.drewN nq = W2 at HBq ⊢
    have hwr : IntKind.i64.wrap ((L : Int) + 1) = (L : Int) + 1 := by rw [IntKind.wrap_i64]; omega
    have p0 : (0 : Int) ≤ (L : Int) + 1 := by omega
    have p1 : (L : Int) + 1 ≤ (s.size : Int) := by omega
    have p2 : ((L : Int) + 1).toNat = L + 1 := by omega
    go_quiet ((go_loud (exact Calls.quiet_of_same (HIx.out _ _ ⟨_, rfl⟩))))
    go_wp2
    simp +zetaDelta only [Exit.then, Exit.inBlock, Exit.noGoto_ret]
    go_ret
    exact ⟨rfl, HBq.out.trans ⟨rfl, rfl, rfl, Nat.le_refl _, fun _ _ => rfl⟩⟩

theorem IndexAny_long (s chars : ByteArray) (w : World) (h2 : 2 ≤ chars.size) (h8 : 8 < s.size) (hs : s.size < 4294967281) (hcs : chars.size < 4294967281) (hascii : ∀ (j : Nat) b, chars.data.toList[j]? = some b → b.toNat < 128) :
    Calls Tryz.prog 119 #[.string s, .string chars] w fun e w' => e = .returned (.int .i64 (Lib.indexAny s.data.toList chars.data.toList)) ∧ Below w.heap.size w w' := by
  have hz : (Tryz.prog.info? (Tryz.lays153_ren.t 116)).map (fun i => (i.zero, i.size)) = some (some (.agg (Array.replicate 256 (.bool false))), 256) := by kernel_rfl
  have h := Any.strings_IndexAny_long Tryz.lays153 (zero_of_info hz).1 (zero_of_info hz).2 s chars w h2 h8 hs hcs hascii
  exact h.mono fun e w' ⟨h1, h2⟩ => ⟨h1, by rw [h2]; exact ((Below.refl _ _).alloc (Nat.le_refl _) _).alloc (by simp) _⟩

theorem NoAny_high {s chars : ByteArray} {i n : Nat} (hA : AscB chars) (h : NoAny s.data.toList chars.data.toList i) (hb : ∀ j (hj : j < s.size), i ≤ j → j < i + n → 128 ≤ (s[j]'hj).toNat) : NoAny s.data.toList chars.data.toList (i + n) := by
  intro j b hj hjb
  by_cases h1 : j < i
  · exact h j b h1 hjb
  · have hjs : j < s.size := by
      have := (List.getElem?_eq_some_iff.1 hjb).1
      simpa using this
    have e := Lib.data_getElem? s j hjs
    rw [e] at hjb
    cases hjb
    exact hA.not _ (hb j hjs (by omega) hj)

theorem _root_.Go.RowKit.Below.trans_at {w wr : World} (h : Below w.heap.size w wr) (s : ByteArray) (p : Nat) : Below w.heap.size w (wr.iterAt w.heap.size s p) :=
  ⟨h.os, h.tape, h.output, by simpa [World.iterAt] using h.size, fun k hk => by
    have e : (wr.iterAt w.heap.size s p).heap[k]? = wr.heap[k]? := by
      simp only [World.iterAt]
      rw [Array.getElem?_setIfInBounds_ne (by omega)]
    rw [e]; exact h.block k hk⟩
theorem IndexRune_asc (s : ByteArray) (r : Int) (w : World) (h0 : 0 ≤ r) (h1 : r < 128) :
    Calls Tryz.prog 98 #[.string s, .int .i32 r] w fun e w' => e = .returned (.int .i64 (Lib.indexByte s.data.toList r.toNat.toUInt8)) ∧ w' = w := by
  have h := Any.strings_IndexRune_ascii { Tryz.lays153 with } s r w h0 h1
  exact h

set_option maxHeartbeats 8000000 in
set_option maxRecDepth 100000 in
theorem IndexAny_short (s chars : ByteArray) (w : World) (hA : AscB chars) (h4 : 4 < chars.size) (h8 : s.size ≤ 8) :
    Calls Tryz.prog 119 #[.string s, .string chars] w fun e w' => e = .returned (.int .i64 (Lib.indexAny s.data.toList chars.data.toList)) ∧ Below w.heap.size w w' := by
  have hemp : chars.toList.isEmpty = false := by
    rw [Lib.toList_data]
    cases h : chars.data.toList with
    | nil => have := Lib.size_eq chars; rw [h, List.length_nil] at this; omega
    | cons _ _ => rfl
  have hn1 : ((chars.size : Int) == 1) = false := beq_eq_false_iff_ne.2 (by omega)
  have h8z : decide ((8 : Int) < (s.size : Int)) = false := decide_eq_false (by omega)
  have HA := Lib.hid hA
  clear hA
  go_enter Tryz.func119, Tryz.ntmps119
  go_wp2_with fail
  refine (Tryz.strings_shouldUseASCIISet _ _).mono ?_
  rintro e w' ⟨rfl, hw⟩
  rw [hw, h8z]
  clear hw w'
  go_wp2
  go_loopw [9, 10] (fun _ _ wx => ∃ i : Nat, i ≤ s.size ∧ Below w.heap.size w wx ∧ wx.heap[w.heap.size]? = some (.stringIter s i) ∧ Hid (Lib.NoAny s.data.toList chars.data.toList i)) (fun _ _ wx => match wx.heap[w.heap.size]? with | some (.stringIter _ i) => s.size - i | _ => 0)
  case atStart => exact ⟨0, Nat.zero_le _, (Below.refl _ _).alloc (Nat.le_refl _) _, heap_alloc_new w _, Lib.hid (Lib.NoAny.zero _ _)⟩
  case round =>
    obtain ⟨i, his, hB, hk, HN⟩ := hrel
    have HB := Lib.hid hB
    clear hB
    by_cases hi : i < s.size
    · have hnx := fun ty => run_next_any_at (P := Tryz.prog) wr w.heap.size s i ty hk hi
      have hB1 : ∀ p, Below w.heap.size w (wr.iterAt w.heap.size s p) := fun p => HB.out.trans_at s p
      by_cases ha : (s[i]'hi).toNat < 128
      · rw [decode_ascii s i hi ha] at hnx
        obtain ⟨x, hx⟩ : ∃ x : UInt8, s[i]'hi = x := ⟨_, rfl⟩
        have Hx : Hid (s.data.toList[i]? = some x) := Lib.hid (by rw [← hx]; exact Lib.data_getElem? s i hi)
        rw [hx] at hnx ha
        have hcon := Lib.contains_iff_indexByte chars.data.toList x
        have hback : ((x.toNat : Int)).toNat.toUInt8 = x := by simp
        clear hx
        cases hin : chars.data.toList.contains x with
        | false =>
          rw [hin] at hcon
          have hlt : ¬ ((0 : Int) ≤ Lib.indexByte chars.data.toList x) := of_decide_eq_false hcon.symm
          clear hcon
          go_wp2_with fail
          refine (IndexRune_asc _ _ _ (by omega) (by omega)).mono ?_
          rintro e w' ⟨rfl, hw⟩
          rw [hw, hback]
          go_wp2
          go_roundw
          case rel => exact ⟨i + 1, by omega, hB1 _, iterAt_heap _ _ _ _ _ hk, Lib.hid (HN.out.succ Hx.out hin)⟩
          case measure => rw [iterAt_heap _ _ _ _ _ hk, hk]; simp only; omega
        | true =>
          rw [hin] at hcon
          have hge : (0 : Int) ≤ Lib.indexByte chars.data.toList x := of_decide_eq_true hcon.symm
          clear hcon
          go_wp2_with fail
          refine (IndexRune_asc _ _ _ (by omega) (by omega)).mono ?_
          rintro e w' ⟨rfl, hw⟩
          rw [hw, hback]
          go_wp2
          go_ret
          exact ⟨by rw [Lib.indexAny_hit HN.out Hx.out hin]; rfl, hB1 _⟩
      · obtain ⟨r1, r2, r3⟩ := rune_bytes s i hi (by omega)
        have r4 := (decode_high s i hi (by omega)).1
        have r5 := rune_ok s i
        have HN2 := Lib.hid (NoAny_high HA.out HN.out r3)
        obtain ⟨r, hr⟩ : ∃ r, (Utf8.decode s i).1 = r := ⟨_, rfl⟩
        obtain ⟨n, hn⟩ : ∃ n, (Utf8.decode s i).2 = n := ⟨_, rfl⟩
        rw [hr, hn] at hnx
        rw [hn] at r1 r2 HN2
        rw [hr] at r4 r5
        have hIR : ∀ w, Calls Tryz.prog 98 #[.string chars, .int .i32 (r : Int)] w fun e w' => e = .returned (.int .i64 (-1)) ∧ Below w.heap.size w w' := fun w => by
          by_cases h : r = 65533
          · subst h; exact IndexRune_err chars HA.out w
          · exact IndexRune_high chars HA.out h4 r r4 r5 h w
        clear hr hn r3 r5
        have hsz : w.heap.size < wr.heap.size := by
          have := (Array.getElem?_eq_some_iff.1 hk).1
          exact this
        go_wp2_with fail
        refine (hIR _).mono ?_
        rintro e w' ⟨rfl, bel⟩
        have hk2 : w'.heap[w.heap.size]? = some (.stringIter s (i + n)) := (bel.block _ (by simpa [World.iterAt] using hsz)).trans (iterAt_heap _ _ _ _ _ hk)
        have HB2 := Lib.hid (hB1 (i + n) |>.trans (bel.mono (by simp [World.iterAt]; omega)))
        clear bel
        go_wp2
        go_roundw
        case rel => exact ⟨i + n, r2, HB2.out, hk2, HN2⟩
        case measure => rw [hk2, hk]; simp only; omega
    · obtain rfl : i = s.size := by omega
      have hnx := fun ty => run_next_end_at (P := Tryz.prog) wr w.heap.size s s.size ty hk (Nat.lt_irrefl _)
      go_wp2
      go_ret
      exact ⟨by rw [Lib.indexAny_none (by rw [← Lib.size_eq]; exact HN.out)]; rfl, HB.out⟩

end Go.Proofs.YtllpdnmhabpbcaaGreatDoor
