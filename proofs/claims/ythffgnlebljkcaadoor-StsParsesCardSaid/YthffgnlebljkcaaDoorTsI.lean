/-
  Contract: strings.IndexAny at the byte 59, and at the bytes 61 and 59, of any text.
-/
import Derived.Test.YthffgnlebljkcaaDoorDtI
import Derived.Test.YthffgnlebljkcaaDoorTsM
namespace Go.Proofs.YthffgnlebljkcaaDoor
open Go.RowKit Go.Lib

set_option maxHeartbeats 4000000 in
set_option maxRecDepth 100000 in
theorem IndexRune_highL (s : ByteArray) (hA : AscB s) (r : Nat) (hr : 128 ≤ r) (hv : r < 55296 ∨ (57343 < r ∧ r ≤ 1114111)) (hne : r ≠ 65533) (hLs' : (Utf8.encode (r : Int)).size ≤ s.size) (w : World) :
    Calls Tryd.prog 63 #[.string s, .int .i32 (r : Int)] w fun e w' => e = .returned (.int .i64 (-1)) ∧ Below w.heap.size w w' := by
  have h0 : (0 : Int) ≤ (r : Int) := by omega
  have h128 : ¬ (r : Int) < 128 := by omega
  have hne' : ((r : Int) == 65533) = false := beq_eq_false_iff_ne.2 (by omega)
  have HVR := Lib.hid (fun w => ValidRune_any r hv w)
  obtain ⟨e1, e2, e3⟩ := encode_facts (r : Int) (valid_of r hv) (by omega)
  obtain ⟨R, hR⟩ : ∃ R, Utf8.encode (r : Int) = R := ⟨_, rfl⟩
  rw [hR] at e1 e2 e3 hLs'
  obtain ⟨L, hL⟩ : ∃ L : Nat, L + 1 = R.size := ⟨R.size - 1, by omega⟩
  have hLs : L < s.size := by omega
  have hLR : L < R.size := by omega
  have hL4 : (L : Int) < 4 := by omega
  have hLi : (R.size : Int) - 1 = (L : Int) := by omega
  have hc : 128 ≤ (R[L]'hLR).toNat := by
    have := e3 (by omega)
    have e : R.size - 1 = L := by omega
    simp only [e] at this
    exact this
  have ha : (s[L]'hLs).toNat < 128 := hA L hLs
  obtain ⟨c, Hc⟩ : ∃ c : UInt8, R[L]'hLR = c := ⟨_, rfl⟩
  obtain ⟨a, Ha⟩ : ∃ a : UInt8, s[L]'hLs = a := ⟨_, rfl⟩
  rw [Hc] at hc
  rw [Ha] at ha
  have hac : ((a.toNat : Int) != (c.toNat : Int)) = true := bne_iff_ne.2 (by omega)
  have hIx : ∀ (u : ByteArray) w, (∃ k, u = s.extract k s.size) → Calls Tryd.prog 78 #[.string u, .int .u8 (c.toNat : Int)] w fun e w' => e = .returned (.int .i64 (-1)) ∧ w' = w := by
    rintro u w ⟨k, rfl⟩
    refine (Tryd.strings_IndexByte _ _ w).mono fun e w' ⟨he, hw⟩ => ⟨?_, hw⟩
    rw [he]
    have e2 : ((c.toNat : Int)).toNat.toUInt8 = c := by simp
    rw [e2, idx_high _ c (fun b hb => ?_) hc]
    rw [ByteArray.data_extract, Array.toList_extract, List.extract_eq_take_drop] at hb
    obtain ⟨j, hj⟩ := List.mem_iff_getElem?.1 (List.mem_of_mem_drop (List.mem_of_mem_take hb))
    exact hA.get j b hj
  have HIx := Lib.hid hIx
  clear hIx e1 e2 e3 hA hv hr hc
  go_enter Tryd.func63, Tryd.ntmps63
  go_wp2_with fail
  refine (HVR.out _).mono ?_
  rintro e w' ⟨rfl, rfl⟩
  have hsz : (R.size : Int) = (L : Int) + 1 := by omega
  have hLz : (L : Int) < (s.size : Int) := by omega
  go_wp2
  go_step3
  go_wp2
  go_loop [9, 10] (fun v f => v = .int .i64 (L : Int) ∧ f = .int .i64 0) (fun _ _ => 0)
  case atStart => exact ⟨by go_num, rfl⟩
  case round =>
    obtain ⟨rfl, rfl⟩ := hrel
    go_wp2
    go_step3
    go_wp2
    go_quiet (fail)
    go_wp2
    have HBq : Hid (Below w.heap.size w (w.drewN nq)) := Lib.hid ⟨rfl, rfl, rfl, Nat.le_refl _, fun _ _ => rfl⟩
    generalize w.drewN nq = W2 at HBq ⊢
    have hwr : IntKind.i64.wrap ((L : Int) + 1) = (L : Int) + 1 := by rw [IntKind.wrap_i64]; omega
    have p0 : (0 : Int) ≤ (L : Int) + 1 := by omega
    have p1 : (L : Int) + 1 ≤ (s.size : Int) := by omega
    have p2 : ((L : Int) + 1).toNat = L + 1 := by omega
    go_quiet ((go_loud (exact Calls.quiet_of_same (HIx.out _ _ ⟨_, rfl⟩))))
    go_wp2
    simp +zetaDelta only [Exit.then, Exit.inBlock, Exit.noGoto_ret]
    go_ret
    exact ⟨rfl, HBq.out.trans ⟨rfl, rfl, rfl, Nat.le_refl _, fun _ _ => rfl⟩⟩

set_option maxHeartbeats 1000000 in
set_option maxRecDepth 100000 in
theorem IndexRune_highG (r : Nat) (hr : 128 ≤ r) (hv : r < 55296 ∨ (57343 < r ∧ r ≤ 1114111)) (hne : r ≠ 65533) (hLs' : ¬ (Utf8.encode (r : Int)).size ≤ 2) (w : World) :
    Calls Tryd.prog 63 #[.string ⟨#[61, 59]⟩, .int .i32 (r : Int)] w fun e w' => e = .returned (.int .i64 (-1)) ∧ Below w.heap.size w w' := by
  have h0 : (0 : Int) ≤ (r : Int) := by omega
  have h128 : ¬ (r : Int) < 128 := by omega
  have hne' : ((r : Int) == 65533) = false := beq_eq_false_iff_ne.2 (by omega)
  have HVR := Lib.hid (fun w => ValidRune_any r hv w)
  obtain ⟨e1, e2, e3⟩ := encode_facts (r : Int) (valid_of r hv) (by omega)
  obtain ⟨R, hR⟩ : ∃ R, Utf8.encode (r : Int) = R := ⟨_, rfl⟩
  rw [hR] at e1 e2 e3 hLs'
  have hsz : (R.size : Int) = 3 ∨ (R.size : Int) = 4 := by omega
  clear e1 e2 e3 hv hr hLs'
  rcases hsz with hsz | hsz
  · go_enter Tryd.func63, Tryd.ntmps63
    go_wp2_with fail
    refine (HVR.out _).mono ?_
    rintro e w' ⟨rfl, rfl⟩
    go_wp2
    go_step3
    go_wp2
    go_loop [9, 10] (fun v f => v = .int .i64 2 ∧ f = .int .i64 0) (fun _ _ => 0)
    case atStart => exact ⟨by go_num, rfl⟩
    case round =>
      obtain ⟨rfl, rfl⟩ := hrel
      go_wp2
      go_ret
      exact ⟨rfl, (Below.refl _ _)⟩
  · go_enter Tryd.func63, Tryd.ntmps63
    go_wp2_with fail
    refine (HVR.out _).mono ?_
    rintro e w' ⟨rfl, rfl⟩
    go_wp2
    go_step3
    go_wp2
    go_loop [9, 10] (fun v f => v = .int .i64 3 ∧ f = .int .i64 0) (fun _ _ => 0)
    case atStart => exact ⟨by go_num, rfl⟩
    case round =>
      obtain ⟨rfl, rfl⟩ := hrel
      go_wp2
      go_ret
      exact ⟨rfl, (Below.refl _ _)⟩

theorem IndexRune_high2 (s : ByteArray) (hs : s = ⟨#[61, 59]⟩) (hA : AscB s) (r : Nat) (hr : 128 ≤ r) (hv : r < 55296 ∨ (57343 < r ∧ r ≤ 1114111)) (hne : r ≠ 65533) (w : World) :
    Calls Tryd.prog 63 #[.string s, .int .i32 (r : Int)] w fun e w' => e = .returned (.int .i64 (-1)) ∧ Below w.heap.size w w' := by
  by_cases h : (Utf8.encode (r : Int)).size ≤ s.size
  · exact IndexRune_highL s hA r hr hv hne h w
  · rw [hs]; exact IndexRune_highG r hr hv hne (by rw [hs] at h; exact h) w

set_option maxHeartbeats 8000000 in
set_option maxRecDepth 100000 in
theorem IndexAny_short2 (s chars : ByteArray) (w : World) (hch : chars = ⟨#[61, 59]⟩) (hA : AscB chars) (h4 : 2 ≤ chars.size) (h8 : s.size ≤ 8) :
    Calls Tryd.prog 54 #[.string s, .string chars] w fun e w' => e = .returned (.int .i64 (Lib.indexAny s.data.toList chars.data.toList)) ∧ Below w.heap.size w w' := by
  have hemp : chars.toList.isEmpty = false := by
    rw [Lib.toList_data]
    cases h : chars.data.toList with
    | nil => have := Lib.size_eq chars; rw [h, List.length_nil] at this; omega
    | cons _ _ => rfl
  have hn1 : ((chars.size : Int) == 1) = false := beq_eq_false_iff_ne.2 (by omega)
  have h8z : decide ((8 : Int) < (s.size : Int)) = false := decide_eq_false (by omega)
  have HCH := Lib.hid hch
  have HA := Lib.hid hA
  clear hA hch
  go_enter Tryd.func54, Tryd.ntmps54
  go_wp2_with fail
  refine (Tryd.strings_shouldUseASCIISet _ _).mono ?_
  rintro e w' ⟨rfl, hw⟩
  rw [hw, h8z]
  clear hw w'
  go_wp2
  go_loopw [9, 10] (fun _ _ wx => ∃ i : Nat, i ≤ s.size ∧ Below w.heap.size w wx ∧ wx.heap[w.heap.size]? = some (.stringIter s i) ∧ Hid (Lib.NoAny s.data.toList chars.data.toList i)) (fun _ _ wx => match wx.heap[w.heap.size]? with | some (.stringIter _ i) => s.size - i | _ => 0)
  case atStart => exact ⟨0, Nat.zero_le _, (Below.refl _ _).alloc (Nat.le_refl _) _, heap_alloc_new w _, Lib.hid (Lib.NoAny.zero _ _)⟩
  case round =>
    obtain ⟨i, his, hB, hk, HN⟩ := hrel
    have HB := Lib.hid hB
    clear hB
    by_cases hi : i < s.size
    · have hnx := fun ty => run_next_any_at (P := Tryd.prog) wr w.heap.size s i ty hk hi
      have hB1 : ∀ p, Below w.heap.size w (wr.iterAt w.heap.size s p) := fun p => HB.out.trans_at s p
      by_cases ha : (s[i]'hi).toNat < 128
      · rw [decode_ascii s i hi ha] at hnx
        obtain ⟨x, hx⟩ : ∃ x : UInt8, s[i]'hi = x := ⟨_, rfl⟩
        have Hx : Hid (s.data.toList[i]? = some x) := Lib.hid (by rw [← hx]; exact Lib.data_getElem? s i hi)
        rw [hx] at hnx ha
        have hcon := Lib.contains_iff_indexByte chars.data.toList x
        have hback : ((x.toNat : Int)).toNat.toUInt8 = x := by simp
        clear hx
        cases hin : chars.data.toList.contains x with
        | false =>
          rw [hin] at hcon
          have hlt : ¬ ((0 : Int) ≤ Lib.indexByte chars.data.toList x) := of_decide_eq_false hcon.symm
          clear hcon
          go_wp2_with fail
          refine (IndexRune_asc _ _ _ (by omega) (by omega)).mono ?_
          rintro e w' ⟨rfl, hw⟩
          rw [hw, hback]
          go_wp2
          go_roundw
          case rel => exact ⟨i + 1, by omega, hB1 _, iterAt_heap _ _ _ _ _ hk, Lib.hid (HN.out.succ Hx.out hin)⟩
          case measure => rw [iterAt_heap _ _ _ _ _ hk, hk]; simp only; omega
        | true =>
          rw [hin] at hcon
          have hge : (0 : Int) ≤ Lib.indexByte chars.data.toList x := of_decide_eq_true hcon.symm
          clear hcon
          go_wp2_with fail
          refine (IndexRune_asc _ _ _ (by omega) (by omega)).mono ?_
          rintro e w' ⟨rfl, hw⟩
          rw [hw, hback]
          go_wp2
          go_ret
          exact ⟨by rw [Lib.indexAny_hit HN.out Hx.out hin]; rfl, hB1 _⟩
      · obtain ⟨r1, r2, r3⟩ := rune_bytes s i hi (by omega)
        have r4 := (decode_high s i hi (by omega)).1
        have r5 := rune_ok s i
        have HN2 := Lib.hid (NoAny_high HA.out HN.out r3)
        obtain ⟨r, hr⟩ : ∃ r, (Utf8.decode s i).1 = r := ⟨_, rfl⟩
        obtain ⟨n, hn⟩ : ∃ n, (Utf8.decode s i).2 = n := ⟨_, rfl⟩
        rw [hr, hn] at hnx
        rw [hn] at r1 r2 HN2
        rw [hr] at r4 r5
        have hIR : ∀ w, Calls Tryd.prog 63 #[.string chars, .int .i32 (r : Int)] w fun e w' => e = .returned (.int .i64 (-1)) ∧ Below w.heap.size w w' := fun w => by
          by_cases h : r = 65533
          · subst h; exact IndexRune_err chars HA.out w
          · exact IndexRune_high2 chars HCH.out HA.out r r4 r5 h w
        clear hr hn r3 r5
        have hsz : w.heap.size < wr.heap.size := by
          have := (Array.getElem?_eq_some_iff.1 hk).1
          exact this
        go_wp2_with fail
        refine (hIR _).mono ?_
        rintro e w' ⟨rfl, bel⟩
        have hk2 : w'.heap[w.heap.size]? = some (.stringIter s (i + n)) := (bel.block _ (by simpa [World.iterAt] using hsz)).trans (iterAt_heap _ _ _ _ _ hk)
        have HB2 := Lib.hid (hB1 (i + n) |>.trans (bel.mono (by simp [World.iterAt]; omega)))
        clear bel
        go_wp2
        go_roundw
        case rel => exact ⟨i + n, r2, HB2.out, hk2, HN2⟩
        case measure => rw [hk2, hk]; simp only; omega
    · obtain rfl : i = s.size := by omega
      have hnx := fun ty => run_next_end_at (P := Tryd.prog) wr w.heap.size s s.size ty hk (Nat.lt_irrefl _)
      go_wp2
      go_ret
      exact ⟨by rw [Lib.indexAny_none (by rw [← Lib.size_eq]; exact HN.out)]; rfl, HB.out⟩

/-- Where the first of some bytes stands. -/
def idxE (e l : List UInt8) : Int := if frT e l = [] then -1 else ((upT e l).length : Int)
theorem idx_any (e : List UInt8) : ∀ l : List UInt8, Lib.indexAny l e = idxE e l
  | [] => rfl
  | c :: l => by
    have ih := idx_any e l
    unfold Lib.indexAny
    rw [ih]
    unfold idxE upT frT
    rw [List.takeWhile_cons, List.dropWhile_cons]
    cases hc : e.contains c with
    | true => simp
    | false =>
      simp only [Bool.not_false, if_true, Bool.false_eq_true, if_false]
      by_cases hl : l.dropWhile (fun c => !e.contains c) = []
      · rw [if_pos hl, if_pos hl]; rfl
      · rw [if_neg hl, if_neg hl]
        have : ((((l.takeWhile fun c => !e.contains c).length : Int) == -1) = false) := beq_eq_false_iff_ne.2 (by omega)
        rw [this]
        simp
theorem idx_one (c : UInt8) : ∀ l : List UInt8, Lib.indexByte l c = idxE [c] l
  | [] => rfl
  | b :: l => by
    rw [← idx_any]
    unfold Lib.indexByte Lib.indexAny
    rw [idx_one c l, idx_any]
    have : ([c].contains b) = (b == c) := by rw [List.contains_cons, List.contains_nil, Bool.or_false]
    rw [this]
theorem IndexAny_one (s : ByteArray) (w : World) :
    Calls Tryd.prog 54 #[.string s, .string ⟨#[59]⟩] w fun e w' => e = .returned (.int .i64 (idxE en1 s.data.toList)) ∧ Below w.heap.size w w' := by
  have hA : AscB ⟨#[59]⟩ := by
    intro j h
    have : j < 1 := h
    obtain rfl : j = 0 := by omega
    show (59 : UInt8).toNat < 128
    decide
  rw [← idx_any]
  exact (Any.strings_IndexAny_one Tryd.lays153 s ⟨#[59]⟩ w rfl hA.get).mono fun e w' ⟨h1, h2⟩ => ⟨h1, h2 ▸ Below.refl _ _⟩
theorem IndexAny_two (s : ByteArray) (hs : s.size < 4294967281) (w : World) :
    Calls Tryd.prog 54 #[.string s, .string ⟨#[61, 59]⟩] w fun e w' => e = .returned (.int .i64 (idxE en2 s.data.toList)) ∧ Below w.heap.size w w' := by
  have hA : AscB ⟨#[61, 59]⟩ := by
    intro j h
    have : j < 2 := h
    rcases (show j = 0 ∨ j = 1 by omega) with rfl | rfl
    · show (61 : UInt8).toNat < 128; decide
    · show (59 : UInt8).toNat < 128; decide
  rw [← idx_any]
  by_cases h8 : 8 < s.size
  · exact IndexAny_long s ⟨#[61, 59]⟩ w (by decide) h8 hs (by decide) hA.get
  · exact IndexAny_short2 s ⟨#[61, 59]⟩ w rfl hA (by decide) (by omega)

end Go.Proofs.YthffgnlebljkcaaDoor
