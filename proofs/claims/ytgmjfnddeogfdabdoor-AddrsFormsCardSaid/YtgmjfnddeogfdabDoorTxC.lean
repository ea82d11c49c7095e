/-
  Contract: joined.
-/
import Derived.Test.YtgmjfnddeogfdabDoorTxB
import Derived.Test.YtgmjfnddeogfdabDoorShelfT
import Derived.Test.YtgmjfnddeogfdabDoorKp
import Derived.Lib.AppendIntMem
namespace Go.Proofs.YtgmjfnddeogfdabDoor
open Go.RowKit

/-- Numbers below B are told by a base, whatever lies behind. -/
def Fmt (b B : Nat) (w : World) : Prop := ∀ w', Below w.heap.size w w' → ∀ n, n < B → Calls Tryd.prog 30 #[.int .i64 n, .int .i64 b] w' fun e w'' => e = .returned (.string (asB (numF b 4 n))) ∧ Below w'.heap.size w' w''
theorem fmt16 (w : World) (hT : TabAt (Tryd.lays27_ren.g 1) Lib.deBruijn64tab w) : Fmt 16 65536 w := fun w' hb n hn =>
  format16 n w' hn (fun j hj => (hb.cell (p := ⟨Tryd.lays27_ren.g 1, j, none⟩) (block_lt_of_cell (hT j hj))).trans (hT j hj))
theorem itoa_numF : ∀ n : Fin 256, Lib.itoa (n.1 : Int) = numF 10 4 n.1 := by decide +kernel
theorem fmt10 (w : World) (hT : Lib.TabIs Tryd.prog w "internal/strconv.uint64pow10" .u64 Lib.pow10Tab) : Fmt 10 256 w := fun w' hb n hn =>
  (Tryd.strconv_FormatInt_10 (n : Int) (by omega) (by omega) w' (Lib.tabBelow_of_tabIs hT w' hb)).mono fun e w'' ⟨he, k, os, hw⟩ => ⟨by
    rw [he, itoa_numF ⟨n, hn⟩]; rfl, by rw [hw]; exact Lib.below_grow _ _ (Nat.le_refl _) _ _⟩
theorem Fmt.later {b B : Nat} {w w' : World} (h : Fmt b B w) (hb : Below w.heap.size w w') : Fmt b B w' := fun w'' hb' n hn => h w'' (hb.trans (hb'.mono hb.size)) n hn

theorem numF_len (b : Nat) : ∀ f n, (numF b f n).length ≤ f
  | 0, _ => Nat.le_refl _
  | f + 1, n => by
    rw [numF]
    split
    · simp
    · have := numF_len b f (n / b)
      rw [List.length_append, List.length_singleton]; omega
theorem lens_le4 : ∀ xs : List (List UInt8), (∀ x ∈ xs, x.length ≤ 4) → Lib.lens xs ≤ 4 * xs.length
  | [], _ => by simp [Lib.lens]
  | x :: r, h => by
    have h1 := h x List.mem_cons_self
    have h2 := lens_le4 r (fun y hy => h y (List.mem_cons_of_mem _ hy))
    have e : Lib.lens (x :: r) = x.length + Lib.lens r := by simp [Lib.lens]
    rw [e, List.length_cons]; omega
theorem join_le (xs : List (List UInt8)) (sep : List UInt8) (h : ∀ x ∈ xs, x.length ≤ 4) (hs : sep.length ≤ 1) : (Lib.join xs sep).length ≤ 5 * xs.length := by
  cases xs with
  | nil => simp [Lib.join_nil]
  | cons x r =>
    have h1 := lens_le4 _ h
    have h2 := Nat.mul_le_mul_right r.length hs
    rw [Lib.join_length]
    rw [List.length_cons] at h1 ⊢
    omega
theorem infoTx : (Tryd.prog.info? 9).map (fun i => (i.zero, i.size, i.bytes)) = some (some (.string ⟨#[]⟩), 1, 16) := by kernel_rfl
theorem make_texts (n : Nat) (w : World) (hn : n ≤ 10000000) : (Instr.makeSlice 62 (.int .i64 (n : Int)) (.int .i64 (n : Int))).run Tryd.prog w = .ok (.slice (some ⟨w.heap.size, 0, none⟩) n n) (w.alloc (.cells (madeCells (Value.string ⟨#[]⟩).cells n) 9)) := by
  obtain ⟨i0, hi, hz0, hz1, hz2⟩ := info_parts infoTx
  have h := run_makeSlice (P := Tryd.prog) w 62 9 i0 _ Tryd.underlying62 hi hz0 .i64 .i64 (n : Int) (n : Int) (by omega) (by omega) (by rw [hz1]; simp; omega) (by rw [hz2]; omega) (by omega)
  rw [hz1] at h
  simpa using h

set_option maxRecDepth 100000 in
set_option maxHeartbeats 1000000 in
theorem joined_any (b B g o cap : Nat) (P : List Nat) (sep : ByteArray) (w : World) (hF : Fmt b B w) (hP : ∀ n ∈ P, n < B) (h8 : P.length ≤ 8) (hs : sep.size ≤ 1)
    (hc : ∀ j (hj : j < P.length), w.cell? ⟨g, o + j, none⟩ = some (.int .i64 (P[j] : Int))) :
    Calls Tryd.prog 17 #[.slice (some ⟨g, o, none⟩) P.length cap, .string sep, .int .i64 b] w fun e w' => e = .returned (.string (asB (Lib.join (P.map (numF b 4)) sep.data.toList))) ∧ Below w.heap.size w w' := by
  have HF := Lib.hid hF; have HP := Lib.hid hP; have HC := Lib.hid hc
  clear hF hP hc
  go_enter Tryd.func17, Tryd.ntmps17
  have hmk := fun w => make_texts P.length w (by omega)
  have HG0 := Lib.hid (heap_alloc_new w (.cells (madeCells (Value.string ⟨#[]⟩).cells P.length) 9))
  have HB0 : Hid (Below w.heap.size w (w.alloc (.cells (madeCells (Value.string ⟨#[]⟩).cells P.length) 9))) := Lib.hid ((Below.refl _ _).alloc (Nat.le_refl _) _)
  have HZ0 : Hid ((madeCells (Value.string ⟨#[]⟩).cells P.length).size = P.length) := Lib.hid (size_madeCells _ _)
  go_wp2
  go_loopw [8, 9, 15] (fun _ _ i wr => ∃ (k : Nat) (C : Array Value), k ≤ P.length ∧ i = .int .i64 k ∧ Hid (C.size = P.length) ∧ Hid (∀ j, j < k → C[j]? = (P[j]?).map fun n => Value.string (asB (numF b 4 n))) ∧ Hid (wr.heap[w.heap.size]? = some (.cells C 9 (0, 0))) ∧ Hid (Below w.heap.size w wr)) (fun _ _ i _ => P.length - (intOf i).toNat)
  case atStart => exact ⟨0, _, Nat.zero_le _, rfl, HZ0, Lib.hid (fun j h => absurd h (Nat.not_lt_zero _)), HG0, HB0⟩
  case round =>
    obtain ⟨k, C, hk, rfl, HCs, HCc, HG, HB⟩ := hrel
    by_cases hlt : k < P.length
    · obtain ⟨x, HX⟩ : ∃ x, Hid (P[k] = x) := ⟨_, Lib.hid rfl⟩
      have hcell : wr.cell? ⟨g, o + k, none⟩ = some (.int .i64 (x : Int)) := by
        have := HC.out k hlt
        rw [HB.out.cell (p := ⟨g, o + k, none⟩) (block_lt_of_cell this), this, HX.out]
      have HCall := Lib.hid (HF.out wr HB.out x (by rw [← HX.out]; exact HP.out _ (List.getElem_mem _)))
      go_wp2_with fail
      refine HCall.out.mono ?_
      rintro e w2 ⟨rfl, b2⟩
      have HG2 : Hid (w2.heap[w.heap.size]? = some (.cells C 9 (0, 0))) := Lib.hid ((b2.block _ (lt_of_block HG.out)).trans HG.out)
      obtain ⟨v0, hv0⟩ : ∃ v, C[k]? = some v := ⟨_, Array.getElem?_eq_getElem (by rw [HCs.out]; exact hlt)⟩
      have hcl : w2.cell? ⟨w.heap.size, k, none⟩ = some v0 := (cell_of_row w2 _ _ C _ _ HG2.out).trans hv0
      have hfr := frozen_of_row w2 w.heap.size k C _ HG2.out
      have HG3 := Lib.hid (heap_setCell_same w2 w.heap.size k C _ (.string (asB (numF b 4 x))) HG2.out)
      have HB3 : Hid (Below w.heap.size w (w2.setCell ⟨w.heap.size, k, none⟩ (.string (asB (numF b 4 x))))) := Lib.hid ((HB.out.trans (b2.mono HB.out.size)).setCell (Nat.le_refl _) _)
      have HC3 : Hid (∀ j, j < k + 1 → (C.setIfInBounds k (.string (asB (numF b 4 x))))[j]? = (P[j]?).map fun n => Value.string (asB (numF b 4 n))) := Lib.hid (fun j hj => by
        rw [Array.getElem?_setIfInBounds]
        by_cases e : k = j
        · subst e
          rw [if_pos rfl, if_pos (by rw [HCs.out]; exact hlt), List.getElem?_eq_getElem hlt, HX.out]; rfl
        · rw [if_neg e]; exact HCc.out j (by omega))
      clear b2 hv0
      go_wp2
      exact ⟨⟨k + 1, _, by omega, by go_num, Lib.hid (by simpa using HCs.out), HC3, HG3, HB3⟩, by simp [intOf]; omega⟩
    · obtain rfl : k = P.length := by omega
      have HJ := Lib.hid (Tryd.strings_Join w.heap.size 0 P.length (P.map fun n => asB (numF b 4 n)) sep wr (fun j x hx => by
        rw [Nat.zero_add, cell_of_row wr _ _ C _ _ HG.out]
        rw [List.getElem?_map] at hx
        cases hp : P[j]? with
        | none => rw [hp] at hx; cases hx
        | some n =>
          rw [hp] at hx
          have hj : j < P.length := (List.getElem?_eq_some_iff.1 hp).1
          rw [HCc.out j hj, hp]
          exact congrArg some (congrArg Value.string (Option.some.inj hx))) (lt_of_block HG.out) (by rw [List.length_map]; omega) (by rw [List.length_map]; omega) (by
        have h1 : ∀ x ∈ (P.map fun n => asB (numF b 4 n)).map (·.data.toList), x.length ≤ 4 := by
          intro x hx
          rw [List.map_map] at hx
          obtain ⟨n, _, rfl⟩ := List.mem_map.1 hx
          exact numF_len b 4 n
        have h2 := join_le _ sep.data.toList h1 (by rw [lenB]; exact hs)
        rw [List.length_map, List.length_map] at h2
        omega))
      rw [List.length_map, List.map_map] at HJ
      go_wp2_with fail
      refine HJ.out.mono ?_
      rintro e w2 ⟨rfl, b2⟩
      have HB2 := Lib.hid (HB.out.trans (b2.mono HB.out.size))
      clear b2
      go_wp2
      go_ret
      exact ⟨rfl, HB2.out⟩

end Go.Proofs.YtgmjfnddeogfdabDoor
