/-
  Package heads: ahead.
-/
import Derived.Test.YtbfnbjffobhllaaDoorHdK
import Derived.Laws.IdiomStrings
import Derived.Lib.SlBytesConst
namespace Go.Proofs.YtbfnbjffobhllaaDoor
open Go.RowKit

/-- Bytes as they lie in memory. -/
structure BxAt (Bs : List UInt8) (a : Option Addr) (cap b o : Nat) (w : World) : Prop where
  at0 : 0 < Bs.length → a = some ⟨b, o, none⟩
  c : ∀ i (h : i < Bs.length), w.cell? ⟨b, o + i, none⟩ = some (.int .u8 (Bs[i].toNat : Int))
  cp : Bs.length ≤ cap
  nl : a = none → cap = 0
theorem BxAt.lt {Bs : List UInt8} {a : Option Addr} {cap b o : Nat} {w : World} (h : BxAt Bs a cap b o w) (hn : 0 < Bs.length) : b < w.heap.size := block_lt_of_cell (h.c 0 hn)
theorem BxAt.kept {Bs : List UInt8} {a : Option Addr} {cap b o : Nat} {w w' : World} (h : BxAt Bs a cap b o w) (hc : ∀ (q : Addr) (u : Value), q.block = b → w.cell? q = some u → w'.cell? q = some u) : BxAt Bs a cap b o w' :=
  ⟨h.at0, fun i hi => hc _ _ rfl (h.c i hi), h.cp, h.nl⟩
theorem BxAt.later {Bs : List UInt8} {a : Option Addr} {cap b o : Nat} {w w' : World} (h : BxAt Bs a cap b o w) (hb : Below w.heap.size w w') : BxAt Bs a cap b o w' :=
  h.kept fun q _ _ hq => (hb.cell (p := q) (block_lt_of_cell hq)).trans hq
theorem BxAt.kp {Bs : List UInt8} {a : Option Addr} {cap b o : Nat} {X : Nat → Prop} {w w' : World} (h : BxAt Bs a cap b o w) (hk : Kp X w w') (hx : 0 < Bs.length → ¬ X b) : BxAt Bs a cap b o w' := by
  by_cases h0 : 0 < Bs.length
  · exact h.kept fun q _ hq hc => hk.cell hc (by rw [hq]; exact hx h0)
  · exact ⟨fun hn => absurd hn h0, fun i hi => absurd (Nat.lt_of_le_of_lt (Nat.zero_le _) hi) h0, h.cp, h.nl⟩
def numsU (l : List UInt8) : List Int := l.map fun c => (c.toNat : Int)
theorem bytesOf_numsU (l : List UInt8) : Lib.bytesOf (numsU l) = l := by
  unfold Lib.bytesOf numsU
  rw [List.map_map]
  refine (List.map_congr_left fun c _ => ?_).trans (List.map_id' l)
  show UInt8.ofNat ((c.toNat : Int)).toNat = c
  simp
theorem numsU_rng (l : List UInt8) : ∀ x ∈ numsU l, 0 ≤ x ∧ x < 256 := fun x hx => by
  obtain ⟨c, _, rfl⟩ := List.mem_map.1 hx
  have := c.toNat_lt
  omega
theorem numsU_at (l : List UInt8) (i : Nat) (h : i < l.length) : (numsU l).getD i 0 = (l[i].toNat : Int) := by
  unfold numsU
  rw [List.getD_eq_getElem?_getD, List.getElem?_map, List.getElem?_eq_getElem h]; rfl
def aheadT (b : List UInt8) : List UInt8 := if 0 ≤ idx2 b then headT b else []
/-- bytes.Index of an empty line, in the first bytes of some. -/
theorem index_any (Bs : List UInt8) (a : Option Addr) (cap b o g : Nat) (fr : Nat × Nat) (m : Int) (w : World) (hB : BxAt Bs a cap b o w) (hm : MxAt m w) (hg : w.heap[g]? = some (.cells #[.int .u8 13, .int .u8 10, .int .u8 13, .int .u8 10] 5 fr)) :
    Calls Tryd.prog 100 #[.slice a (min Bs.length 65536) cap, .slice (some ⟨g, 0, none⟩) 4 4] w fun e w' => e = .returned (.int .i64 (idx2 Bs)) ∧ ∃ q, w' = w.drewN q := by
  have hl : (Bs.take 65536).length = min Bs.length 65536 := by rw [List.length_take, Nat.min_comm]
  cases ha : a with
  | none =>
    have h0 : ¬ 0 < Bs.length := fun h => by have := hB.at0 h; rw [ha] at this; cases this
    have hb : Bs = [] := List.length_eq_zero_iff.1 (by omega)
    have hc := hB.nl ha
    have := Tryd.bytes_Index_nil (some ⟨g, 0, none⟩) 4 4 w (by decide) (fun h => by cases h)
    subst hb hc
    refine this.mono fun e w' ⟨h1, h2⟩ => ⟨h1, 0, h2⟩
  | some ad =>
    have := Tryd.bytes_Index_at ad ⟨g, 0, none⟩ (min Bs.length 65536) cap 4 4 (numsU (Bs.take 65536)) [13, 10, 13, 10] m w (by unfold numsU; rw [List.length_map, hl]) rfl (numsU_rng _) (by decide)
      (fun i hi => by
        have h1 : i < (Bs.take 65536).length := by rw [hl]; exact hi
        have h2 : i < Bs.length := by omega
        have h3 := hB.at0 (by omega)
        rw [ha] at h3
        cases h3
        rw [numsU_at _ _ h1, List.getElem_take, show (⟨b, o, none⟩ : Addr).add i = ⟨b, o + i, none⟩ by unfold Addr.add; split <;> simp_all]
        exact hB.c i h2)
      (fun i hi => by
        rw [show (⟨g, 0, none⟩ : Addr).add i = ⟨g, i, none⟩ by unfold Addr.add; split <;> simp_all, cell_of_row w g i _ _ _ hg]
        rcases (show i = 0 ∨ i = 1 ∨ i = 2 ∨ i = 3 by omega) with rfl | rfl | rfl | rfl <;> rfl)
      (by have := hB.cp; omega) (by omega) (by decide) hm
    rw [bytesOf_numsU] at this
    exact this
theorem idx2_ge (l : List UInt8) : -1 ≤ idx2 l := Lib.index_ge _ _
theorem idx2_room {l : List UInt8} (h : 0 ≤ idx2 l) : idx2 l + 4 ≤ (min l.length 65536 : Nat) := by
  have := Lib.index_room (l.take 65536) crlf2 h
  rw [List.length_take, Nat.min_comm] at this
  exact this
theorem head_run (Bs : List UInt8) (a : Option Addr) (cap b o K : Nat) (w : World) (hB : BxAt Bs a cap b o w) (hK : K ≤ Bs.length) (h0 : 0 < K) : (convert 24 9 (.slice a K cap)).run Tryd.prog w = .ok (.string (asB (Bs.take K))) w := by
  have h3 := hB.at0 (by omega)
  subst h3
  have h := run_convert_bytes_back (P := Tryd.prog) w 24 9 5 ⟨b, o, none⟩ cap (Bs.take K) Tryd.underlying24 Tryd.underlying5 Tryd.underlying9 (fun j hj => by
    rw [List.length_take] at hj
    rw [show (⟨b, o, none⟩ : Addr).add j = ⟨b, o + j, none⟩ by unfold Addr.add; split <;> simp_all, List.getElem_take]
    exact hB.c j (by omega))
  rw [show (Bs.take K).length = K by rw [List.length_take]; omega] at h
  exact h
set_option maxRecDepth 100000 in
set_option maxHeartbeats 4000000 in
theorem ahead_any (Bs : List UInt8) (a : Option Addr) (cap b o : Nat) (m : Int) (w : World) (hB : BxAt Bs a cap b o w) (hn : cap ≤ maxLen) (hm : MxAt m w) :
    Calls Tryd.prog 86 #[.slice a Bs.length cap] w fun e w' => e = .returned (.tuple #[.string (asB (aheadT Bs)), .int .i64 (aheadE Bs)]) ∧ Below w.heap.size w w' := by
  unfold maxLen at hn
  have hcp := hB.cp
  obtain ⟨n, Hn⟩ : ∃ n, Hid (min Bs.length 65536 = n) := ⟨_, Lib.hid rfl⟩
  have hn1 : n ≤ 65536 := by have := Hn.out; omega
  have hn2 : n ≤ Bs.length := by have := Hn.out; omega
  have hmin : min (Bs.length : Int) 65536 = (n : Int) := by have := Hn.out; omega
  have HX := Lib.hid fun g w (hB : BxAt Bs a cap b o w) hm hg => index_any Bs a cap b o g (4, 5) m w hB hm hg
  rw [Hn.out] at HX
  have HE : Hid (aheadE Bs = if 0 ≤ idx2 Bs then 0 else if 65536 ≤ Bs.length then 3 else 7) := Lib.hid rfl
  have HTt : Hid (aheadT Bs = if 0 ≤ idx2 Bs then headT Bs else []) := Lib.hid rfl
  have HBx := Lib.hid hB
  have HMx := Lib.hid hm
  obtain ⟨L, HL⟩ : ∃ L, Hid (Bs.length = L) := ⟨_, Lib.hid rfl⟩
  have HHd : Hid (headT Bs = Bs.take ((idx2 Bs).toNat + 4)) := Lib.hid rfl
  have hrm := fun h => idx2_room (l := Bs) h
  rw [Hn.out] at hrm
  obtain ⟨x, Hx⟩ : ∃ x, Hid (idx2 Bs = x) := ⟨_, Lib.hid rfl⟩
  rw [Hx.out] at HX HE HTt HHd hrm
  have hx1 : -1 ≤ x := by rw [← Hx.out]; exact idx2_ge Bs
  rw [HL.out] at hcp hn2 hmin HE ⊢
  clear hB hm
  by_cases h0 : 0 ≤ x
  · have h4 := hrm h0
    obtain ⟨K, hK⟩ : ∃ K : Nat, x + 4 = (K : Int) := ⟨(x + 4).toNat, by omega⟩
    have HR : Hid (aheadT Bs = Bs.take K) := Lib.hid (by rw [HTt.out, if_pos h0, HHd.out, show x.toNat + 4 = K by omega])
    have HR2 : Hid (aheadE Bs = 0) := Lib.hid (by rw [HE.out, if_pos h0])
    have HCv := Lib.hid fun w (hB : BxAt Bs a cap b o w) => head_run Bs a cap b o K w hB (by have := HL.out; omega) (by omega)
    have hKn : (K : Int) ≤ (n : Int) := by omega
    have hKc : (K : Int) ≤ (cap : Int) := by omega
    have hK0 : (0 : Int) ≤ (K : Int) := by omega
    go_enter Tryd.func86, Tryd.ntmps86
    have hcc : (convert 24 24 (.slice (some ⟨w.heap.size, 0, none⟩) 4 4)).run Tryd.prog (w.alloc (.cells #[.int .u8 13, .int .u8 10, .int .u8 13, .int .u8 10] 5)) = .ok (.slice (some ⟨w.heap.size, 0, none⟩) 4 4) (w.alloc (.cells #[.int .u8 13, .int .u8 10, .int .u8 13, .int .u8 10] 5 (4, 5))) := Lib.run_convert_bytes_const (P := Tryd.prog) w 24 5 #[.int .u8 13, .int .u8 10, .int .u8 13, .int .u8 10] 4 4 Tryd.underlying24 Tryd.underlying5
    obtain ⟨W1, HW1⟩ : ∃ W, Hid (w.alloc (.cells #[.int .u8 13, .int .u8 10, .int .u8 13, .int .u8 10] 5 (4, 5)) = W) := ⟨_, Lib.hid rfl⟩
    have HB1 : Hid (Below w.heap.size w W1) := Lib.hid (by rw [← HW1.out]; exact (Below.refl _ _).alloc (Nat.le_refl _) _)
    have HX1 := Lib.hid (HX.out w.heap.size W1 (HBx.out.later HB1.out) (HMx.out.later HB1.out) (by rw [← HW1.out]; exact heap_alloc_new w _))
    go_wp2_with fail
    rw [HW1.out]
    refine HX1.out.mono ?_
    rintro e w2 ⟨rfl, q, hq⟩
    have HB2 : Hid (Below w.heap.size w w2) := Lib.hid (by rw [hq]; exact HB1.out.trans ⟨rfl, rfl, rfl, Nat.le_refl _, fun _ _ => rfl⟩)
    have hcv := HCv.out w2 (HBx.out.later HB2.out)
    clear hq hcc
    have hK4 : x + 4 = (K : Int) := hK
    go_wp2
    go_ret2
    rw [HR.out, HR2.out]
    exact ⟨rfl, HB2.out⟩
  · have HR : Hid (aheadT Bs = []) := Lib.hid (by rw [HTt.out, if_neg h0])
    obtain ⟨W1, HW1⟩ : ∃ W, Hid (w.alloc (.cells #[.int .u8 13, .int .u8 10, .int .u8 13, .int .u8 10] 5 (4, 5)) = W) := ⟨_, Lib.hid rfl⟩
    have HB1 : Hid (Below w.heap.size w W1) := Lib.hid (by rw [← HW1.out]; exact (Below.refl _ _).alloc (Nat.le_refl _) _)
    have HX1 := Lib.hid (HX.out w.heap.size W1 (HBx.out.later HB1.out) (HMx.out.later HB1.out) (by rw [← HW1.out]; exact heap_alloc_new w _))
    by_cases hbig : 65536 ≤ L
    · have HR2 : Hid (aheadE Bs = 3) := Lib.hid (by rw [HE.out, if_neg h0, if_pos hbig])
      have hn65 : ((n : Int) == 65536) = true := by have := Hn.out; have := HL.out; have : n = 65536 := by omega
                                                    rw [this]; rfl
      have hn66 : (n : Int) = 65536 := by have := Hn.out; have := HL.out; omega
      have HN65 := Lib.hid hn65
      have HN66 := Lib.hid hn66
      have h0' : decide (0 ≤ x) = false := decide_eq_false h0
      clear hrm hx1 hn65 hn66 hbig
      go_enter Tryd.func86, Tryd.ntmps86
      have hcc : (convert 24 24 (.slice (some ⟨w.heap.size, 0, none⟩) 4 4)).run Tryd.prog (w.alloc (.cells #[.int .u8 13, .int .u8 10, .int .u8 13, .int .u8 10] 5)) = .ok (.slice (some ⟨w.heap.size, 0, none⟩) 4 4) (w.alloc (.cells #[.int .u8 13, .int .u8 10, .int .u8 13, .int .u8 10] 5 (4, 5))) := Lib.run_convert_bytes_const (P := Tryd.prog) w 24 5 #[.int .u8 13, .int .u8 10, .int .u8 13, .int .u8 10] 4 4 Tryd.underlying24 Tryd.underlying5
      go_wp2_with fail
      rw [HW1.out]
      refine HX1.out.mono ?_
      rintro e w2 ⟨rfl, q, hq⟩
      have HB2 : Hid (Below w.heap.size w w2) := Lib.hid (by rw [hq]; exact HB1.out.trans ⟨rfl, rfl, rfl, Nat.le_refl _, fun _ _ => rfl⟩)
      clear hq hcc hmin
      have hn65 := HN65.out
      have hn66 := HN66.out
      go_wp2
      go_ret2
      rw [HR.out, HR2.out]
      exact ⟨rfl, HB2.out⟩
    · have HR2 : Hid (aheadE Bs = 7) := Lib.hid (by rw [HE.out, if_neg h0, if_neg hbig])
      have hn65 : ((n : Int) == 65536) = false := beq_eq_false_iff_ne.2 (by have := Hn.out; have := HL.out; omega)
      have hn66 : ¬ (n : Int) = 65536 := by have := Hn.out; have := HL.out; omega
      have HN65 := Lib.hid hn65
      have HN66 := Lib.hid hn66
      have h0' : decide (0 ≤ x) = false := decide_eq_false h0
      clear hrm hx1 hn65 hn66 hbig
      go_enter Tryd.func86, Tryd.ntmps86
      have hcc : (convert 24 24 (.slice (some ⟨w.heap.size, 0, none⟩) 4 4)).run Tryd.prog (w.alloc (.cells #[.int .u8 13, .int .u8 10, .int .u8 13, .int .u8 10] 5)) = .ok (.slice (some ⟨w.heap.size, 0, none⟩) 4 4) (w.alloc (.cells #[.int .u8 13, .int .u8 10, .int .u8 13, .int .u8 10] 5 (4, 5))) := Lib.run_convert_bytes_const (P := Tryd.prog) w 24 5 #[.int .u8 13, .int .u8 10, .int .u8 13, .int .u8 10] 4 4 Tryd.underlying24 Tryd.underlying5
      go_wp2_with fail
      rw [HW1.out]
      refine HX1.out.mono ?_
      rintro e w2 ⟨rfl, q, hq⟩
      have HB2 : Hid (Below w.heap.size w w2) := Lib.hid (by rw [hq]; exact HB1.out.trans ⟨rfl, rfl, rfl, Nat.le_refl _, fun _ _ => rfl⟩)
      clear hq hcc hmin
      have hn65 := HN65.out
      have hn66 := HN66.out
      go_wp2
      go_ret2
      rw [HR.out, HR2.out]
      exact ⟨rfl, HB2.out⟩

end Go.Proofs.YtbfnbjffobhllaaDoor
