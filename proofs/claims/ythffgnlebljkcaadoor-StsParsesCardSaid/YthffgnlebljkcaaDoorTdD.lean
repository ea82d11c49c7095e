/-
  Package sts, the document's side: Parse.
-/
import Derived.Test.YthffgnlebljkcaaDoorTdC
import Derived.Test.YthffgnlebljkcaaDoorTsG
namespace Go.Proofs.YthffgnlebljkcaaDoor
open Go.RowKit Go.Lib

theorem prts_len : ∀ (n : Nat) (l : List UInt8), l.length < n → (prts n l).length ≤ l.length + 1 ∧ ∀ p ∈ prts n l, p.length ≤ l.length
  | 0, _, h => absurd h (Nat.not_lt_zero _)
  | n + 1, l, h => by
    have h0 : (pfst l false).1.length ≤ l.length := by
      have := congrArg List.length (pfst_split l false)
      rw [List.length_append] at this; omega
    unfold prts
    cases hp : (pfst l false).2 with
    | none =>
      refine ⟨by simp, fun p hm => ?_⟩
      rw [List.mem_singleton.1 hm]; exact h0
    | some l' =>
      have hl := pfst_less hp
      obtain ⟨h1, h2⟩ := prts_len n l' (by omega)
      refine ⟨by simp only [List.length_cons]; omega, fun p hm => ?_⟩
      rcases List.mem_cons.1 hm with e | hm
      · rw [e]; exact h0
      · have := h2 p hm; omega
theorem prt_len (l : List UInt8) : (prt l).length ≤ l.length + 1 := (prts_len _ l (Nat.lt_succ_self _)).1
theorem prt_mem {l p : List UInt8} (h : p ∈ prt l) : p.length ≤ l.length := (prts_len _ l (Nat.lt_succ_self _)).2 p h
def tnV (x : TsE) : Value := .string (asB x.1)
/-- A name among those that are told. -/
def tellN (s : ByteArray) (T : List TsE) : Bool := T.any fun x => decide (asB x.1 = s)
theorem tellN_asB (n : List UInt8) (T : List TsE) : tellN (asB n) T = twiceB n T := by
  unfold tellN twiceB
  congr 1
  funext x
  by_cases h : x.1 = n
  · rw [decide_eq_true h, decide_eq_true (by rw [h])]
  · rw [decide_eq_false h, decide_eq_false (fun e => h (asB_inj e))]
theorem tellN_take {s : ByteArray} {T : List TsE} {k : Nat} (h : k < T.length) : tellN s (T.take (k + 1)) = (tellN s (T.take k) || decide (asB T[k].1 = s)) := by
  unfold tellN
  rw [List.take_add_one, List.getElem?_eq_getElem h, List.any_append]
  simp
theorem asB_eq (a b : ByteArray) : (a.toList == b.toList) = decide (a = b) := by
  rw [Lib.toList_data, Lib.toList_data]
  by_cases h : a = b
  · rw [h]; simp
  · rw [decide_eq_false h]
    refine beq_eq_false_iff_ne.2 fun e => h ?_
    apply ByteArray.ext
    exact Array.toList_inj.1 e
theorem rp_out (w W : World) (cs : Array Value) (c : Int) (hs : cs.size = 2) (tmps : Array Value) (hq : W.heap[w.heap.size]? = some (.cells cs 24 (0, 0))) (hk : Below w.heap.size w W)
    (h2 : tmps.getD 2 undef = .pointer (some ⟨w.heap.size, 0, none⟩)) (h3 : tmps.getD 3 undef = .int .i64 c) :
    bodyPost Tryd.prog Tryd.f11 (PrsQ w cs c) .ret { tmps := tmps, defers := [] } W := by
  refine bodyPost_ret (v := .tuple #[.agg cs, .int .i64 c]) ?_ rfl ⟨rfl, hk⟩
  have := ts_row2 (P := Tryd.prog) Tryd.results11 tmps W w.heap.size _ cs (0, 0) _ h2 hq Tryd.underlying24 rfl (by rw [infoWish, hs])
  rw [h3] at this
  exact this
/-- What stays while the parts are told. -/
structure Stay (w w5 : World) : Prop where
  q : w5.heap[w.heap.size]? = some (.cells wz 24 (0, 0))
  z : w.heap.size + 1 < w5.heap.size
  k : Below w.heap.size w w5
theorem Stay.at {w w5 W : World} (h : Stay w w5) (k : Kp (Only (w.heap.size + 1)) w5 W) : W.heap[w.heap.size]? = some (.cells wz 24 (0, 0)) :=
  k.at h.q (fun e => by have e : w.heap.size = w.heap.size + 1 := e; omega)
theorem Stay.set {w w5 W : World} (h : Stay w w5) (k : Kp (Only (w.heap.size + 1)) w5 W) (cs : Array Value) : (W.setRow w.heap.size cs).heap[w.heap.size]? = some (.cells cs 24 (0, 0)) := setRow_heap W _ _ _ _ _ (h.at k)
theorem Stay.bel {w w5 W : World} (h : Stay w w5) (k : Kp (Only (w.heap.size + 1)) w5 W) (cs : Array Value) : Below w.heap.size w (W.setRow w.heap.size cs) := by
  have h1 : Below w.heap.size w W := h.k.trans (k.below h.k.size fun q e => by have e : q = w.heap.size + 1 := e; omega)
  exact kp_below_setRow h1
  where kp_below_setRow {w W : World} {cs : Array Value} (h1 : Below w.heap.size w W) : Below w.heap.size w (W.setRow w.heap.size cs) :=
    (kp_fresh (Kp.of_below (X := fun _ => False) h1) (Nat.le_refl _) cs).below (Nat.le_refl _) fun _ e => e.elim
def fD (O : Option (Int × Bool)) : (Int × Bool) × Int := match O with
  | none => ((0, false), 4)
  | some x => (x, 0)
set_option maxRecDepth 100000 in
set_option maxHeartbeats 2000000 in
theorem refParse_long (s : ByteArray) (w : World) (hs : 65536 < s.size) : Calls Tryd.prog 11 #[.string s] w (PrsQ w wz 3) := by
  have hsI : (65536 : Int) < (s.size : Int) := by omega
  have HIw := Lib.hid infoWish
  have HZ0 : Hid ((w.alloc (.cells #[.int .i64 0, .bool false] 24)).heap[w.heap.size]? = some (.cells wz 24 (0, 0))) := Lib.hid (heap_alloc_new w _)
  have HB0 : Hid (Below w.heap.size w ((w.alloc (.cells #[.int .i64 0, .bool false] 24)).setRow w.heap.size wz)) := Lib.hid (Stay.bel.kp_below_setRow ((Below.refl _ _).alloc (Nat.le_refl _) _))
  clear hs
  go_enter Tryd.func11, Tryd.ntmps11
  go_wp2_with (refine wpL_store_row rfl 24 _ _ rfl w.heap.size wz ?_ ?_ 24 wz ?_ ?_ ?_ ?_ ?_; exact rfl; exact rfl; exact HZ0.out; exact HIw.out; exact rfl; (simp [wz, Value.oneCell']))
  exact rp_out w _ wz 3 rfl _ (setRow_heap _ _ _ _ _ _ HZ0.out) HB0.out rfl rfl

end Go.Proofs.YthffgnlebljkcaaDoor
