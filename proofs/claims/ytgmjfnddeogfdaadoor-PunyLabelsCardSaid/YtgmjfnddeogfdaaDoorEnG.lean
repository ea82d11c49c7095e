/-
  What a body that holds ranges over functions needs: an append within a fence whose run is known; the marks that it leaves; the digits' function; what the numbers of few letters are.
-/
import Derived.RangeFuncBox
import Derived.Test.YtgmjfnddeogfdaaDoorEnF
import Derived.Test.YtgmjfnddeogfdaaDoorEnB
namespace Go.Proofs.YtgmjfnddeogfdaaDoor
open Go.RowKit Go.Shelf
attribute [local go_sem] Oper.semAt_some

/-- An append within a fence, its run known. -/
theorem wpListIn_append_run {F : Fence} {n : Nat} {P : Program} (w : World) {ops : Array Oper} {rest : List Oper} {o : Oper} {a : Act} {Q : Exit → Act → World → Prop}
    (hg : o.guard = none) (s x : Operand) (t : TypeId) (hop : o.op = Op.call { callee := Callee.builtin Builtin.append, args := #[s, x], argTypes := #[t, t] })
    (vs vx : Value) (hs : a.eval s = vs) (hx : a.eval x = vx) (v' : Value) (w' : World) (hrun : (Builtin.append_ #[t, t] o.type #[vs, vx]).run P w = .ok v' w')
    (hK : wpListIn F n P ops Q rest (a.put o.dst v') w') : wpListIn F n P ops Q (o :: rest) a w := by
  refine wpListIn_plain hg fun K hK' => ?_
  unfold Oper.wpIn
  refine ⟨?_, ?_⟩
  · simp [Oper.about, hop, resolve, Target.leads, Sem.run_pure]
  · rw [Oper.semAt_plain F _ _ (by rw [hop]; intro c hc'; cases hc')]
    simp [execOp, hop, resolve, invoke, builtin, hs, hx, hrun, Result.andThen]
    exact hK' _ _ hK

/-- The mark that a range over a function leaves. -/
def markOf (D : Nat) : Deferred := { target := .collected D, args := #[] }
/-- Marks whose blocks hold nothing are passed by. -/
theorem leaves_marks {F : Fence} {n : Nat} {P : Program} {fn : Func} {tmps : Array Value} {R : Ending → World → Prop} (n₀ : Nat) : ∀ (ds : List Nat) (W : World), ds.Nodup → (∀ D ∈ ds, n₀ ≤ D ∧ W.heap[D]? = some (.deferred (some []))) →
    (∀ W', Below n₀ W W' → LeavesInM F n P fn tmps R [] .returning W') → LeavesInM F n P fn tmps R (ds.map markOf) .returning W
  | [], W, _, _, hfin => hfin W (Below.refl _ _)
  | D :: ds, W, hnd, hk, hfin => by
    obtain ⟨hD, hkD⟩ := hk D List.mem_cons_self
    have hlt : D < W.heap.size := (Array.getElem?_eq_some_iff.1 hkD).1
    have hB : Below n₀ W (W.putObj D (.deferred none)) := (Below.refl n₀ W).grown (grownBy_putObj' W D _) (by omega) (fun k e => by cases e; exact hD)
    refine ⟨by simp, .inl ⟨D, _, rfl, run_takeDeferred hkD, ?_⟩⟩
    refine leaves_marks n₀ ds _ (List.nodup_cons.1 hnd).2 (fun E hE => ⟨(hk E (List.mem_cons_of_mem _ hE)).1, ?_⟩) (fun W' h => hfin W' (hB.trans h))
    have hne : E ≠ D := fun e => (List.nodup_cons.1 hnd).1 (e ▸ hE)
    exact (World.putObj_heap_other hne).trans (hk E (List.mem_cons_of_mem _ hE)).2

theorem mkfG (fn : Fn) (first cap : Array Value) (w : World) : (Instr.makeFunc fn first cap).run Tryd.prog w = .ok (.func fn first cap) w := rfl
set_option maxHeartbeats 400000 in
theorem digits_any (number bias : Nat) (w : World) :
    Calls Tryd.prog 37 #[.int .i64 number, .int .i64 bias] w fun e w' => e = .returned (.func (.func 53) #[] #[.pointer (some ⟨w.heap.size, 0, none⟩), .pointer (some ⟨w.heap.size + 1, 0, none⟩)]) ∧ (w.alloc (.cells #[.int .i64 number] 3)).alloc (.cells #[.int .i64 bias] 3) = w' := by
  have hmf := mkfG
  go_enter Tryd.func37, Tryd.ntmps37
  go_wp2
  go_ret
  exact ⟨rfl, rfl⟩

/-- The digits of the numbers that tell the other signs: told: the places of the signs that are told. -/
def fewN (begun : Nat) : List Pr → List Nat → Nat → Nat → Nat → Nat → List UInt8
  | [], _, _, _, _, _ => []
  | (m, p) :: R, told, i, place, last, bias =>
    digsL ((m - last) * (begun + i + 1) + cntLt told p - place) ((m - last) * (begun + i + 1) + cntLt told p - place) 36 bias ++
      fewN begun R (p :: told) (i + 1) (cntLt told p + 1) m (nb ((m - last) * (begun + i + 1) + cntLt told p - place) (begun + i + 1) (i == 0))
/-- A text's few letters. -/
def fewL (SG R : List Pr) : List UInt8 := plB SG ++ (if plB SG = [] then [] else [45]) ++ fewN (plB SG).length R (plA SG) 0 0 128 72

theorem digits_stops (n : Nat) (hn : 1 ≤ n) (Bn Bb number bias : Nat) (w : World) (hnum : number ≤ 1000000000000000) (hbias : bias ≤ 756) (hBn : w.heap[Bn]? = some (.cells #[.int .i64 number] 3 (0, 0))) (hBb : w.heap[Bb]? = some (.cells #[.int .i64 bias] 3 (0, 0))) :
    SeqStopsK Fence.wide n Tryd.prog 53 #[.pointer (some ⟨Bn, 0, none⟩), .pointer (some ⟨Bb, 0, none⟩)] (fun x : UInt8 => #[Value.int .u8 x.toNat]) (fun W W' => W'.heap[Bb]? = W.heap[Bb]?) (fun ys => ys = digsL number number 36 bias) (fun pre => pre <+: digsL number number 36 bias) (digsL number number 36 bias).length w := fun l J Jx W hW _ _ hY h0 => by
  have h1 : Bn < w.heap.size := (Array.getElem?_eq_some_iff.1 hBn).1
  have h2 : Bb < w.heap.size := (Array.getElem?_eq_some_iff.1 hBb).1
  exact digits1_in n hn l Bn Bb number bias J Jx hnum hbias hY W (cell_of_one ((hW.block Bn h1).trans hBn)) ((hW.block Bb h2).trans hBb) h0

/-- Who is told next: no smaller sign; of an equal one, no earlier place. -/
def Nxt (told : List Nat) (place last : Nat) : List Pr → Prop
  | [] => True
  | (m, p) :: _ => last ≤ m ∧ (last = m → place ≤ cntLt told p)
theorem cntLt_cons (p : Nat) (ps : List Nat) (n : Nat) : cntLt (p :: ps) n = cntLt ps n + if p < n then 1 else 0 := by
  simp [cntLt, List.countP_cons]
theorem cntLt_mono (ps : List Nat) {a b : Nat} (h : a ≤ b) : cntLt ps a ≤ cntLt ps b := by
  unfold cntLt
  exact List.countP_mono_left (fun x _ hx => by simp at hx ⊢; omega)

end Go.Proofs.YtgmjfnddeogfdaaDoor
