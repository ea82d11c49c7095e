/-
  footmanlaw11.StsAges: an age is digits, whose number it is.
-/
import Derived.Test.YthffgnlebljkcaaDoorTsL
import Derived.Deep.Cut
namespace Go.Proofs.YthffgnlebljkcaaDoor
open Go.RowKit Go.Lib

theorem is_age (n : Nat) : isW (asB (preA ++ Lib.decDigits n)) (min (n : Int) 2147483647) false = true ∨ 20 < (Lib.decDigits n).length := by
  by_cases h : 20 < (Lib.decDigits n).length
  · exact .inr h
  · obtain ⟨d1, d2, d3⟩ := dd_facts n
    have h1 := run_one (x := some _) (says_age (all_tok d2 d3)) []
    refine .inl (isW_of (T := [(nAge, true, Lib.decDigits n)]) ?_ h1 ?_)
    · rw [List.length_append]
      have : preA.length = 8 := rfl
      omega
    · have := wish_of (T := [(nAge, true, Lib.decDigits n)]) (say_here (nAge, true, Lib.decDigits n) []) (o := none) (by rw [say_skip age_sub]; rfl) rfl (ageD_of d2 d3)
      rw [d1] at this
      exact this
theorem is_age20 {n : Nat} (hn : n ≤ 18446744073709551615) : isW (asB (preA ++ Lib.decDigits n)) (min (n : Int) 2147483647) false = true := by
  rcases is_age n with h | h
  · exact h
  · have := dgs11 n 20 (by omega) (by decide)
    omega
theorem bad_age {n : Nat} (hn : n ≤ 18446744073709551615) (k : Nat) {c : UInt8} (hc : inR 48 57 c.toNat = false) (h1 : bl c = false) (h2 : c ≠ 59) : badW (asB (preA ++ (Lib.decDigits n).take k ++ [c] ++ (Lib.decDigits n).drop k)) = true := by
  obtain ⟨d1, d2, d3⟩ := dd_facts n
  have hl := dgs11 n 20 (by omega) (by decide)
  have ha : allR 48 57 ((Lib.decDigits n).take k) = true := by
    unfold allR at d2 ⊢
    exact List.all_eq_true.2 fun x hx => List.all_eq_true.1 d2 x (List.mem_of_mem_take hx)
  have hb : allR 48 57 ((Lib.decDigits n).drop k) = true := by
    unfold allR at d2 ⊢
    exact List.all_eq_true.2 fun x hx => List.all_eq_true.1 d2 x (List.mem_of_mem_drop hx)
  have e : preA ++ (Lib.decDigits n).take k ++ [c] ++ (Lib.decDigits n).drop k = preA ++ ((Lib.decDigits n).take k ++ c :: (Lib.decDigits n).drop k) := by simp
  rw [e]
  refine badW_of ?_ (age_bad ha hb hc h1 h2)
  rw [List.length_append, List.length_append, List.length_cons, List.length_take, List.length_drop]
  have : preA.length = 8 := rfl
  omega
def preB : ByteArray := ⟨#[109, 97, 120, 45, 97, 103, 101, 61]⟩
def agD (i : Nat) : Nat := if i = 16 then 6 else 45 + i
def agV (A0 S : ByteArray) (K : Nat) (C : UInt8) (i : Nat) : Value :=
  [.bool true, .bool true, .string S, .int .i64 (K : Int), .string (S.extract 0 K), .string (A0 ++ S.extract 0 K), .int .u8 (C.toNat : Int), undef, .string ⟨#[C]⟩, .string (A0 ++ S.extract 0 K ++ ⟨#[C]⟩), .string S, .int .i64 (K : Int), .string (S.extract K S.size), .string (A0 ++ S.extract 0 K ++ ⟨#[C]⟩ ++ S.extract K S.size), .bool true, .bool true, .bool true].getD i undef
theorem agD_inj : ∀ i j : Fin 17, agD i.1 = agD j.1 → i.1 = j.1 := by decide
theorem agD_ne : ∀ i : Fin 17, agD i.1 ≠ 1 ∧ agD i.1 ≠ 7 ∧ agD i.1 ≠ 9 := by decide
/-- Between the operations of the region that draws: what was made is there. -/
structure AtA (w0 : World) (A0 S : ByteArray) (K : Nat) (C : UInt8) (L : Nat → Bool) (t : Nat → Value) (w : World) : Prop where
  bel : Below w0.heap.size w0 w
  k1 : t 1 = .int .u8 (C.toNat : Int)
  k7 : t 7 = .string S
  k9 : t 9 = .int .i64 (K : Int)
  vs : ∀ i, i < 17 → i ≠ 7 → L i = true → t (agD i) = agV A0 S K C i
  al : L 7 = true → ∃ g, t 52 = .slice (some ⟨g, 0, none⟩) 1 1 ∧ w0.heap.size ≤ g ∧ w.heap[g]? = some (.cells #[.int .u8 (C.toNat : Int)] 5 (0, 0))
section
variable {w0 w w' : World} {A0 S : ByteArray} {K : Nat} {C : UInt8} {L : Nat → Bool} {t : Nat → Value}
theorem AtA.pure (h : AtA w0 A0 S K C L t w) (i : Nat) (hi : i < 17) (h7 : i ≠ 7) : AtA w0 A0 S K C (tuL L i) (tuT t (agD i) (agV A0 S K C i)) w := by
  obtain ⟨n1, n7, n9⟩ := agD_ne ⟨i, hi⟩
  have n52 : agD i ≠ 52 := fun e => h7 (agD_inj ⟨i, hi⟩ ⟨7, by decide⟩ e)
  refine ⟨h.bel, by rw [tuT_ne _ _ (Ne.symm n1)]; exact h.k1, by rw [tuT_ne _ _ (Ne.symm n7)]; exact h.k7, by rw [tuT_ne _ _ (Ne.symm n9)]; exact h.k9, fun j hj j7 hl => ?_, fun hl => ?_⟩
  · by_cases e : j = i
    · subst e; exact tuT_at _ _ _
    · rw [tuL_ne _ e] at hl
      rw [tuT_ne _ _ (fun e' => e (agD_inj ⟨j, hj⟩ ⟨i, hi⟩ e'))]
      exact h.vs j hj j7 hl
  · rw [tuL_ne _ (Ne.symm h7)] at hl
    rw [tuT_ne _ _ (Ne.symm n52)]
    exact h.al hl
theorem AtA.grow (h : AtA w0 A0 S K C L t w) (hb : Below w.heap.size w w') : AtA w0 A0 S K C L t w' := by
  refine ⟨h.bel.trans (hb.mono h.bel.size), h.k1, h.k7, h.k9, h.vs, fun hl => ?_⟩
  obtain ⟨g, h1, h2, h3⟩ := h.al hl
  exact ⟨g, h1, h2, (hb.block g (lt_of_block h3)).trans h3⟩
theorem AtA.make (h : AtA w0 A0 S K C L t w) : AtA w0 A0 S K C (tuL L 7) (tuT t 52 (.slice (some ⟨w.heap.size, 0, none⟩) 1 1)) (w.alloc (.cells #[.int .u8 (C.toNat : Int)] 5)) := by
  refine ⟨h.bel.alloc h.bel.size _, by rw [tuT_ne _ _ (by decide)]; exact h.k1, by rw [tuT_ne _ _ (by decide)]; exact h.k7, by rw [tuT_ne _ _ (by decide)]; exact h.k9, fun j hj j7 hl => ?_, fun _ => ⟨_, tuT_at _ _ _, h.bel.size, heap_alloc_new w _⟩⟩
  rw [tuL_ne _ j7] at hl
  rw [tuT_ne _ _ (fun e' => j7 (agD_inj ⟨j, hj⟩ ⟨7, by decide⟩ e'))]
  exact h.vs j hj j7 hl
end
def frA (t : Nat → Value) : Act := ⟨#[t 0, t 1, t 2, t 3, t 4, t 5, t 6, t 7, t 8, t 9, t 10, t 11, t 12, t 13, t 14, t 15, t 16, t 17, t 18, t 19, t 20, t 21, t 22, t 23, t 24, t 25, t 26, t 27, t 28, t 29, t 30, t 31, t 32, t 33, t 34, t 35, t 36, t 37, t 38, t 39, t 40, t 41, t 42, t 43, t 44, t 45, t 46, t 47, t 48, t 49, t 50, t 51, t 52, t 53, t 54, t 55, t 56, t 57, t 58, t 59, t 60], []⟩
theorem list61 (l : List Value) (h : l.length = 61) : l = (List.range 61).map fun k => l.getD k undef := by
  refine List.ext_getElem (by simp [h]) fun i h1 h2 => ?_
  rw [List.getElem_map, List.getElem_range, List.getD_eq_getElem?_getD, List.getElem?_eq_getElem h1]
  rfl
theorem frA_of (a : Act) (h1 : a.tmps.size = 61) (h2 : a.defers = []) : a = frA fun k => a.tmps.toList.getD k undef := by
  obtain ⟨tm, df⟩ := a
  obtain rfl : df = [] := h2
  have h := list61 tm.toList h1
  unfold frA
  congr 1
  apply Array.toList_inj.1
  rw [h]
  rfl
theorem tsOp_w {P : Program} {ops : Array Oper} {Q : Exit → Act → World → Prop} {i : Nat} {K : Act → World → Prop} {a : Act} {w : World} {o : Oper} (ho : ops[i]? = some o) (hw : Region.wanted o (yielded ops a.tmps) = true) (h : o.wp P a w K Q) : wpOp P ops Q i K a w := by
  unfold wpOp
  simp only [ho, hw, if_true]
  exact .inl h
theorem ts_call0 {P : Program} {Q : Exit → Act → World → Prop} {K : Act → World → Prop} {a : Act} {w : World} {o : Oper} {f : FuncId} {ts : Array TypeId} (ho : o.op = .call { callee := .value (.func f), args := #[], argTypes := ts })
    (he : (callFunc f #[]).run P w = .ok (.enter f #[]) w) (h : Calls P f #[] w fun e w' => ∃ v, e = .returned v ∧ K (a.put o.dst v) w') : o.wp P a w K Q := by
  unfold Oper.wp
  have hr : (execOp a.eval o).run P w = .ok (.enter f #[]) w := by
    have hf : a.eval (.func f) = .func (.func f) #[] #[] := rfl
    simp [execOp, ho, hf, resolve, invoke, Deferred.ofValue, he]
  rw [hr, Oper.upon_enter]
  refine h.mono ?_
  rintro e w' ⟨v, rfl, hK⟩
  exact hK
theorem slc11 (x : Value) (lo hi mx : Option Value) (w : World) : (Instr.sliceAt 9 x lo hi mx).run Tryd.prog w = (Instr.slice 9 x lo hi mx).run Tryd.prog w := by
  simp [Instr.sliceAt, run_underlying Tryd.underlying9]
theorem eqg11 (t : TypeId) (x y : Operand) (a b : Value) (w : World) : (eqGuard .add t x y a b).run Tryd.prog w = .ok () w := by
  simp [eqGuard]
theorem add11 (a b : ByteArray) (h : a.size + b.size ≤ 1000000) (w : World) : (binOp .add 9 (.string a) (.string b)).run Tryd.prog w = .ok (.string (a ++ b)) w := by

  rw [binOp_string_add]
  simp [Op.stringOp]
  omega
theorem made11 (c : Int) (w : World) : (Instr.buildSlice 39 1 #[(0, .int .u8 c)]).run Tryd.prog w = .ok (.slice (some ⟨w.heap.size, 0, none⟩) 1 1) (w.alloc (.cells #[.int .u8 c] 5)) := by kernel_rfl
theorem conv11 (g : Nat) (C : UInt8) (w : World) (h : w.heap[g]? = some (.cells #[.int .u8 (C.toNat : Int)] 5 (0, 0))) : (convert 39 9 (.slice (some ⟨g, 0, none⟩) 1 1)).run Tryd.prog w = .ok (.string ⟨#[C]⟩) w :=
  run_convert_bytes_back (P := Tryd.prog) w 39 9 5 ⟨g, 0, none⟩ 1 [C] Tryd.underlying39 Tryd.underlying5 Tryd.underlying9 (fun j hj => by
    obtain rfl : j = 0 := by simp at hj; omega
    rw [Addr.add_lit, Nat.zero_add, cell_of_row w g 0 _ _ _ h]; rfl)
set_option maxRecDepth 100000 in
set_option maxHeartbeats 4000000 in
theorem wages_walk (n c t : Nat) (w : World) (hn : n ≤ 18446744073709551615) (hc : c < 256) (ht : t < 256) (htab : Lib.TabIs Tryd.prog w "internal/strconv.uint64pow10" .u64 Lib.pow10Tab) :
    Calls Tryd.prog 8 #[.int .u64 (n : Int), .int .u8 (c : Int), .int .u8 (t : Int)] w fun e w' => e = .returned (.bool true) ∧ Below w.heap.size w w' := by
  obtain ⟨C, hC⟩ : ∃ C : UInt8, C.toNat = c := ⟨UInt8.ofNat c, by rw [UInt8.toNat_ofNat']; omega⟩
  have HDg := Lib.hid (digits_any n w hn)
  have hl := dgs11 n 20 (by omega) (by decide)
  have HIs := Lib.hid fun w => is_any (asB (preA ++ Lib.decDigits n)) (min (n : Int) 2147483647) false w
  rw [is_age20 hn] at HIs
  have HAl := Lib.hid fun w h => alive11_any w h
  have HT := Lib.hid htab
  have hp : (⟨#[109, 97, 120, 45, 97, 103, 101, 61]⟩ : ByteArray) ++ asB (Lib.decDigits n) = asB (preA ++ Lib.decDigits n) := asB_app preA _
  have hsz : (asB (Lib.decDigits n)).size ≤ 20 := hl
  obtain ⟨D, HD⟩ : ∃ D, Hid (Lib.decDigits n = D) := ⟨_, Lib.hid rfl⟩
  obtain ⟨S, HS⟩ : ∃ S, Hid (asB (Lib.decDigits n) = S) := ⟨_, Lib.hid rfl⟩
  obtain ⟨P, HP⟩ : ∃ S, Hid (asB (preA ++ Lib.decDigits n) = S) := ⟨_, Lib.hid rfl⟩
  rw [HS.out] at HDg hp hsz
  rw [HP.out] at HIs hp
  have hm0 : (0 : Int) ≤ min (n : Int) 2147483647 := by omega
  have hm1 : min (n : Int) 2147483647 ≤ 2147483647 := by omega
  have hwm : IntKind.i64.wrap (min (n : Int) 2147483647) = min (n : Int) 2147483647 := by rw [IntKind.wrap_i64]; omega
  have HC := Lib.hid hC
  have HN := Lib.hid hn
  by_cases hdg : 48 ≤ c ∧ c ≤ 57
  · obtain ⟨g1, g2⟩ := hdg
    have e1 : decide ((48 : Int) ≤ (c : Int)) = true := decide_eq_true (by omega)
    have e2 : decide ((c : Int) ≤ 57) = true := decide_eq_true (by omega)
    have i1 : (48 : Int) ≤ (c : Int) := by omega
    have i2 : (c : Int) ≤ 57 := by omega
    clear htab hl g1 g2
    go_enter Tryd.func8, Tryd.ntmps8
    go_wp2_with fail
    refine HDg.out.mono ?_
    rintro e w1 ⟨rfl, b1⟩
    have HB1 := Lib.hid b1
    clear b1
    go_wp2_with fail
    refine (HIs.out w1).mono ?_
    rintro e w2 ⟨rfl, b2⟩
    have HB2 := Lib.hid (HB1.out.trans (b2.mono HB1.out.size))
    have HA2 := Lib.hid (HAl.out w2 (tab11 HT.out HB2.out))
    clear b2
    go_wp2_with fail
    refine HA2.out.mono ?_
    rintro e w3 ⟨rfl, b3⟩
    have HB3 := Lib.hid (HB2.out.trans (b3.mono HB2.out.size))
    clear b3
    go_wp2
    go_ret
    exact ⟨rfl, HB3.out⟩
  by_cases h32 : c = 32
  · subst h32
    clear htab hl hdg
    go_enter Tryd.func8, Tryd.ntmps8
    go_wp2_with fail
    refine HDg.out.mono ?_
    rintro e w1 ⟨rfl, b1⟩
    have HB1 := Lib.hid b1
    clear b1
    go_wp2_with fail
    refine (HIs.out w1).mono ?_
    rintro e w2 ⟨rfl, b2⟩
    have HB2 := Lib.hid (HB1.out.trans (b2.mono HB1.out.size))
    have HA2 := Lib.hid (HAl.out w2 (tab11 HT.out HB2.out))
    clear b2
    go_wp2_with fail
    refine HA2.out.mono ?_
    rintro e w3 ⟨rfl, b3⟩
    have HB3 := Lib.hid (HB2.out.trans (b3.mono HB2.out.size))
    clear b3
    go_wp2
    go_ret
    exact ⟨rfl, HB3.out⟩
  by_cases h9 : c = 9
  · subst h9
    clear htab hl hdg
    go_enter Tryd.func8, Tryd.ntmps8
    go_wp2_with fail
    refine HDg.out.mono ?_
    rintro e w1 ⟨rfl, b1⟩
    have HB1 := Lib.hid b1
    clear b1
    go_wp2_with fail
    refine (HIs.out w1).mono ?_
    rintro e w2 ⟨rfl, b2⟩
    have HB2 := Lib.hid (HB1.out.trans (b2.mono HB1.out.size))
    have HA2 := Lib.hid (HAl.out w2 (tab11 HT.out HB2.out))
    clear b2
    go_wp2_with fail
    refine HA2.out.mono ?_
    rintro e w3 ⟨rfl, b3⟩
    have HB3 := Lib.hid (HB2.out.trans (b3.mono HB2.out.size))
    clear b3
    go_wp2
    go_ret
    exact ⟨rfl, HB3.out⟩
  by_cases h59 : c = 59
  · subst h59
    clear htab hl hdg
    go_enter Tryd.func8, Tryd.ntmps8
    go_wp2_with fail
    refine HDg.out.mono ?_
    rintro e w1 ⟨rfl, b1⟩
    have HB1 := Lib.hid b1
    clear b1
    go_wp2_with fail
    refine (HIs.out w1).mono ?_
    rintro e w2 ⟨rfl, b2⟩
    have HB2 := Lib.hid (HB1.out.trans (b2.mono HB1.out.size))
    have HA2 := Lib.hid (HAl.out w2 (tab11 HT.out HB2.out))
    clear b2
    go_wp2_with fail
    refine HA2.out.mono ?_
    rintro e w3 ⟨rfl, b3⟩
    have HB3 := Lib.hid (HB2.out.trans (b3.mono HB2.out.size))
    clear b3
    go_wp2
    go_ret
    exact ⟨rfl, HB3.out⟩
  by_cases hlo : c < 48
  · have hic : inR 48 57 C.toNat = false := by rw [hC]; simp [inR]; omega
    have hbl : bl C = false := by
      cases hb : bl C with
      | false => rfl
      | true =>
        rcases (bl_iff C).1 hb with e | e
        · rw [e] at hC; exact absurd hC.symm h32
        · rw [e] at hC; exact absurd hC.symm h9
    have h59' : C ≠ 59 := fun e => by rw [e] at hC; exact absurd hC.symm h59
    obtain ⟨K, hK⟩ : ∃ K : Nat, t % ((Lib.decDigits n).length + 1) = K := ⟨_, rfl⟩
    have hKl : K ≤ (Lib.decDigits n).length := by
      have := Nat.mod_lt t (show 0 < (Lib.decDigits n).length + 1 by omega)
      omega
    have hKS : S.size = (Lib.decDigits n).length := by rw [← HS.out]; rfl
    have HBad : Hid (∀ w, Calls Tryd.prog 19 #[.string (preB ++ S.extract 0 K ++ ⟨#[C]⟩ ++ S.extract K S.size)] w fun e w' => e = .returned (.bool true) ∧ Below w.heap.size w w') := Lib.hid fun w => by
      have h := bad_any (asB (preA ++ (Lib.decDigits n).take K ++ [C] ++ (Lib.decDigits n).drop K)) w
      rw [bad_age hn K hic hbl h59'] at h
      rw [← asB_app, ← asB_app, ← asB_app, ← asB_ext, ← asB_drop, HS.out] at h
      exact h
    have k1 : (t : Int).tmod ((S.size : Int) + 1) = (K : Int) := by rw [Int.tmod_eq_emod_of_nonneg (by omega), hKS, ← hK]; rfl
    have k2 : (t : Int) % ((S.size : Int) + 1) = (K : Int) := by rw [hKS, ← hK]; rfl
    have k3 : (K : Int) ≤ (S.size : Int) := by omega
    have k4 : IntKind.i64.wrap (K : Int) = (K : Int) := by rw [IntKind.wrap_i64]; omega
    have k5 : ¬ ((S.size : Int) + 1 = 0) := by omega
    have k6 : (0 : Int) ≤ (K : Int) := by omega
    have n32 : ((c : Int) == 32) = false := beq_eq_false_iff_ne.2 (by omega)
    have n9 : ((c : Int) == 9) = false := beq_eq_false_iff_ne.2 (by omega)
    have n59 : ((c : Int) == 59) = false := beq_eq_false_iff_ne.2 (by omega)
    have hsl1 : ∀ w, (Instr.slice 9 (.string S) none (some (.int .i64 (K : Int))) none).run Tryd.prog w = .ok (.string (S.extract 0 K)) w := fun w => by
      have := run_slice_string_h (P := Tryd.prog) (t := 9) (s := S) (w := w) Tryd.underlying9 .i64 (K : Int) k6 k3
      simpa using this
    have hsl2 : ∀ w, (Instr.slice 9 (.string S) (some (.int .i64 (K : Int))) none none).run Tryd.prog w = .ok (.string (S.extract K S.size)) w := fun w => by
      have := run_slice_string_l (P := Tryd.prog) (t := 9) (s := S) (w := w) Tryd.underlying9 .i64 (K : Int) k6 k3
      simpa using this
    have zp : preB.size = 8 := rfl
    have zC : (⟨#[C]⟩ : ByteArray).size = 1 := rfl
    have z0 : (S.extract 0 K).size = K := by rw [ByteArray.size_extract]; omega
    have z1 : (S.extract K S.size).size = S.size - K := by rw [ByteArray.size_extract]; omega
    have had1 : ∀ w, (binOp .add 9 (.string { data := #[109, 97, 120, 45, 97, 103, 101, 61] }) (.string (S.extract 0 K))).run Tryd.prog w = .ok (.string (preB ++ S.extract 0 K)) w := fun w => add11 preB _ (by rw [z0, zp]; omega) w
    have had2 : ∀ w, (binOp .add 9 (.string (preB ++ S.extract 0 K)) (.string ⟨#[C]⟩)).run Tryd.prog w = .ok (.string (preB ++ S.extract 0 K ++ ⟨#[C]⟩)) w := fun w => add11 _ _ (by rw [ByteArray.size_append, z0, zp, zC]; omega) w
    have had3 : ∀ w, (binOp .add 9 (.string (preB ++ S.extract 0 K ++ ⟨#[C]⟩)) (.string (S.extract K S.size))).run Tryd.prog w = .ok (.string (preB ++ S.extract 0 K ++ ⟨#[C]⟩ ++ S.extract K S.size)) w := fun w => add11 _ _ (by rw [ByteArray.size_append, ByteArray.size_append, z0, zp, zC, z1]; omega) w
    have HCi : Hid (Value.int .u8 (c : Int) = .int .u8 (C.toNat : Int)) := Lib.hid (by rw [hC])
    have e1 : decide ((48 : Int) ≤ (c : Int)) = false := decide_eq_false (by omega)
    have i1 : ¬ (48 : Int) ≤ (c : Int) := by omega
    clear htab hl hdg h32 h9 h59 hlo hK hKl hKS hic hbl h59' hC zp zC z0 z1
    go_enter Tryd.func8, Tryd.ntmps8
    go_wp2_with fail
    refine HDg.out.mono ?_
    rintro e w1 ⟨rfl, b1⟩
    have HB1 := Lib.hid b1
    clear b1
    go_wp2_with fail
    refine (HIs.out w1).mono ?_
    rintro e w2 ⟨rfl, b2⟩
    have HB2 := Lib.hid (HB1.out.trans (b2.mono HB1.out.size))
    have HTw := Lib.hid (tab11 HT.out HB2.out)
    clear b2
    go_upto_region 7 with (fail)
    go_wp2_with fail
    refine wp_region_inv2 (by kernel_rfl) (fun listed a w' => ∃ t : Nat → Value, a = frA t ∧ AtA w2 preB S K C (fun k => listed.getD k false) t w') (tsLex_spec (by kernel_rfl)) ?_ ?_ ?_
    · refine ⟨_, frA_of _ rfl rfl, (Below.refl _ _).drew, HCi.out, rfl, rfl, fun i _ _ h => ?_, fun h => ?_⟩
      all_goals simp only [Array.getD_eq_getD_getElem?, Array.getElem?_replicate] at h
      all_goals (split at h <;> simp at h)
    · intro listed a w' i hsz' hI hi
      obtain ⟨t, rfl, hA⟩ := hI
      obtain ⟨hlt, hf, o, ho, haft⟩ := ready_iff.1 hi
      have hlt' : i < 17 := hlt
      have hs' : listed.size = 17 := hsz'
      have hup := tget_up listed i (by omega)
      rcases (show i = 0 ∨ i = 1 ∨ i = 2 ∨ i = 3 ∨ i = 4 ∨ i = 5 ∨ i = 6 ∨ i = 7 ∨ i = 8 ∨ i = 9 ∨ i = 10 ∨ i = 11 ∨ i = 12 ∨ i = 13 ∨ i = 14 ∨ i = 15 ∨ i = 16 by omega) with rfl | rfl | rfl | rfl | rfl | rfl | rfl | rfl | rfl | rfl | rfl | rfl | rfl | rfl | rfl | rfl | rfl
      all_goals (obtain rfl := Option.some.inj ho)
      · refine tsOp_of rfl rfl (ts_call0 rfl (by kernel_rfl) ((HAl.out w' (tab11 HTw.out hA.bel)).mono ?_))
        rintro e w2 ⟨rfl, hb⟩
        refine ⟨_, rfl, tuT t 45 _, rfl, ?_⟩
        rw [hup]; exact (hA.grow hb).pure 0 (by decide) (by decide)
      · have h0 : t 45 = .bool true := hA.vs 0 (by decide) (by decide) (haft ⟨0, .data⟩ (by simp) rfl)
        refine tsOp_of rfl rfl (ts_run (w' := w') (.bool true) ?_ ⟨tuT t 46 _, rfl, ?_⟩)
        · simp [execOp, frA, Act.eval, h0]
        · rw [hup]; exact hA.pure 1 (by decide) (by decide)
      · have hgd : t 46 = .bool true := hA.vs 1 (by decide) (by decide) (haft ⟨1, .guard⟩ (by simp) rfl)
        refine tsOp_w rfl (by simp [Region.wanted, yielded, frA, hgd]) (ts_run (w' := w') (.string S) ?_ ⟨tuT t 47 _, rfl, ?_⟩)
        · simp [execOp, frA, Act.eval, hA.k7]
        · rw [hup]; exact hA.pure 2 (by decide) (by decide)
      · have hgd : t 46 = .bool true := hA.vs 1 (by decide) (by decide) (haft ⟨1, .guard⟩ (by simp) rfl)
        refine tsOp_w rfl (by simp [Region.wanted, yielded, frA, hgd]) (ts_run (w' := w') (.int .i64 (K : Int)) ?_ ⟨tuT t 48 _, rfl, ?_⟩)
        · simp [execOp, frA, Act.eval, hA.k9]
        · rw [hup]; exact hA.pure 3 (by decide) (by decide)
      · have h2 : t 47 = .string S := hA.vs 2 (by decide) (by decide) (haft ⟨2, .data⟩ (by simp) rfl)
        have h3 : t 48 = .int .i64 (K : Int) := hA.vs 3 (by decide) (by decide) (haft ⟨3, .data⟩ (by simp) rfl)
        have hgd : t 46 = .bool true := hA.vs 1 (by decide) (by decide) (haft ⟨1, .guard⟩ (by simp) rfl)
        refine tsOp_w rfl (by simp [Region.wanted, yielded, frA, hgd]) (ts_run (w' := w') (.string (S.extract 0 K)) ?_ ⟨tuT t 49 _, rfl, ?_⟩)
        · simp [execOp, frA, Act.eval, h2, h3, slc11, hsl1]
        · rw [hup]; exact hA.pure 4 (by decide) (by decide)
      · have h4 : t 49 = .string (S.extract 0 K) := hA.vs 4 (by decide) (by decide) (haft ⟨4, .data⟩ (by simp) rfl)
        have hgd : t 46 = .bool true := hA.vs 1 (by decide) (by decide) (haft ⟨1, .guard⟩ (by simp) rfl)
        refine tsOp_w rfl (by simp [Region.wanted, yielded, frA, hgd]) (ts_run (w' := w') (.string (preB ++ S.extract 0 K)) ?_ ⟨tuT t 50 _, rfl, ?_⟩)
        · simp [execOp, frA, Act.eval, h4, eqg11, had1]
        · rw [hup]; exact hA.pure 5 (by decide) (by decide)
      · have hgd : t 46 = .bool true := hA.vs 1 (by decide) (by decide) (haft ⟨1, .guard⟩ (by simp) rfl)
        refine tsOp_w rfl (by simp [Region.wanted, yielded, frA, hgd]) (ts_run (w' := w') (.int .u8 (C.toNat : Int)) ?_ ⟨tuT t 51 _, rfl, ?_⟩)
        · simp [execOp, frA, Act.eval, hA.k1]
        · rw [hup]; exact hA.pure 6 (by decide) (by decide)
      · have h6 : t 51 = .int .u8 (C.toNat : Int) := hA.vs 6 (by decide) (by decide) (haft ⟨6, .data⟩ (by simp) rfl)
        have hgd : t 46 = .bool true := hA.vs 1 (by decide) (by decide) (haft ⟨1, .guard⟩ (by simp) rfl)
        refine tsOp_w rfl (by simp [Region.wanted, yielded, frA, hgd]) (ts_run (w' := w'.alloc (.cells #[.int .u8 (C.toNat : Int)] 5)) (.slice (some ⟨w'.heap.size, 0, none⟩) 1 1) ?_ ⟨tuT t 52 _, rfl, ?_⟩)
        · simp [execOp, frA, Act.eval, h6, made11]
        · rw [hup]; exact hA.make
      · have hgd : t 46 = .bool true := hA.vs 1 (by decide) (by decide) (haft ⟨1, .guard⟩ (by simp) rfl)
        obtain ⟨g, h7, hg, hw⟩ := hA.al (haft ⟨7, .data⟩ (by simp) rfl)
        refine tsOp_w rfl (by simp [Region.wanted, yielded, frA, hgd]) (ts_run (w' := w') (.string ⟨#[C]⟩) ?_ ⟨tuT t 53 _, rfl, ?_⟩)
        · simp [execOp, frA, Act.eval, h7, conv11 g C w' hw]
        · rw [hup]; exact hA.pure 8 (by decide) (by decide)
      · have h5 : t 50 = .string (preB ++ S.extract 0 K) := hA.vs 5 (by decide) (by decide) (haft ⟨5, .data⟩ (by simp) rfl)
        have h8 : t 53 = .string ⟨#[C]⟩ := hA.vs 8 (by decide) (by decide) (haft ⟨8, .data⟩ (by simp) rfl)
        have hgd : t 46 = .bool true := hA.vs 1 (by decide) (by decide) (haft ⟨1, .guard⟩ (by simp) rfl)
        refine tsOp_w rfl (by simp [Region.wanted, yielded, frA, hgd]) (ts_run (w' := w') (.string (preB ++ S.extract 0 K ++ ⟨#[C]⟩)) ?_ ⟨tuT t 54 _, rfl, ?_⟩)
        · simp [execOp, frA, Act.eval, h5, h8, eqg11, had2]
        · rw [hup]; exact hA.pure 9 (by decide) (by decide)
      · have hgd : t 46 = .bool true := hA.vs 1 (by decide) (by decide) (haft ⟨1, .guard⟩ (by simp) rfl)
        refine tsOp_w rfl (by simp [Region.wanted, yielded, frA, hgd]) (ts_run (w' := w') (.string S) ?_ ⟨tuT t 55 _, rfl, ?_⟩)
        · simp [execOp, frA, Act.eval, hA.k7]
        · rw [hup]; exact hA.pure 10 (by decide) (by decide)
      · have hgd : t 46 = .bool true := hA.vs 1 (by decide) (by decide) (haft ⟨1, .guard⟩ (by simp) rfl)
        refine tsOp_w rfl (by simp [Region.wanted, yielded, frA, hgd]) (ts_run (w' := w') (.int .i64 (K : Int)) ?_ ⟨tuT t 56 _, rfl, ?_⟩)
        · simp [execOp, frA, Act.eval, hA.k9]
        · rw [hup]; exact hA.pure 11 (by decide) (by decide)
      · have h10 : t 55 = .string S := hA.vs 10 (by decide) (by decide) (haft ⟨10, .data⟩ (by simp) rfl)
        have h11 : t 56 = .int .i64 (K : Int) := hA.vs 11 (by decide) (by decide) (haft ⟨11, .data⟩ (by simp) rfl)
        have hgd : t 46 = .bool true := hA.vs 1 (by decide) (by decide) (haft ⟨1, .guard⟩ (by simp) rfl)
        refine tsOp_w rfl (by simp [Region.wanted, yielded, frA, hgd]) (ts_run (w' := w') (.string (S.extract K S.size)) ?_ ⟨tuT t 57 _, rfl, ?_⟩)
        · simp [execOp, frA, Act.eval, h10, h11, slc11, hsl2]
        · rw [hup]; exact hA.pure 12 (by decide) (by decide)
      · have h9 : t 54 = .string (preB ++ S.extract 0 K ++ ⟨#[C]⟩) := hA.vs 9 (by decide) (by decide) (haft ⟨9, .data⟩ (by simp) rfl)
        have h12 : t 57 = .string (S.extract K S.size) := hA.vs 12 (by decide) (by decide) (haft ⟨12, .data⟩ (by simp) rfl)
        have hgd : t 46 = .bool true := hA.vs 1 (by decide) (by decide) (haft ⟨1, .guard⟩ (by simp) rfl)
        refine tsOp_w rfl (by simp [Region.wanted, yielded, frA, hgd]) (ts_run (w' := w') (.string (preB ++ S.extract 0 K ++ ⟨#[C]⟩ ++ S.extract K S.size)) ?_ ⟨tuT t 58 _, rfl, ?_⟩)
        · simp [execOp, frA, Act.eval, h9, h12, eqg11, had3]
        · rw [hup]; exact hA.pure 13 (by decide) (by decide)
      · have h13 : t 58 = .string (preB ++ S.extract 0 K ++ ⟨#[C]⟩ ++ S.extract K S.size) := hA.vs 13 (by decide) (by decide) (haft ⟨13, .data⟩ (by simp) rfl)
        have hgd : t 46 = .bool true := hA.vs 1 (by decide) (by decide) (haft ⟨1, .guard⟩ (by simp) rfl)
        refine tsOp_w rfl (by simp [Region.wanted, yielded, frA, hgd]) (ts_call rfl h13 (by kernel_rfl) ((HBad.out w').mono ?_))
        rintro e w3 ⟨rfl, hb⟩
        refine ⟨_, rfl, tuT t 59 _, rfl, ?_⟩
        rw [hup]; exact (hA.grow hb).pure 14 (by decide) (by decide)
      · have h1 : t 46 = .bool true := hA.vs 1 (by decide) (by decide) (haft ⟨1, .data⟩ (by simp) rfl)
        have h14 : t 59 = .bool true := hA.vs 14 (by decide) (by decide) (haft ⟨14, .data⟩ (by simp) rfl)
        refine tsOp_of rfl rfl (ts_run (w' := w') (.bool true) ?_ ⟨tuT t 60 _, rfl, ?_⟩)
        · simp [execOp, frA, Act.eval, h1, h14, asBool]
        · rw [hup]; exact hA.pure 15 (by decide) (by decide)
      · have h15 : t 60 = .bool true := hA.vs 15 (by decide) (by decide) (haft ⟨15, .data⟩ (by simp) rfl)
        refine tsOp_of rfl rfl (ts_run (w' := w') (.bool true) ?_ ⟨tuT t 6 _, rfl, ?_⟩)
        · simp [execOp, frA, Act.eval, h15]
        · rw [hup]; exact hA.pure 16 (by decide) (by decide)
    · intro listed a w' hall hI
      obtain ⟨t, rfl, hA⟩ := hI
      have h16 : t 6 = .bool true := hA.vs 16 (by decide) (by decide) (hall 16 (by decide))
      have HB := Lib.hid (HB2.out.trans (hA.bel.mono HB2.out.size))
      unfold frA
      rw [h16]
      clear hall hA h16
      go_wp2
      go_ret
      exact ⟨rfl, HB.out⟩
  · have hic : inR 48 57 C.toNat = false := by rw [hC]; simp [inR]; omega
    have hbl : bl C = false := by
      cases hb : bl C with
      | false => rfl
      | true =>
        rcases (bl_iff C).1 hb with e | e
        · rw [e] at hC; exact absurd hC.symm h32
        · rw [e] at hC; exact absurd hC.symm h9
    have h59' : C ≠ 59 := fun e => by rw [e] at hC; exact absurd hC.symm h59
    obtain ⟨K, hK⟩ : ∃ K : Nat, t % ((Lib.decDigits n).length + 1) = K := ⟨_, rfl⟩
    have hKl : K ≤ (Lib.decDigits n).length := by
      have := Nat.mod_lt t (show 0 < (Lib.decDigits n).length + 1 by omega)
      omega
    have hKS : S.size = (Lib.decDigits n).length := by rw [← HS.out]; rfl
    have HBad : Hid (∀ w, Calls Tryd.prog 19 #[.string (preB ++ S.extract 0 K ++ ⟨#[C]⟩ ++ S.extract K S.size)] w fun e w' => e = .returned (.bool true) ∧ Below w.heap.size w w') := Lib.hid fun w => by
      have h := bad_any (asB (preA ++ (Lib.decDigits n).take K ++ [C] ++ (Lib.decDigits n).drop K)) w
      rw [bad_age hn K hic hbl h59'] at h
      rw [← asB_app, ← asB_app, ← asB_app, ← asB_ext, ← asB_drop, HS.out] at h
      exact h
    have k1 : (t : Int).tmod ((S.size : Int) + 1) = (K : Int) := by rw [Int.tmod_eq_emod_of_nonneg (by omega), hKS, ← hK]; rfl
    have k2 : (t : Int) % ((S.size : Int) + 1) = (K : Int) := by rw [hKS, ← hK]; rfl
    have k3 : (K : Int) ≤ (S.size : Int) := by omega
    have k4 : IntKind.i64.wrap (K : Int) = (K : Int) := by rw [IntKind.wrap_i64]; omega
    have k5 : ¬ ((S.size : Int) + 1 = 0) := by omega
    have k6 : (0 : Int) ≤ (K : Int) := by omega
    have n32 : ((c : Int) == 32) = false := beq_eq_false_iff_ne.2 (by omega)
    have n9 : ((c : Int) == 9) = false := beq_eq_false_iff_ne.2 (by omega)
    have n59 : ((c : Int) == 59) = false := beq_eq_false_iff_ne.2 (by omega)
    have hsl1 : ∀ w, (Instr.slice 9 (.string S) none (some (.int .i64 (K : Int))) none).run Tryd.prog w = .ok (.string (S.extract 0 K)) w := fun w => by
      have := run_slice_string_h (P := Tryd.prog) (t := 9) (s := S) (w := w) Tryd.underlying9 .i64 (K : Int) k6 k3
      simpa using this
    have hsl2 : ∀ w, (Instr.slice 9 (.string S) (some (.int .i64 (K : Int))) none none).run Tryd.prog w = .ok (.string (S.extract K S.size)) w := fun w => by
      have := run_slice_string_l (P := Tryd.prog) (t := 9) (s := S) (w := w) Tryd.underlying9 .i64 (K : Int) k6 k3
      simpa using this
    have zp : preB.size = 8 := rfl
    have zC : (⟨#[C]⟩ : ByteArray).size = 1 := rfl
    have z0 : (S.extract 0 K).size = K := by rw [ByteArray.size_extract]; omega
    have z1 : (S.extract K S.size).size = S.size - K := by rw [ByteArray.size_extract]; omega
    have had1 : ∀ w, (binOp .add 9 (.string { data := #[109, 97, 120, 45, 97, 103, 101, 61] }) (.string (S.extract 0 K))).run Tryd.prog w = .ok (.string (preB ++ S.extract 0 K)) w := fun w => add11 preB _ (by rw [z0, zp]; omega) w
    have had2 : ∀ w, (binOp .add 9 (.string (preB ++ S.extract 0 K)) (.string ⟨#[C]⟩)).run Tryd.prog w = .ok (.string (preB ++ S.extract 0 K ++ ⟨#[C]⟩)) w := fun w => add11 _ _ (by rw [ByteArray.size_append, z0, zp, zC]; omega) w
    have had3 : ∀ w, (binOp .add 9 (.string (preB ++ S.extract 0 K ++ ⟨#[C]⟩)) (.string (S.extract K S.size))).run Tryd.prog w = .ok (.string (preB ++ S.extract 0 K ++ ⟨#[C]⟩ ++ S.extract K S.size)) w := fun w => add11 _ _ (by rw [ByteArray.size_append, ByteArray.size_append, z0, zp, zC, z1]; omega) w
    have HCi : Hid (Value.int .u8 (c : Int) = .int .u8 (C.toNat : Int)) := Lib.hid (by rw [hC])
    have e1 : decide ((48 : Int) ≤ (c : Int)) = true := decide_eq_true (by omega)
    have i1 : (48 : Int) ≤ (c : Int) := by omega
    have e2 : decide ((c : Int) ≤ 57) = false := decide_eq_false (by omega)
    have i2 : ¬ (c : Int) ≤ 57 := by omega
    clear htab hl hdg h32 h9 h59 hlo hK hKl hKS hic hbl h59' hC zp zC z0 z1
    go_enter Tryd.func8, Tryd.ntmps8
    go_wp2_with fail
    refine HDg.out.mono ?_
    rintro e w1 ⟨rfl, b1⟩
    have HB1 := Lib.hid b1
    clear b1
    go_wp2_with fail
    refine (HIs.out w1).mono ?_
    rintro e w2 ⟨rfl, b2⟩
    have HB2 := Lib.hid (HB1.out.trans (b2.mono HB1.out.size))
    have HTw := Lib.hid (tab11 HT.out HB2.out)
    clear b2
    go_upto_region 7 with (fail)
    go_wp2_with fail
    refine wp_region_inv2 (by kernel_rfl) (fun listed a w' => ∃ t : Nat → Value, a = frA t ∧ AtA w2 preB S K C (fun k => listed.getD k false) t w') (tsLex_spec (by kernel_rfl)) ?_ ?_ ?_
    · refine ⟨_, frA_of _ rfl rfl, (Below.refl _ _).drew, HCi.out, rfl, rfl, fun i _ _ h => ?_, fun h => ?_⟩
      all_goals simp only [Array.getD_eq_getD_getElem?, Array.getElem?_replicate] at h
      all_goals (split at h <;> simp at h)
    · intro listed a w' i hsz' hI hi
      obtain ⟨t, rfl, hA⟩ := hI
      obtain ⟨hlt, hf, o, ho, haft⟩ := ready_iff.1 hi
      have hlt' : i < 17 := hlt
      have hs' : listed.size = 17 := hsz'
      have hup := tget_up listed i (by omega)
      rcases (show i = 0 ∨ i = 1 ∨ i = 2 ∨ i = 3 ∨ i = 4 ∨ i = 5 ∨ i = 6 ∨ i = 7 ∨ i = 8 ∨ i = 9 ∨ i = 10 ∨ i = 11 ∨ i = 12 ∨ i = 13 ∨ i = 14 ∨ i = 15 ∨ i = 16 by omega) with rfl | rfl | rfl | rfl | rfl | rfl | rfl | rfl | rfl | rfl | rfl | rfl | rfl | rfl | rfl | rfl | rfl
      all_goals (obtain rfl := Option.some.inj ho)
      · refine tsOp_of rfl rfl (ts_call0 rfl (by kernel_rfl) ((HAl.out w' (tab11 HTw.out hA.bel)).mono ?_))
        rintro e w2 ⟨rfl, hb⟩
        refine ⟨_, rfl, tuT t 45 _, rfl, ?_⟩
        rw [hup]; exact (hA.grow hb).pure 0 (by decide) (by decide)
      · have h0 : t 45 = .bool true := hA.vs 0 (by decide) (by decide) (haft ⟨0, .data⟩ (by simp) rfl)
        refine tsOp_of rfl rfl (ts_run (w' := w') (.bool true) ?_ ⟨tuT t 46 _, rfl, ?_⟩)
        · simp [execOp, frA, Act.eval, h0]
        · rw [hup]; exact hA.pure 1 (by decide) (by decide)
      · have hgd : t 46 = .bool true := hA.vs 1 (by decide) (by decide) (haft ⟨1, .guard⟩ (by simp) rfl)
        refine tsOp_w rfl (by simp [Region.wanted, yielded, frA, hgd]) (ts_run (w' := w') (.string S) ?_ ⟨tuT t 47 _, rfl, ?_⟩)
        · simp [execOp, frA, Act.eval, hA.k7]
        · rw [hup]; exact hA.pure 2 (by decide) (by decide)
      · have hgd : t 46 = .bool true := hA.vs 1 (by decide) (by decide) (haft ⟨1, .guard⟩ (by simp) rfl)
        refine tsOp_w rfl (by simp [Region.wanted, yielded, frA, hgd]) (ts_run (w' := w') (.int .i64 (K : Int)) ?_ ⟨tuT t 48 _, rfl, ?_⟩)
        · simp [execOp, frA, Act.eval, hA.k9]
        · rw [hup]; exact hA.pure 3 (by decide) (by decide)
      · have h2 : t 47 = .string S := hA.vs 2 (by decide) (by decide) (haft ⟨2, .data⟩ (by simp) rfl)
        have h3 : t 48 = .int .i64 (K : Int) := hA.vs 3 (by decide) (by decide) (haft ⟨3, .data⟩ (by simp) rfl)
        have hgd : t 46 = .bool true := hA.vs 1 (by decide) (by decide) (haft ⟨1, .guard⟩ (by simp) rfl)
        refine tsOp_w rfl (by simp [Region.wanted, yielded, frA, hgd]) (ts_run (w' := w') (.string (S.extract 0 K)) ?_ ⟨tuT t 49 _, rfl, ?_⟩)
        · simp [execOp, frA, Act.eval, h2, h3, slc11, hsl1]
        · rw [hup]; exact hA.pure 4 (by decide) (by decide)
      · have h4 : t 49 = .string (S.extract 0 K) := hA.vs 4 (by decide) (by decide) (haft ⟨4, .data⟩ (by simp) rfl)
        have hgd : t 46 = .bool true := hA.vs 1 (by decide) (by decide) (haft ⟨1, .guard⟩ (by simp) rfl)
        refine tsOp_w rfl (by simp [Region.wanted, yielded, frA, hgd]) (ts_run (w' := w') (.string (preB ++ S.extract 0 K)) ?_ ⟨tuT t 50 _, rfl, ?_⟩)
        · simp [execOp, frA, Act.eval, h4, eqg11, had1]
        · rw [hup]; exact hA.pure 5 (by decide) (by decide)
      · have hgd : t 46 = .bool true := hA.vs 1 (by decide) (by decide) (haft ⟨1, .guard⟩ (by simp) rfl)
        refine tsOp_w rfl (by simp [Region.wanted, yielded, frA, hgd]) (ts_run (w' := w') (.int .u8 (C.toNat : Int)) ?_ ⟨tuT t 51 _, rfl, ?_⟩)
        · simp [execOp, frA, Act.eval, hA.k1]
        · rw [hup]; exact hA.pure 6 (by decide) (by decide)
      · have h6 : t 51 = .int .u8 (C.toNat : Int) := hA.vs 6 (by decide) (by decide) (haft ⟨6, .data⟩ (by simp) rfl)
        have hgd : t 46 = .bool true := hA.vs 1 (by decide) (by decide) (haft ⟨1, .guard⟩ (by simp) rfl)
        refine tsOp_w rfl (by simp [Region.wanted, yielded, frA, hgd]) (ts_run (w' := w'.alloc (.cells #[.int .u8 (C.toNat : Int)] 5)) (.slice (some ⟨w'.heap.size, 0, none⟩) 1 1) ?_ ⟨tuT t 52 _, rfl, ?_⟩)
        · simp [execOp, frA, Act.eval, h6, made11]
        · rw [hup]; exact hA.make
      · have hgd : t 46 = .bool true := hA.vs 1 (by decide) (by decide) (haft ⟨1, .guard⟩ (by simp) rfl)
        obtain ⟨g, h7, hg, hw⟩ := hA.al (haft ⟨7, .data⟩ (by simp) rfl)
        refine tsOp_w rfl (by simp [Region.wanted, yielded, frA, hgd]) (ts_run (w' := w') (.string ⟨#[C]⟩) ?_ ⟨tuT t 53 _, rfl, ?_⟩)
        · simp [execOp, frA, Act.eval, h7, conv11 g C w' hw]
        · rw [hup]; exact hA.pure 8 (by decide) (by decide)
      · have h5 : t 50 = .string (preB ++ S.extract 0 K) := hA.vs 5 (by decide) (by decide) (haft ⟨5, .data⟩ (by simp) rfl)
        have h8 : t 53 = .string ⟨#[C]⟩ := hA.vs 8 (by decide) (by decide) (haft ⟨8, .data⟩ (by simp) rfl)
        have hgd : t 46 = .bool true := hA.vs 1 (by decide) (by decide) (haft ⟨1, .guard⟩ (by simp) rfl)
        refine tsOp_w rfl (by simp [Region.wanted, yielded, frA, hgd]) (ts_run (w' := w') (.string (preB ++ S.extract 0 K ++ ⟨#[C]⟩)) ?_ ⟨tuT t 54 _, rfl, ?_⟩)
        · simp [execOp, frA, Act.eval, h5, h8, eqg11, had2]
        · rw [hup]; exact hA.pure 9 (by decide) (by decide)
      · have hgd : t 46 = .bool true := hA.vs 1 (by decide) (by decide) (haft ⟨1, .guard⟩ (by simp) rfl)
        refine tsOp_w rfl (by simp [Region.wanted, yielded, frA, hgd]) (ts_run (w' := w') (.string S) ?_ ⟨tuT t 55 _, rfl, ?_⟩)
        · simp [execOp, frA, Act.eval, hA.k7]
        · rw [hup]; exact hA.pure 10 (by decide) (by decide)
      · have hgd : t 46 = .bool true := hA.vs 1 (by decide) (by decide) (haft ⟨1, .guard⟩ (by simp) rfl)
        refine tsOp_w rfl (by simp [Region.wanted, yielded, frA, hgd]) (ts_run (w' := w') (.int .i64 (K : Int)) ?_ ⟨tuT t 56 _, rfl, ?_⟩)
        · simp [execOp, frA, Act.eval, hA.k9]
        · rw [hup]; exact hA.pure 11 (by decide) (by decide)
      · have h10 : t 55 = .string S := hA.vs 10 (by decide) (by decide) (haft ⟨10, .data⟩ (by simp) rfl)
        have h11 : t 56 = .int .i64 (K : Int) := hA.vs 11 (by decide) (by decide) (haft ⟨11, .data⟩ (by simp) rfl)
        have hgd : t 46 = .bool true := hA.vs 1 (by decide) (by decide) (haft ⟨1, .guard⟩ (by simp) rfl)
        refine tsOp_w rfl (by simp [Region.wanted, yielded, frA, hgd]) (ts_run (w' := w') (.string (S.extract K S.size)) ?_ ⟨tuT t 57 _, rfl, ?_⟩)
        · simp [execOp, frA, Act.eval, h10, h11, slc11, hsl2]
        · rw [hup]; exact hA.pure 12 (by decide) (by decide)
      · have h9 : t 54 = .string (preB ++ S.extract 0 K ++ ⟨#[C]⟩) := hA.vs 9 (by decide) (by decide) (haft ⟨9, .data⟩ (by simp) rfl)
        have h12 : t 57 = .string (S.extract K S.size) := hA.vs 12 (by decide) (by decide) (haft ⟨12, .data⟩ (by simp) rfl)
        have hgd : t 46 = .bool true := hA.vs 1 (by decide) (by decide) (haft ⟨1, .guard⟩ (by simp) rfl)
        refine tsOp_w rfl (by simp [Region.wanted, yielded, frA, hgd]) (ts_run (w' := w') (.string (preB ++ S.extract 0 K ++ ⟨#[C]⟩ ++ S.extract K S.size)) ?_ ⟨tuT t 58 _, rfl, ?_⟩)
        · simp [execOp, frA, Act.eval, h9, h12, eqg11, had3]
        · rw [hup]; exact hA.pure 13 (by decide) (by decide)
      · have h13 : t 58 = .string (preB ++ S.extract 0 K ++ ⟨#[C]⟩ ++ S.extract K S.size) := hA.vs 13 (by decide) (by decide) (haft ⟨13, .data⟩ (by simp) rfl)
        have hgd : t 46 = .bool true := hA.vs 1 (by decide) (by decide) (haft ⟨1, .guard⟩ (by simp) rfl)
        refine tsOp_w rfl (by simp [Region.wanted, yielded, frA, hgd]) (ts_call rfl h13 (by kernel_rfl) ((HBad.out w').mono ?_))
        rintro e w3 ⟨rfl, hb⟩
        refine ⟨_, rfl, tuT t 59 _, rfl, ?_⟩
        rw [hup]; exact (hA.grow hb).pure 14 (by decide) (by decide)
      · have h1 : t 46 = .bool true := hA.vs 1 (by decide) (by decide) (haft ⟨1, .data⟩ (by simp) rfl)
        have h14 : t 59 = .bool true := hA.vs 14 (by decide) (by decide) (haft ⟨14, .data⟩ (by simp) rfl)
        refine tsOp_of rfl rfl (ts_run (w' := w') (.bool true) ?_ ⟨tuT t 60 _, rfl, ?_⟩)
        · simp [execOp, frA, Act.eval, h1, h14, asBool]
        · rw [hup]; exact hA.pure 15 (by decide) (by decide)
      · have h15 : t 60 = .bool true := hA.vs 15 (by decide) (by decide) (haft ⟨15, .data⟩ (by simp) rfl)
        refine tsOp_of rfl rfl (ts_run (w' := w') (.bool true) ?_ ⟨tuT t 6 _, rfl, ?_⟩)
        · simp [execOp, frA, Act.eval, h15]
        · rw [hup]; exact hA.pure 16 (by decide) (by decide)
    · intro listed a w' hall hI
      obtain ⟨t, rfl, hA⟩ := hI
      have h16 : t 6 = .bool true := hA.vs 16 (by decide) (by decide) (hall 16 (by decide))
      have HB := Lib.hid (HB2.out.trans (hA.bel.mono HB2.out.size))
      unfold frA
      rw [h16]
      clear hall hA h16
      go_wp2
      go_ret
      exact ⟨rfl, HB.out⟩

end Go.Proofs.YthffgnlebljkcaaDoor
