/-
  A region that draws its order, whose operations only read, and whose callees leave all that was there as it was: one walk serves every order.
  Contracts: puny.tellsOthers, puny.Label, puny.Show; how long few letters are.
  Contract: puny.Label.
  Contracts: puny.Show, is; constants.
  alive: some answers that the document fixes, of few letters; all of them hold.
  Plain words on few letters: numbers that are told are read again, and back; signs that are told are put where they were, and back. Of no program.
  Plain words on few letters: what was put among others is told again.
  Plain words on signs as bytes: what is told is read again, and back.
  Plain words: few letters of a text, and back; great and small letters in few letters. Of no program.
  Plain words: what is told in few letters is read again.
  Plain words: what few letters say is told as they were, in small letters; great and small letters say the same.
  Plain words: what few letters say is told as they were, in small letters.
  Plain words on parts of plain signs.
  Plain words: what is asked for is asked for again, and what is shown of it is asked for as it.
  Plain words: what is asked for, again; what is shown of it, asked for.
-/
import Derived.Test.YtcphokaamkalfaaGreatDoorMpA
import Derived.Deep.WholeRow
import Derived.OneCell
import Derived.Deep.QuietTactic
import Derived.BigQuiet
import Derived.Test.YtcphokaamkalfaaGreatDoorRows
import Derived.Test.YtcphokaamkalfaaGreatDoorEnVX
import Derived.Test.YtcphokaamkalfaaGreatDoorMpI
import Derived.Test.YtcphokaamkalfaaGreatDoorShelfP
import Derived.Test.YtcphokaamkalfaaGreatDoorMpH
import Derived.Lib.RuneCount
namespace Go.Proofs.YtcphokaamkalfaaGreatDoor
open Go.RowKit

/-- A world in which all blocks of W are as they were. -/
structure BW (W : World) where
 w : World
 h : Below W.heap.size W w
instance (W : World) : Inhabited (BW W) := ⟨⟨W, Below.refl _ _⟩⟩
theorem bw_region {P : Program} {id : Nat} {Q : Exit → Act → World → Prop} {a : Act} {w : World} {l : List Oper} (hm : P.follows .mixedOrders = true) (hB : Region.lexB .any l.toArray = true)
  (h : wpQuiet P l.toArray (fun w' => ∃ p : BW w, w' = p.w) (fun a' => ∀ w', (∃ p : BW w, w' = p.w) → Q .normal a' w') l a) : (Code.region id l.toArray true).wp P Q a w :=
 wp_region_quiet (C := fun w' => ∃ p : BW w, w' = p.w) hm hB ⟨⟨w.drew, (Below.refl _ _).drew⟩, rfl⟩ (by simpa using h)
theorem Calls.bw_of {P : Program} {f : FuncId} {args : Array Value} {W : World} {p : BW W} {v : Value}
  (h : Calls P f args p.w fun e w' => e = .returned v ∧ Below p.w.heap.size p.w w') : Calls P f args p.w fun e w'' => e = .returned v ∧ ∃ q : BW W, w'' = q.w :=
 h.mono fun _ w' ⟨he, hb⟩ => ⟨he, ⟨w', p.h.trans (hb.mono p.h.size)⟩, rfl⟩
/-- A block that lies in W, cell by cell. -/
theorem BW.cell {W : World} {g : Nat} {C : Array Value} {t : TypeId} (hG : W.heap[g]? = some (.cells C t (0, 0))) (p : BW W) (j : Nat) : p.w.cell? ⟨g, j, none⟩ = C[j]? := by
 rw [p.h.cell (p := ⟨g, j, none⟩) (lt_of_block hG), cell_of_row _ _ _ C _ _ hG]
theorem BW.at {W : World} {g : Nat} {o : Obj} (hG : W.heap[g]? = some o) (p : BW W) : p.w.heap[g]? = some o := (p.h.block g (lt_of_block hG)).trans hG

/-- A row is read, guarded or not. -/
theorem bw_load {P : Program} {ops : Array Oper} {C : World → Prop} {Q : Act → Prop} {a : Act} {o : Oper} {rest : List Oper} (hw : Region.wanted o (yielded ops a.tmps) = true) (ty : TypeId) (x : Operand) (ho : o.op = .load ty x)
  (g : Nat) (cs : Array Value) (hx : a.eval x = .pointer (some ⟨g, 0, none⟩)) (t : TypeId) (fr : Nat × Nat) (d : TypeDesc) (hg : ∀ w, C w → w.heap[g]? = some (.cells cs t fr))
  (hu : P.underlying ty = some d) (hd : (match d with | .struct _ | .array _ _ => true | _ => false) = true) (hi : (P.info? ty).map (·.size) = some cs.size)
  (h : wpQuiet P ops C Q rest (a.put o.dst (.agg cs))) : wpQuiet P ops C Q (o :: rest) a := by
 refine wpQuiet_step fun K hK => ?_
 rw [if_pos hw]
 refine ⟨_, fun w hC => ?_, hK _ h⟩
 unfold Oper.quietAt execOp
 simp only [ho, hx, Instr.loadAt, Instr.sureAddr, Sem.run_bind, Sem.run_pure, Result.andThen_ok, run_loadVar_row w g t ty cs fr d (hg w hC) hu hd hi]
 exact ⟨rfl, rfl⟩

end Go.Proofs.YtcphokaamkalfaaGreatDoor
namespace Go.Proofs.YtcphokaamkalfaaGreatDoor
open Go.RowKit

/- How long few letters are. -/
theorem digsL_len : ∀ (f n k b j : Nat), n < 10 ^ j → (digsL f n k b).length ≤ j + 1
 | 0, n, k, b, j, _ => by simp [digsL]
 | f + 1, n, k, b, j, h => by
  by_cases ht : n < stepN k b
  ·rw [digsL_end ht]; simp
  ·rw [digsL_on ht, List.length_cons]
   have hs := stepN_bd k b
   cases j with
   | zero => simp at h; omega
   | succ j =>
    have := digsL_len f ((n - stepN k b) / (36 - stepN k b)) (k + 36) b j (by
     rw [Nat.div_lt_iff_lt_mul (by omega)]
     have h1 : 10 ^ j * 10 ≤ 10 ^ j * (36 - stepN k b) := Nat.mul_le_mul_left _ (by omega)
     rw [Nat.pow_succ] at h
     omega)
    omega
theorem fewN_len (begun : Nat) : ∀ (R : List Pr) (told : List Nat) (i place last bias : Nat), (∀ x ∈ R, x.1 ≤ 1114111) → begun + i + R.length ≤ 2000000 → told.length ≤ 2000000 - R.length → (fewN begun R told i place last bias).length ≤ 15 * R.length
 | [], _, _, _, _, _, _, _, _ => by simp [fewN]
 | (m, p) :: R, told, i, place, last, bias, hb, hl, ht => by
  have hm := hb (m, p) (by simp)
  simp only [List.length_cons] at hl ht
  rw [fewN, List.length_append, List.length_cons]
  have ih := fewN_len begun R (p :: told) (i + 1) (cntLt told p + 1) m (nb ((m - last) * (begun + i + 1) + cntLt told p - place) (begun + i + 1) (i == 0)) (fun x hx => hb x (List.mem_cons_of_mem _ hx)) (by omega) (by rw [List.length_cons]; omega)
  have hc : cntLt told p ≤ told.length := cntLt_le told p
  have hN : (m - last) * (begun + i + 1) + cntLt told p - place < 10 ^ 13 := by
   have h1 : (m - last) * (begun + i + 1) ≤ 1114111 * 2000001 := Nat.mul_le_mul (by simp only at hm; omega) (by omega)
   omega
  have := digsL_len ((m - last) * (begun + i + 1) + cntLt told p - place) ((m - last) * (begun + i + 1) + cntLt told p - place) 36 bias 13 hN
  omega
theorem few_len (s : ByteArray) (hs : s.size ≤ 1000) (R : List Pr) (hR : R.Perm (otL (sgn s s.size 0))) : (fewL (sgn s s.size 0) R).length ≤ 20000 := by
 rw [fewL]
 have hl : (sgn s s.size 0).length ≤ s.size := by have := sgn_len s s.size 0; simpa using this
 have hB : (plB (sgn s s.size 0)).length ≤ (sgn s s.size 0).length := by simp [plB]; exact List.length_filter_le _ _
 have hRl : R.length ≤ (sgn s s.size 0).length := by
  rw [hR.length_eq]; exact List.length_filter_le _ _
 have hb : ∀ x ∈ R, x.1 ≤ 1114111 := fun x hx => by
  have h1 : x ∈ otL (sgn s s.size 0) := hR.mem_iff.1 hx
  have h2 : x ∈ sgn s s.size 0 := (List.mem_filter.1 h1).1
  rw [sgn_mem2 s _ _ x h2]; exact rune_bd s x.2
 have hA : (plA (sgn s s.size 0)).length ≤ (sgn s s.size 0).length := by simp [plA]; exact List.length_filter_le _ _
 have := fewN_len (plB (sgn s s.size 0)).length R (plA (sgn s s.size 0)) 0 0 128 72 hb (by omega) (by omega)
 simp only [List.length_append]
 have h3 : (if plB (sgn s s.size 0) = [] then [] else ([45] : List UInt8)).length ≤ 1 := by split <;> simp
 omega
/- How long a text is that few letters say. -/
theorem decL_size : ∀ (f : Nat) (l : List Nat) (r : List UInt8) (place sign bias : Nat) (first : Bool) (L : List Nat), decL f l r place sign bias first = some L → L.length ≤ l.length + f
 | 0, l, r, place, sign, bias, first, L, h => by
  rw [decL] at h; split at h
  ·injection h with h; rw [← h]; omega
  ·cases h
 | f + 1, l, r, place, sign, bias, first, L, h => by
  rw [decL] at h
  split at h
  ·injection h with h; rw [← h]; omega
  ·split at h
   ·cases h
   ·split at h
    ·cases h
    ·have := decL_size f _ _ _ _ _ _ _ h
     have hl : ∀ (l : List Nat) i x, (insN l i x).length = l.length + 1 := fun l i x => by
      rw [insN, List.length_append, List.length_cons, List.length_take, List.length_drop]; omega
     rw [hl] at this; omega
theorem decT_size (s : ByteArray) : (decT s).1.size ≤ 4 * s.size := by
 unfold decT
 split
 ·exact Nat.zero_le _
 ·split
  ·exact Nat.zero_le _
  ·cases h : decO s with
   | none => exact Nat.zero_le _
   | some L =>
    have h1 := decL_size _ _ _ _ _ _ _ _ h
    have h2 := p_sizes s
    have h3 := utf_len L
    simp only [decW]
    have h4 : (utf L).size = (utf L).data.toList.length := by simp
    simp at h1
    omega

theorem beqB (a b : ByteArray) : (a.toList == b.toList) = decide (a = b) := by
 rw [Bool.eq_iff_iff, beq_iff_eq, decide_eq_true_eq, ByteArray.toList_eq, ByteArray.toList_eq]
 exact ⟨fun h => ByteArray.ext (Array.toList_inj.1 h), fun h => by rw [h]⟩
/-- utf8.ValidString answers, in every later world. -/
def Vld (w : World) : Prop := ∀ w', Below w.heap.size w w' → ∀ s : ByteArray, s.size ≤ 9223372036854775807 → Calls Tryz.prog 140 #[.string s] w' fun e w'' => e = .returned (.bool (Lib.validD s.data.toList)) ∧ Below w'.heap.size w' w''
theorem Vld.here {w : World} (h : Vld w) (s : ByteArray) (hs : s.size ≤ 9223372036854775807) : Calls Tryz.prog 140 #[.string s] w fun e w'' => e = .returned (.bool (Lib.validD s.data.toList)) ∧ Below w.heap.size w w'' := h w (Below.refl _ _) s hs
theorem Vld.later {w w1 : World} (h : Vld w) (hb : Below w.heap.size w w1) : Vld w1 := fun w' hb' s hs => h w' (hb.trans (hb'.mono hb.size)) s hs

/-- Does few letters' text tell others? -/
def tellsB (few : ByteArray) : Bool := if (decT few).2 = 0 then if plainL (decT few).1.data.toList then false else if (refEncT (decT few).1).2 = 0 then decide ((refEncT (decT few).1).1 = few) else false else false
set_option maxRecDepth 100000 in
set_option maxHeartbeats 1000000 in
theorem tells_any (s : ByteArray) (w : World) (hs : s.size ≤ 1000) (hV : Vld w) :
  Calls Tryz.prog 144 #[.string s] w fun e w' => e = .returned (.bool (tellsB s)) ∧ Below w.heap.size w w' := by
 have HV := Lib.hid hV; clear hV
 obtain ⟨D, HD⟩ : ∃ D, Hid ((decT s).1 = D) := ⟨_, Lib.hid rfl⟩
 obtain ⟨c, Hc⟩ : ∃ c, Hid ((decT s).2 = c) := ⟨_, Lib.hid rfl⟩
 have hDs : D.size ≤ 4000 := by have := decT_size s; rw [HD.out] at this; omega
 have C1 : Hid (∀ w, Calls Tryz.prog 172 #[.string s] w fun e w' => e = .returned (.tuple #[.string D, .int .i64 c]) ∧ Below w.heap.size w w') := Lib.hid (fun w => by
  have := Decode_any s w (by unfold maxLen; omega)
  rwa [HD.out, Hc.out] at this)
 by_cases hc : c = 0
 ·subst hc
  cases hp : plainL D.data.toList with
  | true =>
   have HT : Hid (tellsB s = false) := Lib.hid (by rw [tellsB, if_pos Hc.out, HD.out, hp]; rfl)
   have HP := Lib.hid hp; clear hp
   rw [HT.out]
   go_enter Tryz.func144, Tryz.ntmps144
   go_wp2_with fail
   refine (C1.out _).mono ?_
   rintro e w1 ⟨rfl, b1⟩
   have B1 := Lib.hid b1; clear b1
   go_wp2_with fail
   refine (plain_any D _).mono ?_
   rw [HP.out]
   rintro e w2 ⟨rfl, pos, rfl⟩
   go_wp2
   go_ret
   exact ⟨rfl, B1.out.trans ((iter_below _ _ _).mono B1.out.size)⟩
  | false =>
   obtain ⟨E, HE⟩ : ∃ E, Hid ((refEncT D).1 = E) := ⟨_, Lib.hid rfl⟩
   obtain ⟨d, Hd⟩ : ∃ d, Hid ((refEncT D).2 = d) := ⟨_, Lib.hid rfl⟩
   have HT : Hid (tellsB s = if d = 0 then decide (E = s) else false) := Lib.hid (by rw [tellsB, if_pos Hc.out, HD.out, hp, HE.out, Hd.out]; rfl)
   have HP := Lib.hid hp; clear hp
   rw [HT.out]
   have C2 : Hid (∀ w, Vld w → Calls Tryz.prog 173 #[.string D] w fun e w' => e = .returned (.tuple #[.string E, .int .i64 d]) ∧ Below w.heap.size w w') := Lib.hid (fun w hV => by
    have := Encode_of D w (by unfold maxLen; omega) (hV.here D (by omega))
    rwa [HE.out, Hd.out] at this)
   by_cases hd : d = 0
   ·subst hd
    rw [if_pos rfl]
    go_enter Tryz.func144, Tryz.ntmps144
    go_wp2_with fail
    refine (C1.out _).mono ?_
    rintro e w1 ⟨rfl, b1⟩
    have B1 := Lib.hid b1; clear b1
    go_wp2_with fail
    refine (plain_any D _).mono ?_
    rw [HP.out]
    rintro e w2 ⟨rfl, pos, rfl⟩
    have B2 : Hid (Below w.heap.size w (w1.iter D pos)) := Lib.hid (B1.out.trans ((iter_below _ _ _).mono B1.out.size))
    go_wp2_with fail
    refine (C2.out _ (HV.out.later B2.out)).mono ?_
    rintro e w3 ⟨rfl, b3⟩
    have B3 : Hid (Below w.heap.size w w3) := Lib.hid (B2.out.trans (b3.mono B2.out.size))
    clear b3
    go_wp2
    go_ret
    exact ⟨ret_bool (beqB _ _), B3.out⟩
   ·have hd0 : (d == 0) = false := beq_eq_false_iff_ne.2 hd
    rw [if_neg hd]
    clear hd
    go_enter Tryz.func144, Tryz.ntmps144
    go_wp2_with fail
    refine (C1.out _).mono ?_
    rintro e w1 ⟨rfl, b1⟩
    have B1 := Lib.hid b1; clear b1
    go_wp2_with fail
    refine (plain_any D _).mono ?_
    rw [HP.out]
    rintro e w2 ⟨rfl, pos, rfl⟩
    have B2 : Hid (Below w.heap.size w (w1.iter D pos)) := Lib.hid (B1.out.trans ((iter_below _ _ _).mono B1.out.size))
    go_wp2_with fail
    refine (C2.out _ (HV.out.later B2.out)).mono ?_
    rintro e w3 ⟨rfl, b3⟩
    have B3 : Hid (Below w.heap.size w w3) := Lib.hid (B2.out.trans (b3.mono B2.out.size))
    clear b3
    go_wp2
    go_ret
    exact ⟨rfl, B3.out⟩
 ·have HT : Hid (tellsB s = false) := Lib.hid (by rw [tellsB, if_neg (by rw [Hc.out]; exact hc)])
  rw [HT.out]
  have hc0 : (c == 0) = false := beq_eq_false_iff_ne.2 hc
  have hc1 : (c != 0) = true := by rw [bne, hc0]; rfl
  clear hc
  go_enter Tryz.func144, Tryz.ntmps144
  go_wp2_with fail
  refine (C1.out _).mono ?_
  rintro e w1 ⟨rfl, b1⟩
  have B1 := Lib.hid b1; clear b1
  go_wp2
  go_ret
  exact ⟨rfl, B1.out⟩

end Go.Proofs.YtcphokaamkalfaaGreatDoor
namespace Go.Proofs.YtcphokaamkalfaaGreatDoor
open Go.RowKit

def labE (l : ByteArray) : ByteArray × Int := if 63 < l.size then (⟨#[]⟩, 5) else (l, 0)
def cutX (l : ByteArray) : ByteArray := ⟨(Lib.trimPrefix l.data.toList [120, 110, 45, 45]).toArray⟩
def fewT (l : ByteArray) : ByteArray := ⟨(docE ((sgn l l.size 0).map (·.1))).toArray⟩
/-- What Label answers. -/
def labT (s : ByteArray) : ByteArray × Int :=
 if s.size = 0 then (⟨#[]⟩, 5) else if Lib.validD s.data.toList = false then (⟨#[]⟩, 5) else if 63 < Lib.runeCount s then (⟨#[]⟩, 5) else
 if plainL (lowS s).data.toList then
  (if Lib.hasPrefix (lowS s).data.toList [120, 110, 45, 45] then (if tellsB (cutX (lowS s)) then labE (lowS s) else (⟨#[]⟩, 5)) else labE (lowS s))
 else labE ((⟨#[120, 110, 45, 45]⟩ : ByteArray) ++ fewT (lowS s))
theorem ret_lab {a b : ByteArray} {c d : Int} {x : ByteArray × Int} (h : x = (a, c)) (h' : b = a) (h2 : d = c) : Ending.returned (.tuple #[.string b, .int .i64 d]) = .returned (.tuple #[.string x.1, .int .i64 x.2]) := by
 subst h' h2; rw [h]
theorem catX_size (Q : ByteArray) : ((⟨#[120, 110, 45, 45]⟩ : ByteArray) ++ Q).size = 4 + Q.size := by rw [ByteArray.size_append]; rfl
theorem cutX_size (l : ByteArray) : (cutX l).size ≤ l.size := by
 show (Lib.trimPrefix l.data.toList [120, 110, 45, 45]).toArray.size ≤ _
 rw [List.size_toArray, Lib.trimPrefix]
 have : l.data.toList.length = l.size := by simp
 split
 ·rw [List.length_drop]; omega
 ·omega

/- At most four bytes a rune. -/
theorem decN_le4 (n b0 b1 b2 b3 : Nat) : (Lib.decodeN n b0 b1 b2 b3).2 ≤ 4 := by
 unfold Lib.decodeN
 repeat' split
 all_goals simp
theorem runes_four (s : ByteArray) : ∀ fuel pos, s.size ≤ pos + fuel → s.size ≤ pos + 4 * Lib.runeCountFrom s fuel pos
 | 0, pos, h => by omega
 | f + 1, pos, h => by
  unfold Lib.runeCountFrom
  by_cases hp : pos < s.size
  ·rw [if_pos hp]
   have h1 := Lib.decode_width_pos s pos hp
   have h4 : (Utf8.decode s pos).2 ≤ 4 := by rw [Lib.decode_at]; exact decN_le4 _ _ _ _ _
   have := runes_four s f (pos + (Utf8.decode s pos).2) (by omega)
   omega
  ·rw [if_neg hp]; omega
theorem runes4 (s : ByteArray) : s.size ≤ 4 * Lib.runeCount s := by
 have := runes_four s s.size 0 (by omega)
 rw [Nat.zero_add] at this; exact this

set_option maxRecDepth 100000 in
set_option maxHeartbeats 4000000 in
theorem Label_any (s : ByteArray) (w : World) (hs : s.size ≤ 100000) (hV : Vld w) :
  Calls Tryz.prog 102 #[.string s] w fun e w' => e = .returned (.tuple #[.string (labT s).1, .int .i64 (labT s).2]) ∧ Below w.heap.size w w' := by
 have HV := Lib.hid hV; clear hV
 obtain ⟨T, HT⟩ : ∃ T, Hid (labT s = T) := ⟨_, Lib.hid rfl⟩
 rw [HT.out]
 by_cases h0 : s.size = 0
 ·have HR : Hid (T = (⟨#[]⟩, 5)) := Lib.hid (by rw [← HT.out, labT, if_pos h0])
  have hem : s.toList.isEmpty = true := by
   rw [ByteArray.toList_eq, List.isEmpty_iff]
   exact List.eq_nil_of_length_eq_zero (by simpa using h0)
  clear h0
  go_enter Tryz.func102, Tryz.ntmps102
  go_wp2
  go_ret2
  exact ⟨ret_lab HR.out rfl rfl, Below.refl _ _⟩
 have hem : s.toList.isEmpty = false := by
  rw [ByteArray.toList_eq, ← Bool.not_eq_true, List.isEmpty_iff]
  intro h; exact h0 (by have := congrArg List.length h; simpa using this)
 cases hv : Lib.validD s.data.toList with
 | false =>
  have HR : Hid (T = (⟨#[]⟩, 5)) := Lib.hid (by rw [← HT.out, labT, if_neg h0, if_pos hv])
  have HVa := Lib.hid (HV.out.here s (by omega))
  rw [hv] at HVa
  clear h0 hv
  go_enter Tryz.func102, Tryz.ntmps102
  go_wp2_with fail
  refine HVa.out.mono ?_
  rintro e w1 ⟨rfl, b1⟩
  have B1 := Lib.hid b1; clear b1
  go_wp2
  go_ret2
  exact ⟨ret_lab HR.out rfl rfl, B1.out⟩
 | true =>
 have HVa := Lib.hid (HV.out.here s (by omega))
 rw [hv] at HVa
 obtain ⟨rc, Hrc⟩ : ∃ n, Hid (Lib.runeCount s = n) := ⟨_, Lib.hid rfl⟩
 have HRC : Hid (∀ w, Calls Tryz.prog 141 #[.string s] w fun e w' => e = .returned (.int .i64 (rc : Int)) ∧ ∃ pos, w' = w.iter s pos) := Lib.hid (fun w => by
  have := Tryz.utf8_RuneCountInString s w (by omega)
  rwa [Hrc.out] at this)
 by_cases h63 : 63 < rc
 ·have HR : Hid (T = (⟨#[]⟩, 5)) := Lib.hid (by rw [← HT.out, labT, if_neg h0, if_neg (by rw [hv]; simp), if_pos (by rw [Hrc.out]; exact h63)])
  have h63I : (63 : Int) < (rc : Int) := by omega
  clear h0 hv h63
  go_enter Tryz.func102, Tryz.ntmps102
  go_wp2_with fail
  refine HVa.out.mono ?_
  rintro e w1 ⟨rfl, b1⟩
  have B1 := Lib.hid b1; clear b1
  go_wp2_with fail
  refine (HRC.out _).mono ?_
  rintro e w2 ⟨rfl, pos, rfl⟩
  go_wp2
  go_ret2
  exact ⟨ret_lab HR.out rfl rfl, B1.out.trans ((iter_below _ _ _).mono B1.out.size)⟩
 have h63I : (rc : Int) ≤ 63 := by omega
 have hs : s.size ≤ 1000 := by have := runes4 s; rw [Hrc.out] at this; omega
 obtain ⟨L, HL⟩ : ∃ L, Hid (lowS s = L) := ⟨_, Lib.hid rfl⟩
 have hLs : L.size ≤ 1000 := by rw [← HL.out, lowS_size]; exact hs
 have HLo : Hid (∀ w, Calls Tryz.prog 42 #[.string s] w fun e w' => e = .returned (.string L) ∧ Below w.heap.size w w') := Lib.hid (fun w => by
  have := Lower_any s w (by unfold maxLen; omega)
  rwa [HL.out] at this)
 have HTT : Hid (T = if plainL L.data.toList then (if Lib.hasPrefix L.data.toList [120, 110, 45, 45] then (if tellsB (cutX L) then labE L else (⟨#[]⟩, 5)) else labE L) else labE ((⟨#[120, 110, 45, 45]⟩ : ByteArray) ++ fewT L)) := Lib.hid (by
  rw [← HT.out, labT, if_neg h0, if_neg (by rw [hv]; simp), if_neg (by rw [Hrc.out]; exact h63), HL.out])
 clear h0 hv h63
 cases hp : plainL L.data.toList with
 | false =>
  have HR : Hid (T = labE ((⟨#[120, 110, 45, 45]⟩ : ByteArray) ++ fewT L)) := Lib.hid (by rw [HTT.out, hp]; rfl)
  have HP := Lib.hid hp; clear hp
  go_enter Tryz.func102, Tryz.ntmps102
  go_wp2_with fail
  refine HVa.out.mono ?_
  rintro e w1 ⟨rfl, b1⟩
  have B1 := Lib.hid b1; clear b1
  go_wp2_with fail
  refine (HRC.out _).mono ?_
  rintro e w2 ⟨rfl, pos, rfl⟩
  have B2 : Hid (Below w.heap.size w (w1.iter s pos)) := Lib.hid (B1.out.trans ((iter_below _ _ _).mono B1.out.size))
  go_wp2_with fail
  refine (HLo.out _).mono ?_
  rintro e w3 ⟨rfl, b3⟩
  have B3 : Hid (Below w.heap.size w w3) := Lib.hid (B2.out.trans (b3.mono B2.out.size))
  clear b3
  go_wp2_with fail
  refine (plain_any L _).mono ?_
  rw [HP.out]
  rintro e w4 ⟨rfl, pos2, rfl⟩
  have B4 : Hid (Below w.heap.size w (w3.iter L pos2)) := Lib.hid (B3.out.trans ((iter_below _ _ _).mono B3.out.size))
  go_wp2_with fail
  refine (fewLetters_any L _ (by omega)).mono ?_
  rintro e w5 ⟨R, hpR, hsr, rfl, b5⟩
  have hFl := few_len L hLs R hpR
  have HE := Lib.hid (few_doc L R hpR hsr)
  have B5 : Hid (Below w.heap.size w w5) := Lib.hid (B4.out.trans (b5.mono B4.out.size))
  clear b5 hpR hsr
  obtain ⟨Q, HQ⟩ : ∃ Q : ByteArray, Hid ((⟨(fewL (sgn L L.size 0) R).toArray⟩ : ByteArray) = Q) := ⟨_, Lib.hid rfl⟩
  have hQs : Q.size ≤ 20000 := by
   have : Q.size = (fewL (sgn L L.size 0) R).length := by rw [← HQ.out]; rfl
   omega
  have HQ2 : Hid (fewT L = Q) := Lib.hid (by rw [← HQ.out, HE.out]; rfl)
  rw [HQ.out]
  clear hFl
  have hz1 : ¬ 9223372036854775807 < 4 + Q.size := by omega
  by_cases h6 : 63 < 4 + Q.size
  ·have HR2 : Hid (T = (⟨#[]⟩, 5)) := Lib.hid (by rw [HR.out, HQ2.out, labE, if_pos (by rw [catX_size]; exact h6)])
   have h6I : (63 : Int) < 4 + (Q.size : Int) := by omega
   go_wp2
   go_ret2
   exact ⟨ret_lab HR2.out rfl rfl, B5.out⟩
  ·have HR2 : Hid (T = ((⟨#[120, 110, 45, 45]⟩ : ByteArray) ++ Q, 0)) := Lib.hid (by rw [HR.out, HQ2.out, labE, if_neg (by rw [catX_size]; exact h6)])
   have h6I : 4 + (Q.size : Int) ≤ 63 := by omega
   go_wp2
   go_ret2
   exact ⟨ret_lab HR2.out rfl rfl, B5.out⟩
 | true =>
  have HP := Lib.hid hp
  cases hx : Lib.hasPrefix L.data.toList [120, 110, 45, 45] with
  | false =>
   have HR : Hid (T = labE L) := Lib.hid (by rw [HTT.out, hp, hx]; rfl)
   have HC : Hid (∀ w, Calls Tryz.prog 19 #[.string L, .string ⟨#[120, 110, 45, 45]⟩] w fun e w' => e = .returned (.tuple #[.string (cutX L), .bool false]) ∧ w' = w) := Lib.hid (fun w => by
    have := Tryz.strings_CutPrefix L ⟨#[120, 110, 45, 45]⟩ w
    rw [show (⟨#[120, 110, 45, 45]⟩ : ByteArray).data.toList = [120, 110, 45, 45] from rfl, hx] at this
    exact this)
   clear hp hx
   go_enter Tryz.func102, Tryz.ntmps102
   go_wp2_with fail
   refine HVa.out.mono ?_
   rintro e w1 ⟨rfl, b1⟩
   have B1 := Lib.hid b1; clear b1
   go_wp2_with fail
   refine (HRC.out _).mono ?_
   rintro e w2 ⟨rfl, pos, rfl⟩
   have B2 : Hid (Below w.heap.size w (w1.iter s pos)) := Lib.hid (B1.out.trans ((iter_below _ _ _).mono B1.out.size))
   go_wp2_with fail
   refine (HLo.out _).mono ?_
   rintro e w3 ⟨rfl, b3⟩
   have B3 : Hid (Below w.heap.size w w3) := Lib.hid (B2.out.trans (b3.mono B2.out.size))
   clear b3
   go_wp2_with fail
   refine (plain_any L _).mono ?_
   rw [HP.out]
   rintro e w4 ⟨rfl, pos2, rfl⟩
   have B4 : Hid (Below w.heap.size w (w3.iter L pos2)) := Lib.hid (B3.out.trans ((iter_below _ _ _).mono B3.out.size))
   go_wp2_with fail
   refine (HC.out _).mono ?_
   rintro e w5 ⟨rfl, rfl⟩
   by_cases h6 : 63 < L.size
   ·have HR2 : Hid (T = (⟨#[]⟩, 5)) := Lib.hid (by rw [HR.out, labE, if_pos h6])
    have h6I : (63 : Int) < (L.size : Int) := by omega
    go_wp2
    go_ret2
    exact ⟨ret_lab HR2.out rfl rfl, B4.out⟩
   ·have HR2 : Hid (T = (L, 0)) := Lib.hid (by rw [HR.out, labE, if_neg h6])
    have h6I : (L.size : Int) ≤ 63 := by omega
    go_wp2
    go_ret2
    exact ⟨ret_lab HR2.out rfl rfl, B4.out⟩
  | true =>
   have HC : Hid (∀ w, Calls Tryz.prog 19 #[.string L, .string ⟨#[120, 110, 45, 45]⟩] w fun e w' => e = .returned (.tuple #[.string (cutX L), .bool true]) ∧ w' = w) := Lib.hid (fun w => by
    have := Tryz.strings_CutPrefix L ⟨#[120, 110, 45, 45]⟩ w
    rw [show (⟨#[120, 110, 45, 45]⟩ : ByteArray).data.toList = [120, 110, 45, 45] from rfl, hx] at this
    exact this)
   obtain ⟨X, HX⟩ : ∃ X, Hid (cutX L = X) := ⟨_, Lib.hid rfl⟩
   have hXs : X.size ≤ 1000 := by have := cutX_size L; rw [HX.out] at this; omega
   rw [HX.out] at HC
   cases ht : tellsB X with
   | false =>
    have HR : Hid (T = (⟨#[]⟩, 5)) := Lib.hid (by rw [HTT.out, hp, hx, HX.out, ht]; rfl)
    have HTl := Lib.hid (fun w hV => tells_any X w hXs hV)
    rw [ht] at HTl
    clear hp hx ht
    go_enter Tryz.func102, Tryz.ntmps102
    go_wp2_with fail
    refine HVa.out.mono ?_
    rintro e w1 ⟨rfl, b1⟩
    have B1 := Lib.hid b1; clear b1
    go_wp2_with fail
    refine (HRC.out _).mono ?_
    rintro e w2 ⟨rfl, pos, rfl⟩
    have B2 : Hid (Below w.heap.size w (w1.iter s pos)) := Lib.hid (B1.out.trans ((iter_below _ _ _).mono B1.out.size))
    go_wp2_with fail
    refine (HLo.out _).mono ?_
    rintro e w3 ⟨rfl, b3⟩
    have B3 : Hid (Below w.heap.size w w3) := Lib.hid (B2.out.trans (b3.mono B2.out.size))
    clear b3
    go_wp2_with fail
    refine (plain_any L _).mono ?_
    rw [HP.out]
    rintro e w4 ⟨rfl, pos2, rfl⟩
    have B4 : Hid (Below w.heap.size w (w3.iter L pos2)) := Lib.hid (B3.out.trans ((iter_below _ _ _).mono B3.out.size))
    go_wp2_with fail
    refine (HC.out _).mono ?_
    rintro e w5 ⟨rfl, rfl⟩
    go_wp2_with fail
    refine (HTl.out _ (HV.out.later B4.out)).mono ?_
    rintro e w6 ⟨rfl, b6⟩
    have B6 : Hid (Below w.heap.size w w6) := Lib.hid (B4.out.trans (b6.mono B4.out.size))
    clear b6
    go_wp2
    go_ret2
    exact ⟨ret_lab HR.out rfl rfl, B6.out⟩
   | true =>
    have HR : Hid (T = labE L) := Lib.hid (by rw [HTT.out, hp, hx, HX.out, ht]; rfl)
    have HTl := Lib.hid (fun w hV => tells_any X w hXs hV)
    rw [ht] at HTl
    clear hp hx ht
    go_enter Tryz.func102, Tryz.ntmps102
    go_wp2_with fail
    refine HVa.out.mono ?_
    rintro e w1 ⟨rfl, b1⟩
    have B1 := Lib.hid b1; clear b1
    go_wp2_with fail
    refine (HRC.out _).mono ?_
    rintro e w2 ⟨rfl, pos, rfl⟩
    have B2 : Hid (Below w.heap.size w (w1.iter s pos)) := Lib.hid (B1.out.trans ((iter_below _ _ _).mono B1.out.size))
    go_wp2_with fail
    refine (HLo.out _).mono ?_
    rintro e w3 ⟨rfl, b3⟩
    have B3 : Hid (Below w.heap.size w w3) := Lib.hid (B2.out.trans (b3.mono B2.out.size))
    clear b3
    go_wp2_with fail
    refine (plain_any L _).mono ?_
    rw [HP.out]
    rintro e w4 ⟨rfl, pos2, rfl⟩
    have B4 : Hid (Below w.heap.size w (w3.iter L pos2)) := Lib.hid (B3.out.trans ((iter_below _ _ _).mono B3.out.size))
    go_wp2_with fail
    refine (HC.out _).mono ?_
    rintro e w5 ⟨rfl, rfl⟩
    go_wp2_with fail
    refine (HTl.out _ (HV.out.later B4.out)).mono ?_
    rintro e w6 ⟨rfl, b6⟩
    have B6 : Hid (Below w.heap.size w w6) := Lib.hid (B4.out.trans (b6.mono B4.out.size))
    clear b6
    by_cases h6 : 63 < L.size
    ·have HR2 : Hid (T = (⟨#[]⟩, 5)) := Lib.hid (by rw [HR.out, labE, if_pos h6])
     have h6I : (63 : Int) < (L.size : Int) := by omega
     go_wp2
     go_ret2
     exact ⟨ret_lab HR2.out rfl rfl, B6.out⟩
    ·have HR2 : Hid (T = (L, 0)) := Lib.hid (by rw [HR.out, labE, if_neg h6])
     have h6I : (L.size : Int) ≤ 63 := by omega
     go_wp2
     go_ret2
     exact ⟨ret_lab HR2.out rfl rfl, B6.out⟩

end Go.Proofs.YtcphokaamkalfaaGreatDoor
namespace Go.Proofs.YtcphokaamkalfaaGreatDoor
open Go.RowKit

/-- What is shown. -/
def showT (s : ByteArray) : ByteArray :=
 if (labT s).2 = 0 then
  if Lib.hasPrefix (labT s).1.data.toList [120, 110, 45, 45] then
   if plainL s.data.toList then (if (decT (cutX (labT s).1)).2 = 0 then (decT (cutX (labT s).1)).1 else s) else s
  else s
 else s
end Go.Proofs.YtcphokaamkalfaaGreatDoor
namespace Go.Proofs.YtcphokaamkalfaaGreatDoor
open Go.RowKit

theorem letL_dig : ∀ d : Fin 36, digV (letL d.1) = some d.1 ∧ (letL d.1).toNat < 128 ∧ letL d.1 ≠ 45 ∧ ¬ (65 ≤ (letL d.1).toNat ∧ (letL d.1).toNat ≤ 90) := by decide +kernel
theorem digV_let256 : ∀ n : Fin 256, (digV (UInt8.ofNat n.1)).all (fun d => letL d == low (UInt8.ofNat n.1)) = true := by decide +kernel
theorem digV_let {c : UInt8} {d : Nat} (h : digV c = some d) : letL d = low c := by
 have := digV_let256 ⟨c.toNat, c.toNat_lt⟩
 simp only [UInt8.ofNat_toNat, h, Option.all_some, beq_iff_eq] at this
 exact this

theorem rd_on' (bias : Nat) (c : UInt8) (r : List UInt8) (i w a d t : Nat) (ht : stepN (36 * (i + 1)) bias = t) (h : digV c = some d) (hb : a + d * w ≤ 2147483647) (hd : ¬ d < t) :
  rdN bias (c :: r) i w a = rdN bias r (i + 1) (w * (36 - t)) (a + d * w) := by
 subst ht; exact rdN_on bias c r i w a d h hb hd
/-- The digits of a number are read as it. -/
theorem rd_digs (b : Nat) (r : List UInt8) : ∀ (f n i w a : Nat), n ≤ f → a + n * w ≤ 2147483647 → rdN b (digsL f n (36 * (i + 1)) b ++ r) i w a = some (a + n * w, i + (digsL f n (36 * (i + 1)) b).length)
 | 0, n, i, w, a, h, hb => by
  obtain rfl : n = 0 := by omega
  have ht := (stepN_bd (36 * (i + 1)) b).1
  rw [digsL]
  exact rdN_end b _ _ i w a 0 (letL_dig ⟨0, by omega⟩).1 hb (by omega)
 | f + 1, n, i, w, a, h, hb => by
  obtain ⟨ht1, ht2⟩ := stepN_bd (36 * (i + 1)) b
  by_cases hn : n < stepN (36 * (i + 1)) b
  ·rw [digsL_end hn]
   exact rdN_end b _ _ i w a n (letL_dig ⟨n, by omega⟩).1 hb hn
  ·rw [digsL_on hn]
   generalize ht : stepN (36 * (i + 1)) b = t at *
   have hlt : (n - t) % (36 - t) < 36 - t := Nat.mod_lt _ (by omega)
   have hdm := Nat.mod_add_div (n - t) (36 - t)
   generalize hd : (n - t) % (36 - t) = d0 at *
   generalize hq : (n - t) / (36 - t) = q at *
   have hn2 : n = t + d0 + (36 - t) * q := by omega
   have hqf : q ≤ f := by
    have : 10 * q ≤ (36 - t) * q := Nat.mul_le_mul_right q (by omega)
    omega
   have hmul : n * w = (t + d0) * w + q * (w * (36 - t)) := by
    rw [hn2, Nat.add_mul, Nat.mul_comm (36 - t) q, Nat.mul_assoc, Nat.mul_comm (36 - t) w]
   have ih := rd_digs b r f q (i + 1) (w * (36 - t)) (a + (t + d0) * w) hqf (by omega)
   rw [show 36 * (i + 1) + 36 = 36 * (i + 1 + 1) by omega]
   have hdv : digV (letL (t + d0)) = some (t + d0) := (letL_dig ⟨t + d0, by omega⟩).1
   have hle : a + (t + d0) * w ≤ 2147483647 := by omega
   rw [List.cons_append, rd_on' b _ _ i w a (t + d0) t ht hdv hle (by omega), ih]
   rw [hmul, ← Nat.add_assoc, List.length_cons]
   congr 2; omega
/-- What is read is told so, in small letters. -/
theorem digs_rd (b : Nat) : ∀ (l : List UInt8) (i w a n m : Nat), 0 < w → rdN b l i w a = some (n, m) → ∃ v, n = a + v * w ∧ ∀ f, v ≤ f → digsL f v (36 * (i + 1)) b = (l.take (m - i)).map low
 | [], _, _, _, _, _, _, h => by simp [rdN] at h
 | c :: r, i, w, a, n, m, hw, h => by
  obtain ⟨ht1, ht2⟩ := stepN_bd (36 * (i + 1)) b
  cases hc : digV c with
  | none => rw [rdN_none b c r i w a hc] at h; cases h
  | some d =>
   have hd36 := digV_lt hc
   by_cases hbig : 2147483647 < a + d * w
   ·rw [rdN_big b c r i w a d hc hbig] at h; cases h
   ·by_cases hd : d < stepN (36 * (i + 1)) b
    ·rw [rdN_end b c r i w a d hc (by omega) hd] at h
     injection h with h; injection h with h1 h2
     refine ⟨d, h1.symm, fun f _ => ?_⟩
     rw [digsL_end hd, ← h2, show i + 1 - i = 1 by omega, digV_let hc]; rfl
    ·rw [rdN_on b c r i w a d hc (by omega) hd] at h
     have hm := (rdN_bd b _ _ _ _ _ _ h).2.2.1
     generalize ht : stepN (36 * (i + 1)) b = t at *
     obtain ⟨v, hv, hdig⟩ := digs_rd b r (i + 1) (w * (36 - t)) (a + d * w) n m (Nat.mul_pos hw (by omega)) h
     refine ⟨d + (36 - t) * v, ?_, fun f hf => ?_⟩
     ·rw [hv, Nat.add_mul, Nat.mul_comm (36 - t) v, Nat.mul_assoc, Nat.mul_comm (36 - t) w, Nat.add_assoc]
     ·obtain ⟨f, rfl⟩ : ∃ g, f = g + 1 := ⟨f - 1, by omega⟩
      have h10 : 10 * v ≤ (36 - t) * v := Nat.mul_le_mul_right v (by omega)
      have e1 : d + (36 - t) * v - t = (d - t) + (36 - t) * v := by omega
      have e2 : (d + (36 - t) * v - t) % (36 - t) = d - t := by
       rw [e1, Nat.add_mul_mod_self_left]; exact Nat.mod_eq_of_lt (by omega)
      have e3 : (d + (36 - t) * v - t) / (36 - t) = v := by
       rw [e1, Nat.add_mul_div_left _ _ (by omega), Nat.div_eq_of_lt (by omega), Nat.zero_add]
      rw [digsL_on (by rw [ht]; omega), ht, e2, e3, show 36 * (i + 1) + 36 = 36 * (i + 1 + 1) by omega, hdig f (by omega)]
      rw [show t + (d - t) = d by omega, digV_let hc, show m - i = (m - (i + 1)) + 1 by omega]
      rfl

/- Lists of signs whose places rise. -/
theorem ris_cons {x : Pr} {l : List Pr} : Ris (x :: l) ↔ (∀ y ∈ l, x.2 < y.2) ∧ Ris l := List.pairwise_cons
theorem ris_unique : ∀ (l m : List Pr), Ris l → Ris m → l.Perm m → l = m
 | [], m, _, _, h => (List.nil_perm.1 h).symm
 | x :: l, m, hl, hm, h => by
  cases m with
  | nil => exact absurd h.length_eq (by simp)
  | cons y m =>
   rw [ris_cons] at hl hm
   have hx : x ∈ y :: m := h.mem_iff.1 (by simp)
   have hy : y ∈ x :: l := h.mem_iff.2 (by simp)
   have e : x = y := by
    rcases List.mem_cons.1 hx with e | hx
    ·exact e
    ·rcases List.mem_cons.1 hy with e | hy
     ·exact e.symm
     ·have h1 := hl.1 y hy
      have h2 := hm.1 x hx
      omega
   subst e
   rw [ris_unique l m hl.2 hm.2 (List.Perm.cons_inv h)]
/-- A sign put among others by its place. -/
def putP (D : List Pr) (x : Pr) : List Pr := (D.filter fun y => decide (y.2 < x.2)) ++ x :: D.filter fun y => decide (x.2 < y.2)
theorem split_at (p : Nat) : ∀ D : List Pr, Ris D → (∀ y ∈ D, y.2 ≠ p) → D = (D.filter fun y => decide (y.2 < p)) ++ D.filter fun y => decide (p < y.2)
 | [], _, _ => rfl
 | x :: D, h, hp => by
  rw [ris_cons] at h
  have ih := split_at p D h.2 (fun y hy => hp y (List.mem_cons_of_mem _ hy))
  have hx := hp x (by simp)
  by_cases hlt : x.2 < p
  ·rw [List.filter_cons_of_pos (by simpa using hlt), List.filter_cons_of_neg (by simp; omega), List.cons_append, ← ih]
  ·have h1 : (D.filter fun y => decide (y.2 < p)) = [] := by
    rw [List.filter_eq_nil_iff]
    intro y hy
    have := h.1 y hy
    simp; omega
   have h2 : (D.filter fun y => decide (p < y.2)) = D := by
    rw [List.filter_eq_self]
    intro y hy
    have := h.1 y hy
    simp; omega
   rw [List.filter_cons_of_neg (by simpa using hlt), List.filter_cons_of_pos (by simp; omega), h1, h2]; rfl
theorem putP_ris (D : List Pr) (x : Pr) (h : Ris D) : Ris (putP D x) := by
 unfold putP Ris
 rw [List.pairwise_append, List.pairwise_cons]
 refine ⟨List.Pairwise.filter _ h, ⟨fun y hy => by simpa using (List.mem_filter.1 hy).2, List.Pairwise.filter _ h⟩, fun a ha b hb => ?_⟩
 have ha' : a.2 < x.2 := by simpa using (List.mem_filter.1 ha).2
 rcases List.mem_cons.1 hb with rfl | hb
 ·exact ha'
 ·have : x.2 < b.2 := by simpa using (List.mem_filter.1 hb).2
  omega
theorem putP_perm (D : List Pr) (x : Pr) (h : Ris D) (hp : ∀ y ∈ D, y.2 ≠ x.2) : (putP D x).Perm (x :: D) := by
 have := split_at x.2 D h hp
 refine List.perm_middle.trans (List.Perm.cons _ ?_)
 rw [← this]
theorem cntLt_split (D : List Pr) (p : Nat) : cntLt (D.map (·.2)) p = (D.filter fun y => decide (y.2 < p)).length := by
 unfold cntLt
 rw [List.countP_map, List.countP_eq_length_filter]
 rfl
theorem putP_ins (D : List Pr) (x : Pr) (h : Ris D) (hp : ∀ y ∈ D, y.2 ≠ x.2) : insN (D.map (·.1)) (cntLt (D.map (·.2)) x.2) x.1 = (putP D x).map (·.1) := by
 have e := split_at x.2 D h hp
 rw [cntLt_split]
 unfold putP insN
 generalize (D.filter fun y => decide (y.2 < x.2)) = A at *
 generalize (D.filter fun y => decide (x.2 < y.2)) = B at *
 subst e
 rw [List.map_append, List.map_append, List.map_cons]
 rw [List.take_left' (by simp), List.drop_left' (by simp)]
theorem cntLt_perm {a b : List Nat} (h : a.Perm b) (p : Nat) : cntLt a p = cntLt b p := h.countP_eq _
theorem fewN_perm (begun : Nat) : ∀ (R : List Pr) (a b : List Nat) (i place last bias : Nat), a.Perm b → fewN begun R a i place last bias = fewN begun R b i place last bias
 | [], _, _, _, _, _, _, _ => rfl
 | (m, p) :: R, a, b, i, place, last, bias, h => by
  rw [fewN, fewN, cntLt_perm h p, fewN_perm begun R (p :: a) (p :: b) _ _ _ _ (List.Perm.cons p h)]

theorem digsL_ne (f n k b : Nat) : digsL f n k b ≠ [] := by
 cases f with
 | zero => simp [digsL]
 | succ f => rw [digsL]; split <;> simp
/-- Signs that are told are put where they were. -/
theorem dec_few (begun : Nat) : ∀ (R : List Pr) (D : List Pr) (told : List Nat) (i place last bias f : Nat),
  Ris D → (told.Perm (D.map (·.2))) → D.length = begun + i → (∀ x ∈ R, ∀ y ∈ D, y.2 ≠ x.2) → (R.Pairwise fun x y => x.2 ≠ y.2) → Srt R → Nxt told place last R → place ≤ begun + i → (∀ x ∈ R, badS x.1 = false) →
  begun + i + R.length ≤ 1000 → last ≤ 1114111 → (fewN begun R told i place last bias).length ≤ f →
  ∃ E, decL f (D.map (·.1)) (fewN begun R told i place last bias) place last bias (i == 0) = some (E.map (·.1)) ∧ Ris E ∧ E.Perm (R ++ D)
 | [], D, told, i, place, last, bias, f, hD, _, _, _, _, _, _, _, _, _, _, _ => ⟨D, by rw [fewN, decL_nil], hD, List.Perm.refl _⟩
 | (m, p) :: R, D, told, i, place, last, bias, f, hD, hT, hl, hne, hpw, hs, hn, hpi, hb, h1000, hlast, hf => by
  obtain ⟨hlm, hpl⟩ := hn
  have hc : cntLt told p = cntLt (D.map (·.2)) p := cntLt_perm hT p
  have hcl : cntLt told p ≤ begun + i := by
   have := cntLt_le told p
   rw [hT.length_eq, List.length_map, hl] at this; exact this
  have hm := hb (m, p) (by simp)
  obtain ⟨hm1, _⟩ := badS_false.1 hm
  simp only at hm1
  rw [List.pairwise_cons] at hpw
  have hs' := hs
  unfold Srt at hs'
  rw [List.pairwise_cons] at hs'
  obtain ⟨N, hN⟩ : ∃ N, (m - last) * (begun + i + 1) + cntLt told p - place = N := ⟨_, rfl⟩
  have hplN : place + N = (m - last) * (begun + i + 1) + cntLt told p := by
   by_cases e : last = m
   ·have := hpl e
    rw [e, Nat.sub_self, Nat.zero_mul] at hN ⊢
    omega
   ·have h1 : 1 ≤ m - last := by omega
    have h2 : 1 * (begun + i + 1) ≤ (m - last) * (begun + i + 1) := Nat.mul_le_mul_right _ h1
    omega
  have hNb : N ≤ 2147483647 := by
   have h1 : (m - last) * (begun + i + 1) ≤ 1114111 * 1001 := Nat.mul_le_mul (by omega) (by simp at h1000; omega)
   omega
  have hfew : fewN begun ((m, p) :: R) told i place last bias = digsL N N 36 bias ++ fewN begun R (p :: told) (i + 1) (cntLt told p + 1) m (nb N (begun + i + 1) (i == 0)) := by rw [fewN, hN]
  rw [hfew] at hf ⊢
  have hne2 : digsL N N 36 bias ++ fewN begun R (p :: told) (i + 1) (cntLt told p + 1) m (nb N (begun + i + 1) (i == 0)) ≠ [] := by
   simp [digsL_ne]
  have hrd := rd_digs bias (fewN begun R (p :: told) (i + 1) (cntLt told p + 1) m (nb N (begun + i + 1) (i == 0))) N N 0 1 0 (Nat.le_refl _) (by omega)
  rw [show 36 * (0 + 1) = 36 from rfl, Nat.zero_add, Nat.mul_one, Nat.zero_add] at hrd
  have hdl : 0 < (digsL N N 36 bias).length := List.length_pos_iff.2 (digsL_ne _ _ _ _)
  obtain ⟨f, rfl⟩ : ∃ g, f = g + 1 := ⟨f - 1, by rw [List.length_append] at hf; omega⟩
  have hlen : (D.map (·.1)).length + 1 = begun + i + 1 := by rw [List.length_map, hl]
  have hdiv : (place + N) / (begun + i + 1) = m - last := by
   rw [hplN, Nat.mul_comm, Nat.mul_add_div (by omega), Nat.div_eq_of_lt (by omega), Nat.add_zero]
  have hmod : (place + N) % (begun + i + 1) = cntLt told p := by
   rw [hplN, Nat.mul_comm, Nat.mul_add_mod]; exact Nat.mod_eq_of_lt (by omega)
  have hD' : ∀ y ∈ D, y.2 ≠ p := fun y hy => hne (m, p) (by simp) y hy
  have hpp := putP_perm D (m, p) hD hD'
  obtain ⟨E, hE1, hE2, hE3⟩ := dec_few begun R (putP D (m, p)) (p :: told) (i + 1) (cntLt told p + 1) m (nb N (begun + i + 1) (i == 0)) f
   (putP_ris D _ hD) (by have h3 := (hpp.map (fun z : Pr => z.2)).symm; exact (List.Perm.cons p hT).trans h3) (by rw [hpp.length_eq, List.length_cons, hl]; omega)
   (fun x hx y hy => by
    rcases List.mem_cons.1 (hpp.mem_iff.1 hy) with rfl | hy
    ·exact hpw.1 x hx
    ·exact hne x (List.mem_cons_of_mem _ hx) y hy) hpw.2 hs'.2
   (by
    cases R with
    | nil => exact trivial
    | cons z R =>
     have hz := hs'.1 z (by simp)
     refine ⟨ltP_le hz, fun e => ?_⟩
     have : p < z.2 := by
      rcases hz with h | ⟨_, h⟩
      ·simp only at h; omega
      ·exact h
     rw [cntLt_cons, if_pos this]
     have := cntLt_mono told (Nat.le_of_lt this)
     omega) (by omega)
   (fun x hx => hb x (List.mem_cons_of_mem _ hx)) (by simp at h1000; omega) hm1 (by rw [List.length_append] at hf; omega)
  refine ⟨E, ?_, hE2, hE3.trans ?_⟩
  ·rw [decL_on hne2 hrd (by rw [hlen, hdiv, show last + (m - last) = m by omega]; exact hm), hlen, hdiv, hmod, show last + (m - last) = m by omega]
   rw [hc, putP_ins D (m, p) hD hD', ← hc, List.drop_left' rfl]
   exact hE1
  ·refine (List.Perm.append_left R hpp).trans ?_
   exact List.perm_middle

end Go.Proofs.YtcphokaamkalfaaGreatDoor
namespace Go.Proofs.YtcphokaamkalfaaGreatDoor
open Go.RowKit

theorem ris_app {A B : List Pr} (h : Ris (A ++ B)) : Ris A ∧ Ris B ∧ ∀ a ∈ A, ∀ b ∈ B, a.2 < b.2 := by
 unfold Ris at h ⊢
 rw [List.pairwise_append] at h
 exact h
theorem map_split {l : List Nat} {D : List Pr} {k : Nat} {x : Nat} (h : D.map (·.1) = insN l k x) (_ : k ≤ l.length) : ∃ A p B, D = A ++ (x, p) :: B ∧ A.map (·.1) = l.take k ∧ B.map (·.1) = l.drop k := by
 unfold insN at h
 obtain ⟨A, C, rfl, hA, hC⟩ := List.map_eq_append_iff.1 h
 obtain ⟨y, B, rfl, hy, hB⟩ := List.map_eq_cons_iff.1 hC
 exact ⟨A, y.2, B, by rw [← hy], hA, hB⟩
theorem srt_cons {x : Pr} {R : List Pr} (hR : Srt R) (h : ∀ z R', R = z :: R' → ltP x z) : Srt (x :: R) := by
 unfold Srt at *
 rw [List.pairwise_cons]
 refine ⟨fun y hy => ?_, hR⟩
 cases R with
 | nil => cases hy
 | cons z R' =>
  have hz := h z R' rfl
  rcases List.mem_cons.1 hy with rfl | hy
  ·exact hz
  ·rw [List.pairwise_cons] at hR
   exact ltP_trans hz (hR.1 y hy)
/-- What few letters said is told so again, in small letters; full: the signs, with places that rise. -/
theorem dec_back (begun : Nat) (full : List Pr) (hfull : Ris full) : ∀ (f : Nat) (l : List Nat) (r : List UInt8) (i place sign bias : Nat), l.length = begun + i →
  decL f l r place sign bias (i == 0) = some (full.map (·.1)) →
  ∃ D R : List Pr, D.map (·.1) = l ∧ full.Perm (R ++ D) ∧ D.Sublist full ∧ Srt R ∧ Nxt (D.map (·.2)) place sign R ∧ (∀ x ∈ R, sign ≤ x.1 ∧ badS x.1 = false) ∧ fewN begun R (D.map (·.2)) i place sign bias = r.map low
 | f, l, [], i, place, sign, bias, hl, h => by
  rw [decL_nil] at h
  injection h with h
  exact ⟨full, [], h.symm, List.Perm.refl _, List.Sublist.refl _, List.Pairwise.nil, trivial, by simp, rfl⟩
 | 0, l, c :: r, i, place, sign, bias, hl, h => by simp [decL] at h
 | f + 1, l, c :: r, i, place, sign, bias, hl, h => by
  have hne : c :: r ≠ [] := by simp
  cases hr : rdN bias (c :: r) 0 1 0 with
  | none => rw [decL_none hne hr] at h; cases h
  | some nm =>
   obtain ⟨n, m⟩ := nm
   cases hb : badS (sign + (place + n) / (l.length + 1)) with
   | true => rw [decL_bad hne hr hb] at h; cases h
   | false =>
    rw [decL_on hne hr hb] at h
    have hbd := rdN_bd bias _ _ _ _ _ _ hr
    obtain ⟨v, hv, hdig⟩ := digs_rd bias _ 0 1 0 n m (by omega) hr
    rw [Nat.mul_one, Nat.zero_add] at hv
    subst hv
    have hdig := hdig n (Nat.le_refl _)
    rw [Nat.sub_zero, show 36 * (0 + 1) = 36 from rfl] at hdig
    obtain ⟨S, hS⟩ : ∃ S, l.length + 1 = S := ⟨_, rfl⟩
    have hS' : S = begun + i + 1 := by omega
    rw [hS] at h hb
    obtain ⟨q, hq⟩ : ∃ q, (place + n) / S = q := ⟨_, rfl⟩
    obtain ⟨k, hk⟩ : ∃ k, (place + n) % S = k := ⟨_, rfl⟩
    have hdm := Nat.div_add_mod (place + n) S
    rw [hq, hk] at h hdm
    rw [hq] at hb
    have hkS : k < S := by rw [← hk]; exact Nat.mod_lt _ (by omega)
    have h' : decL f (insN l k (sign + q)) ((c :: r).drop m) (k + 1) (sign + q) (nb n S (i == 0)) (i + 1 == 0) = some (full.map (·.1)) := h
    obtain ⟨D', R', hD1, hP, hSub, hSr, hNx, hbd2, hfew⟩ := dec_back begun full hfull f _ _ (i + 1) (k + 1) (sign + q) (nb n S (i == 0)) (by rw [insN_length, hl]; omega) h'
    obtain ⟨A, p, B, rfl, hA, hB⟩ := map_split hD1 (by omega)
    have hris : Ris (A ++ (sign + q, p) :: B) := List.Pairwise.sublist hSub hfull
    obtain ⟨_, hr2, hab⟩ := ris_app hris
    rw [ris_cons] at hr2
    have hAl : A.length = k := by
     have := congrArg List.length hA
     rw [List.length_map, List.length_take] at this; omega
    have hcnt : cntLt ((A ++ B).map (·.2)) p = k := by
     unfold cntLt
     rw [List.countP_map, List.countP_append]
     have h1 : A.countP ((fun x => decide (x < p)) ∘ fun x : Pr => x.2) = A.length := by
      rw [List.countP_eq_length]
      intro a ha
      have := hab a ha (sign + q, p) (by simp)
      simpa using this
     have h2 : B.countP ((fun x => decide (x < p)) ∘ fun x : Pr => x.2) = 0 := by
      rw [List.countP_eq_zero]
      intro b hb
      have := hr2.1 b hb
      simp at this ⊢; omega
     rw [h1, h2, hAl]; rfl
    refine ⟨A ++ B, (sign + q, p) :: R', ?_, ?_, ?_, ?_, ?_, ?_, ?_⟩
    ·rw [List.map_append, hA, hB, List.take_append_drop]
    ·refine hP.trans ?_
     refine (List.Perm.append_left R' List.perm_middle).trans ?_
     exact List.perm_middle
    ·exact (List.Sublist.append_left (List.sublist_cons_self _ _) A).trans hSub
    ·refine srt_cons hSr (fun z R'' e => ?_)
     subst e
     obtain ⟨h1, h2⟩ := hNx
     by_cases e : sign + q = z.1
     ·right
      refine ⟨e, ?_⟩
      have h3 := h2 e
      apply Classical.byContradiction
      intro h4
      have h4 : z.2 ≤ p := by simp only at h4; omega
      have h5 : cntLt ((A ++ (sign + q, p) :: B).map (·.2)) z.2 ≤ k := by
       unfold cntLt
       rw [List.countP_map, List.countP_append, List.countP_cons]
       have e2 : B.countP ((fun x => decide (x < z.2)) ∘ fun x : Pr => x.2) = 0 := by
        rw [List.countP_eq_zero]
        intro b hb
        have := hr2.1 b hb
        simp at this ⊢; omega
       have e3 : ((fun x => decide (x < z.2)) ∘ fun x : Pr => x.2) (sign + q, p) = false := by simp; omega
       rw [e2, e3, if_neg Bool.false_ne_true]
       refine Nat.le_trans (Nat.add_le_add_right List.countP_le_length _) ?_
       omega
      exact absurd (Nat.le_trans h3 h5) (by omega)
     ·left; show sign + q < z.1; omega
    ·refine ⟨by show sign ≤ sign + q; omega, fun e => ?_⟩
     have hq0 : q = 0 := by omega
     rw [hcnt]
     rw [hq0, Nat.mul_zero] at hdm
     omega
    ·intro x hx
     rcases List.mem_cons.1 hx with rfl | hx
     ·exact ⟨by show sign ≤ sign + q; omega, hb⟩
     ·have := hbd2 x hx
      exact ⟨by omega, this.2⟩
    ·have hN : (sign + q - sign) * (begun + i + 1) + cntLt ((A ++ B).map (·.2)) p - place = n := by
      rw [hcnt, ← hS', Nat.add_sub_cancel_left, Nat.mul_comm q S]; omega
     rw [fewN, hN, hdig, hcnt, ← hS']
     have hpe : (p :: (A ++ B).map (·.2)).Perm ((A ++ (sign + q, p) :: B).map (·.2)) := by
      have : ((A ++ (sign + q, p) :: B).map (fun z : Pr => z.2)).Perm (((sign + q, p) :: (A ++ B)).map (fun z : Pr => z.2)) := List.perm_middle.map _
      exact this.symm
     rw [fewN_perm begun R' _ _ _ _ _ _ hpe, hfew, ← List.map_append, List.take_append_drop]

/-- The plain signs, the others, of signs that are told. -/
theorem few_back (begun : Nat) (full : List Pr) (hfull : Ris full) (f : Nat) (l : List Nat) (r : List UInt8) (hl : l.length = begun) (hp : ∀ x ∈ l, x < 128)
  (h : decL f l r 0 128 72 true = some (full.map (·.1))) : ∃ R, R.Perm (full.filter fun x => decide (128 ≤ x.1)) ∧ Srt R ∧ (full.filter fun x => decide (x.1 < 128)).map (·.1) = l ∧
   fewN begun R ((full.filter fun x => decide (x.1 < 128)).map (·.2)) 0 0 128 72 = r.map low := by
 obtain ⟨D, R, h1, h2, h3, h4, _, h6, h7⟩ := dec_back begun full hfull f l r 0 0 128 72 (by omega) h
 have hD : ∀ x ∈ D, x.1 < 128 := fun x hx => hp x.1 (by rw [← h1]; exact List.mem_map_of_mem hx)
 have hR1 : R.filter (fun x => decide (128 ≤ x.1)) = R := by
  rw [List.filter_eq_self]; intro x hx; simpa using (h6 x hx).1
 have hR2 : D.filter (fun x => decide (128 ≤ x.1)) = [] := by
  rw [List.filter_eq_nil_iff]; intro x hx; have := hD x hx; simp; omega
 have hf1 : (full.filter fun x => decide (128 ≤ x.1)).Perm R := by
  have := h2.filter (fun x => decide (128 ≤ x.1))
  rwa [List.filter_append, hR1, hR2, List.append_nil] at this
 have hR3 : R.filter (fun x => decide (x.1 < 128)) = [] := by
  rw [List.filter_eq_nil_iff]; intro x hx; have := (h6 x hx).1; simp; omega
 have hD3 : D.filter (fun x => decide (x.1 < 128)) = D := by
  rw [List.filter_eq_self]; intro x hx; simpa using hD x hx
 have hf2 : (full.filter fun x => decide (x.1 < 128)).Perm D := by
  have := h2.filter (fun x => decide (x.1 < 128))
  rwa [List.filter_append, hR3, hD3, List.nil_append] at this
 have hf3 : D.Sublist (full.filter fun x => decide (x.1 < 128)) := by
  have := h3.filter (fun x => decide (x.1 < 128))
  rwa [hD3] at this
 have e := hf3.eq_of_length hf2.length_eq.symm
 rw [← e]
 exact ⟨R, hf1.symm, h4, h1, h7⟩

end Go.Proofs.YtcphokaamkalfaaGreatDoor
namespace Go.Proofs.YtcphokaamkalfaaGreatDoor
open Go.RowKit

def bytesL (L : List Nat) : List UInt8 := L.flatMap encN
theorem utf_bytes (L : List Nat) : (utf L).data.toList = bytesL L := by
 refine snocInd (P := fun L => (utf L).data.toList = bytesL L) utf_nil (fun l x ih => ?_) L
 rw [utf_snoc, ih, bytesL, bytesL, List.flatMap_append]; simp
def decN (l : List UInt8) : Nat × Nat := Lib.decodeN l.length (l.getD 0 0).toNat (l.getD 1 0).toNat (l.getD 2 0).toNat (l.getD 3 0).toNat
theorem get_list (L : List UInt8) (i : Nat) : (⟨L.toArray⟩ : ByteArray).get! i = L.getD i 0 := by
 show L.toArray[i]! = _
 rw [List.getD_eq_getElem?_getD]
 by_cases h : i < L.length
 ·rw [getElem!_pos _ _ (by simpa using h), List.getElem?_eq_getElem h]; simp
 ·rw [getElem!_neg _ _ (by simpa using h), List.getElem?_eq_none (by omega)]; rfl
theorem dec_list (s : ByteArray) (p : Nat) : Utf8.decode s p = decN (s.data.toList.drop p) := by
 have hs : s = ⟨s.data.toList.toArray⟩ := by cases s; simp
 have hg : ∀ k, s.get! (p + k) = (s.data.toList.drop p).getD k 0 := fun k => by
  conv => lhs; rw [hs]
  rw [get_list, List.getD_eq_getElem?_getD, List.getD_eq_getElem?_getD, List.getElem?_drop]
 have h0 := hg 0
 rw [Nat.add_zero] at h0
 rw [Lib.decode_at, h0, hg 1, hg 2, hg 3, decN, List.length_drop, dLen]
theorem nat8 {n : Nat} (h : n < 256) : (UInt8.ofNat n).toNat = n := by simp [Nat.mod_eq_of_lt h]
set_option maxRecDepth 100000 in
theorem dec_enc {x : Nat} (hb : badS x = false) (rest : List UInt8) : decN (encN x ++ rest) = (x, (encN x).length) := by
 obtain ⟨h1, h2⟩ := badS_false.1 hb
 by_cases a1 : x < 128
 ·rw [enc1 a1]
  show Lib.decodeN _ (UInt8.ofNat x).toNat _ _ _ = _
  rw [nat8 (by omega)]
  unfold Lib.decodeN
  rw [if_pos a1]; rfl
 ·by_cases a2 : x < 2048
  ·rw [enc2 (by omega) a2]
   show Lib.decodeN (rest.length + 1 + 1) (UInt8.ofNat (192 + x / 64)).toNat (UInt8.ofNat (128 + x % 64)).toNat _ _ = _
   rw [nat8 (by omega), nat8 (by omega)]
   unfold Lib.decodeN
   rw [if_neg (by omega), if_pos (by omega), if_pos (by omega)]
   exact congrArg (fun z => (z, 2)) (by omega)
  ·by_cases a3 : x < 65536
   ·rw [enc3 hb (by omega) a3]
    show Lib.decodeN (rest.length + 1 + 1 + 1) (UInt8.ofNat (224 + x / 4096)).toNat (UInt8.ofNat (128 + x / 64 % 64)).toNat (UInt8.ofNat (128 + x % 64)).toNat _ = _
    rw [nat8 (by omega), nat8 (by omega), nat8 (by omega)]
    unfold Lib.decodeN
    have e : (224 + x / 4096) % 16 * 4096 + (128 + x / 64 % 64) % 64 * 64 + (128 + x % 64) % 64 = x := by omega
    rw [e, if_neg (by omega), if_neg (by omega), if_pos (by omega), if_pos (by omega)]
    rfl
   ·rw [enc4 hb (by omega)]
    show Lib.decodeN (rest.length + 1 + 1 + 1 + 1) (UInt8.ofNat (240 + x / 262144)).toNat (UInt8.ofNat (128 + x / 4096 % 64)).toNat (UInt8.ofNat (128 + x / 64 % 64)).toNat (UInt8.ofNat (128 + x % 64)).toNat = _
    rw [nat8 (by omega), nat8 (by omega), nat8 (by omega), nat8 (by omega)]
    unfold Lib.decodeN
    have e : (240 + x / 262144) % 8 * 262144 + (128 + x / 4096 % 64) % 64 * 4096 + (128 + x / 64 % 64) % 64 * 64 + (128 + x % 64) % 64 = x := by omega
    rw [e, if_neg (by omega), if_neg (by omega), if_neg (by omega), if_pos (by omega), if_pos (by omega)]
    rfl
theorem u8_of {a : UInt8} {n : Nat} (h : n = a.toNat) : UInt8.ofNat n = a := by rw [h, UInt8.ofNat_toNat]
set_option maxRecDepth 100000 in
set_option maxHeartbeats 1000000 in
theorem enc_dec (l : List UInt8) (hne : l ≠ []) (hbad : ¬ ((decN l).1 = 65533 ∧ (decN l).2 = 1)) : badS (decN l).1 = false ∧ l = encN (decN l).1 ++ l.drop (decN l).2 := by
 have big : ∀ {x y : Nat}, (x, y) = ((65533, 1) : Nat × Nat) → x = 65533 ∧ y = 1 := fun h => by injection h with a b; exact ⟨a, b⟩
 match l, hne with
 | a :: t, _ =>
  have ha := a.toNat_lt
  obtain ⟨R, hR⟩ : ∃ R, decN (a :: t) = R := ⟨_, rfl⟩
  rw [hR] at hbad ⊢
  have hD := hR
  unfold decN Lib.decodeN at hR
  rw [show (a :: t).getD 0 0 = a from rfl] at hR
  split at hR
  ·rename_i h
   subst hR
   refine ⟨badS_false.2 (by simp only; omega), ?_⟩
   simp only
   rw [enc1 h, u8_of rfl]; rfl
  ·split at hR
   ·rename_i h0 h
    match t, h with
    | [], h => simp at h
    | b :: t, h =>
     have hb := b.toNat_lt
     rw [show (a :: b :: t).getD 1 0 = b from rfl] at hR h
     split at hR
     ·rename_i h2
      subst hR
      refine ⟨badS_false.2 (by simp only; omega), ?_⟩
      simp only
      rw [enc2 (by omega) (by omega), u8_of (a := a) (by omega), u8_of (a := b) (by omega)]; rfl
     ·exact absurd (by rw [← hR]; exact ⟨rfl, rfl⟩) hbad
   ·split at hR
    ·rename_i h0 h1 h
     match t, h with
     | [], h => simp at h
     | [b], h => simp at h
     | b :: c :: t, h =>
      have hb := b.toNat_lt
      have hc := c.toNat_lt
      rw [show (a :: b :: c :: t).getD 1 0 = b from rfl, show (a :: b :: c :: t).getD 2 0 = c from rfl] at hR h
      split at hR
      ·rename_i h2
       subst hR
       have hbs : badS (a.toNat % 16 * 4096 + b.toNat % 64 * 64 + c.toNat % 64) = false := badS_false.2 (by omega)
       refine ⟨hbs, ?_⟩
       simp only
       rw [enc3 hbs (by omega) (by omega), u8_of (a := a) (by omega), u8_of (a := b) (by omega), u8_of (a := c) (by omega)]; rfl
      ·exact absurd (by rw [← hR]; exact ⟨rfl, rfl⟩) hbad
    ·split at hR
     ·rename_i h0 h1 h1' h
      rcases t with _ | ⟨b, _ | ⟨c, _ | ⟨d, t⟩⟩⟩
      ·simp at h
      ·simp at h
      ·simp at h
      ·skip
       have hb := b.toNat_lt
       have hc := c.toNat_lt
       have hd := d.toNat_lt
       rw [show (a :: b :: c :: d :: t).getD 1 0 = b from rfl, show (a :: b :: c :: d :: t).getD 2 0 = c from rfl, show (a :: b :: c :: d :: t).getD 3 0 = d from rfl] at hR h
       split at hR
       ·rename_i h2
        obtain ⟨a', ea⟩ : ∃ a', a.toNat % 8 = a' := ⟨_, rfl⟩
        obtain ⟨b', eb⟩ : ∃ b', b.toNat % 64 = b' := ⟨_, rfl⟩
        obtain ⟨c', ec⟩ : ∃ c', c.toNat % 64 = c' := ⟨_, rfl⟩
        obtain ⟨d', ed⟩ : ∃ d', d.toNat % 64 = d' := ⟨_, rfl⟩
        rw [ea, eb, ec, ed] at hR h2
        have fa : a.toNat = 240 + a' := by omega
        have fb : b.toNat = 128 + b' ∧ b' < 64 := by omega
        have fc : c.toNat = 128 + c' ∧ c' < 64 := by omega
        have fd : d.toNat = 128 + d' ∧ d' < 64 := by omega
        obtain ⟨z, hz⟩ : ∃ z, a' * 262144 + b' * 4096 + c' * 64 + d' = z := ⟨_, rfl⟩
        rw [hz] at hR h2
        clear h h0 h1 h1' ea eb ec ed hD hbad
        subst hR
        have hbs : badS z = false := badS_false.2 (by omega)
        refine ⟨hbs, ?_⟩
        simp only
        have q1 : z / 262144 = a' := by omega
        have q2 : z / 4096 % 64 = b' := by omega
        have q3 : z / 64 % 64 = c' := by omega
        have q4 : z % 64 = d' := by omega
        rw [enc4 hbs (by omega), q1, q2, q3, q4, u8_of (a := a) fa.symm, u8_of (a := b) fb.1.symm, u8_of (a := c) fc.1.symm, u8_of (a := d) fd.1.symm]; rfl
       ·exact absurd (by rw [← hR]; exact ⟨rfl, rfl⟩) hbad
     ·exact absurd (by rw [← hR]; exact ⟨rfl, rfl⟩) hbad

theorem encN_pos {x : Nat} (hb : badS x = false) : 1 ≤ (encN x).length := by
 by_cases a1 : x < 128
 ·rw [enc1 a1]; simp
 ·by_cases a2 : x < 2048
  ·rw [enc2 (by omega) a2]; simp
  ·by_cases a3 : x < 65536
   ·rw [enc3 hb (by omega) a3]; simp
   ·rw [enc4 hb (by omega)]; simp
/-- Signs that are told are read again. -/
theorem sgO_bytes (s : ByteArray) : ∀ (L : List Nat) (f p : Nat), (∀ x ∈ L, badS x = false) → s.data.toList.drop p = bytesL L → L.length ≤ f → p ≤ s.size → sgO s f p = some L
 | [], f, p, _, h, _, hp => by
  have := congrArg List.length h
  rw [List.length_drop, dLen] at this
  exact sgO_end s f p (by simp [bytesL] at this; omega)
 | x :: L, f, p, hb, h, hf, hp => by
  have hx := hb x (by simp)
  have hpos := encN_pos hx
  have e : bytesL (x :: L) = encN x ++ bytesL L := rfl
  have hl := congrArg List.length h
  rw [List.length_drop, dLen, e, List.length_append] at hl
  have hd : Utf8.decode s p = (x, (encN x).length) := by rw [dec_list, h, e]; exact dec_enc hx _
  obtain ⟨f, rfl⟩ : ∃ g, f = g + 1 := ⟨f - 1, by simp at hf; omega⟩
  have hn : ¬ (x = 65533 ∧ (encN x).length = 1) := by
   rintro ⟨rfl, h1⟩
   rw [enc3 hx (by omega) (by omega)] at h1
   simp at h1
  rw [sgO_ok s f p x _ (by omega) hd hn]
  rw [sgO_bytes s L f (p + (encN x).length) (fun y hy => hb y (List.mem_cons_of_mem _ hy)) (by
   rw [← List.drop_drop, h, e, List.drop_left' rfl]) (by simp at hf; omega) (by omega)]
  rfl
/-- Signs that are read are told again. -/
theorem bytes_sgO (s : ByteArray) : ∀ (f p : Nat) (L : List Nat), s.size ≤ p + f → sgO s f p = some L → bytesL L = s.data.toList.drop p ∧ ∀ x ∈ L, badS x = false
 | 0, p, L, hf, h => by
  simp [sgO] at h
  subst h
  rw [List.drop_of_length_le (by rw [dLen]; omega)]
  exact ⟨rfl, by simp⟩
 | f + 1, p, L, hf, h => by
  by_cases hp : p < s.size
  ·have hne : s.data.toList.drop p ≠ [] := fun e => by
    have := congrArg List.length e
    rw [List.length_drop, dLen] at this; simp at this; omega
   rw [sgO, if_pos hp] at h
   split at h
   ·cases h
   ·rename_i hbad
    rw [dec_list] at h hbad
    obtain ⟨h1, h2⟩ := enc_dec _ hne hbad
    obtain ⟨L', hL', rfl⟩ := Option.map_eq_some_iff.1 h
    have hw : 1 ≤ (decN (s.data.toList.drop p)).2 := by rw [← dec_list]; exact width_pos s p
    obtain ⟨h3, h4⟩ := bytes_sgO s f _ L' (by omega) hL'
    refine ⟨?_, fun x hx => ?_⟩
    ·conv => rhs; rw [h2]
     rw [List.drop_drop, ← h3]; rfl
    ·rcases List.mem_cons.1 hx with rfl | hx
     ·exact h1
     ·exact h4 x hx
  ·rw [sgO_end s _ p hp] at h
   injection h with h
   subst h
   rw [List.drop_of_length_le (by rw [dLen]; omega)]
   exact ⟨rfl, by simp⟩

end Go.Proofs.YtcphokaamkalfaaGreatDoor
namespace Go.Proofs.YtcphokaamkalfaaGreatDoor
open Go.RowKit

/- Any signs can be put in order. -/
theorem srt_put (x : Pr) : ∀ R : List Pr, Srt R → (∀ y ∈ R, y.2 ≠ x.2) → ∃ Q, Q.Perm (x :: R) ∧ Srt Q
 | [], _, _ => ⟨[x], List.Perm.refl _, by unfold Srt; simp⟩
 | y :: R, h, hn => by
  unfold Srt at h
  rw [List.pairwise_cons] at h
  by_cases hxy : ltP x y
  ·refine ⟨x :: y :: R, List.Perm.refl _, ?_⟩
   unfold Srt
   rw [List.pairwise_cons, List.pairwise_cons]
   refine ⟨fun z hz => ?_, h⟩
   rcases List.mem_cons.1 hz with rfl | hz
   ·exact hxy
   ·exact ltP_trans hxy (h.1 z hz)
  ·have hyx : ltP y x := by
    have := hn y (by simp)
    unfold ltP at hxy ⊢; omega
   obtain ⟨Q, hQ, hs⟩ := srt_put x R h.2 (fun z hz => hn z (List.mem_cons_of_mem _ hz))
   refine ⟨y :: Q, (List.Perm.cons y hQ).trans (List.Perm.swap x y R), ?_⟩
   unfold Srt
   rw [List.pairwise_cons]
   refine ⟨fun z hz => ?_, hs⟩
   rcases List.mem_cons.1 (hQ.mem_iff.1 hz) with rfl | hz
   ·exact hyx
   ·exact h.1 z hz
theorem srt_exists : ∀ l : List Pr, (l.Pairwise fun x y => x.2 ≠ y.2) → ∃ R, R.Perm l ∧ Srt R
 | [], _ => ⟨[], List.Perm.refl _, by unfold Srt; simp⟩
 | x :: l, h => by
  rw [List.pairwise_cons] at h
  obtain ⟨R, hR, hs⟩ := srt_exists l h.2
  obtain ⟨Q, hQ, hq⟩ := srt_put x R hs (fun y hy => (h.1 y (hR.mem_iff.1 hy)).symm)
  exact ⟨Q, hQ.trans (List.Perm.cons x hR), hq⟩
theorem ris_ne {l : List Pr} (h : Ris l) : l.Pairwise fun x y => x.2 ≠ y.2 := List.Pairwise.imp (fun h => by omega) h
theorem ris_filter {l : List Pr} (h : Ris l) (p : Pr → Bool) : Ris (l.filter p) := List.Pairwise.filter p h

/- The digits are plain, and none is a border. -/
def digC (c : UInt8) : Bool := decide (c.toNat < 128) && c != 45
theorem digsL_good : ∀ (f n k b : Nat), n ≤ f → (digsL f n k b).all digC = true
 | 0, n, k, b, h => by
  obtain rfl : n = 0 := by omega
  rw [digsL]; decide
 | f + 1, n, k, b, h => by
  by_cases ht : n < stepN k b
  ·rw [digsL_end ht]
   have hs := stepN_bd k b
   have := letL_dig ⟨n, by omega⟩
   simp only [List.all_cons, List.all_nil, Bool.and_true, digC, Bool.and_eq_true, decide_eq_true_eq, bne_iff_ne, ne_eq]
   exact ⟨this.2.1, this.2.2.1⟩
  ·have hs := stepN_bd k b
   have hle : (n - stepN k b) / (36 - stepN k b) ≤ f := Nat.le_trans (Nat.div_le_self _ _) (by omega)
   rw [digsL_on ht, List.all_cons, digsL_good f _ _ _ hle]
   have hlt : stepN k b + (n - stepN k b) % (36 - stepN k b) < 36 := by
    have : (n - stepN k b) % (36 - stepN k b) < 36 - stepN k b := Nat.mod_lt _ (by omega)
    omega
   have := letL_dig ⟨_, hlt⟩
   simp only [Bool.and_true, digC, Bool.and_eq_true, decide_eq_true_eq, bne_iff_ne, ne_eq]
   exact ⟨this.2.1, this.2.2.1⟩
theorem fewN_good (begun : Nat) : ∀ (R : List Pr) (told : List Nat) (i place last bias : Nat), (fewN begun R told i place last bias).all digC = true
 | [], _, _, _, _, _ => by simp [fewN]
 | (m, p) :: R, told, i, place, last, bias => by
  rw [fewN, List.all_append, digsL_good _ _ _ _ (Nat.le_refl _), fewN_good begun R]; rfl

end Go.Proofs.YtcphokaamkalfaaGreatDoor
namespace Go.Proofs.YtcphokaamkalfaaGreatDoor
open Go.RowKit

theorem lastR_no : ∀ l : List UInt8, (∀ c ∈ l, c ≠ 45) → lastR l = -1
 | [], _ => rfl
 | c :: l, h => by rw [lastR, if_neg (h c (by simp))]; exact lastR_no l (fun x hx => h x (List.mem_cons_of_mem _ hx))
theorem lastR_app (r : List UInt8) : ∀ l : List UInt8, (∀ c ∈ l, c ≠ 45) → lastR (l ++ 45 :: r) = r.length
 | [], _ => by rw [List.nil_append, lastR, if_pos rfl]
 | c :: l, h => by rw [List.cons_append, lastR, if_neg (h c (by simp))]; exact lastR_app r l (fun x hx => h x (List.mem_cons_of_mem _ hx))
theorem lastI_no {l : List UInt8} (h : ∀ c ∈ l, c ≠ 45) : lastI l = -1 := lastR_no _ (fun c hc => h c (by simpa using hc))
theorem lastI_cut (a b : List UInt8) (h : ∀ c ∈ b, c ≠ 45) : lastI (a ++ 45 :: b) = a.length := by
 rw [lastI, List.reverse_append, List.reverse_cons, List.append_assoc, List.singleton_append, lastR_app _ _ (fun c hc => h c (by simpa using hc))]; simp
theorem digC_of {l : List UInt8} (h : l.all digC = true) : ∀ c ∈ l, c.toNat < 128 ∧ c ≠ 45 := by
 intro c hc
 have := List.all_eq_true.1 h c hc
 simpa [digC] using this
theorem plB_plain (D : List Pr) : ∀ c ∈ plB D, c.toNat < 128 := by
 intro c hc
 obtain ⟨x, hx, rfl⟩ := List.mem_map.1 hc
 have := (List.mem_filter.1 hx).2
 simp only [isPl, decide_eq_true_eq] at this
 rw [nat8 (by omega)]; exact this
theorem few_plain (SG R : List Pr) : plainL (fewL SG R) = true := by
 rw [plainL, List.all_eq_true]
 intro c hc
 rw [fewL, List.mem_append, List.mem_append] at hc
 rw [decide_eq_true_eq]
 rcases hc with (hc | hc) | hc
 ·exact plB_plain SG c hc
 ·split at hc
  ·simp at hc
  ·rw [List.mem_singleton] at hc; rw [hc]; decide
 ·exact (digC_of (fewN_good _ _ _ _ _ _ _) c hc).1
theorem ext_drop (t : ByteArray) (k : Nat) : (t.extract k t.size).data.toList = t.data.toList.drop k := by
 rw [ByteArray.data_extract, Array.toList_extract]
 simp [List.extract_eq_take_drop]
 try rw [List.take_of_length_le (by simp)]
theorem ne_places : ∀ (l : List Pr), (l.Pairwise fun x y => x.2 ≠ y.2) → ∀ x ∈ l, ∀ y ∈ l, x ≠ y → x.2 ≠ y.2
 | z :: l, h, x, hx, y, hy, hn => by
  rw [List.pairwise_cons] at h
  rcases List.mem_cons.1 hx with ex | hx'
  ·rcases List.mem_cons.1 hy with ey | hy'
   ·exact absurd (ex.trans ey.symm) hn
   ·rw [ex]; exact h.1 y hy'
  ·rcases List.mem_cons.1 hy with ey | hy'
   ·rw [ey]; exact fun e => h.1 x hx' e.symm
   ·exact ne_places l h.2 x hx' y hy' hn
/-- The parts of few letters. -/
theorem few_parts (SG R : List Pr) : (pSigns (⟨(fewL SG R).toArray⟩ : ByteArray)).data.toList = plB SG ∧ (pRest (⟨(fewL SG R).toArray⟩ : ByteArray)).data.toList = fewN (plB SG).length R (plA SG) 0 0 128 72 := by
 have hg := digC_of (fewN_good (plB SG).length R (plA SG) 0 0 128 72)
 obtain ⟨N, hN⟩ : ∃ N, fewN (plB SG).length R (plA SG) 0 0 128 72 = N := ⟨_, rfl⟩
 rw [hN] at hg ⊢
 by_cases he : plB SG = []
 ·have e : fewL SG R = N := by rw [fewL, hN, he]; simp
  have hl : lastI (⟨(fewL SG R).toArray⟩ : ByteArray).data.toList = -1 := by
   show lastI (fewL SG R) = -1
   rw [e]; exact lastI_no (fun c hc => (hg c hc).2)
  rw [pSigns, pRest, if_pos (by omega), if_pos (by omega)]
  exact ⟨he.symm, e⟩
 ·have e : fewL SG R = plB SG ++ 45 :: N := by rw [fewL, hN, if_neg he]; simp
  have hl : lastI (⟨(fewL SG R).toArray⟩ : ByteArray).data.toList = ((plB SG).length : Int) := by
   show lastI (fewL SG R) = _
   rw [e]; exact lastI_cut _ _ (fun c hc => (hg c hc).2)
  have hpos : 0 < (plB SG).length := List.length_pos_iff.2 he
  rw [pSigns, pRest, if_neg (by omega), if_neg (by omega), hl]
  have hd : (⟨(fewL SG R).toArray⟩ : ByteArray).data.toList = plB SG ++ 45 :: N := e
  constructor
  ·rw [exTake, hd]
   simp
  ·rw [ext_drop, hd]
   rw [show ((plB SG).length : Int).toNat + 1 = (plB SG ++ [45]).length by simp, show plB SG ++ 45 :: N = (plB SG ++ [45]) ++ N by simp, List.drop_left' rfl]
theorem plB_nat (D : List Pr) : (plB D).map (·.toNat) = (D.filter isPl).map (·.1) := by
 rw [plB, List.map_map]
 apply List.map_congr_left
 intro x hx
 have := (List.mem_filter.1 hx).2
 simp only [isPl, decide_eq_true_eq] at this
 exact nat8 (by omega)
/-- What is told in few letters is read again. -/
theorem enc_back (s : ByteArray) (hs : s.size ≤ 1000) (L : List Nat) (hL : sgO s s.size 0 = some L) : decT ⟨(docE L).toArray⟩ = (s, 0) ∧ plainL (docE L) = true ∧ (docE L).length ≤ 20000 := by
 have hval := sgO_valid s s.size 0 (by omega)
 rw [hL, List.drop_zero] at hval
 have hSG : L = (sgn s s.size 0).map (·.1) := by
  split at hval
  ·injection hval
  ·cases hval
 obtain ⟨hby, hbad⟩ := bytes_sgO s s.size 0 L (by omega) hL
 rw [List.drop_zero] at hby
 obtain ⟨SG, hG⟩ : ∃ SG, sgn s s.size 0 = SG := ⟨_, rfl⟩
 have hris : Ris SG := by rw [← hG]; exact sgn_ris s _ _
 obtain ⟨R, hR, hsr⟩ := srt_exists (otL SG) (ris_ne (ris_filter hris _))
 have hdoc := few_doc s R (by rw [hG]; exact hR) hsr
 rw [hG] at hdoc hSG
 have hlen := few_len s hs R (by rw [hG]; exact hR)
 rw [hG] at hlen
 have hSl : SG.length ≤ s.size := by have := sgn_len s s.size 0; rw [hG] at this; simpa using this
 rw [hSG, ← hdoc]
 have hpl := few_plain SG R
 refine ⟨?_, hpl, hlen⟩
 obtain ⟨hp1, hp2⟩ := few_parts SG R
 have hsz : (⟨(fewL SG R).toArray⟩ : ByteArray).size = (fewL SG R).length := rfl
 have hRd : ∀ x ∈ R, x ∈ SG ∧ isPl x = false := fun x hx => by
  have := List.mem_filter.1 (hR.mem_iff.1 hx)
  exact ⟨this.1, by simpa using this.2⟩
 have hDl : ((SG.filter isPl)).length = (plB SG).length := by rw [plB, List.length_map]
 have hlens : (SG.filter isPl).length + R.length = SG.length := by
  rw [hR.length_eq, otL]
  have := List.length_eq_countP_add_countP isPl (l := SG)
  rw [List.countP_eq_length_filter, List.countP_eq_length_filter] at this
  have e : (fun p => !isPl p) = fun a => decide ¬ isPl a = true := by funext p; cases isPl p <;> rfl
  rw [e]; omega
 have hfl : (fewN (plB SG).length R (plA SG) 0 0 128 72).length ≤ (pRest (⟨(fewL SG R).toArray⟩ : ByteArray)).size := by
  have : (pRest (⟨(fewL SG R).toArray⟩ : ByteArray)).size = (pRest (⟨(fewL SG R).toArray⟩ : ByteArray)).data.toList.length := by simp
  rw [this, hp2]; exact Nat.le_refl _
 obtain ⟨E, hE1, hE2, hE3⟩ := dec_few (plB SG).length R (SG.filter isPl) (plA SG) 0 0 128 72 (pRest (⟨(fewL SG R).toArray⟩ : ByteArray)).size
  (ris_filter hris _) (by rw [plA]; exact List.reverse_perm _) (by omega)
  (fun x hx y hy e => by
   have h1 := hRd x hx
   have h2 := List.mem_filter.1 hy
   have hne : x ≠ y := fun e => by rw [e, h2.2] at h1; cases h1.2
   exact ne_places SG (ris_ne hris) x h1.1 y h2.1 hne e.symm)
  ((hR.pairwise_iff (fun h => Ne.symm h)).2 (ris_ne (ris_filter hris _))) hsr
  (by
   cases R with
   | nil => trivial
   | cons z R =>
    obtain ⟨m, p⟩ := z
    have := (hRd (m, p) (by simp)).2
    simp only [isPl, decide_eq_false_iff_not] at this
    exact ⟨by omega, fun _ => Nat.zero_le _⟩)
  (Nat.zero_le _) (fun x hx => hbad _ (by rw [hSG]; exact List.mem_map_of_mem (hRd x hx).1)) (by omega) (by omega) hfl
 have hES : E = SG := by
  refine ris_unique E SG hE2 hris (hE3.trans ?_)
  refine (List.Perm.append_right _ hR).trans ?_
  exact (List.perm_append_comm.trans (List.filter_append_perm isPl SG))
 have hO : decO (⟨(fewL SG R).toArray⟩ : ByteArray) = some (SG.map (·.1)) := by
  rw [decO, hp1, hp2, plB_nat, ← hES]
  rw [hES]
  have := hE1
  rw [hES] at this
  exact this
 rw [decT, if_neg (by rw [hsz]; omega), if_neg (by rw [show (⟨(fewL SG R).toArray⟩ : ByteArray).data.toList = fewL SG R from rfl, hpl]; simp), hO, decW]
 have : utf (SG.map (·.1)) = s := by
  apply ByteArray.ext
  apply Array.toList_inj.1
  rw [utf_bytes, ← hSG, hby]
 rw [this]

end Go.Proofs.YtcphokaamkalfaaGreatDoor
namespace Go.Proofs.YtcphokaamkalfaaGreatDoor
open Go.RowKit

/-- Where few letters' numbers begin, with their border. -/
def cutN (s : ByteArray) : Nat := (lastI s.data.toList).toNat
/-- Few letters, their numbers in small letters. -/
def smallT (s : ByteArray) : ByteArray := ⟨(s.data.toList.take (cutN s) ++ (s.data.toList.drop (cutN s)).map low).toArray⟩

theorem low_facts256 : ∀ n : Fin 256, digV (low (UInt8.ofNat n.1)) = digV (UInt8.ofNat n.1) ∧ ((low (UInt8.ofNat n.1) = 45) ↔ UInt8.ofNat n.1 = 45) ∧ ((low (UInt8.ofNat n.1)).toNat < 128 ↔ (UInt8.ofNat n.1).toNat < 128) := by decide +kernel
theorem low_facts (c : UInt8) : digV (low c) = digV c ∧ ((low c = 45) ↔ c = 45) ∧ ((low c).toNat < 128 ↔ c.toNat < 128) := by
 have := low_facts256 ⟨c.toNat, c.toNat_lt⟩
 rwa [UInt8.ofNat_toNat] at this
theorem small_data (s : ByteArray) : (smallT s).data.toList = s.data.toList.take (cutN s) ++ (s.data.toList.drop (cutN s)).map low := rfl
theorem low45 : low 45 = 45 := by decide
end Go.Proofs.YtcphokaamkalfaaGreatDoor
namespace Go.Proofs.YtcphokaamkalfaaGreatDoor
open Go.RowKit

theorem lastR_at : ∀ l : List UInt8, 0 ≤ lastR l → ∃ a b, l = a ++ 45 :: b ∧ (b.length : Int) = lastR l
 | [], h => by simp [lastR] at h
 | c :: l, h => by
  rw [lastR] at h ⊢
  by_cases e : c = 45
  ·rw [if_pos e]; exact ⟨[], l, by rw [e]; rfl, rfl⟩
  ·rw [if_neg e] at h ⊢
   obtain ⟨a, b, h1, h2⟩ := lastR_at l h
   exact ⟨c :: a, b, by rw [h1]; rfl, h2⟩
theorem lastI_at (l : List UInt8) (h : 0 ≤ lastI l) : ∃ a b, l = a ++ 45 :: b ∧ (a.length : Int) = lastI l := by
 obtain ⟨a, b, h1, h2⟩ := lastR_at l.reverse h
 refine ⟨b.reverse, a.reverse, ?_, ?_⟩
 ·have := congrArg List.reverse h1
  rw [List.reverse_reverse] at this
  rw [this]; simp
 ·rw [List.length_reverse]; exact h2
theorem decL_ok : ∀ (f : Nat) (l : List Nat) (r : List UInt8) (place sign bias : Nat) (first : Bool) (L : List Nat), (∀ x ∈ l, badS x = false) → decL f l r place sign bias first = some L → ∀ x ∈ L, badS x = false
 | 0, l, r, place, sign, bias, first, L, hl, h => by
  rw [decL] at h; split at h
  ·injection h with h; rw [← h]; exact hl
  ·cases h
 | f + 1, l, r, place, sign, bias, first, L, hl, h => by
  rw [decL] at h
  split at h
  ·injection h with h; rw [← h]; exact hl
  ·split at h
   ·cases h
   ·split at h
    ·cases h
    ·rename_i hb
     refine decL_ok f _ _ _ _ _ _ _ (fun x hx => ?_) h
     rw [insN] at hx
     rcases List.mem_append.1 hx with hx | hx
     ·exact hl x (List.mem_of_mem_take hx)
     ·rcases List.mem_cons.1 hx with rfl | hx
      ·simpa using hb
      ·exact hl x (List.mem_of_mem_drop hx)
theorem bytesL_len : ∀ L : List Nat, (∀ x ∈ L, badS x = false) → L.length ≤ (bytesL L).length
 | [], _ => Nat.le_refl _
 | x :: L, h => by
  have e : bytesL (x :: L) = encN x ++ bytesL L := rfl
  have := bytesL_len L (fun y hy => h y (List.mem_cons_of_mem _ hy))
  have h1 := encN_pos (h x (by simp))
  rw [e, List.length_append, List.length_cons]; omega
theorem dec_again (s t : ByteArray) (hs : s.size ≤ 1000) (h : decT s = (t, 0)) : refEncT t = (smallT s, 0) := by
 have htz : t.size ≤ 4000 := by have := decT_size s; rw [h] at this; simp only at this; omega
 rw [decT, if_neg (by omega)] at h
 by_cases hp : plainL s.data.toList = false
 ·rw [if_pos hp] at h; simp at h
 rw [if_neg hp] at h
 have hp' : plainL s.data.toList = true := by simpa using hp
 cases hO : decO s with
 | none => rw [hO] at h; simp [decW] at h
 | some L =>
  rw [hO, decW] at h
  have ht : utf L = t := by injection h
  have hpl : plainL (pSigns s).data.toList = true := plain_sub hp' (pSigns_sub s)
  obtain ⟨l, hl⟩ : ∃ l, (pSigns s).data.toList.map (·.toNat) = l := ⟨_, rfl⟩
  have hl128 : ∀ x ∈ l, x < 128 := by
   rw [← hl]
   intro x hx
   obtain ⟨c, hc, rfl⟩ := List.mem_map.1 hx
   rw [plainL, List.all_eq_true] at hpl
   simpa using hpl c hc
  have hD : decL (pRest s).size l (pRest s).data.toList 0 128 72 true = some L := by rw [← hl]; exact hO
  have hbad : ∀ x ∈ L, badS x = false := decL_ok _ _ _ _ _ _ _ _ (fun x hx => badS_false.2 (by have := hl128 x hx; omega)) hD
  have htd : t.data.toList = bytesL L := by rw [← ht, utf_bytes]
  have htl : (bytesL L).length = t.size := by rw [← htd]; simp
  have hsg : sgO t t.size 0 = some L := sgO_bytes t L t.size 0 hbad (by rw [List.drop_zero, htd]) (by have := bytesL_len L hbad; omega) (Nat.zero_le _)
  rw [refEncT_some (by omega) hsg]
  have hval := sgO_valid t t.size 0 (by omega)
  rw [hsg, List.drop_zero] at hval
  have hSG : L = (sgn t t.size 0).map (·.1) := by
   split at hval
   ·injection hval
   ·cases hval
  obtain ⟨SG, hG⟩ : ∃ SG, sgn t t.size 0 = SG := ⟨_, rfl⟩
  have hris : Ris SG := by rw [← hG]; exact sgn_ris t _ _
  rw [hG] at hSG
  rw [hSG] at hD
  obtain ⟨R, hR, hsr, hl2, hfew⟩ := few_back l.length SG hris _ l _ rfl hl128 hD
  have hot : (SG.filter fun x => decide (128 ≤ x.1)) = otL SG := by
   rw [otL]; congr 1; funext x; rw [isPl, ← decide_not]; exact decide_eq_decide.2 (by omega)
  rw [hot] at hR
  have hdoc := few_doc t R (by rw [hG]; exact hR) hsr
  rw [hG, ← hSG] at hdoc
  have hfil : (SG.filter fun x => decide (x.1 < 128)) = SG.filter isPl := rfl
  rw [hfil] at hl2 hfew
  have hB : plB SG = (pSigns s).data.toList := by
   have e : plB SG = ((SG.filter isPl).map (·.1)).map UInt8.ofNat := by rw [plB, List.map_map]; rfl
   rw [e, hl2, ← hl, List.map_map]
   conv => rhs; rw [← List.map_id (pSigns s).data.toList]
   apply List.map_congr_left
   intro c _
   exact UInt8.ofNat_toNat
  have hBl : (plB SG).length = l.length := by rw [hB, ← hl, List.length_map]
  have hfew2 : fewN (plB SG).length R (plA SG) 0 0 128 72 = (pRest s).data.toList.map low := by
   rw [hBl, ← hfew]
   exact fewN_perm _ R _ _ _ _ _ _ (by rw [plA]; exact List.reverse_perm _)
  have hE : docE L = (pSigns s).data.toList ++ (if (pSigns s).data.toList = [] then [] else [45]) ++ (pRest s).data.toList.map low := by
   rw [← hdoc, fewL, hfew2, hB]
  have hfin : docE L = (smallT s).data.toList := by
   rw [hE, small_data]
   have hb := lastI_bd s.data.toList
   by_cases h0 : lastI s.data.toList ≤ 0
   ·have hc : cutN s = 0 := by unfold cutN; omega
    rw [pSigns, pRest, if_pos h0, if_pos h0, hc]
    simp
   ·obtain ⟨a, b, hab, hal⟩ := lastI_at s.data.toList (by omega)
    have hc : cutN s = a.length := by unfold cutN; omega
    rw [pSigns, pRest, if_neg h0, if_neg h0, exTake, ext_drop, show (lastI s.data.toList).toNat = cutN s from rfl, hc, hab]
    have hne : a ≠ [] := by rintro rfl; simp at hal; omega
    rw [List.take_left' rfl, List.drop_left' rfl, if_neg hne, show a ++ 45 :: b = (a ++ [45]) ++ b by simp, List.drop_left' (by simp)]
    rw [List.map_cons, low45]; simp
  have : (⟨(docE L).toArray⟩ : ByteArray) = smallT s := by
   apply ByteArray.ext
   apply Array.toList_inj.1
   exact hfin
  rw [this]

end Go.Proofs.YtcphokaamkalfaaGreatDoor
namespace Go.Proofs.YtcphokaamkalfaaGreatDoor
open Go.RowKit

theorem plain_low (m : List UInt8) : plainL (m.map low) = plainL m := by
 rw [plainL, plainL, List.all_map]
 congr 1
 funext c
 show decide ((low c).toNat < 128) = decide (c.toNat < 128)
 exact decide_eq_decide.2 (low_facts c).2.2
theorem lowS_data (s : ByteArray) : (lowS s).data.toList = s.data.toList.map low := rfl
theorem valid_plain (s : ByteArray) (hp : plainL s.data.toList = true) : Lib.validD s.data.toList = true := by
 rw [plainL, List.all_eq_true] at hp
 rw [Lib.validD_ascii s.data.toList.length s.data.toList (fun b hb => by simpa using hp b (List.mem_of_mem_take hb)), List.drop_length]
 rfl
theorem lab_plain (s : ByteArray) (hp : plainL s.data.toList = true) (hx : Lib.hasPrefix (lowS s).data.toList [120, 110, 45, 45] = false) : labT s = if s.size = 0 then (⟨#[]⟩, 5) else if 63 < s.size then (⟨#[]⟩, 5) else (lowS s, 0) := by
 unfold labT
 by_cases h0 : s.size = 0
 ·rw [if_pos h0, if_pos h0]
 ·rw [if_neg h0, if_neg h0, if_neg (by rw [valid_plain s hp]; simp), Lib.runeCount_ascii s (fun j h => plain_at hp j h)]
  by_cases h63 : 63 < s.size
  ·rw [if_pos h63, if_pos h63]
  ·rw [if_neg h63, if_neg h63, if_pos (by rw [lowS_data, plain_low]; exact hp), hx, if_neg (by simp), labE, if_neg (by rw [lowS_size]; exact h63)]
theorem show_plain (s : ByteArray) (hp : plainL s.data.toList = true) (hx : Lib.hasPrefix (lowS s).data.toList [120, 110, 45, 45] = false) : showT s = s := by
 unfold showT
 rw [lab_plain s hp hx]
 by_cases h0 : s.size = 0
 ·rw [if_pos h0]; exact if_neg (by decide)
 ·by_cases h63 : 63 < s.size
  ·rw [if_neg h0, if_pos h63]; exact if_neg (by decide)
  ·rw [if_neg h0, if_neg h63]
   simp only
   rw [if_pos trivial, hx]
   rfl
end Go.Proofs.YtcphokaamkalfaaGreatDoor
namespace Go.Proofs.YtcphokaamkalfaaGreatDoor
open Go.RowKit

theorem low_two256 : ∀ n : Fin 256, low (low (UInt8.ofNat n.1)) = low (UInt8.ofNat n.1) ∧ (128 ≤ (UInt8.ofNat n.1).toNat → low (UInt8.ofNat n.1) = UInt8.ofNat n.1) ∧ ¬ (65 ≤ (low (UInt8.ofNat n.1)).toNat ∧ (low (UInt8.ofNat n.1)).toNat ≤ 90) := by decide +kernel
theorem low_two (c : UInt8) : low (low c) = low c ∧ (128 ≤ c.toNat → low c = c) ∧ ¬ (65 ≤ (low c).toNat ∧ (low c).toNat ≤ 90) := by
 have := low_two256 ⟨c.toNat, c.toNat_lt⟩
 rwa [UInt8.ofNat_toNat] at this
def lowN (x : Nat) : Nat := if 65 ≤ x ∧ x ≤ 90 then x + 32 else x
theorem lowN_byte : ∀ n : Fin 128, low (UInt8.ofNat n.1) = UInt8.ofNat (lowN n.1) ∧ lowN n.1 < 128 ∧ lowN (lowN n.1) = lowN n.1 := by decide +kernel
theorem enc_low {x : Nat} (hb : badS x = false) : (encN x).map low = encN (lowN x) ∧ badS (lowN x) = false := by
 by_cases a1 : x < 128
 ·have h := lowN_byte ⟨x, a1⟩
  rw [enc1 a1, enc1 h.2.1]
  refine ⟨by rw [List.map_cons, List.map_nil, h.1], badS_false.2 (by have := h.2.1; simp only at this; omega)⟩
 ·have e : lowN x = x := by rw [lowN, if_neg (by omega)]
  rw [e]
  refine ⟨?_, hb⟩
  have hx := (badS_false.1 hb).1
  have hn : ∀ n, 128 ≤ n → n < 256 → low (UInt8.ofNat n) = UInt8.ofNat n := fun n h1 h2 => (low_two (UInt8.ofNat n)).2.1 (by rw [nat8 h2]; exact h1)
  have hm : ∀ c ∈ encN x, low c = c := by
   intro c hc
   by_cases a2 : x < 2048
   ·rw [enc2 (by omega) a2] at hc
    simp only [List.mem_cons, List.not_mem_nil, or_false] at hc
    rcases hc with rfl | rfl <;> exact hn _ (by omega) (by omega)
   ·by_cases a3 : x < 65536
    ·rw [enc3 hb (by omega) a3] at hc
     simp only [List.mem_cons, List.not_mem_nil, or_false] at hc
     rcases hc with rfl | rfl | rfl <;> exact hn _ (by omega) (by omega)
    ·rw [enc4 hb (by omega)] at hc
     simp only [List.mem_cons, List.not_mem_nil, or_false] at hc
     rcases hc with rfl | rfl | rfl | rfl <;> exact hn _ (by omega) (by omega)
  conv => rhs; rw [← List.map_id (encN x)]
  exact List.map_congr_left hm
theorem bytes_low : ∀ L : List Nat, (∀ x ∈ L, badS x = false) → (bytesL L).map low = bytesL (L.map lowN) ∧ ∀ x ∈ L.map lowN, badS x = false
 | [], _ => ⟨rfl, by simp⟩
 | x :: L, h => by
  have e : bytesL (x :: L) = encN x ++ bytesL L := rfl
  have e2 : bytesL ((x :: L).map lowN) = encN (lowN x) ++ bytesL (L.map lowN) := rfl
  obtain ⟨h1, h2⟩ := bytes_low L (fun y hy => h y (List.mem_cons_of_mem _ hy))
  obtain ⟨h3, h4⟩ := enc_low (h x (by simp))
  refine ⟨by rw [e, e2, List.map_append, h1, h3], fun y hy => ?_⟩
  rcases List.mem_cons.1 hy with rfl | hy
  ·exact h4
  ·exact h2 y hy
theorem sg_of_bytes {s : ByteArray} {L : List Nat} (hb : ∀ x ∈ L, badS x = false) (h : s.data.toList = bytesL L) : sgO s s.size 0 = some L := by
 have hl : (bytesL L).length = s.size := by rw [← h]; simp
 exact sgO_bytes s L s.size 0 hb (by rw [List.drop_zero, h]) (by have := bytesL_len L hb; omega) (Nat.zero_le _)
theorem low_sg {s : ByteArray} {L : List Nat} (h : sgO s s.size 0 = some L) : sgO (lowS s) (lowS s).size 0 = some (L.map lowN) := by
 obtain ⟨h1, h2⟩ := bytes_sgO s s.size 0 L (by omega) h
 rw [List.drop_zero] at h1
 obtain ⟨h3, h4⟩ := bytes_low L h2
 exact sg_of_bytes h4 (by rw [lowS_data, ← h1, h3])
theorem rc_sg (s : ByteArray) : ∀ (f p : Nat) (L : List Nat), s.size ≤ p + f → sgO s f p = some L → Lib.runeCountFrom s f p = L.length
 | 0, p, L, hf, h => by
  simp [sgO] at h; subst h; rfl
 | f + 1, p, L, hf, h => by
  by_cases hp : p < s.size
  ·rw [sgO, if_pos hp] at h
   split at h
   ·cases h
   ·obtain ⟨L', hL', rfl⟩ := Option.map_eq_some_iff.1 h
    have hw := width_pos s p
    rw [Lib.runeCountFrom, if_pos hp, rc_sg s f _ L' (by omega) hL', List.length_cons]; omega
  ·rw [sgO_end s _ p hp] at h
   injection h with h; subst h
   exact Lib.runeCountFrom_end s _ p hp
theorem valid_sg (s : ByteArray) : (Lib.validD s.data.toList = true ∧ ∃ L, sgO s s.size 0 = some L ∧ L = (sgn s s.size 0).map (·.1) ∧ Lib.runeCount s = L.length) ∨ (Lib.validD s.data.toList = false ∧ sgO s s.size 0 = none) := by
 have h := sgO_valid s s.size 0 (by omega)
 rw [List.drop_zero] at h
 cases hv : Lib.validD s.data.toList with
 | true =>
  rw [hv, if_pos rfl] at h
  exact .inl ⟨rfl, _, h, rfl, rc_sg s s.size 0 _ (by omega) h⟩
 | false =>
  rw [hv] at h
  exact .inr ⟨rfl, h⟩
theorem lowS_lowS (s : ByteArray) : lowS (lowS s) = lowS s := by
 apply ByteArray.ext
 apply Array.toList_inj.1
 rw [lowS_data, lowS_data, List.map_map]
 exact List.map_congr_left (fun c _ => (low_two c).1)
theorem decL_from : ∀ (f : Nat) (l : List Nat) (r : List UInt8) (place sign bias : Nat) (first : Bool) (L : List Nat), 128 ≤ sign → decL f l r place sign bias first = some L → ∀ x ∈ L, x ∈ l ∨ 128 ≤ x
 | 0, l, r, place, sign, bias, first, L, _, h, x, hx => by
  rw [decL] at h; split at h
  ·injection h with h; rw [← h] at hx; exact .inl hx
  ·cases h
 | f + 1, l, r, place, sign, bias, first, L, hs, h, x, hx => by
  rw [decL] at h
  split at h
  ·injection h with h; rw [← h] at hx; exact .inl hx
  ·split at h
   ·cases h
   ·split at h
    ·cases h
    ·rcases decL_from f _ _ _ _ _ _ _ (Nat.le_trans hs (Nat.le_add_right _ _)) h x hx with h1 | h1
     ·rcases insN_mem h1 with rfl | h1
      ·exact .inr (Nat.le_trans hs (Nat.le_add_right _ _))
      ·exact .inl h1
     ·exact .inr h1
/-- What few letters say: its signs. -/
theorem dec_signs (s t : ByteArray) (h : decT s = (t, 0)) : ∃ L, L.length ≤ s.size ∧ sgO t t.size 0 = some L ∧ ∀ x ∈ L, (∃ c ∈ s.data.toList, x = c.toNat) ∨ 128 ≤ x := by
 rw [decT] at h
 by_cases h6 : 65536 < s.size
 ·rw [if_pos h6] at h; simp at h
 rw [if_neg h6] at h
 by_cases hp : plainL s.data.toList = false
 ·rw [if_pos hp] at h; simp at h
 rw [if_neg hp] at h
 have hp' : plainL s.data.toList = true := by simpa using hp
 cases hO : decO s with
 | none => rw [hO] at h; simp [decW] at h
 | some L =>
  rw [hO, decW] at h
  have ht : utf L = t := by injection h
  have hpl : plainL (pSigns s).data.toList = true := plain_sub hp' (pSigns_sub s)
  have hl128 : ∀ x ∈ (pSigns s).data.toList.map (·.toNat), x < 128 := by
   intro x hx
   obtain ⟨c, hc, rfl⟩ := List.mem_map.1 hx
   rw [plainL, List.all_eq_true] at hpl
   simpa using hpl c hc
  have hbad : ∀ x ∈ L, badS x = false := decL_ok _ _ _ _ _ _ _ _ (fun x hx => badS_false.2 (by have := hl128 x hx; omega)) hO
  refine ⟨L, ?_, sg_of_bytes hbad (by rw [← ht, utf_bytes]), fun x hx => ?_⟩
  ·have h1 := decL_size _ _ _ _ _ _ _ _ hO
   have h2 := p_sizes s
   simp at h1; omega
  ·rcases decL_from _ _ _ _ _ _ _ _ (Nat.le_refl _) hO x hx with h | h
   ·obtain ⟨c, hc, rfl⟩ := List.mem_map.1 h
    exact .inl ⟨c, pSigns_sub s c hc, rfl⟩
   ·exact .inr h

end Go.Proofs.YtcphokaamkalfaaGreatDoor
namespace Go.Proofs.YtcphokaamkalfaaGreatDoor
open Go.RowKit

abbrev PX : ByteArray := ⟨#[120, 110, 45, 45]⟩
theorem fewT_eq {s : ByteArray} {L : List Nat} (h : L = (sgn s s.size 0).map (·.1)) : fewT s = ⟨(docE L).toArray⟩ := by rw [fewT, ← h]
theorem enc_few {s : ByteArray} {L : List Nat} (hs : s.size ≤ 65536) (h : sgO s s.size 0 = some L) (hL : L = (sgn s s.size 0).map (·.1)) : refEncT s = (fewT s, 0) := by
 rw [refEncT_some (by omega) h, fewT_eq hL]
/-- A text in small letters whose signs are not all plain is asked for so. -/
theorem lab_other {s : ByteArray} {L : List Nat} (hl : lowS s = s) (hp : plainL s.data.toList = false) (hL : sgO s s.size 0 = some L) (h63 : L.length ≤ 63) : labT s = labE (PX ++ fewT s) := by
 have hne : s.size ≠ 0 := by
  intro h
  have : s.data.toList = [] := List.eq_nil_of_length_eq_zero (by simpa using h)
  rw [this] at hp; cases hp
 rcases valid_sg s with ⟨h1, L', h2, _, h4⟩ | ⟨h1, h2⟩
 ·rw [hL] at h2
  injection h2 with h2
  subst h2
  unfold labT
  rw [if_neg hne, if_neg (by rw [h1]; simp), if_neg (by rw [h4]; omega), hl, hp]
  rfl
 ·rw [hL] at h2; cases h2
theorem px_pre (Q : ByteArray) : Lib.hasPrefix (PX ++ Q).data.toList [120, 110, 45, 45] = true := by
 rw [ByteArray.data_append, Array.toList_append]; rfl
theorem px_cut (Q : ByteArray) : cutX (PX ++ Q) = Q := by
 apply ByteArray.ext
 apply Array.toList_inj.1
 show Lib.trimPrefix (PX ++ Q).data.toList [120, 110, 45, 45] = _
 rw [Lib.trimPrefix, if_pos (px_pre Q), ByteArray.data_append, Array.toList_append]; rfl
theorem px_back (l : ByteArray) (h : Lib.hasPrefix l.data.toList [120, 110, 45, 45] = true) : PX ++ cutX l = l := by
 apply ByteArray.ext
 apply Array.toList_inj.1
 rw [ByteArray.data_append, Array.toList_append]
 show [120, 110, 45, 45] ++ Lib.trimPrefix l.data.toList [120, 110, 45, 45] = _
 rw [Lib.trimPrefix, if_pos h]
 obtain ⟨t, ht⟩ := List.isPrefixOf_iff_prefix.1 h
 rw [← ht]; rfl
theorem px_plain {Q : ByteArray} (h : plainL Q.data.toList = true) : plainL (PX ++ Q).data.toList = true := by
 rw [ByteArray.data_append, Array.toList_append, plainL, List.all_append]
 rw [plainL] at h
 rw [h]; rfl
theorem px_low {Q : ByteArray} (h : lowS Q = Q) : lowS (PX ++ Q) = PX ++ Q := by
 apply ByteArray.ext
 apply Array.toList_inj.1
 rw [lowS_data, ByteArray.data_append, Array.toList_append, List.map_append, ← lowS_data Q, h]; rfl
/-- Few letters that tell others, in small letters, behind their mark, are asked for so, and what is shown is what they say. -/
theorem lab_few {l : ByteArray} (hl : lowS l = l) (hp : plainL l.data.toList = true) (hx : Lib.hasPrefix l.data.toList [120, 110, 45, 45] = true) (ht : tellsB (cutX l) = true) (h63 : l.size ≤ 63) :
  labT l = (l, 0) ∧ showT l = (decT (cutX l)).1 := by
 have hne : l.size ≠ 0 := by
  intro h
  have : l.data.toList = [] := List.eq_nil_of_length_eq_zero (by simpa using h)
  rw [this] at hx; cases hx
 have h1 : labT l = (l, 0) := by
  unfold labT
  rw [if_neg hne, if_neg (by rw [valid_plain l hp]; simp), Lib.runeCount_ascii l (fun j h => plain_at hp j h), if_neg (by omega), hl, if_pos hp, if_pos hx, if_pos ht, labE, if_neg (by omega)]
 refine ⟨h1, ?_⟩
 have hd : (decT (cutX l)).2 = 0 := by
  unfold tellsB at ht
  split at ht
  ·assumption
  ·cases ht
 unfold showT
 rw [h1]
 simp only
 rw [if_pos trivial, if_pos hx, if_pos hp, if_pos hd]
theorem tells_facts {few : ByteArray} (h : tellsB few = true) : ∃ t, decT few = (t, 0) ∧ plainL t.data.toList = false ∧ refEncT t = (few, 0) := by
 unfold tellsB at h
 split at h
 ·rename_i h1
  split at h
  ·cases h
  ·rename_i h2
   split at h
   ·rename_i h3
    refine ⟨(decT few).1, ?_, by simpa using h2, ?_⟩
    ·rw [← h1]
    ·have := of_decide_eq_true h
     rw [← h3]; exact Prod.ext this rfl
   ·cases h
 ·cases h
theorem lowS_self {s : ByteArray} {L : List Nat} (h : sgO s s.size 0 = some L) (hl : ∀ x ∈ L, lowN x = x) : lowS s = s := by
 obtain ⟨h1, h2⟩ := bytes_sgO s s.size 0 L (by omega) h
 rw [List.drop_zero] at h1
 apply ByteArray.ext
 apply Array.toList_inj.1
 rw [lowS_data, ← h1, (bytes_low L h2).1]
 congr 1
 conv => rhs; rw [← List.map_id L]
 exact List.map_congr_left hl
theorem lowN_two (x : Nat) : lowN (lowN x) = lowN x := by
 by_cases h : x < 128
 ·exact (lowN_byte ⟨x, h⟩).2.2
 ·have e : lowN x = x := by rw [lowN, if_neg (by omega)]
  rw [e, e]
/-- What is asked for. -/
theorem asked (s : ByteArray) (hs : s.size ≤ 1000) : labT s = (⟨#[]⟩, 5) ∨ ∃ l, labT s = (l, 0) ∧ 1 ≤ l.size ∧ l.size ≤ 63 ∧ plainL l.data.toList = true ∧ lowS l = l ∧ labT l = (l, 0) ∧ (showT l).size ≤ 1000 ∧ labT (showT l) = (l, 0) := by
 have hE : ∀ l : ByteArray, labE l = (⟨#[]⟩, 5) ∨ (labE l = (l, 0) ∧ l.size ≤ 63) := fun l => by
  unfold labE
  by_cases h : 63 < l.size
  ·exact .inl (if_pos h)
  ·exact .inr ⟨if_neg h, by omega⟩
 by_cases h0 : s.size = 0
 ·left; unfold labT; rw [if_pos h0]
 rcases valid_sg s with ⟨hv, L, hL, hL2, hrc⟩ | ⟨hv, _⟩
 ·by_cases h63 : 63 < Lib.runeCount s
  ·left; unfold labT; rw [if_neg h0, if_neg (by rw [hv]; simp), if_pos h63]
  ·obtain ⟨lw, hlw⟩ : ∃ lw, lowS s = lw := ⟨_, rfl⟩
   have hll : lowS lw = lw := by rw [← hlw]; exact lowS_lowS s
   have hsz : lw.size = s.size := by rw [← hlw]; exact lowS_size s
   have hsg : sgO lw lw.size 0 = some (L.map lowN) := by rw [← hlw]; exact low_sg hL
   have hlab : labT s = if plainL lw.data.toList then (if Lib.hasPrefix lw.data.toList [120, 110, 45, 45] then (if tellsB (cutX lw) then labE lw else (⟨#[]⟩, 5)) else labE lw) else labE (PX ++ fewT lw) := by
    unfold labT; rw [if_neg h0, if_neg (by rw [hv]; simp), if_neg h63, hlw]
   cases hp : plainL lw.data.toList with
   | false =>
    rw [hp, if_neg (by simp)] at hlab
    rcases hE (PX ++ fewT lw) with h | ⟨h, h3⟩
    ·left; rw [hlab, h]
    ·right
     have hlen : (L.map lowN).length ≤ 63 := by rw [List.length_map]; omega
     have hLw : L.map lowN = (sgn lw lw.size 0).map (·.1) := by
      rcases valid_sg lw with ⟨_, L', h2, h3, _⟩ | ⟨_, h2⟩
      ·rw [hsg] at h2; injection h2 with h2; rw [h2]; exact h3
      ·rw [hsg] at h2; cases h2
     obtain ⟨hd, hpl, _⟩ := enc_back lw (by omega) _ hsg
     rw [← fewT_eq hLw] at hd
     have hpl2 : plainL (fewT lw).data.toList = true := by rw [fewT_eq hLw]; exact hpl
     have hen := enc_few (by omega) hsg hLw
     have hcs : (PX ++ fewT lw).size = 4 + (fewT lw).size := catX_size (fewT lw)
     have hfs : (fewT lw).size ≤ 59 := by omega
     have hag := dec_again (fewT lw) lw (by omega) hd
     rw [hen] at hag
     have hsm : smallT (fewT lw) = fewT lw := by injection hag with h1 _; exact h1.symm
     have hfl : lowS (fewT lw) = fewT lw := by
      apply ByteArray.ext
      apply Array.toList_inj.1
      rw [lowS_data]
      have e := small_data (fewT lw)
      rw [hsm] at e
      rw [← List.take_append_drop (cutN (fewT lw)) (fewT lw).data.toList, List.map_append]
      have e2 : ((fewT lw).data.toList.drop (cutN (fewT lw))).map low = (fewT lw).data.toList.drop (cutN (fewT lw)) := by
       have := congrArg (List.drop (cutN (fewT lw))) e
       have hk : cutN (fewT lw) ≤ (fewT lw).data.toList.length := by
        have := lastI_bd (fewT lw).data.toList
        unfold cutN; omega
       rw [List.drop_left' (by rw [List.length_take]; omega)] at this
       exact this.symm
      rw [e2]
      congr 1
      conv => rhs; rw [← List.map_id ((fewT lw).data.toList.take (cutN (fewT lw)))]
      refine List.map_congr_left (fun c hc => ?_)
      obtain ⟨R, hR, hsr⟩ := srt_exists (otL (sgn lw lw.size 0)) (ris_ne (ris_filter (sgn_ris lw _ _) _))
      have hdoc := few_doc lw R hR hsr
      have hfe : fewT lw = (⟨(fewL (sgn lw lw.size 0) R).toArray⟩ : ByteArray) := by rw [fewT, hdoc]
      have hps := (few_parts (sgn lw lw.size 0) R).1
      rw [← hfe] at hps
      have hcm : c ∈ plB (sgn lw lw.size 0) := by
       rw [← hps, pSigns]
       by_cases h0 : lastI (fewT lw).data.toList ≤ 0
       ·have : cutN (fewT lw) = 0 := by unfold cutN; omega
        rw [this] at hc; simp at hc
       ·rw [if_neg h0, exTake]; exact hc
      obtain ⟨x, hx, rfl⟩ := List.mem_map.1 hcm
      have hx1 := (List.mem_filter.1 hx)
      have hx2 : x.1 < 128 := by have := hx1.2; simpa [isPl] using this
      have hx3 : x.1 ∈ L.map lowN := by rw [hLw]; exact List.mem_map_of_mem hx1.1
      obtain ⟨y, _, hy⟩ := List.mem_map.1 hx3
      have hb := (lowN_byte ⟨x.1, hx2⟩).1
      simp only at hb
      rw [hb, ← hy, lowN_two]; rfl
     have htl : tellsB (cutX (PX ++ fewT lw)) = true := by
      rw [px_cut]; unfold tellsB
      rw [hd]; simp only
      rw [if_pos trivial, hp, hen]
      simp
     obtain ⟨h5, h6⟩ := lab_few (px_low hfl) (px_plain hpl2) (px_pre _) htl h3
     have h7 : showT (PX ++ fewT lw) = lw := by rw [h6, px_cut, hd]
     refine ⟨PX ++ fewT lw, by rw [hlab, h], by omega, h3, px_plain hpl2, px_low hfl, h5, by rw [h7]; omega, ?_⟩
     rw [h7, lab_other hll hp hsg hlen, h]
   | true =>
    rw [hp, if_pos rfl] at hlab
    cases hx : Lib.hasPrefix lw.data.toList [120, 110, 45, 45] with
    | false =>
     rw [hx, if_neg (by simp)] at hlab
     rcases hE lw with h | ⟨h, h3⟩
     ·left; rw [hlab, h]
     ·right
      have hx2 : Lib.hasPrefix (lowS lw).data.toList [120, 110, 45, 45] = false := by rw [hll]; exact hx
      have h1 := lab_plain lw hp hx2
      rw [if_neg (by omega), if_neg (by omega), hll] at h1
      have h2 := show_plain lw hp hx2
      exact ⟨lw, by rw [hlab, h], by omega, h3, hp, hll, h1, by rw [h2]; omega, by rw [h2]; exact h1⟩
    | true =>
     rw [hx, if_pos rfl] at hlab
     cases ht : tellsB (cutX lw) with
     | false => left; rw [hlab, ht]; rfl
     | true =>
      rw [ht, if_pos rfl] at hlab
      rcases hE lw with h | ⟨h, h3⟩
      ·left; rw [hlab, h]
      ·right
       obtain ⟨h5, h6⟩ := lab_few hll hp hx ht h3
       obtain ⟨t, hd, hpt, hen⟩ := tells_facts ht
       have h7 : showT lw = t := by rw [h6, hd]
       have hcs := cutX_size lw
       have hts : t.size ≤ 252 := by have := decT_size (cutX lw); rw [hd] at this; simp only at this; omega
       obtain ⟨Lt, hLt1, hLt2, hLt3⟩ := dec_signs (cutX lw) t hd
       have hcl : ∀ c ∈ (cutX lw).data.toList, low c = c := by
        intro c hc
        have hpx := px_back lw hx
        have hm : c ∈ lw.data.toList := by
         rw [← hpx, ByteArray.data_append, Array.toList_append]; exact List.mem_append_right _ hc
        have e : lw.data.toList.map low = lw.data.toList := by rw [← lowS_data, hll]
        obtain ⟨i, hi, rfl⟩ := List.getElem_of_mem hm
        have := congrArg (fun l => l[i]?) e
        simp only [List.getElem?_map, List.getElem?_eq_getElem hi, Option.map_some, Option.some.injEq] at this
        exact this
       have hlt : lowS t = t := lowS_self hLt2 (fun x hx => by
        rcases hLt3 x hx with ⟨c, hc, rfl⟩ | h
        ·have h1 := hcl c hc
         have h2 := (low_two c).2.2
         rw [h1] at h2
         rw [lowN, if_neg h2]
        ·rw [lowN, if_neg (by omega)])
       have hLL : Lt = (sgn t t.size 0).map (·.1) := by
        rcases valid_sg t with ⟨_, L', h2, h3, _⟩ | ⟨_, h2⟩
        ·rw [hLt2] at h2; injection h2 with h2; rw [h2]; exact h3
        ·rw [hLt2] at h2; cases h2
       have hen2 := enc_few (by omega) hLt2 hLL
       rw [hen] at hen2
       have hfw : fewT t = cutX lw := by injection hen2 with h1 _; exact h1.symm
       refine ⟨lw, by rw [hlab, h], by omega, h3, hp, hll, h5, by rw [h7]; omega, ?_⟩
       rw [h7, lab_other hlt hpt hLt2 (by omega), hfw, px_back lw hx, h]
 ·left; unfold labT; rw [if_neg h0, if_pos hv]

end Go.Proofs.YtcphokaamkalfaaGreatDoor
