/-
  Contracts: the signs with those that digits tell put among them; Decode.
  Contracts: the document's bound, next, digit, number.
-/
import Derived.Test.YtcphokaamkalfaaGreatDoorMpA
import Derived.Test.YtcphokaamkalfaaGreatDoorMpB
import Derived.Laws.Cover4
namespace Go.Proofs.YtcphokaamkalfaaGreatDoor
open Go.RowKit

/-- A sign as a cell. -/
def rv (n : Nat) : Value := .int .i32 (n : Int)
def utf (l : List Nat) : ByteArray := runesBytes (l.map Int.ofNat)
def wiT : Option (List Nat) → Value
 | none => .tuple #[.string ⟨#[]⟩, .bool false]
 | some l => .tuple #[.string (utf l), .bool true]
theorem rv_one (l : List Nat) : ∀ v ∈ l.map rv, v.oneCell' = true := by
 intro v hv
 obtain ⟨n, _, rfl⟩ := List.mem_map.1 hv
 rfl
theorem rv_ins (l : List Nat) (i x : Nat) : (l.map rv).take i ++ rv x :: (l.map rv).drop i = (insN l i x).map rv := by simp [insN]

theorem run_utf (w : World) (base : Nat) (v : Value) (l : List Nat) (h : RowR w base v (l.map rv)) : (convert 188 9 v).run Tryz.prog w = .ok (.string (utf l)) w := by
 obtain ⟨g, cap, cur, rfl, hgb, hg, hnc, hcm, hcs, hct⟩ := h
 rw [run_convert_runes_string w 188 9 21 _ _ _ Tryz.underlying188 Tryz.underlying21 Tryz.underlying9]
 apply run_runesToString
 rw [run_loadCells_list (P := Tryz.prog) w ⟨g, 0, none⟩ (l.map rv)]
 ·simp [rv]
 ·intro j u hj
  rw [Addr.add_lit, cellOf w g _ _ hg, Nat.zero_add, ← Array.getElem?_toList]
  rw [← hct] at hj
  rw [List.getElem?_take_of_lt] at hj
  ·exact hj
  ·have := (List.getElem?_eq_some_iff.1 hj).1
   simp at this ⊢; omega

set_option maxHeartbeats 4000000 in
set_option maxRecDepth 10000000 in
theorem withOthers_any (base : Nat) (v : Value) (l : List Nat) (s : ByteArray) (w : World) (hrow : RowR w base v (l.map rv)) (hb : base ≤ w.heap.size) (hl : l.length + s.size ≤ 1000000) :
  Calls Tryz.prog 189 #[v, .string s] w fun e w' => e = .returned (wiT (decL s.size l s.data.toList 0 128 72 true)) ∧ Below base w w' := by
 obtain ⟨T, HT⟩ : ∃ T, Hid (decL s.size l s.data.toList 0 128 72 true = T) := ⟨_, Lib.hid rfl⟩
 rw [HT.out]
 obtain ⟨g0, cap0, rfl⟩ : ∃ g cap, v = .slice (some ⟨g, 0, none⟩) l.length cap := by
  obtain ⟨g, cap, cur, rfl, _⟩ := hrow
  exact ⟨g, cap, by simp⟩
 have HRow := Lib.hid hrow; clear hrow
 go_enter Tryz.func189, Tryz.ntmps189
 go_wp2
 go_loopw [0, 1, 7, 8, 9, 10, 11, 12, 13] (fun a0 a1 a7 a8 a9 _ _ _ _ wr => ∃ (L : List Nat) (r : ByteArray) (g cap place sign bias f : Nat), a0 = .slice (some ⟨g, 0, none⟩) L.length cap ∧ Hid (RowR wr base (.slice (some ⟨g, 0, none⟩) L.length cap) (L.map rv)) ∧ a1 = .string r ∧ a7 = .int .i64 place ∧ a8 = .int .i64 sign ∧ a9 = .int .i64 bias ∧
   r.size ≤ f ∧ Hid (decL f L r.data.toList place sign bias (decide (L.length = l.length)) = T) ∧ place ≤ L.length ∧ sign ≤ 1114111 ∧ bias ≤ 756 ∧ L.length + r.size ≤ 1000000 ∧ l.length ≤ L.length ∧ Hid (Below base w wr)) (fun _ a1 _ _ _ _ _ _ _ _ => strZ a1)
 case atStart => exact ⟨l, s, g0, cap0, 0, 128, 72, s.size, rfl, HRow, rfl, rfl, rfl, rfl, Nat.le_refl _, Lib.hid (by rw [← HT.out]; simp), Nat.zero_le _, by omega, by omega, hl, Nat.le_refl _, Lib.hid (Below.refl _ _)⟩
 case round =>
  obtain ⟨L, r, g, cap, place, sign, bias, f, rfl, HR, rfl, rfl, rfl, rfl, hf, HT2, hpl, hsg, hbi, hL, hlL, HB⟩ := hrel
  by_cases h0 : 0 < r.size
  ·have hne : r.data.toList ≠ [] := fun h => by have := dLen r; rw [h] at this; simp at this; omega
   have HNe := Lib.hid hne; clear hne
   obtain ⟨f, rfl⟩ : ∃ k, f = k + 1 := ⟨f - 1, by omega⟩
   cases hrd : rdN bias r.data.toList 0 1 0 with
   | none =>
    have HF : Hid (T = none) := Lib.hid (by rw [← HT2.out, decL_none HNe.out hrd])
    have HRd := Lib.hid hrd; clear hrd
    go_wp2_with fail
    refine (readNumber_any r bias _ (by omega) hbi).mono ?_
    rw [HRd.out]
    rintro e w1 ⟨rfl, rfl⟩
    dsimp only [rdT]
    go_wp2
    go_ret2
    exact ⟨by rw [HF.out]; rfl, HB.out⟩
   | some q =>
    obtain ⟨n, m⟩ := q
    have hbd := rdN_bd bias _ _ _ _ _ _ hrd
    rw [dLen] at hbd
    obtain ⟨hn, _, hm0, hm⟩ := hbd
    have HRd := Lib.hid hrd; clear hrd
    obtain ⟨Q, HQ⟩ : ∃ Q, Hid (Q = (place + n) / (L.length + 1)) := ⟨_, Lib.hid rfl⟩
    obtain ⟨R, HRm⟩ : ∃ R, Hid (R = (place + n) % (L.length + 1)) := ⟨_, Lib.hid rfl⟩
    have hQ : ((place : Int) + (n : Int)) / ((L.length : Int) + 1) = (Q : Int) := by rw [HQ.out]; simp
    have hR : ((place : Int) + (n : Int)) % ((L.length : Int) + 1) = (R : Int) := by rw [HRm.out]; simp
    have hQl : Q ≤ place + n := by rw [HQ.out]; exact Nat.div_le_self _ _
    have hRl : R ≤ L.length := by rw [HRm.out]; have := Nat.mod_lt (place + n) (show 0 < L.length + 1 by omega); omega
    have HEq : Hid (((L.length : Int) == (l.length : Int)) = decide (L.length = l.length)) := Lib.hid (by
     by_cases e : L.length = l.length
     ·rw [e]; simp
     ·rw [decide_eq_false e]; exact beq_eq_false_iff_ne.2 (by omega))
    have hnb := nb_bd n (L.length + 1) (decide (L.length = l.length))
    have hc1 : ((L.length + 1 : Nat) : Int) = (L.length : Int) + 1 := by simp
    have HNb : Hid (∀ w, Calls Tryz.prog 170 #[.int .i64 n, .int .i64 ((L.length : Int) + 1), .bool ((L.length : Int) == (l.length : Int))] w fun e w' => e = .returned (.int .i64 (nb n (L.length + 1) (decide (L.length = l.length)))) ∧ w = w') := Lib.hid (fun w => by
     rw [HEq.out, ← hc1]; exact nextBias_any _ _ _ _ (by omega) (by omega) (by omega))
    clear hc1
    cases hbad : badS (sign + (place + n) / (L.length + 1)) with
    | true =>
     have HF : Hid (T = none) := Lib.hid (by rw [← HT2.out, decL_bad HNe.out HRd.out hbad])
     rw [← HQ.out, badS_true] at hbad
     obtain ⟨S, HS⟩ : ∃ S : Nat, Hid (S = sign + Q) := ⟨_, Lib.hid rfl⟩
     have hS : (sign : Int) + (Q : Int) = (S : Int) := by rw [HS.out]; simp
     rw [← HS.out] at hbad
     have hS2 : S ≤ 2149600000 := by rw [HS.out]; omega
     rcases (show 1114111 < S ∨ (S ≤ 1114111 ∧ 55296 ≤ S ∧ S ≤ 57343) by omega) with hx | ⟨hx1, hx2, hx3⟩
     ·clear hbad
      go_wp2_with (first | (go_at_call 194; refine (readNumber_any r bias _ (by omega) hbi).mono ?_; rw [HRd.out]; rintro e w1 ⟨rfl, rfl⟩; dsimp only [rdT]) | (go_at_call 170; refine (HNb.out _).mono ?_; rintro e w1 ⟨rfl, rfl⟩))
      go_ret2
      exact ⟨by rw [HF.out]; rfl, HB.out⟩
     ·clear hbad
      go_wp2_with (first | (go_at_call 194; refine (readNumber_any r bias _ (by omega) hbi).mono ?_; rw [HRd.out]; rintro e w1 ⟨rfl, rfl⟩; dsimp only [rdT]) | (go_at_call 170; refine (HNb.out _).mono ?_; rintro e w1 ⟨rfl, rfl⟩))
      go_ret2
      exact ⟨by rw [HF.out]; rfl, HB.out⟩
    | false =>
     have HO := Lib.hid (decL_on (f := f) (first := decide (L.length = l.length)) HNe.out HRd.out hbad)
     rw [← HQ.out, badS_false] at hbad
     rw [← HQ.out, ← HRm.out] at HO
     obtain ⟨S, HS⟩ : ∃ S : Nat, Hid (S = sign + Q) := ⟨_, Lib.hid rfl⟩
     have hS : (sign : Int) + (Q : Int) = (S : Int) := by rw [HS.out]; simp
     rw [← HS.out] at hbad HO
     have hrs : (r.extract m r.size).size = r.size - m := exS _ _ _ (Nat.le_refl _)
     have HDd := Lib.hid (exDrop r m)
     have HIn : Hid (Calls Tryz.prog 195 #[.slice (some ⟨g, 0, none⟩) L.length cap, .int .i64 R, .slice (some ⟨wr.heap.size, 0, none⟩) 1 1] (wr.alloc (.cells #[.int .i32 (S : Int)] 21)) fun e w' =>
       ∃ g' cap', e = .returned (.slice (some ⟨g', 0, none⟩) (insN L R S).length cap') ∧ RowR w' base (.slice (some ⟨g', 0, none⟩) (insN L R S).length cap') ((insN L R S).map rv) ∧ Below base wr w') := Lib.hid (by
      have h := Insert_any base (.slice (some ⟨g, 0, none⟩) L.length cap) (rv S) (L.map rv) R wr HR.out (by simpa using hRl) rfl (rv_one L) (by simp; omega) (Nat.le_trans hb HB.out.size)
      refine h.mono ?_
      rintro e w' ⟨v', rfl, h1, h2⟩
      rw [rv_ins] at h1
      obtain ⟨g', cap', cur, rfl, hrest⟩ := h1
      exact ⟨g', cap', by simp, ⟨g', cap', cur, by simp, hrest⟩, h2⟩)
     have hil := insN_length L R S
     rcases hbad with ⟨hx1, hx | hx⟩
     ·go_wp2_with (first | (go_at_call 194; refine (readNumber_any r bias _ (by omega) hbi).mono ?_; rw [HRd.out]; rintro e w1 ⟨rfl, rfl⟩; dsimp only [rdT]) | (go_at_call 170; refine (HNb.out _).mono ?_; rintro e w1 ⟨rfl, rfl⟩) | (go_at_call 195; refine HIn.out.mono ?_; rintro e w1 ⟨g', cap', rfl, hr1, hb1⟩; have HR1 := Lib.hid hr1; have HB1 := Lib.hid hb1; clear hr1 hb1))
      go_roundw
      case rel => 
       refine ⟨insN L R S, r.extract m r.size, g', cap', R + 1, S, nb n (L.length + 1) (decide (L.length = l.length)), f, by rw [hil], HR1, rfl, by go_num, by go_num, rfl, by omega, Lib.hid ?_, by omega, by omega, hnb, by omega, by omega, Lib.hid (HB.out.trans HB1.out)⟩
       rw [HDd.out, show decide ((insN L R S).length = l.length) = false from decide_eq_false (by omega), ← HO.out]
       exact HT2.out
      case measure => simp [strZ]; omega
     ·have hx2 : 55296 ≤ S := by omega
      go_wp2_with (first | (go_at_call 194; refine (readNumber_any r bias _ (by omega) hbi).mono ?_; rw [HRd.out]; rintro e w1 ⟨rfl, rfl⟩; dsimp only [rdT]) | (go_at_call 170; refine (HNb.out _).mono ?_; rintro e w1 ⟨rfl, rfl⟩) | (go_at_call 195; refine HIn.out.mono ?_; rintro e w1 ⟨g', cap', rfl, hr1, hb1⟩; have HR1 := Lib.hid hr1; have HB1 := Lib.hid hb1; clear hr1 hb1))
      go_roundw
      case rel => 
       refine ⟨insN L R S, r.extract m r.size, g', cap', R + 1, S, nb n (L.length + 1) (decide (L.length = l.length)), f, by rw [hil], HR1, rfl, by go_num, by go_num, rfl, by omega, Lib.hid ?_, by omega, by omega, hnb, by omega, by omega, Lib.hid (HB.out.trans HB1.out)⟩
       rw [HDd.out, show decide ((insN L R S).length = l.length) = false from decide_eq_false (by omega), ← HO.out]
       exact HT2.out
      case measure => simp [strZ]; omega
  ·have HF : Hid (T = some L) := Lib.hid (by
    rw [← HT2.out]
    have h2 : r.data.toList = [] := List.eq_nil_of_length_eq_zero (by rw [dLen]; omega)
    rw [h2, decL_nil])
   have hcv := run_utf _ base _ L HR.out
   go_wp2
   go_ret2
   exact ⟨by rw [HF.out]; rfl, HB.out⟩

end Go.Proofs.YtcphokaamkalfaaGreatDoor
namespace Go.Proofs.YtcphokaamkalfaaGreatDoor
open Go.RowKit

end Go.Proofs.YtcphokaamkalfaaGreatDoor
