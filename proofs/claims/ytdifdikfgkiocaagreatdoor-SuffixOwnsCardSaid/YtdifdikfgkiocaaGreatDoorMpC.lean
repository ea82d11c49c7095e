/-
  Contracts: the signs with those that digits tell put among them; Decode.
  Contracts: the document's bound, next, digit, number.
-/
import Derived.Test.YtdifdikfgkiocaaGreatDoorMpA
import Derived.Test.YtdifdikfgkiocaaGreatDoorMpB
import Derived.Laws.Cover4
namespace Go.Proofs.YtdifdikfgkiocaaGreatDoor
open Go.RowKit

/-- A sign as a cell. -/
def rv (n : Nat) : Value := .int .i32 (n : Int)
def utf (l : List Nat) : ByteArray := runesBytes (l.map Int.ofNat)
def wiT : Option (List Nat) → Value
  | none => .tuple #[.string ⟨#[]⟩, .bool false]
  | some l => .tuple #[.string (utf l), .bool true]
theorem rv_one (l : List Nat) : ∀ v ∈ l.map rv, v.oneCell' = true := by
  intro v hv
  obtain ⟨n, _, rfl⟩ := List.mem_map.1 hv
  rfl
theorem rv_ins (l : List Nat) (i x : Nat) : (l.map rv).take i ++ rv x :: (l.map rv).drop i = (insN l i x).map rv := by simp [insN]

theorem run_utf (w : World) (base : Nat) (v : Value) (l : List Nat) (h : RowR w base v (l.map rv)) : (convert 176 9 v).run Tryz.prog w = .ok (.string (utf l)) w := by
  obtain ⟨g, cap, cur, rfl, hgb, hg, hnc, hcm, hcs, hct⟩ := h
  rw [run_convert_runes_string w 176 9 21 _ _ _ Tryz.underlying176 Tryz.underlying21 Tryz.underlying9]
  apply run_runesToString
  rw [run_loadCells_list (P := Tryz.prog) w ⟨g, 0, none⟩ (l.map rv)]
  · simp [rv]
  · intro j u hj
    rw [Addr.add_lit, cellOf w g _ _ hg, Nat.zero_add, ← Array.getElem?_toList]
    rw [← hct] at hj
    rw [List.getElem?_take_of_lt] at hj
    · exact hj
    · have := (List.getElem?_eq_some_iff.1 hj).1
      simp at this ⊢; omega

set_option maxHeartbeats 4000000 in
set_option maxRecDepth 10000000 in
theorem withOthers_any (base : Nat) (v : Value) (l : List Nat) (s : ByteArray) (w : World) (hrow : RowR w base v (l.map rv)) (hb : base ≤ w.heap.size) (hl : l.length + s.size ≤ 1000000) :
    Calls Tryz.prog 191 #[v, .string s] w fun e w' => e = .returned (wiT (decL s.size l s.data.toList 0 128 72 true)) ∧ Below base w w' := by
  obtain ⟨T, HT⟩ : ∃ T, Hid (decL s.size l s.data.toList 0 128 72 true = T) := ⟨_, Lib.hid rfl⟩
  rw [HT.out]
  obtain ⟨g0, cap0, rfl⟩ : ∃ g cap, v = .slice (some ⟨g, 0, none⟩) l.length cap := by
    obtain ⟨g, cap, cur, rfl, _⟩ := hrow
    exact ⟨g, cap, by simp⟩
  have HRow := Lib.hid hrow; clear hrow
  go_enter Tryz.func191, Tryz.ntmps191
  go_wp2
  go_loopw [0, 1, 7, 8, 9, 10, 11, 12, 13] (fun a0 a1 a7 a8 a9 _ _ _ _ wr => ∃ (L : List Nat) (r : ByteArray) (g cap place sign bias f : Nat), a0 = .slice (some ⟨g, 0, none⟩) L.length cap ∧ Hid (RowR wr base (.slice (some ⟨g, 0, none⟩) L.length cap) (L.map rv)) ∧ a1 = .string r ∧ a7 = .int .i64 place ∧ a8 = .int .i64 sign ∧ a9 = .int .i64 bias ∧
      r.size ≤ f ∧ Hid (decL f L r.data.toList place sign bias (decide (L.length = l.length)) = T) ∧ place ≤ L.length ∧ sign ≤ 1114111 ∧ bias ≤ 756 ∧ L.length + r.size ≤ 1000000 ∧ l.length ≤ L.length ∧ Hid (Below base w wr)) (fun _ a1 _ _ _ _ _ _ _ _ => strZ a1)
  case atStart => exact ⟨l, s, g0, cap0, 0, 128, 72, s.size, rfl, HRow, rfl, rfl, rfl, rfl, Nat.le_refl _, Lib.hid (by rw [← HT.out]; simp), Nat.zero_le _, by omega, by omega, hl, Nat.le_refl _, Lib.hid (Below.refl _ _)⟩
  case round =>
    obtain ⟨L, r, g, cap, place, sign, bias, f, rfl, HR, rfl, rfl, rfl, rfl, hf, HT2, hpl, hsg, hbi, hL, hlL, HB⟩ := hrel
    by_cases h0 : 0 < r.size
    · have hne : r.data.toList ≠ [] := fun h => by have := dLen r; rw [h] at this; simp at this; omega
      have HNe := Lib.hid hne; clear hne
      obtain ⟨f, rfl⟩ : ∃ k, f = k + 1 := ⟨f - 1, by omega⟩
      cases hrd : rdN bias r.data.toList 0 1 0 with
      | none =>
        have HF : Hid (T = none) := Lib.hid (by rw [← HT2.out, decL_none HNe.out hrd])
        have HRd := Lib.hid hrd; clear hrd
        go_wp2_with fail
        refine (readNumber_any r bias _ (by omega) hbi).mono ?_
        rw [HRd.out]
        rintro e w1 ⟨rfl, rfl⟩
        dsimp only [rdT]
        go_wp2
        go_ret2
        exact ⟨by rw [HF.out]; rfl, HB.out⟩
      | some q =>
        obtain ⟨n, m⟩ := q
        have hbd := rdN_bd bias _ _ _ _ _ _ hrd
        rw [dLen] at hbd
        obtain ⟨hn, _, hm0, hm⟩ := hbd
        have HRd := Lib.hid hrd; clear hrd
        obtain ⟨Q, HQ⟩ : ∃ Q, Hid (Q = (place + n) / (L.length + 1)) := ⟨_, Lib.hid rfl⟩
        obtain ⟨R, HRm⟩ : ∃ R, Hid (R = (place + n) % (L.length + 1)) := ⟨_, Lib.hid rfl⟩
        have hQ : ((place : Int) + (n : Int)) / ((L.length : Int) + 1) = (Q : Int) := by rw [HQ.out]; simp
        have hR : ((place : Int) + (n : Int)) % ((L.length : Int) + 1) = (R : Int) := by rw [HRm.out]; simp
        have hQl : Q ≤ place + n := by rw [HQ.out]; exact Nat.div_le_self _ _
        have hRl : R ≤ L.length := by rw [HRm.out]; have := Nat.mod_lt (place + n) (show 0 < L.length + 1 by omega); omega
        have HEq : Hid (((L.length : Int) == (l.length : Int)) = decide (L.length = l.length)) := Lib.hid (by
          by_cases e : L.length = l.length
          · rw [e]; simp
          · rw [decide_eq_false e]; exact beq_eq_false_iff_ne.2 (by omega))
        have hnb := nb_bd n (L.length + 1) (decide (L.length = l.length))
        have hc1 : ((L.length + 1 : Nat) : Int) = (L.length : Int) + 1 := by simp
        have HNb : Hid (∀ w, Calls Tryz.prog 174 #[.int .i64 n, .int .i64 ((L.length : Int) + 1), .bool ((L.length : Int) == (l.length : Int))] w fun e w' => e = .returned (.int .i64 (nb n (L.length + 1) (decide (L.length = l.length)))) ∧ w = w') := Lib.hid (fun w => by
          rw [HEq.out, ← hc1]; exact nextBias_any _ _ _ _ (by omega) (by omega) (by omega))
        clear hc1
        cases hbad : badS (sign + (place + n) / (L.length + 1)) with
        | true =>
          have HF : Hid (T = none) := Lib.hid (by rw [← HT2.out, decL_bad HNe.out HRd.out hbad])
          rw [← HQ.out, badS_true] at hbad
          obtain ⟨S, HS⟩ : ∃ S : Nat, Hid (S = sign + Q) := ⟨_, Lib.hid rfl⟩
          have hS : (sign : Int) + (Q : Int) = (S : Int) := by rw [HS.out]; simp
          rw [← HS.out] at hbad
          have hS2 : S ≤ 2149600000 := by rw [HS.out]; omega
          rcases (show 1114111 < S ∨ (S ≤ 1114111 ∧ 55296 ≤ S ∧ S ≤ 57343) by omega) with hx | ⟨hx1, hx2, hx3⟩
          · clear hbad
            go_wp2_with (first | (go_at_call 197; refine (readNumber_any r bias _ (by omega) hbi).mono ?_; rw [HRd.out]; rintro e w1 ⟨rfl, rfl⟩; dsimp only [rdT]) | (go_at_call 174; refine (HNb.out _).mono ?_; rintro e w1 ⟨rfl, rfl⟩))
            go_ret2
            exact ⟨by rw [HF.out]; rfl, HB.out⟩
          · clear hbad
            go_wp2_with (first | (go_at_call 197; refine (readNumber_any r bias _ (by omega) hbi).mono ?_; rw [HRd.out]; rintro e w1 ⟨rfl, rfl⟩; dsimp only [rdT]) | (go_at_call 174; refine (HNb.out _).mono ?_; rintro e w1 ⟨rfl, rfl⟩))
            go_ret2
            exact ⟨by rw [HF.out]; rfl, HB.out⟩
        | false =>
          have HO := Lib.hid (decL_on (f := f) (first := decide (L.length = l.length)) HNe.out HRd.out hbad)
          rw [← HQ.out, badS_false] at hbad
          rw [← HQ.out, ← HRm.out] at HO
          obtain ⟨S, HS⟩ : ∃ S : Nat, Hid (S = sign + Q) := ⟨_, Lib.hid rfl⟩
          have hS : (sign : Int) + (Q : Int) = (S : Int) := by rw [HS.out]; simp
          rw [← HS.out] at hbad HO
          have hrs : (r.extract m r.size).size = r.size - m := exS _ _ _ (Nat.le_refl _)
          have HDd := Lib.hid (exDrop r m)
          have HIn : Hid (Calls Tryz.prog 198 #[.slice (some ⟨g, 0, none⟩) L.length cap, .int .i64 R, .slice (some ⟨wr.heap.size, 0, none⟩) 1 1] (wr.alloc (.cells #[.int .i32 (S : Int)] 21)) fun e w' =>
              ∃ g' cap', e = .returned (.slice (some ⟨g', 0, none⟩) (insN L R S).length cap') ∧ RowR w' base (.slice (some ⟨g', 0, none⟩) (insN L R S).length cap') ((insN L R S).map rv) ∧ Below base wr w') := Lib.hid (by
            have h := Insert_any base (.slice (some ⟨g, 0, none⟩) L.length cap) (rv S) (L.map rv) R wr HR.out (by simpa using hRl) rfl (rv_one L) (by simp; omega) (Nat.le_trans hb HB.out.size)
            refine h.mono ?_
            rintro e w' ⟨v', rfl, h1, h2⟩
            rw [rv_ins] at h1
            obtain ⟨g', cap', cur, rfl, hrest⟩ := h1
            exact ⟨g', cap', by simp, ⟨g', cap', cur, by simp, hrest⟩, h2⟩)
          have hil := insN_length L R S
          rcases hbad with ⟨hx1, hx | hx⟩
          · go_wp2_with (first | (go_at_call 197; refine (readNumber_any r bias _ (by omega) hbi).mono ?_; rw [HRd.out]; rintro e w1 ⟨rfl, rfl⟩; dsimp only [rdT]) | (go_at_call 174; refine (HNb.out _).mono ?_; rintro e w1 ⟨rfl, rfl⟩) | (go_at_call 198; refine HIn.out.mono ?_; rintro e w1 ⟨g', cap', rfl, hr1, hb1⟩; have HR1 := Lib.hid hr1; have HB1 := Lib.hid hb1; clear hr1 hb1))
            go_roundw
            case rel => 
              refine ⟨insN L R S, r.extract m r.size, g', cap', R + 1, S, nb n (L.length + 1) (decide (L.length = l.length)), f, by rw [hil], HR1, rfl, by go_num, by go_num, rfl, by omega, Lib.hid ?_, by omega, by omega, hnb, by omega, by omega, Lib.hid (HB.out.trans HB1.out)⟩
              rw [HDd.out, show decide ((insN L R S).length = l.length) = false from decide_eq_false (by omega), ← HO.out]
              exact HT2.out
            case measure => simp [strZ]; omega
          · have hx2 : 55296 ≤ S := by omega
            go_wp2_with (first | (go_at_call 197; refine (readNumber_any r bias _ (by omega) hbi).mono ?_; rw [HRd.out]; rintro e w1 ⟨rfl, rfl⟩; dsimp only [rdT]) | (go_at_call 174; refine (HNb.out _).mono ?_; rintro e w1 ⟨rfl, rfl⟩) | (go_at_call 198; refine HIn.out.mono ?_; rintro e w1 ⟨g', cap', rfl, hr1, hb1⟩; have HR1 := Lib.hid hr1; have HB1 := Lib.hid hb1; clear hr1 hb1))
            go_roundw
            case rel => 
              refine ⟨insN L R S, r.extract m r.size, g', cap', R + 1, S, nb n (L.length + 1) (decide (L.length = l.length)), f, by rw [hil], HR1, rfl, by go_num, by go_num, rfl, by omega, Lib.hid ?_, by omega, by omega, hnb, by omega, by omega, Lib.hid (HB.out.trans HB1.out)⟩
              rw [HDd.out, show decide ((insN L R S).length = l.length) = false from decide_eq_false (by omega), ← HO.out]
              exact HT2.out
            case measure => simp [strZ]; omega
    · have HF : Hid (T = some L) := Lib.hid (by
        rw [← HT2.out]
        have h2 : r.data.toList = [] := List.eq_nil_of_length_eq_zero (by rw [dLen]; omega)
        rw [h2, decL_nil])
      have hcv := run_utf _ base _ L HR.out
      go_wp2
      go_ret2
      exact ⟨by rw [HF.out]; rfl, HB.out⟩

end Go.Proofs.YtdifdikfgkiocaaGreatDoor
namespace Go.Proofs.YtdifdikfgkiocaaGreatDoor
open Go.RowKit

set_option maxHeartbeats 400000 in
theorem bound_any (k b : Nat) (w : World) (hk : k ≤ 4611686018427387904) (hb : b ≤ 4611686018427387904) :
    Calls Tryz.prog 161 #[.int .i64 k, .int .i64 b] w fun e w' => e = .returned (.int .i64 (stepN k b)) ∧ w = w' := by
  by_cases h1 : (k : Int) - b < 1
  all_goals
    by_cases h2 : (k : Int) - b ≤ 26
    all_goals
      go_enter Tryz.func161, Tryz.ntmps161
      go_wp2
      all_goals
        go_ret
        exact ⟨ret_int (by unfold stepN; omega), rfl⟩

def digI : Option Nat → Int
  | none => -1
  | some d => d

set_option maxHeartbeats 400000 in
theorem digit_any (c : UInt8) (w : World) :
    Calls Tryz.prog 162 #[.int .u8 c.toNat] w fun e w' => e = .returned (.int .i64 (digI (digV c))) ∧ w = w' := by
  obtain ⟨n, hn⟩ : ∃ n, n = c.toNat := ⟨_, rfl⟩
  have hlt : n < 256 := by rw [hn]; exact c.toNat_lt
  have H : Hid (∀ o, (if 97 ≤ n ∧ n ≤ 122 then some (n - 97) else if 65 ≤ n ∧ n ≤ 90 then some (n - 65) else if 48 ≤ n ∧ n ≤ 57 then some (n - 48 + 26) else none) = o → digI (digV c) = digI o) := Lib.hid (fun o h => by rw [← h, hn]; rfl)
  rw [← hn]
  clear hn
  by_cases h1 : n < 48
  · go_enter Tryz.func162, Tryz.ntmps162
    go_wp2
    go_ret
    exact ⟨by rw [H.out none (by rw [if_neg (by omega), if_neg (by omega), if_neg (by omega)])]; rfl, rfl⟩
  · by_cases h2 : n ≤ 57
    · go_enter Tryz.func162, Tryz.ntmps162
      go_wp2
      go_ret
      exact ⟨by rw [H.out (some (n - 48 + 26)) (by rw [if_neg (by omega), if_neg (by omega), if_pos (by omega)])]; exact ret_int (by show _ = ((_ : Nat) : Int); omega), rfl⟩
    · by_cases h3 : n < 65
      · go_enter Tryz.func162, Tryz.ntmps162
        go_wp2
        go_ret
        exact ⟨by rw [H.out none (by rw [if_neg (by omega), if_neg (by omega), if_neg (by omega)])]; rfl, rfl⟩
      · by_cases h4 : n ≤ 90
        · go_enter Tryz.func162, Tryz.ntmps162
          go_wp2
          go_ret
          exact ⟨by rw [H.out (some (n - 65)) (by rw [if_neg (by omega), if_pos (by omega)])]; exact ret_int (by show _ = ((_ : Nat) : Int); omega), rfl⟩
        · by_cases h5 : n < 97
          · go_enter Tryz.func162, Tryz.ntmps162
            go_wp2
            go_ret
            exact ⟨by rw [H.out none (by rw [if_neg (by omega), if_neg (by omega), if_neg (by omega)])]; rfl, rfl⟩
          · by_cases h6 : n ≤ 122
            · go_enter Tryz.func162, Tryz.ntmps162
              go_wp2
              go_ret
              exact ⟨by rw [H.out (some (n - 97)) (by rw [if_pos (by omega)])]; exact ret_int (by show _ = ((_ : Nat) : Int); omega), rfl⟩
            · go_enter Tryz.func162, Tryz.ntmps162
              go_wp2
              go_ret
              exact ⟨by rw [H.out none (by rw [if_neg (by omega), if_neg (by omega), if_neg (by omega)])]; rfl, rfl⟩

set_option maxHeartbeats 400000 in
theorem next_any (n signs : Nat) (first : Bool) (w : World) (hn : n ≤ 1152921504606846976) (h0 : 0 < signs) (hs : signs ≤ 4611686018427387904) :
    Calls Tryz.prog 143 #[.int .i64 n, .int .i64 signs, .bool first] w fun e w' => e = .returned (.int .i64 (nb n signs first)) ∧ w = w' := by
  have hsne : (signs : Int) ≠ 0 := by omega
  cases first
  · obtain ⟨T, HT⟩ : ∃ T, Hid (biasL 20 (halve n signs false) 0 = T) := ⟨_, Lib.hid rfl⟩
    have HG : Hid (nb n signs false = T) := Lib.hid HT.out
    rw [HG.out]
    have hq : n / 2 / signs ≤ n / 2 := Nat.div_le_self _ _
    have HS : Hid (wrap64 ((n : Int) / 2 + (n : Int) / 2 / signs) = ((halve n signs false : Nat) : Int)) := Lib.hid (by
      rw [show halve n signs false = n / 2 + n / 2 / signs from rfl]
      have e : (n : Int) / 2 / signs = ((n / 2 / signs : Nat) : Int) := by simp
      rw [e]
      generalize n / 2 / signs = q at hq ⊢
      rw [wr64 _ (by omega) (by omega)]; simp)
    have hh := halve_le n signs false
    go_enter Tryz.func143, Tryz.ntmps143
    go_wp2
    rw [HS.out]
    generalize halve n signs false = H at *
    go_loop [0, 7] (fun v k => ∃ f m j : Nat, f ≤ 20 ∧ v = .int .i64 m ∧ k = .int .i64 j ∧ biasL f m j = T ∧ m < 456 * 35 ^ f ∧ m ≤ 1152921504606846976 ∧ j ≤ 36 * (20 - f)) (fun v _ => (intOf v).toNat)
    case atStart => exact ⟨20, H, 0, Nat.le_refl _, rfl, rfl, HT.out, by omega, by omega, by omega⟩
    case round =>
      obtain ⟨f, m, j, hf, rfl, rfl, hT, hm, hm2, hj⟩ := hrel
      have HT2 := Lib.hid hT; clear hT
      by_cases hbig : 455 < m
      · cases f with
        | zero => simp at hm; omega
        | succ f =>
          have HM : Hid (m / 35 < 456 * 35 ^ f) := Lib.hid (by rw [Nat.pow_succ] at hm; omega)
          clear hm
          go_wp2
          go_round
          case rel => exact ⟨f, m / 35, j + 36, by omega, by go_num, by go_num, by rw [← biasL_step f m j hbig]; exact HT2.out, HM.out, by omega, by omega⟩
          case measure => simp [intOf]; omega
      · clear hm
        have hE := biasL_end f m j (by omega)
        have hB := biasE_le m
        have hqi : ((36 * m / (m + 38) : Nat) : Int) = 36 * (m : Int) / ((m : Int) + 38) := by simp
        obtain ⟨Q, HQ⟩ : ∃ Q, Hid (Q = 36 * m / (m + 38)) := ⟨_, Lib.hid rfl⟩
        rw [← HQ.out] at hB hqi hE
        have HE := Lib.hid (hE.symm.trans HT2.out)
        have HQI := Lib.hid hqi
        clear hE hqi
        go_wp2
        go_ret
        exact ⟨ret_int (by rw [← HQI.out, ← HE.out, wr64 _ (by omega) (by omega)]; omega), rfl⟩
  · obtain ⟨T, HT⟩ : ∃ T, Hid (biasL 20 (halve n signs true) 0 = T) := ⟨_, Lib.hid rfl⟩
    have HG : Hid (nb n signs true = T) := Lib.hid HT.out
    rw [HG.out]
    have hq : n / 700 / signs ≤ n / 700 := Nat.div_le_self _ _
    have HS : Hid (wrap64 ((n : Int) / 700 + (n : Int) / 700 / signs) = ((halve n signs true : Nat) : Int)) := Lib.hid (by
      rw [show halve n signs true = n / 700 + n / 700 / signs from rfl]
      have e : (n : Int) / 700 / signs = ((n / 700 / signs : Nat) : Int) := by simp
      rw [e]
      generalize n / 700 / signs = q at hq ⊢
      rw [wr64 _ (by omega) (by omega)]; simp)
    have hh := halve_le n signs true
    go_enter Tryz.func143, Tryz.ntmps143
    go_wp2
    rw [HS.out]
    generalize halve n signs true = H at *
    go_loop [0, 7] (fun v k => ∃ f m j : Nat, f ≤ 20 ∧ v = .int .i64 m ∧ k = .int .i64 j ∧ biasL f m j = T ∧ m < 456 * 35 ^ f ∧ m ≤ 1152921504606846976 ∧ j ≤ 36 * (20 - f)) (fun v _ => (intOf v).toNat)
    case atStart => exact ⟨20, H, 0, Nat.le_refl _, rfl, rfl, HT.out, by omega, by omega, by omega⟩
    case round =>
      obtain ⟨f, m, j, hf, rfl, rfl, hT, hm, hm2, hj⟩ := hrel
      have HT2 := Lib.hid hT; clear hT
      by_cases hbig : 455 < m
      · cases f with
        | zero => simp at hm; omega
        | succ f =>
          have HM : Hid (m / 35 < 456 * 35 ^ f) := Lib.hid (by rw [Nat.pow_succ] at hm; omega)
          clear hm
          go_wp2
          go_round
          case rel => exact ⟨f, m / 35, j + 36, by omega, by go_num, by go_num, by rw [← biasL_step f m j hbig]; exact HT2.out, HM.out, by omega, by omega⟩
          case measure => simp [intOf]; omega
      · clear hm
        have hE := biasL_end f m j (by omega)
        have hB := biasE_le m
        have hqi : ((36 * m / (m + 38) : Nat) : Int) = 36 * (m : Int) / ((m : Int) + 38) := by simp
        obtain ⟨Q, HQ⟩ : ∃ Q, Hid (Q = 36 * m / (m + 38)) := ⟨_, Lib.hid rfl⟩
        rw [← HQ.out] at hB hqi hE
        have HE := Lib.hid (hE.symm.trans HT2.out)
        have HQI := Lib.hid hqi
        clear hE hqi
        go_wp2
        go_ret
        exact ⟨ret_int (by rw [← HQI.out, ← HE.out, wr64 _ (by omega) (by omega)]; omega), rfl⟩


def rdR (at_ : Nat) : Option (Nat × Nat) → Value
  | none => .tuple #[.int .i64 0, .int .i64 0, .bool false]
  | some (n, m) => .tuple #[.int .i64 n, .int .i64 ((at_ + m : Nat) : Int), .bool true]

set_option maxRecDepth 1000000 in
set_option maxHeartbeats 1000000 in
theorem number_any (s : ByteArray) (at_ counted bias : Nat) (w : World) (hs : s.size ≤ 1152921504606846976 / 36) (ha : at_ ≤ s.size) (hc : counted ≤ 2147483647) (hb : bias ≤ 756) :
    Calls Tryz.prog 144 #[.string s, .int .i64 at_, .int .i64 counted, .int .i64 bias] w fun e w' => e = .returned (rdR at_ (rdN bias (s.data.toList.drop at_) 0 1 counted)) ∧ w = w' := by
  obtain ⟨T, HT⟩ : ∃ T, Hid (rdN bias (s.data.toList.drop at_) 0 1 counted = T) := ⟨_, Lib.hid rfl⟩
  rw [HT.out]
  go_enter Tryz.func144, Tryz.ntmps144
  go_wp2
  go_loop [1, 2, 11, 12, 13, 14] (fun a1 a2 a11 a12 _ _ => ∃ k W A : Nat, at_ + k ≤ s.size ∧ a1 = .int .i64 ((at_ + k : Nat) : Int) ∧ a2 = .int .i64 A ∧ a11 = .int .i64 W ∧ a12 = .int .i64 ((36 * (k + 1) : Nat) : Int) ∧ Hid (rdN bias (s.data.toList.drop (at_ + k)) k W A = T) ∧ A ≤ 2147483647 ∧ W ≤ 75161927680) (fun a1 _ _ _ _ _ => s.size - (intOf a1).toNat)
  case atStart => exact ⟨0, 1, counted, by omega, rfl, rfl, rfl, rfl, HT, by omega, by omega⟩
  case round =>
    obtain ⟨k, W, A, hk, rfl, rfl, rfl, rfl, HT2, hA, hW⟩ := hrel
    obtain ⟨p, Hp⟩ : ∃ p, Hid (p = at_ + k) := ⟨_, Lib.hid rfl⟩
    rw [← Hp.out] at hk HT2 ⊢
    have hk36 : ((36 * (k + 1) : Nat) : Int) = 36 * ((k : Int) + 1) := by omega
    obtain ⟨K, HK⟩ : ∃ K, Hid (K = 36 * (k + 1)) := ⟨_, Lib.hid rfl⟩
    have hKb : K ≤ 1152921504606846976 + 36 := by rw [HK.out]; have := Hp.out; omega
    rw [← HK.out]
    clear hk36
    by_cases hlt : p < s.size
    · have HD := Lib.hid (drop_at s p hlt)
      cases hd : digV s[p] with
      | none =>
        have HN : Hid (T = none) := Lib.hid (by rw [← HT2.out, HD.out, rdN_none _ _ _ _ _ _ hd])
        have HDg := Lib.hid hd
        clear hd
        go_wp2_with (go_at_call 162; refine (digit_any _ _).mono ?_; rw [HDg.out]; rintro e w' ⟨rfl, rfl⟩; dsimp only [digI])
        go_ret3
        exact ⟨by rw [HN.out]; rfl, rfl⟩
      | some d =>
        have hdl := digV_lt hd
        have HDg := Lib.hid hd
        clear hd
        have hm : d * W ≤ 35 * 75161927680 := Nat.mul_le_mul (by omega) hW
        have hmi : ((d * W : Nat) : Int) = (d : Int) * (W : Int) := by simp
        have hm1 : 0 ≤ (d : Int) * (W : Int) := by omega
        have hm2 : (d : Int) * (W : Int) ≤ 2630667468800 := by omega
        by_cases hbig : 2147483647 < (A : Int) + (d : Int) * (W : Int)
        · have HN : Hid (T = none) := Lib.hid (by rw [← HT2.out, HD.out, rdN_big _ _ _ _ _ _ _ HDg.out (by omega)])
          clear hmi hm
          go_wp2_with (go_at_call 162; refine (digit_any _ _).mono ?_; rw [HDg.out]; rintro e w' ⟨rfl, rfl⟩; dsimp only [digI])
          go_ret3
          exact ⟨by rw [HN.out]; rfl, rfl⟩
        · obtain ⟨ht1, ht2⟩ := stepN_bd (36 * (k + 1)) bias
          have HE := Lib.hid (rdN_end bias s[p] (s.data.toList.drop (p + 1)) k W A d HDg.out (by omega))
          have HO := Lib.hid (rdN_on bias s[p] (s.data.toList.drop (p + 1)) k W A d HDg.out (by omega))
          rw [← HK.out] at ht1 ht2 HE HO
          have HSt : Hid (∀ w, Calls Tryz.prog 161 #[.int .i64 K, .int .i64 bias] w fun e w' => e = .returned (.int .i64 (stepN K bias)) ∧ w = w') := Lib.hid (fun w => bound_any _ _ _ (by omega) (by omega))
          obtain ⟨t, Ht⟩ : ∃ t, Hid (t = stepN K bias) := ⟨_, Lib.hid rfl⟩
          rw [← Ht.out] at ht1 ht2 HE HO HSt
          have HMI := Lib.hid hmi
          clear hmi hm
          by_cases hdt : d < t
          · go_wp2_with (first | (go_at_call 162; refine (digit_any _ _).mono ?_; rw [HDg.out]; rintro e w' ⟨rfl, rfl⟩; dsimp only [digI]) | (go_at_call 161; refine (HSt.out _).mono ?_; rintro e w' ⟨rfl, rfl⟩))
            go_ret3
            refine ⟨?_, rfl⟩
            rw [← HT2.out, HD.out, HE.out hdt]
            exact retr (by rw [← HMI.out]; simp) (by have := Hp.out; omega)
          · have hW1 : W ≤ d * W := Nat.le_mul_of_pos_left W (by omega)
            have hW2 : W ≤ 2147483647 := by have := HMI.out; omega
            have hp' : W * (36 - t) ≤ 2147483647 * 35 := Nat.mul_le_mul hW2 (by omega)
            have hpi : ((W * (36 - t) : Nat) : Int) = (W : Int) * (36 - (t : Int)) := by rw [Int.natCast_mul, Int.natCast_sub (by omega)]; rfl
            have hp1 : 0 ≤ (W : Int) * (36 - (t : Int)) := by omega
            have hp2 : (W : Int) * (36 - (t : Int)) ≤ 75161927680 := by omega
            have HPI := Lib.hid hpi
            have HP := Lib.hid hp'
            clear hpi hp' hW1
            go_wp2_with (first | (go_at_call 162; refine (digit_any _ _).mono ?_; rw [HDg.out]; rintro e w' ⟨rfl, rfl⟩; dsimp only [digI]) | (go_at_call 161; refine (HSt.out _).mono ?_; rintro e w' ⟨rfl, rfl⟩))
            go_round
            case rel => exact ⟨k + 1, W * (36 - t), A + d * W, by have := Hp.out; omega, by have := Hp.out; go_num, by rw [Int.natCast_add, HMI.out], by rw [HPI.out], by rw [HK.out]; go_num, Lib.hid (by rw [show at_ + (k + 1) = p + 1 by have := Hp.out; omega, ← HO.out hdt, ← HD.out]; exact HT2.out), by have := HMI.out; omega, by have := HP.out; omega⟩
            case measure => simp [intOf]; omega
    · have HN : Hid (T = none) := Lib.hid (by rw [← HT2.out, List.drop_of_length_le (by simp; omega)]; rfl)
      go_wp2
      go_ret3
      exact ⟨by rw [HN.out]; rfl, rfl⟩

end Go.Proofs.YtdifdikfgkiocaaGreatDoor
