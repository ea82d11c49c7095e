/-
  Package setcookie: what each attribute says.
-/
import Derived.Test.YtllpdnmhabpbcaaGreatDoorScB
import Derived.Test.YtllpdnmhabpbcaaGreatDoorKp
namespace Go.Proofs.YtllpdnmhabpbcaaGreatDoor
open Go.RowKit

/-- A cookie's block. -/
def CkAt (w : World) (b : Nat) (t : Cki) : Prop := w.heap[b]? = some (.cells (ckR t) 40 (0, 0))
theorem CkAt.cell {w : World} {b : Nat} {t : Cki} (h : CkAt w b t) (k : Nat) {v : Value} (hv : (ckR t)[k]? = some v) : w.cell? ⟨b, k, none⟩ = some v := by
  rw [cell_of_row w b k _ _ _ h]; exact hv
theorem CkAt.free {w : World} {b : Nat} {t : Cki} (h : CkAt w b t) (k : Nat) : w.frozen? ⟨b, k, none⟩ = false := frozen_of_row w b k _ _ h
theorem CkAt.lt {w : World} {b : Nat} {t : Cki} (h : CkAt w b t) : b < w.heap.size := lt_of_block h
theorem CkAt.set {w : World} {b : Nat} {t t' : Cki} (h : CkAt w b t) (k : Nat) (v : Value) (e : (ckR t).setIfInBounds k v = ckR t') : CkAt (w.setCell ⟨b, k, none⟩ v) b t' := by
  unfold CkAt at *
  rw [heap_setCell_same _ _ _ _ _ _ h, e]
theorem CkAt.below {w w' : World} {b : Nat} {t : Cki} (h : CkAt w b t) (hb : Below w.heap.size w w') : CkAt w' b t := (hb.block b h.lt).trans h
theorem kp_set1 {b : Nat} {a w : World} (h : Kp (Only b) a w) (k : Nat) (v : Value) : Kp (Only b) a (w.setCell ⟨b, k, none⟩ v) := h.setCell (p := ⟨b, k, none⟩) rfl v
def SaidPost (w : World) (b : Nat) (t : Cki) (e : Ending) (w' : World) : Prop := e = .returned (.tuple #[]) ∧ CkAt w' b t ∧ Kp (Only b) w w'

set_option maxHeartbeats 1000000 in
set_option maxRecDepth 100000 in
theorem secure_any (b : Nat) (t : Cki) (v : ByteArray) (w : World) (h : CkAt w b t) :
    Calls Tryz.prog 32 #[.pointer (some ⟨b, 0, none⟩), .string v] w (SaidPost w b { t with se := true }) := by
  have c8 := h.cell 8 rfl
  have f8 := h.free 8
  have HP : Hid (SaidPost w b { t with se := true } (.returned (.tuple #[])) (w.setCell ⟨b, 8, none⟩ (.bool true))) := Lib.hid ⟨rfl, h.set 8 _ rfl, kp_set1 (Kp.refl _ _) 8 _⟩
  clear h
  go_enter Tryz.func32, Tryz.ntmps32
  go_wp2
  refine bodyPost_ret (results_none rfl _ _ _) rfl ?_
  exact HP.out
set_option maxHeartbeats 1000000 in
set_option maxRecDepth 100000 in
theorem hidden_any (b : Nat) (t : Cki) (v : ByteArray) (w : World) (h : CkAt w b t) :
    Calls Tryz.prog 33 #[.pointer (some ⟨b, 0, none⟩), .string v] w (SaidPost w b { t with hi := true }) := by
  have c9 := h.cell 9 rfl
  have f9 := h.free 9
  have HP : Hid (SaidPost w b { t with hi := true } (.returned (.tuple #[])) (w.setCell ⟨b, 9, none⟩ (.bool true))) := Lib.hid ⟨rfl, h.set 9 _ rfl, kp_set1 (Kp.refl _ _) 9 _⟩
  clear h
  go_enter Tryz.func33, Tryz.ntmps33
  go_wp2
  refine bodyPost_ret (results_none rfl _ _ _) rfl ?_
  exact HP.out
set_option maxHeartbeats 1000000 in
set_option maxRecDepth 100000 in
theorem path_any (b : Nat) (t : Cki) (v : ByteArray) (w : World) (h : CkAt w b t) :
    Calls Tryz.prog 31 #[.pointer (some ⟨b, 0, none⟩), .string v] w (SaidPost w b (sayPa t v)) := by
  have c3 := h.cell 3 rfl
  have f3 := h.free 3
  have h1 : CkAt (w.setCell ⟨b, 3, none⟩ (.string ⟨#[]⟩)) b { t with pa := noB } := h.set 3 _ rfl
  have k1 : Kp (Only b) w (w.setCell ⟨b, 3, none⟩ (.string ⟨#[]⟩)) := kp_set1 (Kp.refl _ _) 3 _
  have c3' := h1.cell 3 rfl
  have f3' := h1.free 3
  have HC : Hid (∀ w, Calls Tryz.prog 58 #[.string v, .string ⟨#[47]⟩] w fun e w' => e = .returned (.bool (decide (v.data.toList.head? = some 47))) ∧ w = w') := Lib.hid fun w => by
    have := Tryz.strings_HasPrefix v ⟨#[47]⟩ w
    rw [show ({ data := #[47] } : ByteArray).data.toList = [47] from rfl, pre_one] at this
    exact this.mono fun e w' h => ⟨h.1, h.2.symm⟩
  by_cases hp : v.data.toList.head? = some 47
  · have HP : Hid (SaidPost w b (sayPa t v) (.returned (.tuple #[])) ((w.setCell ⟨b, 3, none⟩ (.string ⟨#[]⟩)).setCell ⟨b, 3, none⟩ (.string v))) :=
      Lib.hid ⟨rfl, h1.set 3 _ (by unfold sayPa; rw [if_pos hp]; rfl), kp_set1 k1 3 _⟩
    rw [decide_eq_true hp] at HC
    clear h h1 k1 hp
    obtain ⟨W, HW⟩ : ∃ W, W = w.setCell ⟨b, 3, none⟩ (.string ⟨#[]⟩) := ⟨_, rfl⟩
    rw [← HW] at c3' f3' HP
    go_enter Tryz.func31, Tryz.ntmps31
    go_wp2_with fail
    rw [← HW]
    have HWW := Lib.hid HW
    clear HW c3 f3
    refine (HC.out _).mono ?_
    rintro e w1 ⟨rfl, rfl⟩
    go_wp2
    refine bodyPost_ret (results_none rfl _ _ _) rfl ?_
    exact HP.out
  · have HP : Hid (SaidPost w b (sayPa t v) (.returned (.tuple #[])) (w.setCell ⟨b, 3, none⟩ (.string ⟨#[]⟩))) :=
      Lib.hid ⟨rfl, (by unfold sayPa; rw [if_neg hp]; exact h1), k1⟩
    rw [decide_eq_false hp] at HC
    clear h h1 k1 hp c3' f3'
    go_enter Tryz.func31, Tryz.ntmps31
    go_wp2_with fail
    refine (HC.out _).mono ?_
    rintro e w1 ⟨rfl, rfl⟩
    go_wp2
    refine bodyPost_ret (results_none rfl _ _ _) rfl ?_
    exact HP.out
set_option maxHeartbeats 1000000 in
set_option maxRecDepth 100000 in
theorem domain_any (b : Nat) (t : Cki) (v : ByteArray) (hv : v.size ≤ 1048600) (w : World) (h : CkAt w b t) :
    Calls Tryz.prog 30 #[.pointer (some ⟨b, 0, none⟩), .string v] w (SaidPost w b (sayDm t v)) := by
  have HC : Hid (Calls Tryz.prog 57 #[.string v, .string ⟨#[46]⟩] w fun e w' => e = .returned (.string (asB (unpt v.data.toList))) ∧ w = w') := Lib.hid (by
    have := Tryz.strings_TrimPrefix v ⟨#[46]⟩ w
    rw [show ({ data := #[46] } : ByteArray).data.toList = [46] from rfl, cut_pre] at this
    exact this.mono fun e w' h => ⟨h.1, h.2.symm⟩)
  have hz : (asB (unpt v.data.toList)).size ≤ maxLen := by
    rw [asB_size]
    unfold unpt maxLen
    have := lenB v
    split
    · rw [List.length_drop]; omega
    · omega
  have HL := Lib.hid fun w => Lower_any (asB (unpt v.data.toList)) w hz
  have HP : Hid (∀ w1, Below w.heap.size w w1 → w1.cell? ⟨b, 2, none⟩ = some (.string t.dm) ∧ w1.frozen? ⟨b, 2, none⟩ = false ∧ SaidPost w b (sayDm t v) (.returned (.tuple #[])) (w1.setCell ⟨b, 2, none⟩ (.string (lowS (asB (unpt v.data.toList)))))) :=
    Lib.hid fun w1 hb => ⟨(h.below hb).cell 2 rfl, (h.below hb).free 2, rfl, (h.below hb).set 2 _ rfl, kp_set1 (Kp.of_below hb) 2 _⟩
  generalize asB (unpt v.data.toList) = U at *
  clear h hz
  go_enter Tryz.func30, Tryz.ntmps30
  go_wp2_with fail
  refine HC.out.mono ?_
  rintro e w1 ⟨rfl, rfl⟩
  go_wp2_with fail
  refine (HL.out _).mono ?_
  rintro e w2 ⟨rfl, b2⟩
  obtain ⟨c2, f2, hp⟩ := HP.out _ b2
  have HPP := Lib.hid hp
  clear hp
  go_wp2
  refine bodyPost_ret (results_none rfl _ _ _) rfl ?_
  exact HPP.out

set_option maxHeartbeats 1000000 in
set_option maxRecDepth 100000 in
theorem expires_any (b : Nat) (t : Cki) (v : ByteArray) (hv : v.size ≤ 1048600) (m : Int) (w : World) (h : CkAt w b t) (hw : DtC0 m w) :
    Calls Tryz.prog 28 #[.pointer (some ⟨b, 0, none⟩), .string v] w (SaidPost w b (sayEx t v)) := by
  have HC := Lib.hid (Cookie_any v hv m w hw)
  obtain ⟨R, HR⟩ : ∃ R, Hid (cookR (toldT v) = R) := ⟨_, Lib.hid rfl⟩
  have HS : Hid (sayEx t v = if cookB (toldT v) then { t with ex := R, hx := true } else t) := Lib.hid (by unfold sayEx; rw [HR.out])
  rw [HR.out] at HC
  rw [HS.out]
  clear HS
  cases hB : cookB (toldT v) with
  | true =>
    rw [hB] at HC
    rw [if_pos rfl]
    have HP : Hid (∀ w1, Below w.heap.size w w1 → w1.cell? ⟨b, 4, none⟩ = some (.int .i64 t.ex) ∧ w1.frozen? ⟨b, 4, none⟩ = false ∧ (w1.setCell ⟨b, 4, none⟩ (.int .i64 R)).cell? ⟨b, 5, none⟩ = some (.bool t.hx) ∧ (w1.setCell ⟨b, 4, none⟩ (.int .i64 R)).frozen? ⟨b, 5, none⟩ = false ∧
        SaidPost w b { t with ex := R, hx := true } (.returned (.tuple #[])) ((w1.setCell ⟨b, 4, none⟩ (.int .i64 R)).setCell ⟨b, 5, none⟩ (.bool true))) := Lib.hid fun w1 hb => by
      have h1 := h.below hb
      have h2 : CkAt (w1.setCell ⟨b, 4, none⟩ (.int .i64 R)) b { t with ex := R } := h1.set 4 _ rfl
      exact ⟨h1.cell 4 rfl, h1.free 4, h2.cell 5 rfl, h2.free 5, rfl, h2.set 5 _ rfl, kp_set1 (kp_set1 (Kp.of_below hb) 4 _) 5 _⟩
    clear h hw hB
    go_enter Tryz.func28, Tryz.ntmps28
    go_wp2_with fail
    refine HC.out.mono ?_
    rintro e w1 ⟨rfl, b1⟩
    obtain ⟨c4, f4, c5, f5, hp⟩ := HP.out _ b1
    have HPP := Lib.hid hp
    clear hp
    go_wp2
    refine bodyPost_ret (results_none rfl _ _ _) rfl ?_
    exact HPP.out
  | false =>
    rw [hB] at HC
    rw [if_neg (by decide)]
    have HP : Hid (∀ w1, Below w.heap.size w w1 → SaidPost w b t (.returned (.tuple #[])) w1) := Lib.hid fun w1 hb => ⟨rfl, h.below hb, Kp.of_below hb⟩
    clear h hw hB
    go_enter Tryz.func28, Tryz.ntmps28
    go_wp2_with fail
    refine HC.out.mono ?_
    rintro e w1 ⟨rfl, b1⟩
    go_wp2
    refine bodyPost_ret (results_none rfl _ _ _) rfl ?_
    exact HP.out _ b1
set_option maxHeartbeats 1000000 in
set_option maxRecDepth 100000 in
theorem age_any (b : Nat) (t : Cki) (v : ByteArray) (hv : v.size ≤ 1048600) (w : World) (h : CkAt w b t) :
    Calls Tryz.prog 29 #[.pointer (some ⟨b, 0, none⟩), .string v] w (SaidPost w b (sayAg t v)) := by
  have HC := Lib.hid (ageOf_any v hv w)
  obtain ⟨R, HR⟩ : ∃ R, Hid (ageV v.data.toList = R) := ⟨_, Lib.hid rfl⟩
  have HS : Hid (sayAg t v = if ageB v.data.toList then { t with ag := R, ha := true } else t) := Lib.hid (by unfold sayAg; rw [HR.out])
  unfold ageR at HC
  rw [HR.out] at HC
  rw [HS.out]
  clear HS
  cases hB : ageB v.data.toList with
  | true =>
    rw [hB, if_pos rfl] at HC
    rw [if_pos rfl]
    have HP : Hid (∀ w1, Below w.heap.size w w1 → w1.cell? ⟨b, 6, none⟩ = some (.int .i64 t.ag) ∧ w1.frozen? ⟨b, 6, none⟩ = false ∧ (w1.setCell ⟨b, 6, none⟩ (.int .i64 R)).cell? ⟨b, 7, none⟩ = some (.bool t.ha) ∧ (w1.setCell ⟨b, 6, none⟩ (.int .i64 R)).frozen? ⟨b, 7, none⟩ = false ∧
        SaidPost w b { t with ag := R, ha := true } (.returned (.tuple #[])) ((w1.setCell ⟨b, 6, none⟩ (.int .i64 R)).setCell ⟨b, 7, none⟩ (.bool true))) := Lib.hid fun w1 hb => by
      have h1 := h.below hb
      have h2 : CkAt (w1.setCell ⟨b, 6, none⟩ (.int .i64 R)) b { t with ag := R } := h1.set 6 _ rfl
      exact ⟨h1.cell 6 rfl, h1.free 6, h2.cell 7 rfl, h2.free 7, rfl, h2.set 7 _ rfl, kp_set1 (kp_set1 (Kp.of_below hb) 6 _) 7 _⟩
    clear h hB
    go_enter Tryz.func29, Tryz.ntmps29
    go_wp2_with fail
    refine HC.out.mono ?_
    rintro e w1 ⟨rfl, b1⟩
    obtain ⟨c4, f4, c5, f5, hp⟩ := HP.out _ b1
    have HPP := Lib.hid hp
    clear hp
    go_wp2
    refine bodyPost_ret (results_none rfl _ _ _) rfl ?_
    exact HPP.out
  | false =>
    rw [hB, if_neg (by decide)] at HC
    rw [if_neg (by decide)]
    have HP : Hid (∀ w1, Below w.heap.size w w1 → SaidPost w b t (.returned (.tuple #[])) w1) := Lib.hid fun w1 hb => ⟨rfl, h.below hb, Kp.of_below hb⟩
    clear h hB
    go_enter Tryz.func29, Tryz.ntmps29
    go_wp2_with fail
    refine HC.out.mono ?_
    rintro e w1 ⟨rfl, b1⟩
    go_wp2
    refine bodyPost_ret (results_none rfl _ _ _) rfl ?_
    exact HP.out _ b1

/-- A site's text. -/
def siteL (n : Int) : List UInt8 := if n = 1 then [83, 116, 114, 105, 99, 116] else if n = 2 then [76, 97, 120] else if n = 3 then [78, 111, 110, 101] else []
set_option maxHeartbeats 1000000 in
theorem siteText_any (n : Int) (w : World) :
    Calls Tryz.prog 23 #[.int .u8 n] w fun e w' => e = .returned (.string (asB (siteL n))) ∧ w = w' := by
  by_cases h1 : n = 1
  · subst h1
    go_enter Tryz.func23, Tryz.ntmps23
    go_wp2
    go_ret
    exact ⟨rfl, rfl⟩
  by_cases h2 : n = 2
  · subst h2
    go_enter Tryz.func23, Tryz.ntmps23
    go_wp2
    go_ret
    exact ⟨rfl, rfl⟩
  by_cases h3 : n = 3
  · subst h3
    go_enter Tryz.func23, Tryz.ntmps23
    go_wp2
    go_ret
    exact ⟨rfl, rfl⟩
  have HS : Hid (siteL n = []) := Lib.hid (by unfold siteL; rw [if_neg h1, if_neg h2, if_neg h3])
  rw [HS.out]
  have e1 : (n == 1) = false := beq_eq_false_iff_ne.2 h1
  have e2 : (n == 2) = false := beq_eq_false_iff_ne.2 h2
  have e3 : (n == 3) = false := beq_eq_false_iff_ne.2 h3
  go_enter Tryz.func23, Tryz.ntmps23
  go_wp2
  go_ret
  exact ⟨rfl, rfl⟩
/-- Which of the sites from 1 to k - 1 a text in small letters is. -/
def siteTo (l : List UInt8) (k : Nat) : Int := match k with
  | 0 => 0
  | k + 1 => if (siteL ((k : Nat) : Int)).map low = l.map low ∧ 1 ≤ k then ((k : Nat) : Int) else siteTo l k
theorem siteTo_all (l : List UInt8) : siteTo l 4 = siteV (l.map low) := by
  have e1 : (siteL ((1 : Nat) : Int)).map low = [115, 116, 114, 105, 99, 116] := by decide
  have e2 : (siteL ((2 : Nat) : Int)).map low = [108, 97, 120] := by decide
  have e3 : (siteL ((3 : Nat) : Int)).map low = [110, 111, 110, 101] := by decide
  unfold siteTo siteTo siteTo siteTo siteTo siteV
  rw [e1, e2, e3]
  generalize l.map low = x
  by_cases h1 : x = [115, 116, 114, 105, 99, 116]
  · subst h1; decide
  by_cases h2 : x = [108, 97, 120]
  · subst h2; decide
  by_cases h3 : x = [110, 111, 110, 101]
  · subst h3; decide
  rw [if_neg h1, if_neg h2, if_neg h3, if_neg (fun h => h3 h.1.symm), if_neg (fun h => h2 h.1.symm), if_neg (fun h => h1 h.1.symm), if_neg (fun h => absurd h.2 (by decide))]
theorem same_site (v : ByteArray) (k : Nat) : sameS v (asB (siteL (k : Int))) = decide ((siteL (k : Int)).map low = v.data.toList.map low) := by
  have h1 : sameS v (asB (siteL (k : Int))) = (v.data.toList.map low == (siteL (k : Int)).map low) := by
    unfold sameS lowS
    rw [ByteArray.toList_eq, ByteArray.toList_eq]; rfl
  rw [h1]
  by_cases h : (siteL (k : Int)).map low = v.data.toList.map low
  · rw [decide_eq_true h, h]; exact beq_self_eq_true _
  · rw [decide_eq_false h]; exact beq_eq_false_iff_ne.2 fun e => h e.symm

set_option maxHeartbeats 2000000 in
set_option maxRecDepth 100000 in
theorem site_any (b : Nat) (t : Cki) (v : ByteArray) (hv : v.size ≤ 1048600) (w : World) (h : CkAt w b t) :
    Calls Tryz.prog 34 #[.pointer (some ⟨b, 0, none⟩), .string v] w (SaidPost w b (saySi t v)) := by
  have c10 := h.cell 10 rfl
  have f10 := h.free 10
  have HA0 : Hid (CkAt (w.setCell ⟨b, 10, none⟩ (.int .u8 0)) b { t with si := siteTo v.data.toList 1 }) := Lib.hid (h.set 10 _ (by
    have : siteTo v.data.toList 1 = 0 := by unfold siteTo siteTo; exact if_neg fun h => absurd h.2 (by decide)
    rw [this]; rfl))
  have HK0 : Hid (Kp (Only b) w (w.setCell ⟨b, 10, none⟩ (.int .u8 0))) := Lib.hid (kp_set1 (Kp.refl _ _) 10 _)
  have HSi := Lib.hid siteText_any
  have HSm := Lib.hid fun (n : Int) w => Same_any v (asB (siteL n)) w (by unfold maxLen; omega) (by rw [asB_size]; unfold siteL maxLen; split <;> (try split) <;> (try split) <;> simp)
  have HF : Hid (saySi t v = { t with si := siteTo v.data.toList 4 }) := Lib.hid (by unfold saySi; rw [siteTo_all])
  rw [HF.out]
  clear h
  obtain ⟨W, HW⟩ : ∃ W, W = w.setCell ⟨b, 10, none⟩ (.int .u8 0) := ⟨_, rfl⟩
  rw [← HW] at HA0 HK0
  go_enter Tryz.func34, Tryz.ntmps34
  go_wp2
  rw [← HW]
  have HWW := Lib.hid HW
  clear HW c10 f10
  go_loopw [4] (fun i wr => ∃ k : Nat, 1 ≤ k ∧ k ≤ 4 ∧ i = .int .u8 k ∧ Hid (CkAt wr b { t with si := siteTo v.data.toList k }) ∧ Hid (Kp (Only b) w wr)) (fun i _ => 4 - (intOf i).toNat)
  case atStart => exact ⟨1, by decide, by decide, rfl, HA0, HK0⟩
  case round =>
    obtain ⟨k, hk1, hk4, rfl, HA, HK⟩ := hrel
    by_cases hlt : k < 4
    · have HSk := Lib.hid fun w => HSi.out (k : Int) w
      have HSmk := Lib.hid fun w => HSm.out (k : Int) w
      rw [same_site] at HSmk
      have hI : (k : Int) ≤ 3 := by omega
      have hI1 : (1 : Int) ≤ (k : Int) := by omega
      by_cases hs : (siteL (k : Int)).map low = v.data.toList.map low
      · rw [decide_eq_true hs] at HSmk
        have HP : Hid (∀ w1, Below wr.heap.size wr w1 → w1.cell? ⟨b, 10, none⟩ = some (.int .u8 (siteTo v.data.toList k)) ∧ w1.frozen? ⟨b, 10, none⟩ = false ∧ Hid (CkAt (w1.setCell ⟨b, 10, none⟩ (.int .u8 (k : Int))) b { t with si := siteTo v.data.toList (k + 1) }) ∧ Hid (Kp (Only b) w (w1.setCell ⟨b, 10, none⟩ (.int .u8 (k : Int))))) := Lib.hid fun w1 hb => by
          have h1 := HA.out.below hb
          exact ⟨h1.cell 10 rfl, h1.free 10, Lib.hid (h1.set 10 _ (by
            have : siteTo v.data.toList (k + 1) = (k : Int) := by rw [siteTo, if_pos ⟨hs, hk1⟩]
            rw [this]; rfl)), Lib.hid (kp_set1 (HK.out.trans (Kp.of_below hb)) 10 _)⟩
        clear hs
        generalize asB (siteL (k : Int)) = X at HSk HSmk
        go_wp2_with fail
        refine (HSk.out _).mono ?_
        rintro e w1 ⟨rfl, rfl⟩
        go_wp2_with fail
        refine (HSmk.out _).mono ?_
        rintro e w2 ⟨rfl, b2⟩
        obtain ⟨c10, f10, hA2, hK2⟩ := HP.out _ b2
        go_wp2
        exact ⟨⟨k + 1, by omega, by omega, by go_num, hA2, hK2⟩, by simp [intOf]; omega⟩
      · rw [decide_eq_false hs] at HSmk
        have HP : Hid (∀ w1, Below wr.heap.size wr w1 → Hid (CkAt w1 b { t with si := siteTo v.data.toList (k + 1) }) ∧ Hid (Kp (Only b) w w1)) := Lib.hid fun w1 hb =>
          ⟨Lib.hid (by rw [siteTo, if_neg fun h => hs h.1]; exact HA.out.below hb), Lib.hid (HK.out.trans (Kp.of_below hb))⟩
        clear hs
        generalize asB (siteL (k : Int)) = X at HSk HSmk
        go_wp2_with fail
        refine (HSk.out _).mono ?_
        rintro e w1 ⟨rfl, rfl⟩
        go_wp2_with fail
        refine (HSmk.out _).mono ?_
        rintro e w2 ⟨rfl, b2⟩
        obtain ⟨hA2, hK2⟩ := HP.out _ b2
        go_wp2
        exact ⟨⟨k + 1, by omega, by omega, by go_num, hA2, hK2⟩, by simp [intOf]; omega⟩
    · obtain rfl : k = 4 := by omega
      have HP : Hid (SaidPost w b { t with si := siteTo v.data.toList 4 } (.returned (.tuple #[])) wr) := Lib.hid ⟨rfl, HA.out, HK.out⟩
      go_wp2
      refine bodyPost_ret (results_none rfl _ _ _) rfl ?_
      exact HP.out

end Go.Proofs.YtllpdnmhabpbcaaGreatDoor
