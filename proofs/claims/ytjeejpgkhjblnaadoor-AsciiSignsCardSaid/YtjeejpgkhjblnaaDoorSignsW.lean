/-
  The walk of footmanlaw01.AsciiSigns.
-/
import Derived.Test.YtjeejpgkhjblnaaDoorAlive
namespace Go.Proofs.YtjeejpgkhjblnaaDoor
open Go.RowKit

theorem one_text (a : UInt8) (w : World) (g : Nat) (hg : g = w.heap.size) : (convert 42 9 (.slice (some ⟨g, 0, none⟩) 1 1)).run Tryd.prog (w.alloc (.cells #[.int .u8 a.toNat] 5)) = .ok (.string ⟨#[a]⟩) (w.alloc (.cells #[.int .u8 a.toNat] 5)) := by
  subst hg
  exact run_convert_bytes_back (P := Tryd.prog) _ 42 9 5 ⟨w.heap.size, 0, none⟩ 1 [a] Tryd.underlying42 Tryd.underlying5 Tryd.underlying9 (fun j hj => by
    have : j = 0 := by simpa using hj
    subst this
    simp [Addr.add])

/-- A contract of Token at one text. -/
def TokIs (s : ByteArray) (b : Bool) : Prop := ∀ W : World, Calls Tryd.prog 23 #[.string s] W fun e w' => e = .returned (.bool b) ∧ Below W.heap.size W w'
theorem tokIs_of (s : ByteArray) (b : Bool) (hs : s.size ≤ maxLen) (h : tokS s.data.toList = b) : TokIs s b := fun W =>
  (Token_any s W hs).mono fun _ _ ⟨he, hb⟩ => ⟨he.trans (ret_bool h), hb⟩

set_option maxHeartbeats 4000000 in
set_option maxRecDepth 100000 in
theorem signs_ee (c : UInt8) (s t : ByteArray) (m : Int) (w : World) (o : Bool) (hb : s.size + t.size ≤ 1048576)
    (HM : Hid (w.cell? ⟨2, 0, none⟩ = some (.int .i64 m))) (To : TokIs ⟨#[c]⟩ o)
    (es : s.toList.isEmpty = true) (et : t.toList.isEmpty = true) (Ta : TokIs (s ++ ⟨#[c]⟩ ++ t) (o && true && true)) (hc : o = true → 32 < (c.toNat : Int) ∧ (c.toNat : Int) < 127) :
    Calls Tryd.prog 9 #[.int .u8 c.toNat, .string s, .string t] w fun e w' => e = .returned (.bool true) ∧ Below w.heap.size w w' := by
  have hone := one_text c
  cases o
  all_goals
    as_aux_lemma =>
      first | (obtain ⟨c1, c2⟩ := hc rfl; clear hc) | clear hc
      go_enter Tryd.func9, Tryd.ntmps9
      go_wp2_with fail
      refine (alive_any m _ HM.out).mono ?_
      rintro e w1 ⟨rfl, b1⟩
      have B1 := Lib.hid b1; clear b1
      go_wp2_with fail
      refine (Beyond2_no w1.heap.size s.size t.size _ (by simp) (by simp) hb).mono ?_
      rintro e w2 ⟨rfl, rfl⟩
      go_wp2_with fail
      refine (To _).mono ?_
      rintro e w2 ⟨rfl, b2⟩
      have B2 := Lib.hid b2; clear b2
      go_wp2_with fail
      refine (Ta _).mono ?_
      rintro e w3 ⟨rfl, b3⟩
      have B3 := Lib.hid b3; clear b3
      go_wp2
      all_goals
        go_ret
        have g1 := B1.out.size
        have g2 := B2.out.size
        have g3 := B3.out.size
        simp at g2 g3
        have h3 : Below w.heap.size w w3 := (((B1.out.trans ((Below.refl _ _).alloc g1 _)).trans (((Below.refl _ _).alloc (by simp; omega) _).trans (B2.out.mono (by simp; omega)))).trans ((Below.refl _ _).alloc (by omega) _)).trans (B3.out.mono (by simp; omega))
        exact ⟨rfl, h3⟩

set_option maxHeartbeats 4000000 in
set_option maxRecDepth 100000 in
theorem signs_ef (c : UInt8) (s t : ByteArray) (m : Int) (w : World) (o : Bool) (hb : s.size + t.size ≤ 1048576)
    (HM : Hid (w.cell? ⟨2, 0, none⟩ = some (.int .i64 m))) (To : TokIs ⟨#[c]⟩ o)
    (es : s.toList.isEmpty = true) (et : t.toList.isEmpty = false) (r : Bool) (Tt : TokIs t r) (Ta : TokIs (s ++ ⟨#[c]⟩ ++ t) (o && true && r)) (hc : o = true → 32 < (c.toNat : Int) ∧ (c.toNat : Int) < 127) :
    Calls Tryd.prog 9 #[.int .u8 c.toNat, .string s, .string t] w fun e w' => e = .returned (.bool true) ∧ Below w.heap.size w w' := by
  have hone := one_text c
  cases o <;> cases r
  all_goals
    as_aux_lemma =>
      first | (obtain ⟨c1, c2⟩ := hc rfl; clear hc) | clear hc
      go_enter Tryd.func9, Tryd.ntmps9
      go_wp2_with fail
      refine (alive_any m _ HM.out).mono ?_
      rintro e w1 ⟨rfl, b1⟩
      have B1 := Lib.hid b1; clear b1
      go_wp2_with fail
      refine (Beyond2_no w1.heap.size s.size t.size _ (by simp) (by simp) hb).mono ?_
      rintro e w2 ⟨rfl, rfl⟩
      go_wp2_with fail
      refine (To _).mono ?_
      rintro e w2 ⟨rfl, b2⟩
      have B2 := Lib.hid b2; clear b2
      go_wp2_with fail
      refine (Ta _).mono ?_
      rintro e w3 ⟨rfl, b3⟩
      have B3 := Lib.hid b3; clear b3
      go_wp2_with fail
      refine (Tt _).mono ?_
      rintro e w5 ⟨rfl, b5⟩
      have B5 := Lib.hid b5; clear b5
      go_wp2
      all_goals
        go_ret
        have g1 := B1.out.size
        have g2 := B2.out.size
        have g3 := B3.out.size
        simp at g2 g3
        have h3 : Below w.heap.size w w3 := (((B1.out.trans ((Below.refl _ _).alloc g1 _)).trans (((Below.refl _ _).alloc (by simp; omega) _).trans (B2.out.mono (by simp; omega)))).trans ((Below.refl _ _).alloc (by omega) _)).trans (B3.out.mono (by simp; omega))
        exact ⟨rfl, (h3.trans (B5.out.mono (by omega)))⟩

set_option maxHeartbeats 4000000 in
set_option maxRecDepth 100000 in
theorem signs_fe (c : UInt8) (s t : ByteArray) (m : Int) (w : World) (o : Bool) (hb : s.size + t.size ≤ 1048576)
    (HM : Hid (w.cell? ⟨2, 0, none⟩ = some (.int .i64 m))) (To : TokIs ⟨#[c]⟩ o)
    (es : s.toList.isEmpty = false) (l : Bool) (Ts : TokIs s l) (et : t.toList.isEmpty = true) (Ta : TokIs (s ++ ⟨#[c]⟩ ++ t) (o && l && true)) (hc : o = true → 32 < (c.toNat : Int) ∧ (c.toNat : Int) < 127) :
    Calls Tryd.prog 9 #[.int .u8 c.toNat, .string s, .string t] w fun e w' => e = .returned (.bool true) ∧ Below w.heap.size w w' := by
  have hone := one_text c
  cases o <;> cases l
  all_goals
    as_aux_lemma =>
      first | (obtain ⟨c1, c2⟩ := hc rfl; clear hc) | clear hc
      go_enter Tryd.func9, Tryd.ntmps9
      go_wp2_with fail
      refine (alive_any m _ HM.out).mono ?_
      rintro e w1 ⟨rfl, b1⟩
      have B1 := Lib.hid b1; clear b1
      go_wp2_with fail
      refine (Beyond2_no w1.heap.size s.size t.size _ (by simp) (by simp) hb).mono ?_
      rintro e w2 ⟨rfl, rfl⟩
      go_wp2_with fail
      refine (To _).mono ?_
      rintro e w2 ⟨rfl, b2⟩
      have B2 := Lib.hid b2; clear b2
      go_wp2_with fail
      refine (Ta _).mono ?_
      rintro e w3 ⟨rfl, b3⟩
      have B3 := Lib.hid b3; clear b3
      go_wp2_with fail
      refine (Ts _).mono ?_
      rintro e w4 ⟨rfl, b4⟩
      have B4 := Lib.hid b4; clear b4
      go_wp2
      all_goals
        go_ret
        have g1 := B1.out.size
        have g2 := B2.out.size
        have g3 := B3.out.size
        simp at g2 g3
        have h3 : Below w.heap.size w w3 := (((B1.out.trans ((Below.refl _ _).alloc g1 _)).trans (((Below.refl _ _).alloc (by simp; omega) _).trans (B2.out.mono (by simp; omega)))).trans ((Below.refl _ _).alloc (by omega) _)).trans (B3.out.mono (by simp; omega))
        have g4 := B4.out.size
        exact ⟨rfl, (h3.trans (B4.out.mono (by omega)))⟩

set_option maxHeartbeats 4000000 in
set_option maxRecDepth 100000 in
theorem signs_ff (c : UInt8) (s t : ByteArray) (m : Int) (w : World) (o : Bool) (hb : s.size + t.size ≤ 1048576)
    (HM : Hid (w.cell? ⟨2, 0, none⟩ = some (.int .i64 m))) (To : TokIs ⟨#[c]⟩ o)
    (es : s.toList.isEmpty = false) (l : Bool) (Ts : TokIs s l) (et : t.toList.isEmpty = false) (r : Bool) (Tt : TokIs t r) (Ta : TokIs (s ++ ⟨#[c]⟩ ++ t) (o && l && r)) (hc : o = true → 32 < (c.toNat : Int) ∧ (c.toNat : Int) < 127) :
    Calls Tryd.prog 9 #[.int .u8 c.toNat, .string s, .string t] w fun e w' => e = .returned (.bool true) ∧ Below w.heap.size w w' := by
  have hone := one_text c
  cases o <;> cases l <;> cases r
  all_goals
    as_aux_lemma =>
      first | (obtain ⟨c1, c2⟩ := hc rfl; clear hc) | clear hc
      go_enter Tryd.func9, Tryd.ntmps9
      go_wp2_with fail
      refine (alive_any m _ HM.out).mono ?_
      rintro e w1 ⟨rfl, b1⟩
      have B1 := Lib.hid b1; clear b1
      go_wp2_with fail
      refine (Beyond2_no w1.heap.size s.size t.size _ (by simp) (by simp) hb).mono ?_
      rintro e w2 ⟨rfl, rfl⟩
      go_wp2_with fail
      refine (To _).mono ?_
      rintro e w2 ⟨rfl, b2⟩
      have B2 := Lib.hid b2; clear b2
      go_wp2_with fail
      refine (Ta _).mono ?_
      rintro e w3 ⟨rfl, b3⟩
      have B3 := Lib.hid b3; clear b3
      go_wp2_with fail
      refine (Ts _).mono ?_
      rintro e w4 ⟨rfl, b4⟩
      have B4 := Lib.hid b4; clear b4
      go_wp2_with fail
      refine (Tt _).mono ?_
      rintro e w5 ⟨rfl, b5⟩
      have B5 := Lib.hid b5; clear b5
      go_wp2
      all_goals
        go_ret
        have g1 := B1.out.size
        have g2 := B2.out.size
        have g3 := B3.out.size
        simp at g2 g3
        have h3 : Below w.heap.size w w3 := (((B1.out.trans ((Below.refl _ _).alloc g1 _)).trans (((Below.refl _ _).alloc (by simp; omega) _).trans (B2.out.mono (by simp; omega)))).trans ((Below.refl _ _).alloc (by omega) _)).trans (B3.out.mono (by simp; omega))
        have g4 := B4.out.size
        exact ⟨rfl, ((h3.trans (B4.out.mono (by omega))).trans (B5.out.mono (by omega)))⟩

end Go.Proofs.YtjeejpgkhjblnaaDoor
