/-
  The walk of AddrsShort.
-/
import Derived.Test.YtgmjfnddeogfdabDoorLawBk
namespace Go.Proofs.YtgmjfnddeogfdabDoor
open Go.RowKit

theorem drop_at (t : ByteArray) (k : Nat) (h : k < t.size) : t.data.toList.drop k = t[k] :: t.data.toList.drop (k + 1) := List.drop_eq_getElem_cons (by simpa using h)
theorem head_at (t : ByteArray) (k : Nat) (h : k < t.size) : (t.data.toList.drop k).head? = some t[k] := by rw [drop_at t k h]; rfl
theorem short_step (t : ByteArray) (k : Nat) (h : k < t.size) (p : Bool) (hok : okS p (t.data.toList.drop k) = true) :
    goodC t[k] = true ∧ (t[k] = 48 → p = true → ∀ h' : k + 1 < t.size, t[k + 1] = 58) ∧ okS (t[k] == 58) (t.data.toList.drop (k + 1)) = true := by
  rw [drop_at t k h, okS, Bool.and_eq_true, Bool.and_eq_true] at hok
  obtain ⟨⟨h1, h2⟩, h3⟩ := hok
  refine ⟨h1, fun e hp h' => ?_, h3⟩
  rw [head_at t (k + 1) h', e, hp, drop_at t (k + 1) h'] at h2
  simpa using h2
theorem two_step (t : ByteArray) (k : Nat) (h : k < t.size) (q : Bool) : twoS q (t.data.toList.drop k) = (if q && t[k] == 58 then 1 else 0) + twoS (t[k] == 58) (t.data.toList.drop (k + 1)) := by
  rw [drop_at t k h, twoS]
/-- What is known at a sign's place. -/
def ShortAt (t : ByteArray) (k c : Nat) (p q : Bool) : Prop := okS p (t.data.toList.drop k) = true ∧ c + twoS q (t.data.toList.drop k) ≤ 1
theorem short_next {t : ByteArray} {k c : Nat} {p q : Bool} (h : k < t.size) (hs : ShortAt t k c p q) : ShortAt t (k + 1) (c + if q && t[k] == 58 then 1 else 0) (t[k] == 58) (t[k] == 58) :=
  ⟨(short_step t k h p hs.1).2.2, by have := hs.2; rw [two_step t k h] at this; omega⟩

set_option maxRecDepth 100000 in
set_option maxHeartbeats 4000000 in
theorem short_walk (l : List Nat) (w : World) (hl : l.length = 16) (hb : ∀ x ∈ l, x < 256) (h10 : Fmt 10 256 w) (h16 : Fmt 16 65536 w) :
    Calls Tryd.prog 6 #[.agg (l.map u8v).toArray] w fun e w' => e = .returned (.bool true) ∧ Below w.heap.size w w' := by
  have HF10 := Lib.hid h10; have HF16 := Lib.hid h16
  have HBd : Hid (∀ x ∈ l, x < 256) := Lib.hid hb
  obtain ⟨B, HB⟩ : ∃ B, Hid ((l.map u8v).toArray = B) := ⟨_, Lib.hid rfl⟩
  rw [HB.out]
  have HBs : Hid (B.size = 16) := Lib.hid (by rw [← HB.out]; simp [hl])
  have Hl := Lib.hid hl
  obtain ⟨hzB, hiB⟩ := zero_of_info infoB
  have HDB : Hid ((Tryd.prog.info? 22).map (·.size) = some B.size) := Lib.hid (by rw [hiB, HBs.out])
  obtain ⟨CT, HCT⟩ : ∃ C, Hid (cellsA true l = C) := ⟨_, Lib.hid rfl⟩
  have HBt : Hid (Tryd.prog.built 24 [(0, .bool true), (1, .agg B)] = some CT) := Lib.hid (by rw [← HB.out, ← HCT.out]; exact built_six l Hl.out)
  obtain ⟨t, HT⟩ : ∃ t, Hid (asB (textD true l) = t) := ⟨_, Lib.hid rfl⟩
  have C6 : Hid (∀ w', Below w.heap.size w w' → Calls Tryd.prog 9 #[.agg CT] w' fun e w'' => e = .returned (.string t) ∧ Below w'.heap.size w' w'') := Lib.hid (fun w' hb' => by
    have := Text_any true l w' Hl.out HBd.out (HF10.out.later hb') (HF16.out.later hb')
    rwa [HCT.out, HT.out] at this)
  have hm := six_made l hb
  have HD : Hid (t.data.toList = sixT l) := Lib.hid (by rw [← HT.out]; rfl)
  have hsz : t.size = (sixT l).length := by rw [← HT.out, asB_size]; rfl
  have h2 : 2 ≤ t.size := by rw [hsz]; exact hm.2.2.1
  have h39 : t.size ≤ 39 := by rw [hsz]; exact hm.2.2.2
  have HS0 : Hid (ShortAt t 0 0 true false) := Lib.hid ⟨by rw [List.drop_zero, HD.out]; exact hm.1, by rw [List.drop_zero, HD.out, Nat.zero_add]; exact hm.2.1⟩
  clear hl hb h10 h16 hzB hiB hm hsz
  go_enter Tryd.func6, Tryd.ntmps6
  go_wp2_with (first
    | (refine wpList_load_row rfl 22 _ rfl w.heap.size ?_ 22 B (0, 0) _ ?_ Tryd.underlying22 rfl HDB.out ?_; (exact rfl); (exact heap_alloc_new w _))
    | (refine wpL_build rfl 24 _ rfl CT ?_ ?_; exact HBt.out))
  have Z1 : Hid (Below w.heap.size w (w.alloc (.cells B 22))) := Lib.hid ((Below.refl _ _).alloc (Nat.le_refl _) _)
  refine (C6.out _ Z1.out).mono ?_
  rintro e w1 ⟨rfl, b1⟩
  have Z2 : Hid (Below w.heap.size w w1) := Lib.hid (Z1.out.trans (b1.mono Z1.out.size))
  clear b1
  go_wp2_with fail
  go_loop [4, 5] (fun n i => ∃ (k c : Nat) (p q : Bool), k ≤ t.size ∧ c ≤ 1 ∧ i = .int .i64 k ∧ n = .int .i64 c ∧ Hid (ShortAt t k c p q) ∧ Hid ((k = 0 ∧ p = true ∧ q = false) ∨ ∃ j, ∃ h : j < t.size, k = j + 1 ∧ p = (t[j] == 58) ∧ q = (t[j] == 58))) (fun _ i => t.size - (intOf i).toNat)
  case atStart => exact ⟨0, 0, true, false, Nat.zero_le _, by omega, rfl, rfl, HS0, Lib.hid (.inl ⟨rfl, rfl, rfl⟩)⟩
  case round =>
    obtain ⟨k, c, p, q, hk, hc, rfl, rfl, HS, HW⟩ := hrel
    by_cases hlt : k < t.size
    · have HN := Lib.hid (short_next hlt HS.out)
      have HP := Lib.hid (short_step t k hlt p HS.out.1)
      have hg : t[k] = 58 ∨ (48 ≤ (t[k].toNat : Int) ∧ (t[k].toNat : Int) ≤ 57 ∧ t[k] ≠ 58) ∨ (97 ≤ (t[k].toNat : Int) ∧ (t[k].toNat : Int) ≤ 102 ∧ t[k] ≠ 58) := by
        have := HP.out.1
        simp only [goodC, Bool.or_eq_true, beq_iff_eq, Bool.and_eq_true, decide_eq_true_eq] at this
        rcases this with (h | h) | h
        · exact .inl h
        · exact .inr (.inl ⟨by omega, by omega, fun e => by rw [e] at h; exact absurd h.2 (by decide)⟩)
        · exact .inr (.inr ⟨by omega, by omega, fun e => by rw [e] at h; exact absurd h.1 (by decide)⟩)
      rcases hg with he | ⟨g1, g2, he⟩ | ⟨g1, g2, he⟩
      · have e1 : ((t[k].toNat : Int) == 58) = true := beq_iff_eq.2 (by rw [he]; rfl)
        have e2 : ((t[k].toNat : Int) != 58) = false := by rw [bne, e1]; rfl
        have e3 : ((t[k].toNat : Int) == 48) = false := beq_eq_false_iff_ne.2 (by rw [he]; decide)
        rcases HW.out with ⟨rfl, rfl, rfl⟩ | ⟨j, hj, rfl, rfl, rfl⟩
        · clear he HW HP
          have HN' : Hid (ShortAt t (0 + 1) c (t[0] == 58) (t[0] == 58)) := HN
          go_wp2
          go_round
          case rel => exact ⟨0 + 1, c, _, _, by omega, hc, by go_num, rfl, HN', Lib.hid (.inr ⟨0, hlt, rfl, rfl, rfl⟩)⟩
          case measure => simp [intOf]; omega
        · by_cases hp : t[j] = 58
          · have f1 : ((t[j].toNat : Int) == 58) = true := beq_iff_eq.2 (by rw [hp]; rfl)
            have hj2 : 0 < ((j + 1 : Nat) : Int) := by omega
            have HN' : Hid (ShortAt t (j + 1 + 1) (c + 1) (t[j + 1] == 58) (t[j + 1] == 58)) := Lib.hid (by have := HN.out; rw [hp, he] at this; rw [he]; exact this)
            have hc1 : c + 1 ≤ 1 := by have := HN'.out.2; omega
            clear he HW HP hp HN
            go_wp2
            go_round
            case rel => exact ⟨j + 1 + 1, c + 1, _, _, by omega, hc1, by go_num, by go_num, HN', Lib.hid (.inr ⟨j + 1, hlt, rfl, rfl, rfl⟩)⟩
            case measure => simp [intOf]; omega
          · have f1 : ((t[j].toNat : Int) == 58) = false := beq_eq_false_iff_ne.2 (fun h => hp (UInt8.toNat_inj.1 (by have : (58 : UInt8).toNat = 58 := rfl; omega)))
            have HN' : Hid (ShortAt t (j + 1 + 1) c (t[j + 1] == 58) (t[j + 1] == 58)) := Lib.hid (by have := HN.out; rw [beq_eq_false_iff_ne.2 hp] at this; exact this)
            clear he HW HP hp HN
            go_wp2
            go_round
            case rel => exact ⟨j + 1 + 1, c, _, _, by omega, hc, by go_num, by go_num, HN', Lib.hid (.inr ⟨j + 1, hlt, rfl, rfl, rfl⟩)⟩
            case measure => simp [intOf]; omega
      · have e1 : ((t[k].toNat : Int) == 58) = false := beq_eq_false_iff_ne.2 (fun h => he (UInt8.toNat_inj.1 (by have : (58 : UInt8).toNat = 58 := rfl; omega)))
        have e2 : ((t[k].toNat : Int) != 58) = true := by rw [bne, e1]; rfl
        by_cases h48 : t[k] = 48
        · have e3 : ((t[k].toNat : Int) == 48) = true := beq_iff_eq.2 (by rw [h48]; rfl)
          rcases HW.out with ⟨rfl, rfl, rfl⟩ | ⟨j, hj, rfl, rfl, rfl⟩
          · have hn : 0 + 1 < t.size := by omega
            have h58 := HP.out.2.1 h48 rfl hn
            have f2 : ((t[0 + 1].toNat : Int) != 58) = false := by rw [h58]; rfl
            have hn1 : 1 < t.size := by omega
            have f3 : ((t[1].toNat : Int) != 58) = false := f2
            have f4 : ((t[1].toNat : Int) == 58) = true := by rw [show t[1] = 58 from h58]; rfl
            have HN' : Hid (ShortAt t (0 + 1) c (t[0] == 58) (t[0] == 58)) := Lib.hid (by have := HN.out; rw [beq_eq_false_iff_ne.2 he, Bool.and_false] at this; rw [beq_eq_false_iff_ne.2 he]; exact this)
            clear he HW HP HN h48 h58
            go_wp2
            go_round
            case rel => exact ⟨0 + 1, c, _, _, by omega, hc, by go_num, rfl, HN', Lib.hid (.inr ⟨0, hlt, rfl, rfl, rfl⟩)⟩
            case measure => simp [intOf]; omega
          · have hj2 : 0 < ((j + 1 : Nat) : Int) := by omega
            have hz0 : (((j + 1 : Nat) : Int) == 0) = false := beq_eq_false_iff_ne.2 (by omega)
            have hz1 : ((j : Int) + 1 == 0) = false := beq_eq_false_iff_ne.2 (by omega)
            have HN' : Hid (ShortAt t (j + 1 + 1) c (t[j + 1] == 58) (t[j + 1] == 58)) := Lib.hid (by have := HN.out; rw [beq_eq_false_iff_ne.2 he, Bool.and_false] at this; rw [beq_eq_false_iff_ne.2 he]; exact this)
            by_cases hp : t[j] = 58
            · have f1 : ((t[j].toNat : Int) == 58) = true := beq_iff_eq.2 (by rw [hp]; rfl)
              by_cases hn : j + 1 + 1 < t.size
              · have h58 := HP.out.2.1 h48 (by rw [hp]; rfl) hn
                have f2 : ((t[j + 1 + 1].toNat : Int) != 58) = false := by rw [h58]; rfl
                have f4 : ((t[j + 1 + 1].toNat : Int) == 58) = true := by rw [h58]; rfl
                have hn1 : (j : Int) + 1 + 1 < (t.size : Int) := by omega
                clear he HW HP HN h48 h58 hp
                go_wp2
                go_round
                case rel => exact ⟨j + 1 + 1, c, _, _, by omega, hc, by go_num, by go_num, HN', Lib.hid (.inr ⟨j + 1, hlt, rfl, rfl, rfl⟩)⟩
                case measure => simp [intOf]; omega
              · have hn1 : (t.size : Int) ≤ (j : Int) + 1 + 1 := by omega
                clear he HW HP HN h48 hp
                go_wp2
                go_round
                case rel => exact ⟨j + 1 + 1, c, _, _, by omega, hc, by go_num, by go_num, HN', Lib.hid (.inr ⟨j + 1, hlt, rfl, rfl, rfl⟩)⟩
                case measure => simp [intOf]; omega
            · have f1 : ((t[j].toNat : Int) == 58) = false := beq_eq_false_iff_ne.2 (fun h => hp (UInt8.toNat_inj.1 (by have : (58 : UInt8).toNat = 58 := rfl; omega)))
              clear he HW HP HN h48 hp
              go_wp2
              go_round
              case rel => exact ⟨j + 1 + 1, c, _, _, by omega, hc, by go_num, by go_num, HN', Lib.hid (.inr ⟨j + 1, hlt, rfl, rfl, rfl⟩)⟩
              case measure => simp [intOf]; omega
        · have e3 : ((t[k].toNat : Int) == 48) = false := beq_eq_false_iff_ne.2 (fun h => h48 (UInt8.toNat_inj.1 (by have : (48 : UInt8).toNat = 48 := rfl; omega)))
          clear h48
          rcases HW.out with ⟨rfl, rfl, rfl⟩ | ⟨j, hj, rfl, rfl, rfl⟩
          · have HN' : Hid (ShortAt t (0 + 1) c (t[0] == 58) (t[0] == 58)) := Lib.hid (by have := HN.out; rw [beq_eq_false_iff_ne.2 he, Bool.and_false] at this; rw [beq_eq_false_iff_ne.2 he]; exact this)
            clear he HW HP HN
            go_wp2
            go_round
            case rel => exact ⟨0 + 1, c, _, _, by omega, hc, by go_num, rfl, HN', Lib.hid (.inr ⟨0, hlt, rfl, rfl, rfl⟩)⟩
            case measure => simp [intOf]; omega
          · have hj2 : 0 < ((j + 1 : Nat) : Int) := by omega
            have HN' : Hid (ShortAt t (j + 1 + 1) c (t[j + 1] == 58) (t[j + 1] == 58)) := Lib.hid (by have := HN.out; rw [beq_eq_false_iff_ne.2 he, Bool.and_false] at this; rw [beq_eq_false_iff_ne.2 he]; exact this)
            clear he HW HP HN
            go_wp2
            go_round
            case rel => exact ⟨j + 1 + 1, c, _, _, by omega, hc, by go_num, by go_num, HN', Lib.hid (.inr ⟨j + 1, hlt, rfl, rfl, rfl⟩)⟩
            case measure => simp [intOf]; omega
      · have e1 : ((t[k].toNat : Int) == 58) = false := beq_eq_false_iff_ne.2 (by omega)
        have e2 : ((t[k].toNat : Int) != 58) = true := by rw [bne, e1]; rfl
        have e3 : ((t[k].toNat : Int) == 48) = false := beq_eq_false_iff_ne.2 (by omega)
        have g3 : 57 < (t[k].toNat : Int) := by omega
        have g4 : 48 ≤ (t[k].toNat : Int) := by omega
        rcases HW.out with ⟨rfl, rfl, rfl⟩ | ⟨j, hj, rfl, rfl, rfl⟩
        · have HN' : Hid (ShortAt t (0 + 1) c (t[0] == 58) (t[0] == 58)) := Lib.hid (by have := HN.out; rw [beq_eq_false_iff_ne.2 he, Bool.and_false] at this; rw [beq_eq_false_iff_ne.2 he]; exact this)
          clear he HW HP HN
          go_wp2
          go_round
          case rel => exact ⟨0 + 1, c, _, _, by omega, hc, by go_num, rfl, HN', Lib.hid (.inr ⟨0, hlt, rfl, rfl, rfl⟩)⟩
          case measure => simp [intOf]; omega
        · have hj2 : 0 < ((j + 1 : Nat) : Int) := by omega
          have HN' : Hid (ShortAt t (j + 1 + 1) c (t[j + 1] == 58) (t[j + 1] == 58)) := Lib.hid (by have := HN.out; rw [beq_eq_false_iff_ne.2 he, Bool.and_false] at this; rw [beq_eq_false_iff_ne.2 he]; exact this)
          clear he HW HP HN
          go_wp2
          go_round
          case rel => exact ⟨j + 1 + 1, c, _, _, by omega, hc, by go_num, by go_num, HN', Lib.hid (.inr ⟨j + 1, hlt, rfl, rfl, rfl⟩)⟩
          case measure => simp [intOf]; omega
    · have e1 : k = t.size := by omega
      clear HS HW HS0
      go_wp2_with fail
      refine (alive4_any _ (HF10.out.later Z2.out) (HF16.out.later Z2.out)).mono ?_
      rintro e w2 ⟨rfl, b2⟩
      have Z3 : Hid (Below w.heap.size w w2) := Lib.hid (Z2.out.trans (b2.mono Z2.out.size))
      clear b2 e1
      go_wp2
      go_ret
      exact ⟨congrArg (fun b => Ending.returned (.bool b)) (decide_eq_true (by omega : (c : Int) ≤ 1)), Z3.out⟩

end Go.Proofs.YtgmjfnddeogfdabDoor
