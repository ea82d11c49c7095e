/-
  footmanlaw12.HeadsLimit: bytes without an end.
-/
import Derived.Test.YtbfnbjffobhllaaDoorHdX
import Derived.Test.YtbfnbjffobhllaaDoorHdR
namespace Go.Proofs.YtbfnbjffobhllaaDoor
open Go.RowKit

theorem ownB_at2 {base : Nat} {v : Value} {l : List UInt8} {w : World} (h : OwnB base v l w) : (v = .slice none 0 0 ∧ l = []) ∨ ∃ cap g, v = .slice (some ⟨g, 0, none⟩) l.length cap ∧ BxAt l (some ⟨g, 0, none⟩) cap g 0 w ∧ cap ≤ maxLen ∧ base ≤ g := by
  obtain ⟨hl, h2 | ⟨g, cap, cur, rfl, hgb, hg, hnc, hcm, hcs, hct⟩⟩ := h.h
  · exact .inl ⟨h2.1, List.length_eq_zero_iff.1 h2.2⟩
  · exact .inr ⟨cap, g, rfl, ⟨fun _ => rfl, fun i hi => by
      rw [Nat.zero_add, h.h.cellAt i (by omega), List.getElem?_map, List.getElem?_eq_getElem hi]; rfl, hnc, fun e => by cases e⟩, hcm, hgb⟩
theorem bx_take {l : List UInt8} {a : Option Addr} {cap g o : Nat} {w : World} (h : BxAt l a cap g o w) (k : Nat) : BxAt (l.take k) a cap g o w :=
  ⟨fun h0 => h.at0 (by rw [List.length_take] at h0; omega), fun i hi => by
    have hi2 : i < l.length := by rw [List.length_take] at hi; omega
    rw [h.c i hi2, List.getElem_take], by have := h.cp; rw [List.length_take]; omega, h.nl⟩
theorem none_read {b : List UInt8} (rd : List UInt8 → Option Fst12) (h : (10 : UInt8) ∉ b) : readD rd b = (msg0, 0, if 65536 ≤ b.length then 3 else 7) := by
  have h1 := read_none rd h
  rcases read_err rd b with e | ⟨e1, e2, _⟩
  · rw [h1] at e
    split at e <;> cases e
  · rw [← h1, ← e1, ← e2]
theorem own_nil {base : Nat} {v : Value} {F : List BF} {w : World} (hF : flL F = []) (h : OwnF base v F w) : ∃ p c, v = .slice p 0 c := by
  have hF0 : F = [] := by
    have : (flL F).length = 0 := by rw [hF]; rfl
    rw [flL_len] at this
    exact List.length_eq_zero_iff.1 this
  subst hF0
  exact own_form h
def lenOf : Value → Nat
  | .slice _ n _ => n
  | _ => 0
set_option maxRecDepth 100000 in
set_option maxHeartbeats 8000000 in
theorem hlimit_walk (s : ByteArray) (n : Nat) (m : Int) (w : World) (hn : n < 4294967296) (hs : s.size ≤ 140737488355328) (hw : MxAt m w) :
    Calls Tryd.prog 9 #[.string s, .int .u32 (n : Int)] w fun e w' => e = .returned (.bool true) ∧ Below w.heap.size w w' := by
  have HM := Lib.hid hw
  have HA := Lib.hid fun w h => alive12_any m w h
  clear hw
  go_enter Tryd.func9, Tryd.ntmps9
  go_wp2
  go_loopw [5] (fun i wr => ∃ k : Nat, k ≤ s.size ∧ i = .int .i64 (k : Int) ∧ Hid ((10 : UInt8) ∉ s.data.toList.take k) ∧ wr = w) (fun i _ => s.size - (intOf i).toNat)
  case atStart => exact ⟨0, Nat.zero_le _, rfl, Lib.hid (by simp), rfl⟩
  case round =>
    obtain ⟨k, hk, rfl, HP, hwr⟩ := hrel
    have hwr := hwr.symm
    subst hwr
    by_cases hlt : k < s.size
    · have hltI : (k : Int) < (s.size : Int) := by omega
      have hkl : k < s.data.toList.length := by rw [lenB]; exact hlt
      obtain ⟨x, Hx, Hxt⟩ : ∃ x : UInt8, Hid (s[k] = x) ∧ Hid (s.data.toList.take (k + 1) = s.data.toList.take k ++ [x]) := ⟨s[k], Lib.hid rfl, Lib.hid (by
        rw [List.take_add_one, List.getElem?_eq_getElem hkl]; rfl)⟩
      have hxe : s[k] = x := Hx.out
      by_cases h10 : (x.toNat : Int) = 10
      · have HAw := Lib.hid (HA.out w HM.out)
        go_wp2_with fail
        refine HAw.out.mono ?_
        rintro e w1 ⟨rfl, b1⟩
        go_wp2
        go_ret
        exact ⟨rfl, b1⟩
      · have HP2 : Hid ((10 : UInt8) ∉ s.data.toList.take (k + 1)) := Lib.hid (by
          rw [Hxt.out, List.mem_append]
          rintro (h | h)
          · exact HP.out h
          · rw [← List.mem_singleton.1 h] at h10
            exact h10 rfl)
        go_wp2_with fail
        go_roundw
        case rel => exact ⟨k + 1, by omega, by go_num, HP2, by trivial⟩
        case measure => simp [intOf]; omega
    · have hge : ¬ (k : Int) < (s.size : Int) := by omega
      have HN : Hid ((10 : UInt8) ∉ s.data.toList) := Lib.hid (by
        have := HP.out
        rwa [List.take_of_length_le (by rw [lenB]; omega)] at this)
      clear HP
      by_cases h0 : s.size = 0
      · have h0' : s.toList = [] := by
          rw [Lib.toList_data]
          exact List.length_eq_zero_iff.1 (by rw [lenB]; exact h0)
        have h0e : s.toList.isEmpty = true := by rw [h0']; rfl
        have h0b : (s.toList == []) = true := by rw [h0']; rfl
        have HAw := Lib.hid (HA.out w HM.out)
        go_wp2_with fail
        refine HAw.out.mono ?_
        rintro e w1 ⟨rfl, b1⟩
        go_wp2
        go_ret
        exact ⟨rfl, b1⟩
      · have h0' : ¬ s.toList = [] := fun e => by
          rw [Lib.toList_data] at e
          have := lenB s
          rw [e] at this
          exact h0 this.symm
        have h0e : s.toList.isEmpty = false := by cases hh : s.toList with
          | nil => exact absurd hh h0'
          | cons => rfl
        have h0b : (s.toList == []) = false := by cases hh : s.toList with
          | nil => exact absurd hh h0'
          | cons => rfl
        by_cases hbig : 200000 < s.size
        · have hbigI : (200000 : Int) < (s.size : Int) := by omega
          have HAw := Lib.hid (HA.out w HM.out)
          go_wp2_with fail
          refine HAw.out.mono ?_
          rintro e w1 ⟨rfl, b1⟩
          go_wp2
          go_ret
          exact ⟨rfl, b1⟩
        · have hbigI : ¬ (200000 : Int) < (s.size : Int) := by omega
          obtain ⟨K, hK, hKe, hKi⟩ : ∃ K : Nat, K < 70000 ∧ n % 70000 = K ∧ (n : Int) % 70000 = (K : Int) := ⟨n % 70000, Nat.mod_lt _ (by decide), rfl, by omega⟩
          have h0s : 0 < s.size := by omega
          have hs2 : s.size ≤ 200000 := by omega
          go_wp2
          clear h0 hbigI
          go_loopw [7] (fun v wl => ∃ l : List UInt8, OwnB w.heap.size v l wl ∧ Hid ((10 : UInt8) ∉ l) ∧ l.length ≤ K + s.size ∧ Hid (Below w.heap.size w wl)) (fun v _ => K - lenOf v)
          case atStart => exact ⟨[], OwnB.nil _ _, Lib.hid (by simp), Nat.zero_le _, Lib.hid (Below.refl _ _)⟩
          case round =>
            obtain ⟨l, hO, HL, hl, HB⟩ := hrel
            have HO := Lib.hid hO
            obtain ⟨p, c, rfl, hlc, hcm, hpn⟩ := ownB_form hO
            by_cases hlK : l.length < K
            · have hlKI : (l.length : Int) < (K : Int) := by omega
              obtain ⟨v', w1, hrun, ho1, hg1⟩ := hO.step s (by omega) HB.out.size
              have HO1 := Lib.hid ho1
              have HB1 : Hid (Below w.heap.size w w1) := Lib.hid (HB.out.grown hg1 HB.out.size (fun q hq => (HO.out.h.lt q hq).1))
              obtain ⟨p1, c1, rfl, _⟩ := ownB_form ho1
              have HL1 : Hid ((10 : UInt8) ∉ l ++ s.data.toList) := Lib.hid (by
                rw [List.mem_append]
                rintro (h | h)
                · exact HL.out h
                · exact HN.out h)
              have HRun := Lib.hid hrun
              clear hO ho1 hg1 hpn hrun
              go_wp2_with (at_builtin; refine Lib.wpList_append_run _ rfl _ _ _ _ rfl _ _ rfl rfl _ _ HRun.out ?_)
              go_roundw
              case rel => exact ⟨l ++ s.data.toList, by have := HO1.out; rwa [List.length_append, lenB] at this, HL1, by rw [List.length_append, lenB]; omega, HB1⟩
              case measure => simp only [lenOf]; omega
            · have hlKI : ¬ (l.length : Int) < (K : Int) := by omega
              have hKl : K ≤ l.length := by omega
              obtain ⟨C, HC, HC7⟩ : ∃ C : Int, Hid (C = if 65536 ≤ K then 3 else 7) ∧ C ≠ 0 := ⟨_, Lib.hid rfl, by split <;> decide⟩
              have HT : Hid ((l.take K).length = K ∧ (10 : UInt8) ∉ l.take K) := Lib.hid ⟨by rw [List.length_take]; omega, fun h => HL.out (List.mem_of_mem_take h)⟩
              have HRd : Hid (∀ rd, readD rd (l.take K) = (msg0, 0, C)) := Lib.hid fun rd => by rw [none_read rd HT.out.2, HT.out.1, HC.out]
              obtain ⟨g, HBx, hor⟩ : ∃ g, Hid (BxAt (l.take K) p c g 0 wr) ∧ ((p = none ∧ c = 0 ∧ K = 0) ∨ p = some ⟨g, 0, none⟩) := by
                rcases ownB_at2 HO.out with ⟨h1, h2⟩ | ⟨cap, g, h1, h2, h3, _⟩
                · injection h1 with h1 h2' h3
                  have h0l : l.length = 0 := by rw [h2]; rfl
                  have hK0 : K = 0 := by omega
                  subst h1
                  exact ⟨0, Lib.hid ⟨fun h => absurd h (by rw [HT.out.1]; omega), fun i h => absurd h (by rw [HT.out.1]; omega), by rw [HT.out.1]; omega, fun _ => h3⟩, .inl ⟨rfl, h3, hK0⟩⟩
                · injection h1 with h1 h2' h3
                  subst h3
                  exact ⟨g, Lib.hid (by rw [h1]; exact bx_take h2 K), .inr h1⟩
              have HMr := Lib.hid (HM.out.later HB.out)
              have HG1 : Hid (Calls Tryd.prog 24 #[.slice p K c] wr (ReadR wr (msg0, 0, C))) := Lib.hid (by
                have := Get_any (l.take K) p c g 0 m wr HBx.out hcm HMr.out
                rwa [HT.out.1, HRd.out] at this)
              have HR1 : Hid (∀ w', Below wr.heap.size wr w' → Calls Tryd.prog 22 #[.slice p K c] w' (ReadR w' (msg0, 0, C))) := Lib.hid fun w' h => by
                have := Request_any (l.take K) p c g 0 m w' (HBx.out.later h) hcm (HMr.out.later h)
                rwa [HT.out.1, HRd.out] at this
              have hCK : (C = 3 ∧ (65536 : Int) ≤ (K : Int)) ∨ (C = 7 ∧ ¬ (65536 : Int) ≤ (K : Int)) := by
                rw [HC.out]
                by_cases h : 65536 ≤ K
                · rw [if_pos h]; exact .inl ⟨rfl, by omega⟩
                · rw [if_neg h]; exact .inr ⟨rfl, by omega⟩
              clear hO hpn HC
              rcases hor with ⟨rfl, rfl, rfl⟩ | rfl <;> rcases hCK with ⟨rfl, hK6⟩ | ⟨rfl, hK6⟩
              · exact absurd hK6 (by decide)
              all_goals
                go_wp2_with fail
                refine HG1.out.mono ?_
                rintro e w1 ⟨v1, F1, hF1, rfl, ho1, b1⟩
                obtain ⟨p1, c1, rfl⟩ := own_nil hF1 ho1
                have HB1 := Lib.hid b1
                obtain ⟨W2, HW2⟩ : ∃ W, Hid (w1.alloc (.cells (msC fst0 (.slice p1 0 c1)) 26) = W) := ⟨_, Lib.hid rfl⟩
                have HB2 : Hid (Below wr.heap.size wr W2) := Lib.hid (by rw [← HW2.out]; exact HB1.out.alloc HB1.out.size _)
                clear hF1 ho1 b1
                go_wp2_with (refine wpL_store_row rfl 26 _ _ rfl w1.heap.size (msC fst0 (.slice p1 0 c1)) ?_ ?_ 26 (msC fst0 (.slice none 0 0)) (heap_alloc_new _ _) infoMs rfl (msC_one _ _ rfl) ?_; (exact rfl); (exact rfl); (rw [World.setRow_alloc_new, HW2.out]))
                refine (HR1.out _ HB2.out).mono ?_
                rintro e w3 ⟨v3, F3, hF3, rfl, ho3, b3⟩
                obtain ⟨p3, c3, rfl⟩ := own_nil hF3 ho3
                have HB3 := Lib.hid (HB2.out.trans (b3.mono HB2.out.size))
                obtain ⟨W4, HW4⟩ : ∃ W, Hid (w3.alloc (.cells (msC fst0 (.slice p3 0 c3)) 26) = W) := ⟨_, Lib.hid rfl⟩
                have HB4 : Hid (Below wr.heap.size wr W4) := Lib.hid (by rw [← HW4.out]; exact HB3.out.alloc HB3.out.size _)
                clear hF3 ho3 b3
                have HAw := Lib.hid (HA.out W4 (HMr.out.later HB4.out))
                go_wp2_with (refine wpL_store_row rfl 26 _ _ rfl w3.heap.size (msC fst0 (.slice p3 0 c3)) ?_ ?_ 26 (msC fst0 (.slice none 0 0)) (heap_alloc_new _ _) infoMs rfl (msC_one _ _ rfl) ?_; (exact rfl); (exact rfl); (rw [World.setRow_alloc_new, HW4.out]))
                refine HAw.out.mono ?_
                rintro e w5 ⟨rfl, b5⟩
                go_wp2
                go_ret
                exact ⟨rfl, HB.out.trans ((HB4.out.trans (b5.mono HB4.out.size)).mono HB.out.size)⟩

end Go.Proofs.YtbfnbjffobhllaaDoor
