/-
  Contract: the document's Signs.
-/
import Derived.Test.YtdifdikfgkiocaaGreatDoorMpH
namespace Go.Proofs.YtdifdikfgkiocaaGreatDoor
open Go.RowKit

set_option maxRecDepth 100000 in
set_option maxHeartbeats 40000000 in
theorem Signs_any (s : ByteArray) (w : World) (hs : s.size ≤ 1000000) :
    Calls Tryz.prog 109 #[.string s] w (SgP w (sgO s s.size 0)) := by
  obtain ⟨T, HT⟩ : ∃ T, Hid (sgO s s.size 0 = T) := ⟨_, Lib.hid rfl⟩
  rw [HT.out]
  obtain ⟨g, HG⟩ : ∃ g, Hid (g = w.heap.size) := ⟨_, Lib.hid rfl⟩
  have HFin : Hid (∀ (e : Ending) (w' : World), T = none → e = .returned (.tuple #[.slice none 0 0, .bool false]) → Below g w w' → SgP w T e w') := Lib.hid (fun e w' h1 h2 h3 => .inr ⟨h1, h2, by rw [← HG.out]; exact h3⟩)
  go_enter Tryz.func109, Tryz.ntmps109
  go_wp2
  go_loopw [4, 5] (fun b i wr => ∃ (f pos : Nat) (D : List Nat), i = .int .i64 pos ∧ pos ≤ s.size ∧ s.size ≤ pos + f ∧ D.length ≤ pos ∧ Hid ((sgO s f pos).map (fun l => D ++ l) = T) ∧ Hid (wr.ownsRow g 3 1 b D.length (D.map iv)) ∧ Hid (Below g w wr)) (fun _ i _ => s.size - (intOf i).toNat)
  case atStart => exact ⟨s.size, 0, [], rfl, Nat.zero_le _, by omega, Nat.zero_le _, Lib.hid (by rw [HT.out]; simp), Lib.hid ⟨rfl, .inl ⟨rfl, rfl⟩⟩, Lib.hid (by rw [HG.out]; exact Below.refl _ _)⟩
  case round =>
    obtain ⟨f, i, D, rfl, hi, hf, hD, HE, HR, HB⟩ := hrel
    by_cases hlt : i < s.size
    · obtain ⟨f, rfl⟩ : ∃ q, f = q + 1 := ⟨f - 1, by omega⟩
      have hby := byte_lt s[i]
      have HBad : Hid (Utf8.decode s i = (65533, 1) → T = none) := Lib.hid (fun h => by rw [← HE.out, sgO_bad s f i hlt h]; rfl)
      have HOk : Hid (∀ r n, Utf8.decode s i = (r, n) → ¬ (r = 65533 ∧ n = 1) → ∃ v' w1, (Builtin.append_ #[63, 63] 63 #[u4, .slice (some ⟨wr.heap.size, 0, none⟩) 1 1]).run Tryz.prog (wr.alloc (.cells #[.int .i64 (r : Int)] 3)) = .ok v' w1 ∧
          Hid ((sgO s f (i + n)).map (fun l => (D ++ [r]) ++ l) = T) ∧ Hid (w1.ownsRow g 3 1 v' (D ++ [r]).length ((D ++ [r]).map iv)) ∧ Hid (Below g w w1)) := Lib.hid (fun r n h hr => by
        have hgz : g ≤ wr.heap.size := by have := HB.out.size; rw [HG.out]; exact this
        obtain ⟨v', w1, h1, h2, h3⟩ := appS g u4 D r wr w HR.out (by omega) hgz HB.out
        refine ⟨v', w1, h1, Lib.hid ?_, Lib.hid h2, Lib.hid h3⟩
        rw [← HE.out, sgO_ok s f i r n hlt h hr]
        simp only [Option.map_map]
        congr 1
        funext l
        simp)
      by_cases hA : s[i].toNat < 128
      · obtain ⟨v', w1, hrun, H1, H2, H3⟩ := HOk.out _ _ (decA s i hlt hA) (by omega)
        have HRun := Lib.hid hrun
        clear hrun HBad HOk
        go_wp2
        refine wp_loop_rounds 1 ?_
        rw [rounds_succ]
        go_wp2_with (at_builtin; refine Lib.wpList_append_run _ rfl _ _ _ _ rfl _ _ rfl rfl _ _ HRun.out ?_)
        go_roundw
        case rel => exact ⟨f, i + 1, D ++ [_], by go_num, by omega, by omega, by simp; omega, H1, H2, H3⟩
        case measure => simp [intOf]; omega
      · by_cases hE : s[i].toNat < 192
        · have HF := Lib.hid (HBad.out (decE s i hlt (.inl ⟨by omega, hE⟩)))
          clear HBad HOk
          go_wp2
          go_ret2
          exact HFin.out _ _ HF.out rfl HB.out
        · have b1 : 192 ≤ s[i].toNat := by omega
          by_cases b2 : s[i].toNat < 224
          · by_cases hz : s.size < i + 2
            · have HF := Lib.hid (HBad.out (decB_short s i hlt b1 b2 hz))
              clear HBad HOk
              go_wp2
              go_ret2
              exact HFin.out _ _ HF.out rfl HB.out
            · have hi1 : i + 1 < s.size := by omega
              have hby1 := byte_lt s[i + 1]
              by_cases x1 : s[i + 1].toNat < 128
              · have HF := Lib.hid (HBad.out (decB_bad s i (by omega) b1 b2 (.inl x1)))
                clear HBad HOk
                go_wp2
                refine wp_loop_rounds 1 ?_
                rw [rounds_succ]
                go_wp2
                go_ret2
                exact HFin.out _ _ HF.out rfl HB.out
              · by_cases y1 : 192 ≤ s[i + 1].toNat
                · have HF := Lib.hid (HBad.out (decB_bad s i (by omega) b1 b2 (.inr y1)))
                  clear HBad HOk
                  go_wp2
                  refine wp_loop_rounds 1 ?_
                  rw [rounds_succ]
                  go_wp2
                  go_ret2
                  exact HFin.out _ _ HF.out rfl HB.out
                · obtain ⟨r, Hr⟩ : ∃ r, Hid (r = 64 * (s[i].toNat - 192) + s[i + 1].toNat - 128) := ⟨_, Lib.hid rfl⟩
                  have hdec := decB s i (by omega) b1 b2 ⟨by omega, by omega⟩
                  rw [← Hr.out] at hdec
                  have hrI : 64 * ((s[i].toNat : Int) - 192) + (s[i + 1].toNat : Int) - 128 = (r : Int) := by rw [Hr.out]; omega
                  have hrb : r ≤ 2047 := by rw [Hr.out]; omega
                  have HDec := Lib.hid hdec
                  clear hdec
                  by_cases hr : r < 128
                  · have HF := Lib.hid (HBad.out (by rw [HDec.out, if_pos hr]))
                    clear HBad HOk
                    go_wp2
                    refine wp_loop_rounds 2 ?_
                    rw [rounds_succ]
                    go_wp2
                    rw [rounds_succ]
                    go_wp2
                    go_ret2
                    exact HFin.out _ _ HF.out rfl HB.out
                  · obtain ⟨v', w1, hrun, H1, H2, H3⟩ := HOk.out _ _ (by rw [HDec.out, if_neg hr]) (by omega)
                    have HRun := Lib.hid hrun
                    clear hrun HBad HOk
                    go_wp2
                    refine wp_loop_rounds 2 ?_
                    rw [rounds_succ]
                    go_wp2
                    rw [rounds_succ]
                    go_wp2_with (at_builtin; refine Lib.wpList_append_run _ rfl _ _ _ _ rfl _ _ rfl rfl _ _ HRun.out ?_)
                    go_roundw
                    case rel => exact ⟨f, i + 2, D ++ [_], by go_num, by omega, by omega, by simp; omega, H1, H2, H3⟩
                    case measure => simp [intOf]; omega
          · clear b1
            have b1 : 224 ≤ s[i].toNat := by omega
            by_cases b2 : s[i].toNat < 240
            · by_cases hz : s.size < i + 3
              · have HF := Lib.hid (HBad.out (decC_short s i hlt b1 b2 hz))
                clear HBad HOk
                go_wp2
                go_ret2
                exact HFin.out _ _ HF.out rfl HB.out
              · have hi1 : i + 1 < s.size := by omega
                have hi2 : i + 2 < s.size := by omega
                have hby1 := byte_lt s[i + 1]
                have hby2 := byte_lt s[i + 2]
                by_cases x1 : s[i + 1].toNat < 128
                · have HF := Lib.hid (HBad.out (decC_bad s i (by omega) b1 b2 (.inl (.inl x1))))
                  clear HBad HOk
                  go_wp2
                  refine wp_loop_rounds 1 ?_
                  rw [rounds_succ]
                  go_wp2
                  go_ret2
                  exact HFin.out _ _ HF.out rfl HB.out
                · by_cases y1 : 192 ≤ s[i + 1].toNat
                  · have HF := Lib.hid (HBad.out (decC_bad s i (by omega) b1 b2 (.inl (.inr y1))))
                    clear HBad HOk
                    go_wp2
                    refine wp_loop_rounds 1 ?_
                    rw [rounds_succ]
                    go_wp2
                    go_ret2
                    exact HFin.out _ _ HF.out rfl HB.out
                  · by_cases x2 : s[i + 2].toNat < 128
                    · have HF := Lib.hid (HBad.out (decC_bad s i (by omega) b1 b2 (.inr (.inl x2))))
                      clear HBad HOk
                      go_wp2
                      refine wp_loop_rounds 2 ?_
                      rw [rounds_succ]
                      go_wp2
                      rw [rounds_succ]
                      go_wp2
                      go_ret2
                      exact HFin.out _ _ HF.out rfl HB.out
                    · by_cases y2 : 192 ≤ s[i + 2].toNat
                      · have HF := Lib.hid (HBad.out (decC_bad s i (by omega) b1 b2 (.inr (.inr y2))))
                        clear HBad HOk
                        go_wp2
                        refine wp_loop_rounds 2 ?_
                        rw [rounds_succ]
                        go_wp2
                        rw [rounds_succ]
                        go_wp2
                        go_ret2
                        exact HFin.out _ _ HF.out rfl HB.out
                      · obtain ⟨p1, Hp1⟩ : ∃ p, Hid (p = 64 * (s[i].toNat - 224) + s[i + 1].toNat - 128) := ⟨_, Lib.hid rfl⟩
                        obtain ⟨r, Hr⟩ : ∃ r, Hid (r = 64 * p1 + s[i + 2].toNat - 128) := ⟨_, Lib.hid rfl⟩
                        have hdec := decC s i (by omega) b1 b2 ⟨by omega, by omega⟩ ⟨by omega, by omega⟩ r (by rw [Hr.out, Hp1.out])
                        have hpI : 64 * ((s[i].toNat : Int) - 224) + (s[i + 1].toNat : Int) - 128 = (p1 : Int) := by rw [Hp1.out]; omega
                        have hpb : p1 ≤ 1023 := by rw [Hp1.out]; omega
                        have hrI : 64 * (p1 : Int) + (s[i + 2].toNat : Int) - 128 = (r : Int) := by rw [Hr.out]; omega
                        have hrb : r ≤ 65535 := by rw [Hr.out]; omega
                        have HDec := Lib.hid hdec
                        clear hdec
                        by_cases hr : r < 2048
                        · have HF := Lib.hid (HBad.out (by rw [HDec.out, if_pos (.inl hr)]))
                          clear HBad HOk
                          go_wp2
                          refine wp_loop_rounds 3 ?_
                          rw [rounds_succ]
                          go_wp2
                          rw [rounds_succ]
                          go_wp2
                          rw [rounds_succ]
                          go_wp2
                          go_ret2
                          exact HFin.out _ _ HF.out rfl HB.out
                        · by_cases hr1 : 55296 ≤ r
                          · by_cases hr2 : r ≤ 57343
                            · have HF := Lib.hid (HBad.out (by rw [HDec.out, if_pos (.inr ⟨hr1, hr2⟩)]))
                              clear HBad HOk
                              go_wp2
                              refine wp_loop_rounds 3 ?_
                              rw [rounds_succ]
                              go_wp2
                              rw [rounds_succ]
                              go_wp2
                              rw [rounds_succ]
                              go_wp2
                              go_ret2
                              exact HFin.out _ _ HF.out rfl HB.out
                            · obtain ⟨v', w1, hrun, H1, H2, H3⟩ := HOk.out _ _ (by rw [HDec.out, if_neg (by omega)]) (by omega)
                              have HRun := Lib.hid hrun
                              clear hrun HBad HOk
                              go_wp2
                              refine wp_loop_rounds 3 ?_
                              rw [rounds_succ]
                              go_wp2
                              rw [rounds_succ]
                              go_wp2
                              rw [rounds_succ]
                              go_wp2_with (at_builtin; refine Lib.wpList_append_run _ rfl _ _ _ _ rfl _ _ rfl rfl _ _ HRun.out ?_)
                              go_roundw
                              case rel => exact ⟨f, i + 3, D ++ [_], by go_num, by omega, by omega, by simp; omega, H1, H2, H3⟩
                              case measure => simp [intOf]; omega
                          · obtain ⟨v', w1, hrun, H1, H2, H3⟩ := HOk.out _ _ (by rw [HDec.out, if_neg (by omega)]) (by omega)
                            have HRun := Lib.hid hrun
                            clear hrun HBad HOk
                            go_wp2
                            refine wp_loop_rounds 3 ?_
                            rw [rounds_succ]
                            go_wp2
                            rw [rounds_succ]
                            go_wp2
                            rw [rounds_succ]
                            go_wp2_with (at_builtin; refine Lib.wpList_append_run _ rfl _ _ _ _ rfl _ _ rfl rfl _ _ HRun.out ?_)
                            go_roundw
                            case rel => exact ⟨f, i + 3, D ++ [_], by go_num, by omega, by omega, by simp; omega, H1, H2, H3⟩
                            case measure => simp [intOf]; omega
            · clear b1
              have b1 : 240 ≤ s[i].toNat := by omega
              by_cases b2 : s[i].toNat < 248
              · by_cases hz : s.size < i + 4
                · have HF := Lib.hid (HBad.out (decD_short s i hlt b1 b2 hz))
                  clear HBad HOk
                  go_wp2
                  go_ret2
                  exact HFin.out _ _ HF.out rfl HB.out
                · have hi1 : i + 1 < s.size := by omega
                  have hi2 : i + 2 < s.size := by omega
                  have hi3 : i + 3 < s.size := by omega
                  have hby1 := byte_lt s[i + 1]
                  have hby2 := byte_lt s[i + 2]
                  have hby3 := byte_lt s[i + 3]
                  by_cases x1 : s[i + 1].toNat < 128
                  · have HF := Lib.hid (HBad.out (decD_bad s i (by omega) b1 b2 (.inl (.inl x1))))
                    clear HBad HOk
                    go_wp2
                    refine wp_loop_rounds 1 ?_
                    rw [rounds_succ]
                    go_wp2
                    go_ret2
                    exact HFin.out _ _ HF.out rfl HB.out
                  · by_cases y1 : 192 ≤ s[i + 1].toNat
                    · have HF := Lib.hid (HBad.out (decD_bad s i (by omega) b1 b2 (.inl (.inr y1))))
                      clear HBad HOk
                      go_wp2
                      refine wp_loop_rounds 1 ?_
                      rw [rounds_succ]
                      go_wp2
                      go_ret2
                      exact HFin.out _ _ HF.out rfl HB.out
                    · by_cases x2 : s[i + 2].toNat < 128
                      · have HF := Lib.hid (HBad.out (decD_bad s i (by omega) b1 b2 (.inr (.inl (.inl x2)))))
                        clear HBad HOk
                        go_wp2
                        refine wp_loop_rounds 2 ?_
                        rw [rounds_succ]
                        go_wp2
                        rw [rounds_succ]
                        go_wp2
                        go_ret2
                        exact HFin.out _ _ HF.out rfl HB.out
                      · by_cases y2 : 192 ≤ s[i + 2].toNat
                        · have HF := Lib.hid (HBad.out (decD_bad s i (by omega) b1 b2 (.inr (.inl (.inr y2)))))
                          clear HBad HOk
                          go_wp2
                          refine wp_loop_rounds 2 ?_
                          rw [rounds_succ]
                          go_wp2
                          rw [rounds_succ]
                          go_wp2
                          go_ret2
                          exact HFin.out _ _ HF.out rfl HB.out
                        · by_cases x3 : s[i + 3].toNat < 128
                          · have HF := Lib.hid (HBad.out (decD_bad s i (by omega) b1 b2 (.inr (.inr (.inl x3)))))
                            clear HBad HOk
                            go_wp2
                            refine wp_loop_rounds 3 ?_
                            rw [rounds_succ]
                            go_wp2
                            rw [rounds_succ]
                            go_wp2
                            rw [rounds_succ]
                            go_wp2
                            go_ret2
                            exact HFin.out _ _ HF.out rfl HB.out
                          · by_cases y3 : 192 ≤ s[i + 3].toNat
                            · have HF := Lib.hid (HBad.out (decD_bad s i (by omega) b1 b2 (.inr (.inr (.inr y3)))))
                              clear HBad HOk
                              go_wp2
                              refine wp_loop_rounds 3 ?_
                              rw [rounds_succ]
                              go_wp2
                              rw [rounds_succ]
                              go_wp2
                              rw [rounds_succ]
                              go_wp2
                              go_ret2
                              exact HFin.out _ _ HF.out rfl HB.out
                            · obtain ⟨p1, Hp1⟩ : ∃ p, Hid (p = 64 * (s[i].toNat - 240) + s[i + 1].toNat - 128) := ⟨_, Lib.hid rfl⟩
                              obtain ⟨p2, Hp2⟩ : ∃ p, Hid (p = 64 * p1 + s[i + 2].toNat - 128) := ⟨_, Lib.hid rfl⟩
                              obtain ⟨r, Hr⟩ : ∃ r, Hid (r = 64 * p2 + s[i + 3].toNat - 128) := ⟨_, Lib.hid rfl⟩
                              have hdec := decD s i (by omega) b1 b2 ⟨by omega, by omega⟩ ⟨by omega, by omega⟩ ⟨by omega, by omega⟩ r (by rw [Hr.out, Hp2.out, Hp1.out])
                              have hpI : 64 * ((s[i].toNat : Int) - 240) + (s[i + 1].toNat : Int) - 128 = (p1 : Int) := by rw [Hp1.out]; omega
                              have hpb : p1 ≤ 511 := by rw [Hp1.out]; omega
                              have hpI2 : 64 * (p1 : Int) + (s[i + 2].toNat : Int) - 128 = (p2 : Int) := by rw [Hp2.out]; omega
                              have hpb2 : p2 ≤ 32767 := by rw [Hp2.out]; omega
                              have hrI : 64 * (p2 : Int) + (s[i + 3].toNat : Int) - 128 = (r : Int) := by rw [Hr.out]; omega
                              have hrb : r ≤ 2097151 := by rw [Hr.out]; omega
                              have HDec := Lib.hid hdec
                              clear hdec
                              by_cases hr : r < 65536
                              · have HF := Lib.hid (HBad.out (by rw [HDec.out, if_pos (.inl hr)]))
                                clear HBad HOk
                                go_wp2
                                refine wp_loop_rounds 4 ?_
                                rw [rounds_succ]
                                go_wp2
                                rw [rounds_succ]
                                go_wp2
                                rw [rounds_succ]
                                go_wp2
                                rw [rounds_succ]
                                go_wp2
                                go_ret2
                                exact HFin.out _ _ HF.out rfl HB.out
                              · by_cases hr1 : 1114111 < r
                                · have HF := Lib.hid (HBad.out (by rw [HDec.out, if_pos (.inr hr1)]))
                                  clear HBad HOk
                                  go_wp2
                                  refine wp_loop_rounds 4 ?_
                                  rw [rounds_succ]
                                  go_wp2
                                  rw [rounds_succ]
                                  go_wp2
                                  rw [rounds_succ]
                                  go_wp2
                                  rw [rounds_succ]
                                  go_wp2
                                  go_ret2
                                  exact HFin.out _ _ HF.out rfl HB.out
                                · obtain ⟨v', w1, hrun, H1, H2, H3⟩ := HOk.out _ _ (by rw [HDec.out, if_neg (by omega)]) (by omega)
                                  have HRun := Lib.hid hrun
                                  clear hrun HBad HOk
                                  go_wp2
                                  refine wp_loop_rounds 4 ?_
                                  rw [rounds_succ]
                                  go_wp2
                                  rw [rounds_succ]
                                  go_wp2
                                  rw [rounds_succ]
                                  go_wp2
                                  rw [rounds_succ]
                                  go_wp2_with (at_builtin; refine Lib.wpList_append_run _ rfl _ _ _ _ rfl _ _ rfl rfl _ _ HRun.out ?_)
                                  go_roundw
                                  case rel => exact ⟨f, i + 4, D ++ [_], by go_num, by omega, by omega, by simp; omega, H1, H2, H3⟩
                                  case measure => simp [intOf]; omega
              · have HF := Lib.hid (HBad.out (decE s i hlt (.inr (by omega))))
                clear HBad HOk
                go_wp2
                go_ret2
                exact HFin.out _ _ HF.out rfl HB.out
    · have HN : Hid (T = some D) := Lib.hid (by rw [← HE.out, sgO_end s f i hlt]; simp)
      go_wp2
      go_ret2
      exact .inl ⟨D, u4, HN.out, rfl, by rw [← HG.out]; exact HR.out, by rw [← HG.out]; exact HB.out⟩

end Go.Proofs.YtdifdikfgkiocaaGreatDoor
