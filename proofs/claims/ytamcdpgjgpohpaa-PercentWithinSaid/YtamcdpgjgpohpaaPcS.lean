/-
  Contract: the document's Encode.
-/
import Derived.Test.YtamcdpgjgpohpaaPcR
import Derived.Test.YtamcdpgjgpohpaaPcB
namespace Go.Proofs.Ytamcdpgjgpohpaa
open Go.RowKit

set_option maxRecDepth 100000 in
set_option maxHeartbeats 1000000 in
theorem RefEncode_any (s : ByteArray) (set : Nat) (w : World) (hs : s.size ≤ 3200000) (hset : set < 256) :
    Calls Try.prog 15 #[.string s, .int .u8 set] w fun e w' => e = .returned (.string (encS set s)) ∧ Below w.heap.size w w' := by
  obtain ⟨g, HG⟩ : ∃ g, Hid (g = w.heap.size) := ⟨_, Lib.hid rfl⟩
  rw [← HG.out]
  go_enter Try.func15, Try.ntmps15
  go_wp2
  go_loopw [5, 7] (fun b i wr => ∃ k : Nat, k ≤ s.size ∧ i = .int .i64 k ∧ Hid (wr.ownsRow g 5 1 b (encL set (s.data.toList.take k)).length ((encL set (s.data.toList.take k)).map bv)) ∧ Hid (Below g w wr)) (fun _ i _ => s.size - (intOf i).toNat)
  case atStart => exact ⟨0, Nat.zero_le _, rfl, Lib.hid ⟨by rw [List.take_zero]; simp [encL], .inl ⟨rfl, rfl⟩⟩, Lib.hid (by rw [HG.out]; exact Below.refl _ _)⟩
  case round =>
    obtain ⟨k, hk, rfl, HR, HB⟩ := hrel
    by_cases hlt : k < s.size
    · have hby := byte_lt s[k]
      have hby' : s[k].toNat < 256 := by omega
      have HTk : Hid (encL set (s.data.toList.take (k + 1)) = encL set (s.data.toList.take k) ++ encB set s[k]) := Lib.hid (by rw [take_snoc s k hlt, encL_snoc])
      have hlen := encL_len set (s.data.toList.take k)
      rw [List.length_take] at hlen
      have HLen := Lib.hid hlen
      clear hlen
      have HStep : Hid (∀ (b : Bool) (cs : Array Value), cs.toList = (encB set s[k]).map bv → ∃ v' w1, (Builtin.append_ #[32, 32] 32 #[u5, .slice (some ⟨wr.heap.size, 0, none⟩) cs.size cs.size]).run Try.prog ((bif b then wr.drew else wr).alloc (.cells cs 5)) = .ok v' w1 ∧
          Hid (w1.ownsRow g 5 1 v' (encL set (s.data.toList.take (k + 1))).length ((encL set (s.data.toList.take (k + 1))).map bv)) ∧ Hid (Below g w w1)) := Lib.hid (fun b cs hcs => by
        have hl2 := encB_len set s[k]
        have hz : cs.size = (encB set s[k]).length := by rw [← Array.length_toList, hcs, List.length_map]
        have hgz : g ≤ wr.heap.size := by have := HB.out.size; rw [HG.out]; exact this
        cases b
        · obtain ⟨v', w1, h1, h2, h3⟩ := appB g u5 ((encL set (s.data.toList.take k)).map bv) cs wr w (by rw [List.length_map]; exact HR.out) (by rw [List.length_map]; have := HLen.out; omega) (by
            rw [hcs]; intro u hu; obtain ⟨c, _, rfl⟩ := List.mem_map.1 hu; rfl) hgz HB.out
          refine ⟨v', w1, h1, Lib.hid ?_, Lib.hid h3⟩
          rw [HTk.out, List.map_append, ← hcs]
          simpa [hcs] using h2
        · obtain ⟨v', w1, h1, h2, h3⟩ := appB g u5 ((encL set (s.data.toList.take k)).map bv) cs wr.drew w (by rw [List.length_map]; exact HR.out.drew) (by rw [List.length_map]; have := HLen.out; omega) (by
            rw [hcs]; intro u hu; obtain ⟨c, _, rfl⟩ := List.mem_map.1 hu; rfl) hgz HB.out.drew
          refine ⟨v', w1, h1, Lib.hid ?_, Lib.hid h3⟩
          rw [HTk.out, List.map_append, ← hcs]
          simpa [hcs] using h2)
      cases hh : hasB set s[k].toNat
      · have HH := Lib.hid hh
        clear hh
        obtain ⟨v', w1, hrun, H1, H2⟩ := HStep.out false #[.int .u8 (s[k].toNat : Int)] (by rw [encB_no HH.out]; rfl)
        have HRun := Lib.hid hrun
        clear hrun
        go_wp2_with fail
        refine (RefHas_any set _ _ hset hby').mono ?_
        rw [HH.out]
        rintro e w3 ⟨rfl, rfl⟩
        go_wp2_with (at_builtin; refine Lib.wpList_append_run _ rfl _ _ _ _ rfl _ _ rfl rfl _ _ HRun.out ?_)
        exact ⟨⟨k + 1, by omega, by go_num, H1, H2⟩, by simp [intOf]; omega⟩
      · have HH := Lib.hid hh
        clear hh
        go_wp2_with fail
        refine (RefHas_any set _ _ hset hby').mono ?_
        rw [HH.out]
        rintro e w3 ⟨rfl, rfl⟩
        go_wp2
        obtain ⟨A, HA⟩ : ∃ A : Nat, Hid (A = s[k].toNat / 16) := ⟨_, Lib.hid rfl⟩
        obtain ⟨B, HB'⟩ : ∃ B : Nat, Hid (B = s[k].toNat % 16) := ⟨_, Lib.hid rfl⟩
        have hA16 : A < 16 := by rw [HA.out]; omega
        have hB16 : B < 16 := by rw [HB'.out]; omega
        obtain ⟨v', w1, hrun, H1, H2⟩ := HStep.out true #[.int .u8 37, .int .u8 (({ data := #[48, 49, 50, 51, 52, 53, 54, 55, 56, 57, 65, 66, 67, 68, 69, 70] } : ByteArray)[A]'hA16).toNat, .int .u8 (({ data := #[48, 49, 50, 51, 52, 53, 54, 55, 56, 57, 65, 66, 67, 68, 69, 70] } : ByteArray)[B]'hB16).toNat] (by
          rw [encB_yes HH.out, hexD_eq A _ hA16 HA.out, hexD_eq B _ hB16 HB'.out]; rfl)
        have HRun := Lib.hid hrun
        clear hrun
        have hA : (s[k].toNat : Int) / 16 = (A : Int) := by rw [HA.out]; omega
        have hB : (s[k].toNat : Int).tmod 16 = (B : Int) := by rw [HB'.out, Int.tmod_eq_emod_of_nonneg (by omega)]; omega
        have hA16' : (A : Int) < 16 := by omega
        have hB16' : (B : Int) < 16 := by omega
        have hAw : IntKind.u8.wrap (A : Int) = (A : Int) := IntWalk.u8_in _ (by omega)
        go_region_law (refine step_append_run _ rfl _ _ _ _ rfl _ _ rfl rfl _ _ HRun.out ?_)
        all_goals
          go_wp2
          exact ⟨⟨k + 1, by omega, by go_num, H1, H2⟩, by simp [intOf]; omega⟩
    · have HE : Hid (s.data.toList.take k = s.data.toList) := Lib.hid (List.take_of_length_le (by simp; omega))
      rw [HE.out] at HR
      have hcv := bytes_back _ _ _ _ HR.out
      go_wp2
      go_ret
      have hB := HB.out
      exact ⟨rfl, hB⟩

end Go.Proofs.Ytamcdpgjgpohpaa
