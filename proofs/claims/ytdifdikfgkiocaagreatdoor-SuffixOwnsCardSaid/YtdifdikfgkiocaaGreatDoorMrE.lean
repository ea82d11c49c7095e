/-
  Contract: the document's Decode.
  Contracts: the document's Lower, plain, Few; its Label and Show.
-/
import Derived.Test.YtdifdikfgkiocaaGreatDoorPnVa
import Derived.Test.YtdifdikfgkiocaaGreatDoorPnVb
import Derived.Test.YtdifdikfgkiocaaGreatDoorMpJ
import Derived.Test.YtdifdikfgkiocaaGreatDoorEnVX
namespace Go.Proofs.YtdifdikfgkiocaaGreatDoor
open Go.RowKit

set_option maxHeartbeats 1000000 in
/-- The document's Decode. -/
theorem RefDecode_any (s : ByteArray) (w : World) (hs : s.size ≤ maxLen) (hs2 : s.size ≤ 1000 ∨ 65536 < s.size) :
  Calls Tryz.prog 114 #[.string s] w fun e w' => e = .returned (.tuple #[.string (decT s).1, .int .i64 (decT s).2]) ∧ Below w.heap.size w w' := by
 by_cases h1 : 65536 < s.size
 ·have HF : Hid (decT s = (⟨#[]⟩, 3)) := Lib.hid (by rw [decT, if_pos h1])
  unfold maxLen at hs
  go_enter Tryz.func114, Tryz.ntmps114
  go_wp2
  go_ret2
  exact ⟨by rw [HF.out]; rfl, Below.refl _ _⟩
 ·by_cases hC : 0 < (lastI s.data.toList).toNat
  ·exact RefDecode_cut s w (by omega) hC
  ·exact RefDecode_all s w (by omega) (by omega)

end Go.Proofs.YtdifdikfgkiocaaGreatDoor
namespace Go.Proofs.YtdifdikfgkiocaaGreatDoor
open Go.RowKit

theorem low_yes' (c : UInt8) (h1 : 65 ≤ c.toNat) (h2 : c.toNat ≤ 90) : (c.toNat : Int) + 32 = (low c).toNat := by
 rw [low_yes c h1 h2]; omega

set_option maxHeartbeats 1000000 in
theorem RefLower_any (s : ByteArray) (w : World) (hs : s.size ≤ maxLen) :
  Calls Tryz.prog 110 #[.string s] w fun e w' => e = .returned (.string (lowS s)) ∧ Below w.heap.size w w' := by
 unfold maxLen at hs
 have hcv := fun (w : World) => run_bytes_of_string (P := Tryz.prog) w 9 34 5 s Tryz.underlying9 Tryz.underlying34 Tryz.underlying5
 have hge := grownCap_ge w s.size 0 5
 have HM : Hid ((bytesRow s (grownCap w s.size 0 5)).size = grownCap w s.size 0 5) := by
  have := lowRow_size s 0 (grownCap w s.size 0 5) (Nat.zero_le _) hge
  rw [lowTo_zero] at this
  exact Lib.hid this
 go_enter Tryz.func110, Tryz.ntmps110
 go_wp2
 clear hcv
 rw [HM.out]
 generalize grownCap w s.size 0 5 = cap at *
 go_loopw [4] (fun i wr => ∃ k : Nat, k ≤ s.size ∧ i = .int .i64 k ∧ wr = (w.alloc (.cells (bytesRow (lowTo s k) cap) 5 (cap, cap + 1))).drew) (fun i _ => s.size - (intOf i).toNat)
 case atStart => exact ⟨0, Nat.zero_le _, rfl, by rw [lowTo_zero]⟩
 case round =>
  obtain ⟨k, hk, rfl, rfl⟩ := hrel
  obtain ⟨R, HR⟩ : ∃ R, Hid (R = bytesRow (lowTo s k) cap) := ⟨_, rfl⟩
  rw [← HR.out]
  by_cases hlt : k < s.size
  ·have hc : (w.alloc (.cells R 5 (cap, cap + 1))).cell? ⟨w.heap.size, k, none⟩ = some (.int .u8 (s[k].toNat : Int)) := by rw [World.cell?_alloc_mark, HR.out, lowRow_at s k k cap hlt hk, if_neg (by omega)]
   have hf : (w.alloc (.cells R 5 (cap, cap + 1))).frozen? ⟨w.heap.size, k, none⟩ = false := frozen_alloc_mark _ _ _ _ _ (by omega)
   have HS := Lib.hid (lowRow_set s k cap hlt hge)
   have hset : ∀ v, low s[k] = s[k] → R.setIfInBounds k v = R.setIfInBounds k v := fun _ _ => rfl
   clear hset
   have hsame : low s[k] = s[k] → R = bytesRow (lowTo s (k + 1)) cap := by
    intro e
    rw [← HS.out, e, ← HR.out]
    apply Array.ext_getElem?
    intro j
    rw [Array.getElem?_setIfInBounds]
    by_cases hj : k = j
    ·subst hj
     rw [World.cell?_alloc_mark] at hc
     rw [if_pos rfl, hc]
     have : k < R.size := by
      rcases Nat.lt_or_ge k R.size with h | h
      ·exact h
      ·rw [Array.getElem?_eq_none h] at hc; cases hc
     rw [if_pos this]
    ·rw [if_neg hj]
   have HSame := Lib.hid hsame
   clear hsame
   by_cases h1 : 65 ≤ s[k].toNat
   ·by_cases h2 : s[k].toNat ≤ 90
    ·have HL := Lib.hid (low_yes' s[k] h1 h2)
     have g1 : 65 ≤ (s[k].toNat : Int) := by omega
     have g2 : (s[k].toNat : Int) ≤ 90 := by omega
     clear h1 h2
     go_wp2
     refine ⟨⟨k + 1, by omega, by go_num, ?_⟩, by simp [intOf]; omega⟩
     rw [setCell_alloc_mark, HR.out, HL.out, HS.out]
    ·have HL := Lib.hid (HSame.out (low_no s[k] (by omega)))
     have g1 : 65 ≤ (s[k].toNat : Int) := by omega
     have g2 : 90 < (s[k].toNat : Int) := by omega
     clear h1 h2
     go_wp2
     refine ⟨⟨k + 1, by omega, by go_num, ?_⟩, by simp [intOf]; omega⟩
     rw [HL.out]
   ·have HL := Lib.hid (HSame.out (low_no s[k] (by omega)))
    have g1 : (s[k].toNat : Int) < 65 := by omega
    clear h1
    go_wp2
    refine ⟨⟨k + 1, by omega, by go_num, ?_⟩, by simp [intOf]; omega⟩
    rw [HL.out]
  ·obtain rfl : k = s.size := by omega
   have hb := run_convert_bytes_back (P := Tryz.prog) (w.alloc (.cells R 5 (cap, cap + 1))).drew 34 9 5 ⟨w.heap.size, 0, none⟩ cap (s.data.toList.map low) Tryz.underlying34 Tryz.underlying5 Tryz.underlying9 (fun j hj => by
    have hj' : j < s.size := by simpa using hj
    have e : (⟨w.heap.size, 0, none⟩ : Addr).add j = ⟨w.heap.size, j, none⟩ := by unfold Addr.add; split <;> simp_all
    rw [World.cell?_drew, e, World.cell?_alloc_mark, HR.out, lowRow_at s s.size j cap hj' (Nat.le_refl _), if_pos hj']
    simp [ByteArray.getElem_eq_getElem_data])
   rw [show (s.data.toList.map low).length = s.size by simp] at hb
   go_wp2
   go_ret
   exact ⟨rfl, ((Below.refl _ _).alloc (Nat.le_refl _) _).drew⟩


set_option maxRecDepth 1000000 in
set_option maxHeartbeats 1000000 in
theorem Refplain_any (s : ByteArray) (w : World) (hs : s.size ≤ maxLen) :
  Calls Tryz.prog 111 #[.string s] w fun e w' => e = .returned (.bool (plainL s.data.toList)) ∧ w' = w := by
 unfold maxLen at hs
 go_enter Tryz.func111, Tryz.ntmps111
 go_wp2
 go_loopw [3] (fun i wr => ∃ k : Nat, k ≤ s.size ∧ i = .int .i64 k ∧ wr = w ∧ Hid (plainL (s.data.toList.take k) = true)) (fun i _ => s.size - (intOf i).toNat)
 case atStart => exact ⟨0, Nat.zero_le _, rfl, rfl, Lib.hid rfl⟩
 case round =>
  obtain ⟨k, hk, rfl, rfl, HP⟩ := hrel
  by_cases hlt : k < s.size
  ·by_cases hc : s[k].toNat < 128
   ·have HP2 : Hid (plainL (s.data.toList.take (k + 1)) = true) := Lib.hid (by rw [take_snoc s k hlt, plainL_snoc, HP.out]; simpa using hc)
    have hcI : (s[k].toNat : Int) < 128 := by omega
    clear hc
    go_wp2
    refine ⟨⟨k + 1, by omega, by go_num, by first | rfl | trivial, HP2⟩, by simp [intOf]; omega⟩
   ·have HF := Lib.hid (plainL_at_false s k hlt hc)
    have hcI : 128 ≤ (s[k].toNat : Int) := by omega
    clear hc
    go_wp2
    go_ret
    exact ⟨ret_bool HF.out.symm, rfl⟩
  ·have HF : Hid (plainL s.data.toList = true) := Lib.hid (by rw [← HP.out, List.take_of_length_le (by simp; omega)])
   go_wp2
   go_ret
   exact ⟨ret_bool HF.out.symm, rfl⟩

theorem px_of (s : ByteArray) (h : 4 ≤ s.size) : ((s.extract 0 4).toList == [120, 110, 45, 45]) = Lib.hasPrefix s.data.toList [120, 110, 45, 45] := by
 have := Lib.hasPrefix_raw s ⟨#[120, 110, 45, 45]⟩
 rw [show (⟨#[120, 110, 45, 45]⟩ : ByteArray).size = 4 from rfl, decide_eq_true h, Bool.true_and, show (⟨#[120, 110, 45, 45]⟩ : ByteArray).toList = [120, 110, 45, 45] from by rw [ByteArray.toList_eq]] at this
 exact this
theorem px_short (s : ByteArray) (h : ¬ 4 ≤ s.size) : Lib.hasPrefix s.data.toList [120, 110, 45, 45] = false := by
 cases hp : Lib.hasPrefix s.data.toList [120, 110, 45, 45] with
 | false => rfl
 | true =>
  have := (List.isPrefixOf_iff_prefix.1 hp).length_le
  have h2 : s.data.toList.length = s.size := by simp
  simp only [List.length_cons, List.length_nil] at this
  omega
set_option maxHeartbeats 1000000 in
theorem RefFew_any (s : ByteArray) (w : World) (hs : s.size ≤ maxLen) :
  Calls Tryz.prog 113 #[.string s] w fun e w' => e = .returned (.bool (Lib.hasPrefix s.data.toList [120, 110, 45, 45])) ∧ w' = w := by
 unfold maxLen at hs
 by_cases h : 4 ≤ s.size
 ·have HR := Lib.hid (px_of s h)
  have hI : (4 : Int) ≤ (s.size : Int) := by omega
  go_enter Tryz.func113, Tryz.ntmps113
  go_wp2
  go_ret
  exact ⟨ret_bool HR.out, rfl⟩
 ·have HR := Lib.hid (px_short s h)
  have hI : (s.size : Int) < 4 := by omega
  go_enter Tryz.func113, Tryz.ntmps113
  go_wp2
  go_ret
  exact ⟨ret_bool HR.out.symm, rfl⟩

/- Label without the count of signs: the same answer. -/
def labD (s : ByteArray) : ByteArray × Int :=
 if s.size = 0 then (⟨#[]⟩, 5) else if Lib.validD s.data.toList = false then (⟨#[]⟩, 5) else
 if plainL (lowS s).data.toList then
  (if Lib.hasPrefix (lowS s).data.toList [120, 110, 45, 45] then (if tellsB (cutX (lowS s)) then labE (lowS s) else (⟨#[]⟩, 5)) else labE (lowS s))
 else labE ((⟨#[120, 110, 45, 45]⟩ : ByteArray) ++ fewT (lowS s))
theorem labE_big {l : ByteArray} (h : 63 < l.size) : labE l = (⟨#[]⟩, 5) := by rw [labE, if_pos h]
/-- A valid text: what its small letters' few letters are, and how long. -/
theorem low_few {s : ByteArray} (hs : s.size ≤ 1000) (hv : Lib.validD s.data.toList = true) : refEncT (lowS s) = (fewT (lowS s), 0) ∧ (fewT (lowS s)).size ≤ 20000 ∧ Lib.runeCount s ≤ s.size ∧ Lib.runeCount s ≤ (fewT (lowS s)).size := by
 obtain ⟨_, L, hL, _, hrc⟩ := (valid_sg s).resolve_right (fun h => by rw [hv] at h; cases h.1)
 have hL1 := low_sg hL
 obtain ⟨_, L2, hL2, he2, _⟩ := (valid_sg (lowS s)).resolve_right (fun h => by rw [hL1] at h; cases h.2)
 have hz : (lowS s).size ≤ 1000 := by rw [lowS_size]; exact hs
 obtain ⟨h1, _, h3⟩ := enc_back (lowS s) hz L2 hL2
 have hf := fewT_eq he2
 rw [← hf] at h1
 have hsz : (fewT (lowS s)).size = (docE L2).length := by rw [hf]; rfl
 obtain ⟨L3, h4, h5, _⟩ := dec_signs _ _ h1
 have e3 : L.map lowN = L3 := Option.some.inj (hL1.symm.trans h5)
 have hl : L.length = L3.length := by rw [← e3, List.length_map]
 have hb := (sgO_bd s s.size 0 L hL).2.1
 exact ⟨enc_few (by omega) hL2 he2, by omega, by omega, by omega⟩
theorem labD_eq (s : ByteArray) (hs : s.size ≤ 1000) : labT s = labD s := by
 rw [labT, labD]
 by_cases h0 : s.size = 0
 ·rw [if_pos h0, if_pos h0]
 rw [if_neg h0, if_neg h0]
 by_cases hv : Lib.validD s.data.toList = false
 ·rw [if_pos hv, if_pos hv]
 rw [if_neg hv, if_neg hv]
 by_cases h63 : 63 < Lib.runeCount s
 ·rw [if_pos h63]
  obtain ⟨_, _, h3, h4⟩ := low_few hs (by simpa using hv)
  have e1 : labE (lowS s) = (⟨#[]⟩, 5) := labE_big (by rw [lowS_size]; omega)
  have e2 : labE ((⟨#[120, 110, 45, 45]⟩ : ByteArray) ++ fewT (lowS s)) = (⟨#[]⟩, 5) := labE_big (by rw [catX_size]; omega)
  rw [e1, e2]
  split
  ·split
   ·split <;> rfl
   ·rfl
  ·rfl
 ·rw [if_neg h63]
theorem cutX_ext {l : ByteArray} (h : Lib.hasPrefix l.data.toList [120, 110, 45, 45] = true) : cutX l = l.extract 4 l.size := by
 apply ByteArray.ext
 apply Array.toList_inj.1
 show (Lib.trimPrefix l.data.toList [120, 110, 45, 45]).toArray.toList = _
 rw [Lib.trimPrefix, if_pos h, ByteArray.data_extract]
 simp
 exact (List.take_of_length_le (by simp)).symm
theorem px_le {l : ByteArray} (h : Lib.hasPrefix l.data.toList [120, 110, 45, 45] = true) : 4 ≤ l.size := by
 by_cases h4 : 4 ≤ l.size
 ·exact h4
 ·rw [px_short l h4] at h; cases h
/-- Does few letters' text tell others? As the document asks it. -/
theorem tells_doc (x : ByteArray) (hx : x.size ≤ 1000) : tellsB x = if (decT x).2 = 0 then if plainL (decT x).1.data.toList then false else decide ((refEncT (decT x).1).1 = x) else false := by
 rw [tellsB]
 by_cases h : (decT x).2 = 0
 ·have := dec_again x (decT x).1 hx (by rw [← h])
  rw [if_pos h, if_pos h, this]; simp
 ·rw [if_neg h, if_neg h]

end Go.Proofs.YtdifdikfgkiocaaGreatDoor
