/-
  Contracts: the document's Parts, Machine, Parse of hosts.
  Contract: the document's Parse of hosts.
  The document's Parse of hosts, whole.
-/
import Derived.Test.YtdifdikfgkiocaaGreatDoorMhC
import Derived.Test.YtdifdikfgkiocaaGreatDoorHsRP
import Derived.Test.YtdifdikfgkiocaaGreatDoorMhA
import Derived.Test.YtdifdikfgkiocaaGreatDoorMaF
import Derived.Test.YtdifdikfgkiocaaGreatDoorMrF
import Derived.Test.YtdifdikfgkiocaaGreatDoorMrC
import Derived.Test.YtdifdikfgkiocaaGreatDoorMrD
import Derived.Test.YtdifdikfgkiocaaGreatDoorPcT
import Derived.Test.YtdifdikfgkiocaaGreatDoorLawLB
import Derived.Test.YtdifdikfgkiocaaGreatDoorHsC
import Derived.Deep.DeepCutAuto
namespace Go.Proofs.YtdifdikfgkiocaaGreatDoor
open Go.RowKit

theorem foulB_iff256 : ∀ n : Fin 256, foulB (UInt8.ofNat n.1) = decide (n.1 ≤ 32 ∨ n.1 = 127 ∨ n.1 = 35 ∨ n.1 = 37 ∨ n.1 = 47 ∨ n.1 = 58 ∨ n.1 = 60 ∨ n.1 = 62 ∨ n.1 = 63 ∨ n.1 = 64 ∨ n.1 = 91 ∨ n.1 = 92 ∨ n.1 = 93 ∨ n.1 = 94 ∨ n.1 = 124) := by decide +kernel
theorem foulB_iff (c : UInt8) : foulB c = decide (c.toNat ≤ 32 ∨ c.toNat = 127 ∨ c.toNat = 35 ∨ c.toNat = 37 ∨ c.toNat = 47 ∨ c.toNat = 58 ∨ c.toNat = 60 ∨ c.toNat = 62 ∨ c.toNat = 63 ∨ c.toNat = 64 ∨ c.toNat = 91 ∨ c.toNat = 92 ∨ c.toNat = 93 ∨ c.toNat = 94 ∨ c.toNat = 124) := by
 have := foulB_iff256 ⟨c.toNat, c.toNat_lt⟩
 simpa using this
theorem foulT {c : UInt8} (h : c.toNat ≤ 32 ∨ c.toNat = 127 ∨ c.toNat = 35 ∨ c.toNat = 37 ∨ c.toNat = 47 ∨ c.toNat = 58 ∨ c.toNat = 60 ∨ c.toNat = 62 ∨ c.toNat = 63 ∨ c.toNat = 64 ∨ c.toNat = 91 ∨ c.toNat = 92 ∨ c.toNat = 93 ∨ c.toNat = 94 ∨ c.toNat = 124) : foulB c = true := by rw [foulB_iff]; exact decide_eq_true h
theorem foulF {c : UInt8} (h : ¬ (c.toNat ≤ 32 ∨ c.toNat = 127 ∨ c.toNat = 35 ∨ c.toNat = 37 ∨ c.toNat = 47 ∨ c.toNat = 58 ∨ c.toNat = 60 ∨ c.toNat = 62 ∨ c.toNat = 63 ∨ c.toNat = 64 ∨ c.toNat = 91 ∨ c.toNat = 92 ∨ c.toNat = 93 ∨ c.toNat = 94 ∨ c.toNat = 124)) : foulB c = false := by rw [foulB_iff]; exact decide_eq_false h
set_option maxRecDepth 100000 in
set_option maxHeartbeats 1000000 in
theorem Reffoul_any (c : UInt8) (w : World) :
  Calls Tryz.prog 75 #[.int .u8 (c.toNat : Int)] w fun e w' => e = .returned (.bool (foulB c)) ∧ w' = w := by
 have hb := byte_lt c
 obtain ⟨n, hn⟩ : ∃ n : Nat, n = c.toNat := ⟨_, rfl⟩
 obtain ⟨v, HV⟩ : ∃ v, Hid (foulB c = v) := ⟨_, Lib.hid rfl⟩
 have HT : Hid ((n ≤ 32 ∨ n = 127 ∨ n = 35 ∨ n = 37 ∨ n = 47 ∨ n = 58 ∨ n = 60 ∨ n = 62 ∨ n = 63 ∨ n = 64 ∨ n = 91 ∨ n = 92 ∨ n = 93 ∨ n = 94 ∨ n = 124) → true = v) := Lib.hid (fun h => by rw [← HV.out]; exact (foulT (by rw [← hn]; exact h)).symm)
 have HF : Hid (¬ (n ≤ 32 ∨ n = 127 ∨ n = 35 ∨ n = 37 ∨ n = 47 ∨ n = 58 ∨ n = 60 ∨ n = 62 ∨ n = 63 ∨ n = 64 ∨ n = 91 ∨ n = 92 ∨ n = 93 ∨ n = 94 ∨ n = 124) → false = v) := Lib.hid (fun h => by rw [← HV.out]; exact (foulF (by rw [← hn]; exact h)).symm)
 rw [HV.out, ← hn]
 rw [← hn] at hb
 clear hn HV
 by_cases h32 : n ≤ 32
 ·have hI : (n : Int) ≤ 32 := by omega
  have HR := Lib.hid (HT.out (.inl h32))
  go_enter Tryz.func75, Tryz.ntmps75
  go_wp2
  go_ret
  exact ⟨ret_bool HR.out, rfl⟩
 ·have hI : (32 : Int) < (n : Int) := by omega
  by_cases h127 : n = 127
  ·have HR := Lib.hid (HT.out (.inr (.inl h127)))
   subst h127
   go_enter Tryz.func75, Tryz.ntmps75
   go_wp2
   go_ret
   exact ⟨ret_bool HR.out, rfl⟩
  ·have hJ : ((n : Int) == 127) = false := beq_eq_false_iff_ne.2 (by omega)
   have HN := Lib.hid (⟨h32, h127⟩ : ¬ n ≤ 32 ∧ ¬ n = 127)
   clear h32 h127
   go_enter Tryz.func75, Tryz.ntmps75
   go_wp2
   all_goals
    go_ret
    refine ⟨ret_bool ?_, rfl⟩
    have h1 := HN.out
    simp only [beq_iff_eq, beq_eq_false_iff_ne, ne_eq] at *
    first
     | exact HT.out (by omega)
     | exact HF.out (by omega)

end Go.Proofs.YtdifdikfgkiocaaGreatDoor
namespace Go.Proofs.YtdifdikfgkiocaaGreatDoor
open Go.RowKit

theorem emF5 {s : ByteArray} (h : 0 < s.size) : s.toList.isEmpty = false := by
 rw [ByteArray.toList_eq, List.isEmpty_eq_false_iff, ← List.length_pos_iff, lenB]; exact h
theorem join_snoc (x : List UInt8) : ∀ L : List (List UInt8), L ≠ [] → Lib.join (L ++ [x]) [46] = Lib.join L [46] ++ 46 :: x
 | [], h => absurd rfl h
 | [y], _ => by rw [List.singleton_append, join_split, Lib.join_one, Lib.join_one]
 | y :: z :: r, _ => by
  rw [List.cons_append, List.cons_append, join_split, join_split, ← List.cons_append, join_snoc x (z :: r) (by simp)]; simp
/-- The name while its parts are put together. -/
def nmR (P : List ByteArray) (k : Nat) : ByteArray := dotJ ((P.take k).map fun p => (labT p).1)
theorem nmR_zero (P : List ByteArray) : nmR P 0 = ⟨#[]⟩ := rfl
theorem nmR_one (P : List ByteArray) (h : 0 < P.length) : nmR P (0 + 1) = (labT P[0]).1 := by
 match P, h with
 | p :: r, _ =>
  show dotJ [(labT p).1] = _
  refine ba_of ?_
  rw [dotJ_data, List.map_cons, List.map_nil, Lib.join_one]; rfl
theorem nmR_succ (P : List ByteArray) (k : Nat) (h : k < P.length) (hk : 0 < k) : nmR P (k + 1) = nmR P k ++ ⟨#[46]⟩ ++ (labT P[k]).1 := by
 refine ba_of ?_
 rw [nmR, dotJ_data, List.take_succ_eq_append_getElem h, List.map_append, List.map_append, List.map_cons, List.map_nil, List.map_cons, List.map_nil, join_snoc _ _ (by
  intro e
  have := congrArg List.length e
  simp only [List.length_map, List.length_take, List.length_nil] at this; omega), ByteArray.data_append, ByteArray.data_append, Array.toList_append, Array.toList_append, nmR, dotJ_data]
 simp
theorem nmR_mono (P : List ByteArray) (k : Nat) : ∀ n, k ≤ n → n ≤ P.length → (nmR P k).size ≤ (nmR P n).size
 | 0, h, _ => by obtain rfl : k = 0 := by omega
                 exact Nat.le_refl _
 | n + 1, h, hn => by
  by_cases e : k = n + 1
  ·rw [e]; exact Nat.le_refl _
  ·refine Nat.le_trans (nmR_mono P k n (by omega) (by omega)) ?_
   by_cases h0 : 0 < n
   ·rw [nmR_succ P n (by omega) h0, ByteArray.size_append, ByteArray.size_append]; omega
   ·obtain rfl : n = 0 := by omega
    rw [nmR_zero]; exact Nat.zero_le _
/-- What the parts say. -/
def partsO (P : List ByteArray) : Option ByteArray := match labsT P with
 | none => none
 | some L => endT (dotJ L)
theorem partsO_bad {P : List ByteArray} {p : ByteArray} (hp : p ∈ P) (h : (labT p).2 ≠ 0) : partsO P = none := by rw [partsO, labs_none hp h]
theorem partsO_long {P : List ByteArray} {k : Nat} (hk : k ≤ P.length) (h : 253 < (nmR P k).size) : partsO P = none := by
 rw [partsO]
 cases hL : labsT P with
 | none => rfl
 | some L =>
  have hall : ∀ p ∈ P, (labT p).2 = 0 := fun p hp => by
   by_cases e : (labT p).2 = 0
   ·exact e
   ·rw [labs_none hp e] at hL; cases hL
  rw [labs_all hall] at hL
  injection hL with hL
  have h2 := nmR_mono P k P.length hk (Nat.le_refl _)
  have h3 : nmR P P.length = dotJ L := by rw [nmR, List.take_length, hL]
  rw [h3] at h2
  simp only
  rw [endT, if_pos (show 253 < (dotJ L).size by omega), ite_self]
theorem partsO_all {P : List ByteArray} (h : ∀ p ∈ P, (labT p).2 = 0) : partsO P = endT (nmR P P.length) := by
 rw [partsO, labs_all h, nmR, List.take_length]
theorem endT_foul {n : ByteArray} (h : foulL n.data.toList = true) : endT n = none := by rw [endT, if_pos h]
theorem endT_four {n : ByteArray} (h : foulL n.data.toList = false) (h2 : n.size ≤ 253) : endT n = fourT n := by rw [endT, h, if_neg (by simp), if_neg (by omega)]
theorem emp_app (x : ByteArray) : (⟨#[]⟩ : ByteArray) ++ x = x := by
 refine ba_of ?_
 rw [ByteArray.data_append, Array.toList_append]; rfl

set_option maxRecDepth 100000 in
set_option maxHeartbeats 4000000 in
theorem RefNamed_e (s : ByteArray) (w : World) (hs : s.size ≤ 1000) (hem : s.toList.isEmpty = true) :
  Calls Tryz.prog 44 #[.string s] w fun e w' => e = .returned (hsV (namedT (decS s))) ∧ Below w.heap.size w w' := by
 obtain ⟨hz, hi⟩ := zero_of_info infoA
 have HI := Lib.hid hi; clear hi
 obtain ⟨d, Hd⟩ : ∃ d, Hid (decS s = d) := ⟨_, Lib.hid rfl⟩
 have hds : d.size ≤ 1000 := by rw [← Hd.out]; have := decS_size s; omega
 have HDec : Hid (∀ w, Calls Tryz.prog 73 #[.string s] w fun e w' => e = .returned (.string d) ∧ Below w.heap.size w w') := Lib.hid (fun w => by
  have := PcRefDecode_any s w (by omega)
  rwa [Hd.out] at this)
 have HPs := Lib.hid (fun w => RefParts5_any d w (by omega))
 obtain ⟨D, HDD⟩ : ∃ D, Hid (rawB 46 d = D) := ⟨_, Lib.hid rfl⟩
 rw [HDD.out] at HPs
 have hDl : D.map (·.data.toList) = pts 46 d.data.toList := by rw [← HDD.out]; exact rawB_data 46 d
 have HSz : Hid (∀ q ∈ D, q.size ≤ 1000) := Lib.hid (fun q hq => by
  rw [← HDD.out] at hq
  have := (rawB_mem 46 d q hq).1
  omega)
 have hDn : D.length ≤ 1001 := by rw [← HDD.out]; have := rawB_count 46 d; omega
 obtain ⟨n, hn⟩ : ∃ n, D.length = n + 1 := by
  have : D ≠ [] := by rw [← HDD.out]; exact rawB_ne 46 d
  have := List.length_pos_iff.2 this
  exact ⟨D.length - 1, by omega⟩
 have HTr := Lib.hid (pts_trim d.data.toList)
 have hnl : n < D.length := by omega
 obtain ⟨M, hM1, hM2, hM3, hMn⟩ : ∃ M, (1 ≤ n ∧ D[n].data.toList = [] → M + 1 = n) ∧ (¬ (1 ≤ n ∧ D[n].data.toList = []) → M = n) ∧ (D.take (M + 1)).map (·.data.toList) = pts 46 (trimP d.data.toList) ∧ M ≤ n := by
  have hlast : lastQ (pts 46 d.data.toList) = D[n].data.toList := by
   rw [← hDl, lastQ, List.getLast?_map, List.getLast?_eq_getElem?, show D.length - 1 = n by omega, List.getElem?_eq_getElem hnl]; rfl
  have hlen : (pts 46 d.data.toList).length = n + 1 := by rw [← hDl, List.length_map, hn]
  have ht := HTr.out
  rw [hlast, hlen] at ht
  by_cases h : 1 ≤ n ∧ D[n].data.toList = []
  ·refine ⟨n - 1, fun _ => by omega, fun h' => absurd h h', ?_, by omega⟩
   rw [if_pos ⟨by omega, h.2⟩] at ht
   rw [← ht, ← hDl, List.dropLast_eq_take, List.map_take, List.length_map]
   congr 1; omega
  ·refine ⟨n, fun h' => absurd h' h, fun _ => rfl, ?_, Nat.le_refl _⟩
   rw [if_neg (fun h' => h ⟨by omega, h'.2⟩)] at ht
   rw [← ht, ← hDl, List.take_of_length_le (by omega)]
 obtain ⟨P, HP⟩ : ∃ P, Hid (D.take (M + 1) = P) := ⟨_, Lib.hid rfl⟩
 have HPe : Hid (rawB 46 (trimD d) = P) := Lib.hid (by
  rw [rawB_eq, show (trimD d).data.toList = trimP d.data.toList from trimS_eq _, ← hM3, HP.out, List.map_map]
  conv => rhs; rw [← List.map_id P]
  exact List.map_congr_left (fun x _ => rfl))
 have HPl : Hid (P.length = M + 1) := Lib.hid (by rw [← HP.out, List.length_take]; omega)
 have HPS : Hid (∀ q ∈ P, q.size ≤ 1000) := Lib.hid (fun q hq => by rw [← HP.out] at hq; exact HSz.out q (List.mem_of_mem_take hq))
 obtain ⟨O, HO⟩ : ∃ O, Hid (namedT (decS s) = O) := ⟨_, Lib.hid rfl⟩
 have HOP : Hid (O = partsO P) := Lib.hid (by rw [← HO.out, namedT, Hd.out, HPe.out, partsO]; cases labsT P <;> rfl)
 rw [HO.out]
 have HM1 := Lib.hid hM1; have HM2 := Lib.hid hM2
 have HN := Lib.hid hn
 have hsI : (s.size : Int) ≤ 65536 := by omega
 clear hM3 hDl HTr
 have HDb : Hid (∀ (g cap : Nat) (W : World), (∀ j, (hj : j < D.length) → W.cell? ⟨g, j, none⟩ = some (.string D[j])) → ∀ j, (hj : j < P.length) → W.cell? ⟨g, j, none⟩ = some (.string P[j])) := Lib.hid (fun g cap W h j hj => by
  have hj2 : j < D.length := by rw [HPl.out] at hj; omega
  rw [h j hj2]
  have : P[j]? = D[j]? := by rw [← HP.out, List.getElem?_take_of_lt (by rw [HPl.out] at hj; exact hj)]
  rw [List.getElem?_eq_getElem hj, List.getElem?_eq_getElem hj2] at this
  injection this with this
  rw [this])
 obtain ⟨tr, htr⟩ : ∃ tr : Bool, decide (1 ≤ n ∧ D[n].data.toList = []) = tr := ⟨_, rfl⟩
 have HTt := Lib.hid htr
 clear htr
 have hnI0 : (0 : Int) ≤ (n : Int) := by omega
 clear hM1 hM2
 have hcn : ∀ (g : Nat) (W : World), (∀ j, (hj : j < D.length) → W.cell? ⟨g, j, none⟩ = some (.string D[j])) → W.cell? ⟨g, n, none⟩ = some (.string (D[n]'hnl)) := fun g W h => h n hnl
 have HCn := Lib.hid hcn
 clear hcn
 -- up to the parts
 go_enter Tryz.func44, Tryz.ntmps44
 go_wp2_with fail
 refine (HDec.out _).mono ?_
 rintro e w0 ⟨rfl, b0⟩
 have B0 := Lib.hid b0; clear b0
 go_wp2_with fail
 refine (HPs.out _).mono ?_
 rintro e w1 ⟨v, rfl, own1, b1⟩
 rcases own1.2 with ⟨_, h0⟩ | ⟨g, cap, cur, rfl, hg, hgb, hcap, _⟩
 ·omega
 have hcs : ∀ j, (hj : j < D.length) → w1.cell? ⟨g, j, none⟩ = some (.string D[j]) := fun j hj => by
  rw [own1.cellAt j (by omega), List.getElem?_map, List.getElem?_eq_getElem hj]; rfl
 have HCs := Lib.hid (HDb.out g cap w1 hcs)
 have hcn := HCn.out g w1 hcs
 have B1 : Hid (Below w.heap.size w w1) := Lib.hid (keepW B0.out b1)
 have HGb := Lib.hid (lt_of_block hgb)
 have hcapn : n + 1 ≤ cap := by omega
 rw [hn]
 clear own1 b1 hgb hcs hn HPs HDec HCn HDb
 dsimp only
 go_upto_region 11 with (fail)
 go_cut [61] (fun s61 wx => s61 = .bool tr ∧ w1 = wx)
 case first =>
  by_cases h1 : 1 ≤ n
  ·by_cases h2 : D[n].data.toList = []
   ·have hem : D[n].toList.isEmpty = true := by rw [ByteArray.toList_eq, h2]; rfl
    have ht : tr = true := by rw [← HTt.out]; exact decide_eq_true ⟨h1, h2⟩
    have Ht := Lib.hid ht
    clear h2 ht
    go_wp2
    go_meet
    exact ⟨by rw [Ht.out], rfl⟩
   ·have hem : D[n].toList.isEmpty = false := by
     rw [ByteArray.toList_eq, List.isEmpty_eq_false_iff]; exact h2
    have ht : tr = false := by rw [← HTt.out]; exact decide_eq_false (fun h => h2 h.2)
    have Ht := Lib.hid ht
    clear h2 ht
    go_wp2
    go_meet
    exact ⟨by rw [Ht.out], rfl⟩
  ·have ht : tr = false := by rw [← HTt.out]; exact decide_eq_false (fun h => h1 h.1)
   have Ht := Lib.hid ht
   clear ht
   go_wp2
   go_meet
   exact ⟨by rw [Ht.out], rfl⟩
 case rest =>
 obtain ⟨rfl, rfl⟩ := hcut
 go_upto_if 61 with (fail)
 go_cut [6] (fun s6 wx => s6 = .slice (some ⟨g, 0, none⟩) (M + 1) cap ∧ w1 = wx)
 case first =>
  cases tr
  ·have Hh := Lib.hid (HM2.out (of_decide_eq_false HTt.out))
   go_wp2
   go_meet
   exact ⟨by rw [Hh.out], rfl⟩
  ·have Hh := Lib.hid (HM1.out (of_decide_eq_true HTt.out))
   go_wp2
   go_meet
   exact ⟨by rw [Hh.out], rfl⟩
 case rest =>
 obtain ⟨rfl, rfl⟩ := hcut
 clear hcn hcapn HTt HM1 HM2
 have hM0 : M ≤ 1000 := by omega
 clear hMn hnl
 go_wp2
 go_loopw [7, 8, 9, 10] (fun nm i _ _ wr => ∃ k : Nat, k ≤ M + 1 ∧ i = .int .i64 k ∧ nm = .string (nmR P k) ∧ Hid ((nmR P k).size ≤ 253) ∧ Hid (∀ j (h : j < P.length), j < k → (labT P[j]).2 = 0) ∧ Hid (Below w.heap.size w wr) ∧ Hid (Below w1.heap.size w1 wr)) (fun _ i _ _ _ => M + 1 - (intOf i).toNat)
 case atStart => exact ⟨0, Nat.zero_le _, rfl, rfl, Lib.hid (by rw [nmR_zero]; exact Nat.zero_le _), Lib.hid (fun j _ h => absurd h (Nat.not_lt_zero _)), B1, Lib.hid (Below.refl _ _)⟩
 case round =>
  obtain ⟨k, hk, rfl, rfl, HNs, HOk, HB, HB1⟩ := hrel
  by_cases hlt : k < M + 1
  ·have hkP : k < P.length := by rw [HPl.out]; exact hlt
   obtain ⟨p, Hp⟩ : ∃ p, Hid (P[k] = p) := ⟨_, Lib.hid rfl⟩
   have HpM : Hid (p ∈ P) := Lib.hid (by rw [← Hp.out]; exact List.getElem_mem hkP)
   have hps : p.size ≤ 1000 := HPS.out p HpM.out
   have hc : wr.cell? ⟨g, k, none⟩ = some (.string p) := by
    rw [HB1.out.cell (p := ⟨g, k, none⟩) HGb.out, HCs.out k hkP, Hp.out]
   obtain ⟨L, HL⟩ : ∃ L, Hid ((labT p).1 = L) := ⟨_, Lib.hid rfl⟩
   obtain ⟨c, Hc⟩ : ∃ c, Hid ((labT p).2 = c) := ⟨_, Lib.hid rfl⟩
   have hLs : L.size ≤ 63 := by rw [← HL.out]; exact lab_small p hps
   have HLab : Hid (Calls Tryz.prog 74 #[.string p] wr fun e w' => e = .returned (.tuple #[.string L, .int .i64 c]) ∧ Below wr.heap.size wr w') := Lib.hid (by
    have := RefLabel_any p wr hps
    rwa [HL.out, Hc.out] at this)
   by_cases hc0 : c = 0
   ·subst hc0
    obtain ⟨N, HN⟩ : ∃ N, Hid (nmR P k = N) := ⟨_, Lib.hid rfl⟩
    have hNs : N.size ≤ 253 := by rw [← HN.out]; exact HNs.out
    have HOk2 : Hid (∀ j (h : j < P.length), j < k + 1 → (labT P[j]).2 = 0) := Lib.hid (fun j hj hjk => by
     by_cases e : j = k
     ·subst e; rw [Hp.out]; exact Hc.out
     ·exact HOk.out j hj (by omega))
    rw [HN.out]
    by_cases hk0 : 0 < k
    ·have HN2 : Hid (nmR P (k + 1) = N ++ ⟨#[46]⟩ ++ L) := Lib.hid (by rw [nmR_succ P k hkP hk0, HN.out, Hp.out, HL.out])
     have hk0I : (0 : Int) < (k : Int) := by omega
     have hz1 : ¬ 9223372036854775807 < N.size + 1 := by omega
     have hz2 : ¬ 9223372036854775807 < N.size + 1 + L.size := by omega
     have HSum : Hid ((N ++ ⟨#[46]⟩ ++ L).size = N.size + 1 + L.size) := Lib.hid (by rw [ByteArray.size_append, ByteArray.size_append]; rfl)
     by_cases hbig : 253 < N.size + 1 + L.size
     ·have HR : Hid (O = none) := Lib.hid (by rw [HOP.out]; exact partsO_long (k := k + 1) (by rw [HPl.out]; omega) (by rw [HN2.out, HSum.out]; exact hbig))
      have hbigI : (253 : Int) < (N.size : Int) + 1 + (L.size : Int) := by omega
      go_wp2_with fail
      refine HLab.out.mono ?_
      rintro e w2 ⟨rfl, b2⟩
      have B2 : Hid (Below w.heap.size w w2) := Lib.hid (keepW HB.out b2)
      clear b2 hc
      go_wp2
      go_ret2
      exact ⟨ret_h (by rw [HR.out]; rfl), B2.out⟩
     ·have hbigI : (N.size : Int) + 1 + (L.size : Int) ≤ 253 := by omega
      go_wp2_with fail
      refine HLab.out.mono ?_
      rintro e w2 ⟨rfl, b2⟩
      have B2 : Hid (Below w.heap.size w w2) := Lib.hid (keepW HB.out b2)
      have B3 : Hid (Below w1.heap.size w1 w2) := Lib.hid (keepW HB1.out b2)
      clear b2 hc
      go_wp2
      exact ⟨⟨k + 1, by omega, by go_num, by rw [HN2.out], Lib.hid (by rw [HN2.out, HSum.out]; omega), HOk2, B2, B3⟩, by simp [intOf]; omega⟩
    ·obtain rfl : k = 0 := by omega
     have HN2 : Hid (nmR P (0 + 1) = ⟨#[]⟩ ++ L) := Lib.hid (by rw [nmR_one P hkP, Hp.out, HL.out, emp_app])
     have HNe : Hid (N = ⟨#[]⟩) := Lib.hid (by rw [← HN.out, nmR_zero])
     have hNz : N.size = 0 := by rw [HNe.out]; rfl
     obtain rfl : N = ⟨#[]⟩ := HNe.out
     have hLI : (L.size : Int) ≤ 63 := by omega
     have HSum : Hid (((⟨#[]⟩ : ByteArray) ++ L).size = L.size) := Lib.hid (by rw [emp_app])
     have hz2 : ¬ 9223372036854775807 < L.size := by omega
     clear hNz hNs
     go_wp2_with fail
     refine HLab.out.mono ?_
     rintro e w2 ⟨rfl, b2⟩
     have B2 : Hid (Below w.heap.size w w2) := Lib.hid (keepW HB.out b2)
     have B3 : Hid (Below w1.heap.size w1 w2) := Lib.hid (keepW HB1.out b2)
     clear b2 hc
     go_wp2
     exact ⟨⟨0 + 1, by omega, by go_num, by rw [HN2.out], Lib.hid (by rw [HN2.out, HSum.out]; omega), HOk2, B2, B3⟩, by simp [intOf]⟩
   ·have HR : Hid (O = none) := Lib.hid (by rw [HOP.out]; exact partsO_bad HpM.out (by rw [Hc.out]; exact hc0))
    have hcI : (c == 0) = false := beq_eq_false_iff_ne.2 hc0
    have hcN : (c != 0) = true := by rw [bne, hcI]; rfl
    clear hc0
    go_wp2_with fail
    refine HLab.out.mono ?_
    rintro e w2 ⟨rfl, b2⟩
    have B2 : Hid (Below w.heap.size w w2) := Lib.hid (keepW HB.out b2)
    clear b2 hc
    go_wp2
    go_ret2
    exact ⟨ret_h (by rw [HR.out]; rfl), B2.out⟩
  ·have HkM := Lib.hid (show k = M + 1 by omega)
   have HAll : Hid (∀ p ∈ P, (labT p).2 = 0) := Lib.hid (fun p hp => by
    obtain ⟨j, hj, rfl⟩ := List.getElem_of_mem hp
    exact HOk.out j hj (by rw [HPl.out] at hj; rw [HkM.out]; exact hj))
   obtain ⟨N, HN⟩ : ∃ N, Hid (nmR P k = N) := ⟨_, Lib.hid rfl⟩
   have HOE : Hid (O = endT N) := Lib.hid (by rw [HOP.out, partsO_all HAll.out, HPl.out, ← HkM.out, HN.out])
   have hNs : N.size ≤ 253 := by rw [← HN.out]; exact HNs.out
   rw [HN.out]
   clear HOk HAll HNs HCs HB1
   obtain ⟨wo, rfl⟩ : ∃ wo : World, wo = wr := ⟨_, rfl⟩
   go_wp2
   clear hlt hk
   go_loop [11] (fun i => ∃ k : Nat, k ≤ N.size ∧ i = .int .i64 k ∧ Hid (∀ j (h : j < N.size), j < k → foulB N[j] = false)) (fun i => N.size - (intOf i).toNat)
   case atStart => exact ⟨0, Nat.zero_le _, rfl, Lib.hid (fun _ _ h => absurd h (Nat.not_lt_zero _))⟩
   case round =>
    obtain ⟨k, hk, rfl, HOk⟩ := hrel
    by_cases hlt : k < N.size
    ·obtain ⟨c, HC⟩ : ∃ c, Hid (foulB N[k] = c) := ⟨_, Lib.hid rfl⟩
     have HF := Lib.hid (Reffoul_any N[k])
     rw [HC.out] at HF
     cases c
     ·go_wp2_with fail
      refine (HF.out _).mono ?_
      rintro e w2 ⟨rfl, rfl⟩
      go_wp2
      go_round
      case rel => exact ⟨k + 1, by omega, by go_num, Lib.hid (fun j hj hjk => by
       by_cases e : j = k
       ·subst e; exact HC.out
       ·exact HOk.out j hj (by omega))⟩
      case measure => simp [intOf]; omega
     ·have HR : Hid (O = none) := Lib.hid (by rw [HOE.out, endT_foul (foul_at hlt HC.out)])
      go_wp2_with fail
      refine (HF.out _).mono ?_
      rintro e w2 ⟨rfl, rfl⟩
      go_wp2
      go_ret2
      exact ⟨ret_h (by rw [HR.out]; rfl), HB.out⟩
    ·have HOF : Hid (O = fourT N) := Lib.hid (by rw [HOE.out, endT_four (foul_none (fun j hj => HOk.out j hj (by omega))) hNs])
     clear HOk
     obtain ⟨C, b, c, hv, hsz, hone, hcase⟩ := fourV_row N.data.toList
     have HF : Hid (∀ w, Calls Tryz.prog 76 #[.string N] w fun e w' => e = .returned (.tuple #[.agg C, .bool b, .int .i64 c]) ∧ Below w.heap.size w w') := Lib.hid (fun w => by
      have := RefFour_any N w (by omega)
      rwa [hv] at this)
     have HD : Hid ((Tryz.prog.info? 50).map (·.size) = some C.size) := Lib.hid (by rw [HI.out, hsz])
     have HY : Hid (zeroA.size = C.size) := Lib.hid (by rw [hsz]; exact zeroA_size)
     have HOn := Lib.hid hone
     have HCs := Lib.hid hcase
     clear hv hsz hone hcase
     go_wp2_with fail
     refine (HF.out _).mono ?_
     rintro e w2 ⟨rfl, b2⟩
     obtain ⟨W2, HW2⟩ : ∃ W, Hid (w2.alloc (.cells C 50) = W) := ⟨_, Lib.hid rfl⟩
     have B2 : Hid (Below w.heap.size w W2) := Lib.hid (by
      rw [← HW2.out]
      have := keepW HB.out b2
      exact this.alloc this.size _)
     have G2 : Hid (W2.heap[w2.heap.size]? = some (.cells C 50 (0, 0))) := Lib.hid (by rw [← HW2.out]; exact heap_alloc_new w2 _)
     clear b2
     rcases HCs.out with ⟨rfl, rfl, h⟩ | ⟨rfl, rfl, h⟩ | ⟨rfl, rfl, b0, b1, b2, b3, h, h0, h1, h2, h3, hC⟩
     ·have HR : Hid (O = some N) := Lib.hid (by
       rw [HOF.out, fourT]
       cases e : fourD N.data.toList with
       | mk u v => rw [e] at h; simp only at h; subst h; rfl)
      clear h HCs
      go_wp2_with (refine wpL_store_row rfl 50 _ _ rfl w2.heap.size C ?_ ?_ 50 zeroA ?_ ?_ ?_ ?_ ?_; exact rfl; exact rfl; exact heap_alloc_new w2 _; exact HD.out; exact HY.out; exact HOn.out; rw [World.setRow_alloc_new, HW2.out])
      go_ret2
      exact ⟨ret_h (by rw [HR.out]; rfl), B2.out⟩
     ·have HR : Hid (O = none) := Lib.hid (by rw [HOF.out, fourT, h])
      clear h HCs
      go_wp2_with (refine wpL_store_row rfl 50 _ _ rfl w2.heap.size C ?_ ?_ 50 zeroA ?_ ?_ ?_ ?_ ?_; exact rfl; exact rfl; exact heap_alloc_new w2 _; exact HD.out; exact HY.out; exact HOn.out; rw [World.setRow_alloc_new, HW2.out])
      go_ret2
      exact ⟨ret_h (by rw [HR.out]; rfl), B2.out⟩
     ·obtain ⟨T, HT⟩ : ∃ T, Hid (four4 b0 b1 b2 b3 = T) := ⟨_, Lib.hid rfl⟩
      have HR : Hid (O = some T) := Lib.hid (by rw [HOF.out, fourT, h, ← HT.out])
      have HTx : Hid (Calls Tryz.prog 72 #[.agg C] W2 fun e w' => e = .returned (.string T) ∧ Below W2.heap.size W2 w') := Lib.hid (by
       have := RefText_any false (six0 [b0, b1, b2, b3]) W2 rfl (six0_lt h0 h1 h2 h3)
       rw [show asB (textD false (six0 [b0, b1, b2, b3])) = T from HT.out] at this
       rwa [hC])
      clear h HCs h0 h1 h2 h3 hC
      go_wp2_with (first
       | (refine wpL_store_row rfl 50 _ _ rfl w2.heap.size C ?_ ?_ 50 zeroA ?_ ?_ ?_ ?_ ?_; exact rfl; exact rfl; exact heap_alloc_new w2 _; exact HD.out; exact HY.out; exact HOn.out; rw [World.setRow_alloc_new, HW2.out])
       | (refine wpList_load_row rfl 50 _ rfl w2.heap.size ?_ 50 C (0, 0) _ ?_ Tryz.underlying50 rfl HD.out ?_; (exact rfl); (exact G2.out)))
      refine HTx.out.mono ?_
      rintro e w3 ⟨rfl, b3⟩
      have B3 : Hid (Below w.heap.size w w3) := Lib.hid (keepW B2.out b3)
      clear b3
      go_wp2
      go_ret2
      exact ⟨ret_h (by rw [HR.out]; rfl), B3.out⟩

set_option maxRecDepth 100000 in
set_option maxHeartbeats 4000000 in
theorem RefNamed_n (s : ByteArray) (w : World) (hs : s.size ≤ 1000) (h0 : 0 < s.size) (hem : s.toList.isEmpty = false) (h91 : ((s[0].toNat : Int) == 91) = false) :
  Calls Tryz.prog 44 #[.string s] w fun e w' => e = .returned (hsV (namedT (decS s))) ∧ Below w.heap.size w w' := by
 obtain ⟨hz, hi⟩ := zero_of_info infoA
 have HI := Lib.hid hi; clear hi
 obtain ⟨d, Hd⟩ : ∃ d, Hid (decS s = d) := ⟨_, Lib.hid rfl⟩
 have hds : d.size ≤ 1000 := by rw [← Hd.out]; have := decS_size s; omega
 have HDec : Hid (∀ w, Calls Tryz.prog 73 #[.string s] w fun e w' => e = .returned (.string d) ∧ Below w.heap.size w w') := Lib.hid (fun w => by
  have := PcRefDecode_any s w (by omega)
  rwa [Hd.out] at this)
 have HPs := Lib.hid (fun w => RefParts5_any d w (by omega))
 obtain ⟨D, HDD⟩ : ∃ D, Hid (rawB 46 d = D) := ⟨_, Lib.hid rfl⟩
 rw [HDD.out] at HPs
 have hDl : D.map (·.data.toList) = pts 46 d.data.toList := by rw [← HDD.out]; exact rawB_data 46 d
 have HSz : Hid (∀ q ∈ D, q.size ≤ 1000) := Lib.hid (fun q hq => by
  rw [← HDD.out] at hq
  have := (rawB_mem 46 d q hq).1
  omega)
 have hDn : D.length ≤ 1001 := by rw [← HDD.out]; have := rawB_count 46 d; omega
 obtain ⟨n, hn⟩ : ∃ n, D.length = n + 1 := by
  have : D ≠ [] := by rw [← HDD.out]; exact rawB_ne 46 d
  have := List.length_pos_iff.2 this
  exact ⟨D.length - 1, by omega⟩
 have HTr := Lib.hid (pts_trim d.data.toList)
 have hnl : n < D.length := by omega
 obtain ⟨M, hM1, hM2, hM3, hMn⟩ : ∃ M, (1 ≤ n ∧ D[n].data.toList = [] → M + 1 = n) ∧ (¬ (1 ≤ n ∧ D[n].data.toList = []) → M = n) ∧ (D.take (M + 1)).map (·.data.toList) = pts 46 (trimP d.data.toList) ∧ M ≤ n := by
  have hlast : lastQ (pts 46 d.data.toList) = D[n].data.toList := by
   rw [← hDl, lastQ, List.getLast?_map, List.getLast?_eq_getElem?, show D.length - 1 = n by omega, List.getElem?_eq_getElem hnl]; rfl
  have hlen : (pts 46 d.data.toList).length = n + 1 := by rw [← hDl, List.length_map, hn]
  have ht := HTr.out
  rw [hlast, hlen] at ht
  by_cases h : 1 ≤ n ∧ D[n].data.toList = []
  ·refine ⟨n - 1, fun _ => by omega, fun h' => absurd h h', ?_, by omega⟩
   rw [if_pos ⟨by omega, h.2⟩] at ht
   rw [← ht, ← hDl, List.dropLast_eq_take, List.map_take, List.length_map]
   congr 1; omega
  ·refine ⟨n, fun h' => absurd h' h, fun _ => rfl, ?_, Nat.le_refl _⟩
   rw [if_neg (fun h' => h ⟨by omega, h'.2⟩)] at ht
   rw [← ht, ← hDl, List.take_of_length_le (by omega)]
 obtain ⟨P, HP⟩ : ∃ P, Hid (D.take (M + 1) = P) := ⟨_, Lib.hid rfl⟩
 have HPe : Hid (rawB 46 (trimD d) = P) := Lib.hid (by
  rw [rawB_eq, show (trimD d).data.toList = trimP d.data.toList from trimS_eq _, ← hM3, HP.out, List.map_map]
  conv => rhs; rw [← List.map_id P]
  exact List.map_congr_left (fun x _ => rfl))
 have HPl : Hid (P.length = M + 1) := Lib.hid (by rw [← HP.out, List.length_take]; omega)
 have HPS : Hid (∀ q ∈ P, q.size ≤ 1000) := Lib.hid (fun q hq => by rw [← HP.out] at hq; exact HSz.out q (List.mem_of_mem_take hq))
 obtain ⟨O, HO⟩ : ∃ O, Hid (namedT (decS s) = O) := ⟨_, Lib.hid rfl⟩
 have HOP : Hid (O = partsO P) := Lib.hid (by rw [← HO.out, namedT, Hd.out, HPe.out, partsO]; cases labsT P <;> rfl)
 rw [HO.out]
 have HM1 := Lib.hid hM1; have HM2 := Lib.hid hM2
 have HN := Lib.hid hn
 have hsI : (s.size : Int) ≤ 65536 := by omega
 clear hM3 hDl HTr
 have HDb : Hid (∀ (g cap : Nat) (W : World), (∀ j, (hj : j < D.length) → W.cell? ⟨g, j, none⟩ = some (.string D[j])) → ∀ j, (hj : j < P.length) → W.cell? ⟨g, j, none⟩ = some (.string P[j])) := Lib.hid (fun g cap W h j hj => by
  have hj2 : j < D.length := by rw [HPl.out] at hj; omega
  rw [h j hj2]
  have : P[j]? = D[j]? := by rw [← HP.out, List.getElem?_take_of_lt (by rw [HPl.out] at hj; exact hj)]
  rw [List.getElem?_eq_getElem hj, List.getElem?_eq_getElem hj2] at this
  injection this with this
  rw [this])
 obtain ⟨tr, htr⟩ : ∃ tr : Bool, decide (1 ≤ n ∧ D[n].data.toList = []) = tr := ⟨_, rfl⟩
 have HTt := Lib.hid htr
 clear htr
 have hnI0 : (0 : Int) ≤ (n : Int) := by omega
 clear hM1 hM2
 have hcn : ∀ (g : Nat) (W : World), (∀ j, (hj : j < D.length) → W.cell? ⟨g, j, none⟩ = some (.string D[j])) → W.cell? ⟨g, n, none⟩ = some (.string (D[n]'hnl)) := fun g W h => h n hnl
 have HCn := Lib.hid hcn
 clear hcn
 -- up to the parts
 go_enter Tryz.func44, Tryz.ntmps44
 go_wp2_with fail
 refine (HDec.out _).mono ?_
 rintro e w0 ⟨rfl, b0⟩
 have B0 := Lib.hid b0; clear b0
 go_wp2_with fail
 refine (HPs.out _).mono ?_
 rintro e w1 ⟨v, rfl, own1, b1⟩
 rcases own1.2 with ⟨_, h0⟩ | ⟨g, cap, cur, rfl, hg, hgb, hcap, _⟩
 ·omega
 have hcs : ∀ j, (hj : j < D.length) → w1.cell? ⟨g, j, none⟩ = some (.string D[j]) := fun j hj => by
  rw [own1.cellAt j (by omega), List.getElem?_map, List.getElem?_eq_getElem hj]; rfl
 have HCs := Lib.hid (HDb.out g cap w1 hcs)
 have hcn := HCn.out g w1 hcs
 have B1 : Hid (Below w.heap.size w w1) := Lib.hid (keepW B0.out b1)
 have HGb := Lib.hid (lt_of_block hgb)
 have hcapn : n + 1 ≤ cap := by omega
 rw [hn]
 clear own1 b1 hgb hcs hn HPs HDec HCn HDb
 dsimp only
 go_upto_region 11 with (fail)
 go_cut [61] (fun s61 wx => s61 = .bool tr ∧ w1 = wx)
 case first =>
  by_cases h1 : 1 ≤ n
  ·by_cases h2 : D[n].data.toList = []
   ·have hem : D[n].toList.isEmpty = true := by rw [ByteArray.toList_eq, h2]; rfl
    have ht : tr = true := by rw [← HTt.out]; exact decide_eq_true ⟨h1, h2⟩
    have Ht := Lib.hid ht
    clear h2 ht
    go_wp2
    go_meet
    exact ⟨by rw [Ht.out], rfl⟩
   ·have hem : D[n].toList.isEmpty = false := by
     rw [ByteArray.toList_eq, List.isEmpty_eq_false_iff]; exact h2
    have ht : tr = false := by rw [← HTt.out]; exact decide_eq_false (fun h => h2 h.2)
    have Ht := Lib.hid ht
    clear h2 ht
    go_wp2
    go_meet
    exact ⟨by rw [Ht.out], rfl⟩
  ·have ht : tr = false := by rw [← HTt.out]; exact decide_eq_false (fun h => h1 h.1)
   have Ht := Lib.hid ht
   clear ht
   go_wp2
   go_meet
   exact ⟨by rw [Ht.out], rfl⟩
 case rest =>
 obtain ⟨rfl, rfl⟩ := hcut
 go_upto_if 61 with (fail)
 go_cut [6] (fun s6 wx => s6 = .slice (some ⟨g, 0, none⟩) (M + 1) cap ∧ w1 = wx)
 case first =>
  cases tr
  ·have Hh := Lib.hid (HM2.out (of_decide_eq_false HTt.out))
   go_wp2
   go_meet
   exact ⟨by rw [Hh.out], rfl⟩
  ·have Hh := Lib.hid (HM1.out (of_decide_eq_true HTt.out))
   go_wp2
   go_meet
   exact ⟨by rw [Hh.out], rfl⟩
 case rest =>
 obtain ⟨rfl, rfl⟩ := hcut
 clear hcn hcapn HTt HM1 HM2
 have hM0 : M ≤ 1000 := by omega
 clear hMn hnl
 go_wp2
 go_loopw [7, 8, 9, 10] (fun nm i _ _ wr => ∃ k : Nat, k ≤ M + 1 ∧ i = .int .i64 k ∧ nm = .string (nmR P k) ∧ Hid ((nmR P k).size ≤ 253) ∧ Hid (∀ j (h : j < P.length), j < k → (labT P[j]).2 = 0) ∧ Hid (Below w.heap.size w wr) ∧ Hid (Below w1.heap.size w1 wr)) (fun _ i _ _ _ => M + 1 - (intOf i).toNat)
 case atStart => exact ⟨0, Nat.zero_le _, rfl, rfl, Lib.hid (by rw [nmR_zero]; exact Nat.zero_le _), Lib.hid (fun j _ h => absurd h (Nat.not_lt_zero _)), B1, Lib.hid (Below.refl _ _)⟩
 case round =>
  obtain ⟨k, hk, rfl, rfl, HNs, HOk, HB, HB1⟩ := hrel
  by_cases hlt : k < M + 1
  ·have hkP : k < P.length := by rw [HPl.out]; exact hlt
   obtain ⟨p, Hp⟩ : ∃ p, Hid (P[k] = p) := ⟨_, Lib.hid rfl⟩
   have HpM : Hid (p ∈ P) := Lib.hid (by rw [← Hp.out]; exact List.getElem_mem hkP)
   have hps : p.size ≤ 1000 := HPS.out p HpM.out
   have hc : wr.cell? ⟨g, k, none⟩ = some (.string p) := by
    rw [HB1.out.cell (p := ⟨g, k, none⟩) HGb.out, HCs.out k hkP, Hp.out]
   obtain ⟨L, HL⟩ : ∃ L, Hid ((labT p).1 = L) := ⟨_, Lib.hid rfl⟩
   obtain ⟨c, Hc⟩ : ∃ c, Hid ((labT p).2 = c) := ⟨_, Lib.hid rfl⟩
   have hLs : L.size ≤ 63 := by rw [← HL.out]; exact lab_small p hps
   have HLab : Hid (Calls Tryz.prog 74 #[.string p] wr fun e w' => e = .returned (.tuple #[.string L, .int .i64 c]) ∧ Below wr.heap.size wr w') := Lib.hid (by
    have := RefLabel_any p wr hps
    rwa [HL.out, Hc.out] at this)
   by_cases hc0 : c = 0
   ·subst hc0
    obtain ⟨N, HN⟩ : ∃ N, Hid (nmR P k = N) := ⟨_, Lib.hid rfl⟩
    have hNs : N.size ≤ 253 := by rw [← HN.out]; exact HNs.out
    have HOk2 : Hid (∀ j (h : j < P.length), j < k + 1 → (labT P[j]).2 = 0) := Lib.hid (fun j hj hjk => by
     by_cases e : j = k
     ·subst e; rw [Hp.out]; exact Hc.out
     ·exact HOk.out j hj (by omega))
    rw [HN.out]
    by_cases hk0 : 0 < k
    ·have HN2 : Hid (nmR P (k + 1) = N ++ ⟨#[46]⟩ ++ L) := Lib.hid (by rw [nmR_succ P k hkP hk0, HN.out, Hp.out, HL.out])
     have hk0I : (0 : Int) < (k : Int) := by omega
     have hz1 : ¬ 9223372036854775807 < N.size + 1 := by omega
     have hz2 : ¬ 9223372036854775807 < N.size + 1 + L.size := by omega
     have HSum : Hid ((N ++ ⟨#[46]⟩ ++ L).size = N.size + 1 + L.size) := Lib.hid (by rw [ByteArray.size_append, ByteArray.size_append]; rfl)
     by_cases hbig : 253 < N.size + 1 + L.size
     ·have HR : Hid (O = none) := Lib.hid (by rw [HOP.out]; exact partsO_long (k := k + 1) (by rw [HPl.out]; omega) (by rw [HN2.out, HSum.out]; exact hbig))
      have hbigI : (253 : Int) < (N.size : Int) + 1 + (L.size : Int) := by omega
      go_wp2_with fail
      refine HLab.out.mono ?_
      rintro e w2 ⟨rfl, b2⟩
      have B2 : Hid (Below w.heap.size w w2) := Lib.hid (keepW HB.out b2)
      clear b2 hc
      go_wp2
      go_ret2
      exact ⟨ret_h (by rw [HR.out]; rfl), B2.out⟩
     ·have hbigI : (N.size : Int) + 1 + (L.size : Int) ≤ 253 := by omega
      go_wp2_with fail
      refine HLab.out.mono ?_
      rintro e w2 ⟨rfl, b2⟩
      have B2 : Hid (Below w.heap.size w w2) := Lib.hid (keepW HB.out b2)
      have B3 : Hid (Below w1.heap.size w1 w2) := Lib.hid (keepW HB1.out b2)
      clear b2 hc
      go_wp2
      exact ⟨⟨k + 1, by omega, by go_num, by rw [HN2.out], Lib.hid (by rw [HN2.out, HSum.out]; omega), HOk2, B2, B3⟩, by simp [intOf]; omega⟩
    ·obtain rfl : k = 0 := by omega
     have HN2 : Hid (nmR P (0 + 1) = ⟨#[]⟩ ++ L) := Lib.hid (by rw [nmR_one P hkP, Hp.out, HL.out, emp_app])
     have HNe : Hid (N = ⟨#[]⟩) := Lib.hid (by rw [← HN.out, nmR_zero])
     have hNz : N.size = 0 := by rw [HNe.out]; rfl
     obtain rfl : N = ⟨#[]⟩ := HNe.out
     have hLI : (L.size : Int) ≤ 63 := by omega
     have HSum : Hid (((⟨#[]⟩ : ByteArray) ++ L).size = L.size) := Lib.hid (by rw [emp_app])
     have hz2 : ¬ 9223372036854775807 < L.size := by omega
     clear hNz hNs
     go_wp2_with fail
     refine HLab.out.mono ?_
     rintro e w2 ⟨rfl, b2⟩
     have B2 : Hid (Below w.heap.size w w2) := Lib.hid (keepW HB.out b2)
     have B3 : Hid (Below w1.heap.size w1 w2) := Lib.hid (keepW HB1.out b2)
     clear b2 hc
     go_wp2
     exact ⟨⟨0 + 1, by omega, by go_num, by rw [HN2.out], Lib.hid (by rw [HN2.out, HSum.out]; omega), HOk2, B2, B3⟩, by simp [intOf]⟩
   ·have HR : Hid (O = none) := Lib.hid (by rw [HOP.out]; exact partsO_bad HpM.out (by rw [Hc.out]; exact hc0))
    have hcI : (c == 0) = false := beq_eq_false_iff_ne.2 hc0
    have hcN : (c != 0) = true := by rw [bne, hcI]; rfl
    clear hc0
    go_wp2_with fail
    refine HLab.out.mono ?_
    rintro e w2 ⟨rfl, b2⟩
    have B2 : Hid (Below w.heap.size w w2) := Lib.hid (keepW HB.out b2)
    clear b2 hc
    go_wp2
    go_ret2
    exact ⟨ret_h (by rw [HR.out]; rfl), B2.out⟩
  ·have HkM := Lib.hid (show k = M + 1 by omega)
   have HAll : Hid (∀ p ∈ P, (labT p).2 = 0) := Lib.hid (fun p hp => by
    obtain ⟨j, hj, rfl⟩ := List.getElem_of_mem hp
    exact HOk.out j hj (by rw [HPl.out] at hj; rw [HkM.out]; exact hj))
   obtain ⟨N, HN⟩ : ∃ N, Hid (nmR P k = N) := ⟨_, Lib.hid rfl⟩
   have HOE : Hid (O = endT N) := Lib.hid (by rw [HOP.out, partsO_all HAll.out, HPl.out, ← HkM.out, HN.out])
   have hNs : N.size ≤ 253 := by rw [← HN.out]; exact HNs.out
   rw [HN.out]
   clear HOk HAll HNs HCs HB1
   obtain ⟨wo, rfl⟩ : ∃ wo : World, wo = wr := ⟨_, rfl⟩
   go_wp2
   clear hlt hk
   go_loop [11] (fun i => ∃ k : Nat, k ≤ N.size ∧ i = .int .i64 k ∧ Hid (∀ j (h : j < N.size), j < k → foulB N[j] = false)) (fun i => N.size - (intOf i).toNat)
   case atStart => exact ⟨0, Nat.zero_le _, rfl, Lib.hid (fun _ _ h => absurd h (Nat.not_lt_zero _))⟩
   case round =>
    obtain ⟨k, hk, rfl, HOk⟩ := hrel
    by_cases hlt : k < N.size
    ·obtain ⟨c, HC⟩ : ∃ c, Hid (foulB N[k] = c) := ⟨_, Lib.hid rfl⟩
     have HF := Lib.hid (Reffoul_any N[k])
     rw [HC.out] at HF
     cases c
     ·go_wp2_with fail
      refine (HF.out _).mono ?_
      rintro e w2 ⟨rfl, rfl⟩
      go_wp2
      go_round
      case rel => exact ⟨k + 1, by omega, by go_num, Lib.hid (fun j hj hjk => by
       by_cases e : j = k
       ·subst e; exact HC.out
       ·exact HOk.out j hj (by omega))⟩
      case measure => simp [intOf]; omega
     ·have HR : Hid (O = none) := Lib.hid (by rw [HOE.out, endT_foul (foul_at hlt HC.out)])
      go_wp2_with fail
      refine (HF.out _).mono ?_
      rintro e w2 ⟨rfl, rfl⟩
      go_wp2
      go_ret2
      exact ⟨ret_h (by rw [HR.out]; rfl), HB.out⟩
    ·have HOF : Hid (O = fourT N) := Lib.hid (by rw [HOE.out, endT_four (foul_none (fun j hj => HOk.out j hj (by omega))) hNs])
     clear HOk
     obtain ⟨C, b, c, hv, hsz, hone, hcase⟩ := fourV_row N.data.toList
     have HF : Hid (∀ w, Calls Tryz.prog 76 #[.string N] w fun e w' => e = .returned (.tuple #[.agg C, .bool b, .int .i64 c]) ∧ Below w.heap.size w w') := Lib.hid (fun w => by
      have := RefFour_any N w (by omega)
      rwa [hv] at this)
     have HD : Hid ((Tryz.prog.info? 50).map (·.size) = some C.size) := Lib.hid (by rw [HI.out, hsz])
     have HY : Hid (zeroA.size = C.size) := Lib.hid (by rw [hsz]; exact zeroA_size)
     have HOn := Lib.hid hone
     have HCs := Lib.hid hcase
     clear hv hsz hone hcase
     go_wp2_with fail
     refine (HF.out _).mono ?_
     rintro e w2 ⟨rfl, b2⟩
     obtain ⟨W2, HW2⟩ : ∃ W, Hid (w2.alloc (.cells C 50) = W) := ⟨_, Lib.hid rfl⟩
     have B2 : Hid (Below w.heap.size w W2) := Lib.hid (by
      rw [← HW2.out]
      have := keepW HB.out b2
      exact this.alloc this.size _)
     have G2 : Hid (W2.heap[w2.heap.size]? = some (.cells C 50 (0, 0))) := Lib.hid (by rw [← HW2.out]; exact heap_alloc_new w2 _)
     clear b2
     rcases HCs.out with ⟨rfl, rfl, h⟩ | ⟨rfl, rfl, h⟩ | ⟨rfl, rfl, b0, b1, b2, b3, h, h0, h1, h2, h3, hC⟩
     ·have HR : Hid (O = some N) := Lib.hid (by
       rw [HOF.out, fourT]
       cases e : fourD N.data.toList with
       | mk u v => rw [e] at h; simp only at h; subst h; rfl)
      clear h HCs
      go_wp2_with (refine wpL_store_row rfl 50 _ _ rfl w2.heap.size C ?_ ?_ 50 zeroA ?_ ?_ ?_ ?_ ?_; exact rfl; exact rfl; exact heap_alloc_new w2 _; exact HD.out; exact HY.out; exact HOn.out; rw [World.setRow_alloc_new, HW2.out])
      go_ret2
      exact ⟨ret_h (by rw [HR.out]; rfl), B2.out⟩
     ·have HR : Hid (O = none) := Lib.hid (by rw [HOF.out, fourT, h])
      clear h HCs
      go_wp2_with (refine wpL_store_row rfl 50 _ _ rfl w2.heap.size C ?_ ?_ 50 zeroA ?_ ?_ ?_ ?_ ?_; exact rfl; exact rfl; exact heap_alloc_new w2 _; exact HD.out; exact HY.out; exact HOn.out; rw [World.setRow_alloc_new, HW2.out])
      go_ret2
      exact ⟨ret_h (by rw [HR.out]; rfl), B2.out⟩
     ·obtain ⟨T, HT⟩ : ∃ T, Hid (four4 b0 b1 b2 b3 = T) := ⟨_, Lib.hid rfl⟩
      have HR : Hid (O = some T) := Lib.hid (by rw [HOF.out, fourT, h, ← HT.out])
      have HTx : Hid (Calls Tryz.prog 72 #[.agg C] W2 fun e w' => e = .returned (.string T) ∧ Below W2.heap.size W2 w') := Lib.hid (by
       have := RefText_any false (six0 [b0, b1, b2, b3]) W2 rfl (six0_lt h0 h1 h2 h3)
       rw [show asB (textD false (six0 [b0, b1, b2, b3])) = T from HT.out] at this
       rwa [hC])
      clear h HCs h0 h1 h2 h3 hC
      go_wp2_with (first
       | (refine wpL_store_row rfl 50 _ _ rfl w2.heap.size C ?_ ?_ 50 zeroA ?_ ?_ ?_ ?_ ?_; exact rfl; exact rfl; exact heap_alloc_new w2 _; exact HD.out; exact HY.out; exact HOn.out; rw [World.setRow_alloc_new, HW2.out])
       | (refine wpList_load_row rfl 50 _ rfl w2.heap.size ?_ 50 C (0, 0) _ ?_ Tryz.underlying50 rfl HD.out ?_; (exact rfl); (exact G2.out)))
      refine HTx.out.mono ?_
      rintro e w3 ⟨rfl, b3⟩
      have B3 : Hid (Below w.heap.size w w3) := Lib.hid (keepW B2.out b3)
      clear b3
      go_wp2
      go_ret2
      exact ⟨ret_h (by rw [HR.out]; rfl), B3.out⟩

theorem RefNamed_any (s : ByteArray) (w : World) (hs : s.size ≤ 1000) (hh : s.data.toList.head? ≠ some 91) :
  Calls Tryz.prog 44 #[.string s] w fun e w' => e = .returned (hsV (namedT (decS s))) ∧ Below w.heap.size w w' := by
 by_cases h0 : 0 < s.size
 ·refine RefNamed_n s w hs h0 (emF5 h0) ?_
  refine beq_eq_false_iff_ne.2 (fun e => hh ?_)
  rw [List.head?_eq_getElem?, List.getElem?_eq_getElem (by rw [lenB]; exact h0)]
  have : s[0] = 91 := UInt8.toNat_inj.1 (by have : (91 : UInt8).toNat = 91 := rfl; omega)
  exact congrArg some this
 ·refine RefNamed_e s w hs ?_
  rw [ByteArray.toList_eq, List.isEmpty_iff, ← List.length_eq_zero_iff, lenB]; omega

end Go.Proofs.YtdifdikfgkiocaaGreatDoor
namespace Go.Proofs.YtdifdikfgkiocaaGreatDoor
open Go.RowKit

theorem lastB (s : ByteArray) (h : 0 < s.size) : s.data.toList.getLast? = some (s[s.size - 1]'(by omega)) := by
 rw [List.getLast?_eq_getElem?, lenB, List.getElem?_eq_getElem (by rw [lenB]; omega)]; rfl
set_option maxRecDepth 100000 in
set_option maxHeartbeats 4000000 in
theorem RefBrack_any (s : ByteArray) (w : World) (hs : s.size ≤ 1000) (hh : s.data.toList.head? = some 91) :
  Calls Tryz.prog 44 #[.string s] w fun e w' => e = .returned (hsV (brackT (s.data.toList.drop 1))) ∧ Below w.heap.size w w' := by
 have hl := lenB s
 obtain ⟨r, hr⟩ : ∃ r, s.data.toList = 91 :: r := by
  cases e : s.data.toList with
  | nil => rw [e] at hh; cases hh
  | cons a r => rw [e] at hh; injection hh with hh; exact ⟨r, by rw [hh]⟩
 have h0 : 0 < s.size := by rw [← hl, hr]; simp
 have hem := emF5 h0
 have h91 : s[0] = 91 := by
  have : s[0] = s.data.toList[0]'(by omega) := rfl
  rw [this]; simp [hr]
 have h91I : ((s[0].toNat : Int) == 91) = true := by rw [h91]; rfl
 have hsI : (s.size : Int) ≤ 65536 := by omega
 have hlst := lastB s h0
 obtain ⟨O, HO⟩ : ∃ O, Hid (brackT (s.data.toList.drop 1) = O) := ⟨_, Lib.hid rfl⟩
 rw [HO.out]
 by_cases hlast : s[s.size - 1] = 93
 ·have hrne : r ≠ [] := by
   intro e
   rw [e] at hr
   rw [hr] at hlst
   injection hlst with hlst
   rw [hlast] at hlst
   exact absurd hlst (by decide)
  have hgl : r.getLast? = some 93 := by
   rw [hr, hlast] at hlst
   match r, hrne with
   | c :: q, _ => rwa [List.getLast?_cons_cons] at hlst
  have hlI : ((s[s.size - 1].toNat : Int) == 93) = true := by rw [hlast]; rfl
  have hlN : ((s[s.size - 1].toNat : Int) != 93) = false := by rw [bne, hlI]; rfl
  have hrl : r.length + 1 = s.size := by rw [← hl, hr, List.length_cons]
  have hr1 : 1 ≤ r.length := List.length_pos_iff.2 hrne
  obtain ⟨D, HD⟩ : ∃ D, Hid (s.extract 1 (s.size - 1) = D) := ⟨_, Lib.hid rfl⟩
  have HDl : Hid (D.data.toList = r.dropLast) := Lib.hid (by
   rw [← HD.out, ext_mid s 1 (s.size - 1) (by omega), hr, List.drop_succ_cons, List.drop_zero, List.dropLast_eq_take, ← hrl]
   congr 1)
  have hDs : D.size ≤ 1000 := by
   have h1 := lenB D
   rw [HDl.out, List.length_dropLast] at h1
   omega
  have HOD : Hid (O = match sixD D.data.toList with
   | none => none
   | some ps => some (asB ([91] ++ textD true (pb ps) ++ [93]))) := Lib.hid (by
   rw [← HO.out, hr, List.drop_succ_cons, List.drop_zero, brackT, if_pos hgl, HDl.out]; rfl)
  have hs2 : 2 ≤ s.size := by omega
  have hs2I : (2 : Int) ≤ (s.size : Int) := by omega
  have hmax : max (1 : Int) ((s.size : Int) - 1) = (s.size : Int) - 1 := by omega
  obtain ⟨C, c, hv, hsz, hone, hcase⟩ := sixV_row D.data.toList
  obtain ⟨hz, hi⟩ := zero_of_info infoA
  have HI := Lib.hid hi; clear hi
  have HF : Hid (∀ w, Calls Tryz.prog 71 #[.string D] w fun e w' => e = .returned (.tuple #[.agg C, .int .i64 c]) ∧ Below w.heap.size w w') := Lib.hid (fun w => by
   have := RefSix_any D w (by omega)
   rwa [hv] at this)
  have HFe : Hid (∀ w, Calls Tryz.prog 71 #[.string (s.extract 1 (s.size - 1))] w fun e w' => e = .returned (.tuple #[.agg C, .int .i64 c]) ∧ Below w.heap.size w w') := Lib.hid (fun w => by rw [HD.out]; exact HF.out w)
  have HDD : Hid ((Tryz.prog.info? 50).map (·.size) = some C.size) := Lib.hid (by rw [HI.out, hsz])
  have HY : Hid (zeroA.size = C.size) := Lib.hid (by rw [hsz]; exact zeroA_size)
  have HOn := Lib.hid hone
  have HCs := Lib.hid hcase
  clear hv hsz hone hcase hlast hgl hrl hh h91 HF hlst hrne hr1
  go_enter Tryz.func44, Tryz.ntmps44
  go_wp2_with fail
  refine (HFe.out _).mono ?_
  rintro e w1 ⟨rfl, b1⟩
  obtain ⟨W2, HW2⟩ : ∃ W, Hid (w1.alloc (.cells C 50) = W) := ⟨_, Lib.hid rfl⟩
  have B2 : Hid (Below w.heap.size w W2) := Lib.hid (by rw [← HW2.out]; exact b1.alloc b1.size _)
  have G2 : Hid (W2.heap[w1.heap.size]? = some (.cells C 50 (0, 0))) := Lib.hid (by rw [← HW2.out]; exact heap_alloc_new w1 _)
  clear b1
  rcases HCs.out with ⟨rfl, h⟩ | ⟨rfl, ps, h, hl, hb, hC⟩
  ·have HR : Hid (O = none) := Lib.hid (by rw [HOD.out, h])
   clear h HCs
   go_wp2_with (refine wpL_store_row rfl 50 _ _ rfl w1.heap.size C ?_ ?_ 50 zeroA ?_ ?_ ?_ ?_ ?_; exact rfl; exact rfl; exact heap_alloc_new w1 _; exact HDD.out; exact HY.out; exact HOn.out; rw [World.setRow_alloc_new, HW2.out])
   go_ret2
   exact ⟨ret_h (by rw [HR.out]; rfl), B2.out⟩
  ·obtain ⟨T, HT⟩ : ∃ T, Hid (asB (textD true (pb ps)) = T) := ⟨_, Lib.hid rfl⟩
   have HR : Hid (O = some ((⟨#[91]⟩ : ByteArray) ++ T ++ ⟨#[93]⟩)) := Lib.hid (by
    rw [HOD.out, h, ← HT.out]
    show some _ = some _
    rw [show (⟨#[91]⟩ : ByteArray) = asB [91] from rfl, show (⟨#[93]⟩ : ByteArray) = asB [93] from rfl, asB_cat, asB_cat])
   have hTs : T.size ≤ 39 := by
    rw [← HT.out, asB_size]; exact (six_made (pb ps) hb).2.2.2
   have HTx : Hid (Calls Tryz.prog 72 #[.agg C] W2 fun e w' => e = .returned (.string T) ∧ Below W2.heap.size W2 w') := Lib.hid (by
    have := RefText_any true (pb ps) W2 hl hb
    rw [HT.out] at this
    rwa [hC])
   clear h HCs hl hb hC
   have hz1 : ¬ 9223372036854775807 < 1 + T.size := by omega
   have hz2 : ¬ 9223372036854775807 < 1 + T.size + 1 := by omega
   go_wp2_with (first
    | (refine wpL_store_row rfl 50 _ _ rfl w1.heap.size C ?_ ?_ 50 zeroA ?_ ?_ ?_ ?_ ?_; exact rfl; exact rfl; exact heap_alloc_new w1 _; exact HDD.out; exact HY.out; exact HOn.out; rw [World.setRow_alloc_new, HW2.out])
    | (refine wpList_load_row rfl 50 _ rfl w1.heap.size ?_ 50 C (0, 0) _ ?_ Tryz.underlying50 rfl HDD.out ?_; (exact rfl); (exact G2.out)))
   refine HTx.out.mono ?_
   rintro e w3 ⟨rfl, b3⟩
   have B3 : Hid (Below w.heap.size w w3) := Lib.hid (keepW B2.out b3)
   clear b3
   go_wp2
   go_ret2
   exact ⟨ret_h (by rw [HR.out]; rfl), B3.out⟩
 ·have hlI : ((s[s.size - 1].toNat : Int) == 93) = false := beq_eq_false_iff_ne.2 (fun e => hlast (UInt8.toNat_inj.1 (by have : (93 : UInt8).toNat = 93 := rfl; omega)))
  have hlN : ((s[s.size - 1].toNat : Int) != 93) = true := by rw [bne, hlI]; rfl
  have HR : Hid (O = none) := Lib.hid (by
   rw [← HO.out, hr, List.drop_succ_cons, List.drop_zero, brackT, if_neg (fun e => ?_)]
   match r, e with
   | c :: q, e =>
    rw [hr, List.getLast?_cons_cons, e] at hlst
    injection hlst with hlst
    exact hlast hlst.symm)
  have hs1I : (1 : Int) ≤ (s.size : Int) := by omega
  clear hlast hh h91 hlst
  go_enter Tryz.func44, Tryz.ntmps44
  go_wp2
  go_ret2
  exact ⟨ret_h (by rw [HR.out]; rfl), Below.refl _ _⟩
theorem RefParse5_any (s : ByteArray) (w : World) (hs : s.size ≤ 1000) :
  Calls Tryz.prog 44 #[.string s] w fun e w' => e = .returned (hsV (hostO s)) ∧ Below w.heap.size w w' := by
 by_cases h : s.data.toList.head? = some 91
 ·rw [hostO, if_pos h]; exact RefBrack_any s w hs h
 ·rw [hostO, if_neg h]; exact RefNamed_any s w hs h

end Go.Proofs.YtdifdikfgkiocaaGreatDoor
