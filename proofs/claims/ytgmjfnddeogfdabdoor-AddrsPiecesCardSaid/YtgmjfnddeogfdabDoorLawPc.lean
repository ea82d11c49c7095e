/-
  The walk of AddrsPieces.
-/
import Derived.Test.YtgmjfnddeogfdabDoorLawBk
import Derived.Test.YtgmjfnddeogfdabDoorDg4
namespace Go.Proofs.YtgmjfnddeogfdabDoor
open Go.RowKit

/-- So many bytes, told with their noughts. -/
def sP (g : Bool) (l : List Nat) : Nat → List UInt8
  | 0 => []
  | k + 1 => sP g l k ++ (if 0 < k ∧ k % 2 = 0 then [58] else []) ++ pr g (l.getD k 0)
theorem sP_succ (g : Bool) (l : List Nat) (k : Nat) : sP g l (k + 1) = sP g l k ++ (if 0 < k ∧ k % 2 = 0 then [58] else []) ++ pr g (l.getD k 0) := rfl
theorem sP_len (g : Bool) (l : List Nat) : ∀ k, (sP g l k).length ≤ 3 * k
  | 0 => by simp [sP]
  | k + 1 => by
    have := sP_len g l k
    rw [sP]
    simp only [List.length_append, pr, List.length_cons, List.length_nil]
    split <;> simp <;> omega
theorem sP_full (g : Bool) (l : List Nat) : sP g l 16 = Lib.join ((List.range 8).map (qd g l)) [58] := by
  simp [sP, qd, Lib.join, List.range_succ, List.intercalate]
theorem sP_tail (g : Bool) (l : List Nat) : sP g l 12 ++ [58] ++ numF 10 4 (l.getD 12 0) ++ [46] ++ numF 10 4 (l.getD 13 0) ++ [46] ++ numF 10 4 (l.getD 14 0) ++ [46] ++ numF 10 4 (l.getD 15 0) = tailP g l := by
  simp [sP, tailP, qd, Lib.join, List.range_succ, List.intercalate]
theorem hxg_fin : (∀ d : Fin 16, (⟨#[48, 49, 50, 51, 52, 53, 54, 55, 56, 57, 97, 98, 99, 100, 101, 102]⟩ : ByteArray).extract d.1 (d.1 + 1) = asB [hx false d.1]) ∧ (∀ d : Fin 16, (⟨#[48, 49, 50, 51, 52, 53, 54, 55, 56, 57, 65, 66, 67, 68, 69, 70]⟩ : ByteArray).extract d.1 (d.1 + 1) = asB [hx true d.1]) := by
  constructor
  · have h : ∀ d : Fin 16, ((⟨#[48, 49, 50, 51, 52, 53, 54, 55, 56, 57, 97, 98, 99, 100, 101, 102]⟩ : ByteArray).extract d.1 (d.1 + 1)).data.toList = [hx false d.1] := by decide +kernel
    intro d
    apply ByteArray.ext; apply Array.toList_inj.1; exact h d
  · have h : ∀ d : Fin 16, ((⟨#[48, 49, 50, 51, 52, 53, 54, 55, 56, 57, 65, 66, 67, 68, 69, 70]⟩ : ByteArray).extract d.1 (d.1 + 1)).data.toList = [hx true d.1] := by decide +kernel
    intro d
    apply ByteArray.ext; apply Array.toList_inj.1; exact h d

set_option maxRecDepth 100000 in
set_option maxHeartbeats 4000000 in
theorem pieces_false (l : List Nat) (w : World) (hl : l.length = 16) (hb : ∀ x ∈ l, x < 256) (h10 : Fmt 10 256 w) (h16 : Fmt 16 65536 w) :
    Calls Tryd.prog 7 #[.agg (l.map u8v).toArray, .bool false] w fun e w' => e = .returned (.bool true) ∧ Below w.heap.size w w' := by
  have HF10 := Lib.hid h10; have HF16 := Lib.hid h16
  have HBd : Hid (∀ x ∈ l, x < 256) := Lib.hid hb
  obtain ⟨B, HB⟩ : ∃ B, Hid ((l.map u8v).toArray = B) := ⟨_, Lib.hid rfl⟩
  rw [HB.out]
  have HBs : Hid (B.size = 16) := Lib.hid (by rw [← HB.out]; simp [hl])
  have HBc : Hid (∀ k, k < 16 → B[k]? = some (.int .u8 ((l.getD k 0 : Nat) : Int))) := Lib.hid (fun k hk => by
    rw [← HB.out, List.getElem?_toArray, List.getElem?_map, List.getD_eq_getElem?_getD, List.getElem?_eq_getElem (by omega)]; rfl)
  have Hl := Lib.hid hl
  obtain ⟨hzB, hiB⟩ := zero_of_info infoB
  have HDB : Hid ((Tryd.prog.info? 22).map (·.size) = some B.size) := Lib.hid (by rw [hiB, HBs.out])
  clear hzB hiB
  obtain ⟨hz, hi⟩ := zero_of_info infoA
  have HI := Lib.hid hi; clear hi
  obtain ⟨CT, HCT⟩ : ∃ C, Hid (cellsA true l = C) := ⟨_, Lib.hid rfl⟩
  have HST : Hid (CT.size = 17) := Lib.hid (by rw [← HCT.out, cellsA_size, Hl.out])
  have HOT : Hid (CT.all (·.oneCell') = true) := Lib.hid (by rw [← HCT.out]; exact cellsA_one _ _)
  have HDT : Hid ((Tryd.prog.info? 24).map (·.size) = some CT.size) := Lib.hid (by rw [HI.out, HST.out])
  have HYT : Hid (zeroA.size = CT.size) := Lib.hid (by rw [HST.out]; exact zeroA_size)
  have HBt : Hid (Tryd.prog.built 24 [(0, .bool true), (1, .agg B)] = some CT) := Lib.hid (by rw [← HB.out, ← HCT.out]; exact built_six l Hl.out)
  have heqT : ∀ w, (binOp .eql 24 (.agg CT) (.agg CT)).run Tryd.prog w = .ok (.bool true) w := fun w => by rw [← HCT.out]; exact eqA_self true l Hl.out w
  obtain ⟨TF, HTF⟩ : ∃ t, Hid (asB (sP false l 16) = t) := ⟨_, Lib.hid rfl⟩
  obtain ⟨TL, HTL⟩ : ∃ t, Hid (asB (tailP false l) = t) := ⟨_, Lib.hid rfl⟩
  have hFs : TF.size ≤ 100 := by rw [← HTF.out, asB_size]; exact Nat.le_trans (sP_len _ _ _) (by omega)
  have HN : Hid (∀ j, (numF 10 4 (l.getD j 0)).length ≤ 4) := Lib.hid (fun j => numF_len _ _ _)
  have hLs : TL.size ≤ 100 := by
    rw [← HTL.out, asB_size, ← sP_tail]
    have h0 := sP_len false l 12
    have n2 := HN.out 12; have n3 := HN.out 13; have n4 := HN.out 14; have n5 := HN.out 15
    simp only [List.length_append, List.length_cons, List.length_nil]
    omega
  have SF : Hid (∀ w', Calls Tryd.prog 8 #[.string TF] w' fun e w'' => e = .returned (.tuple #[.agg CT, .int .i64 0]) ∧ Below w'.heap.size w' w'') := Lib.hid (fun w' => by
    have h := Six_any TF w' (by omega)
    have e : sixD TF.data.toList = some (pcs l) := by rw [← HTF.out, asB_data, sP_full]; exact six_full false l HBd.out
    rw [e, sixV, pb_pcs l Hl.out HBd.out, HCT.out] at h
    exact h)
  have SL : Hid (∀ w', Calls Tryd.prog 8 #[.string TL] w' fun e w'' => e = .returned (.tuple #[.agg CT, .int .i64 0]) ∧ Below w'.heap.size w' w'') := Lib.hid (fun w' => by
    have h := Six_any TL w' (by omega)
    have e : sixD TL.data.toList = some (pcs l) := by rw [← HTL.out, asB_data]; exact six_tail false l HBd.out
    rw [e, sixV, pb_pcs l Hl.out HBd.out, HCT.out] at h
    exact h)
  have HDg : Hid (∀ j w', Calls Tryd.prog 13 #[.int .u32 ((l.getD j 0 : Nat) : Int), .int .u32 10] w' fun e w'' => e = .returned (.string (asB (numF 10 4 (l.getD j 0)))) ∧ Below w'.heap.size w' w'') := Lib.hid (fun j w' => by
    have hxj := getD_small HBd.out j
    exact digits4_any 10 (by omega) (by omega) 4 (l.getD j 0) w' (by omega) (by omega) (by omega) (by omega))
  obtain ⟨W0, HW0⟩ : ∃ W, Hid (w.alloc (.cells B 22) = W) := ⟨_, Lib.hid rfl⟩
  have Z0 : Hid (Below w.heap.size w W0) := Lib.hid (by rw [← HW0.out]; exact (Below.refl _ _).alloc (Nat.le_refl _) _)
  have G0 : Hid (W0.heap[w.heap.size]? = some (.cells B 22 (0, 0))) := Lib.hid (by rw [← HW0.out]; exact heap_alloc_new w _)
  clear hl hb h10 h16
  go_enter Tryd.func7, Tryd.ntmps7
  go_wp2_with fail
  rw [HW0.out]
  go_loopw [6, 7, 8] (fun s t i wr => ∃ (k : Nat) (U : ByteArray), k ≤ 16 ∧ i = .int .i64 k ∧ s = .string (asB (sP false l k)) ∧ t = .string U ∧ Hid (11 < k → U = TL) ∧ Hid (Below W0.heap.size W0 wr)) (fun _ _ i _ => 16 - (intOf i).toNat)
  case atStart => exact ⟨0, ⟨#[]⟩, by omega, rfl, rfl, rfl, Lib.hid (by omega), Lib.hid (Below.refl _ _)⟩
  case round =>
    obtain ⟨k, U, hk, rfl, rfl, rfl, HU, HBr⟩ := hrel
    obtain ⟨S, HS⟩ : ∃ t, Hid (asB (sP false l k) = t) := ⟨_, Lib.hid rfl⟩
    rw [HS.out]
    by_cases hlt : k < 16
    · obtain ⟨x, HX⟩ : ∃ x, Hid (l.getD k 0 = x) := ⟨_, Lib.hid rfl⟩
      have hx256 : x < 256 := by rw [← HX.out]; exact getD_small HBd.out k
      have hcell : wr.cell? ⟨w.heap.size, k, none⟩ = some (.int .u8 (x : Int)) := by
        rw [HBr.out.cell (p := ⟨w.heap.size, k, none⟩) (lt_of_block G0.out), cell_of_row _ _ _ _ _ _ G0.out, HBc.out k hlt, HX.out]
      obtain ⟨p, Hp⟩ : ∃ p, Hid (x / 16 = p) := ⟨_, Lib.hid rfl⟩
      obtain ⟨r, Hr⟩ : ∃ r, Hid (x % 16 = r) := ⟨_, Lib.hid rfl⟩
      have hp16 : p < 16 := by rw [← Hp.out]; omega
      have hr16 : r < 16 := by rw [← Hr.out]; omega
      have e1 : (x : Int) / 16 = (p : Int) := by rw [← Hp.out]; rfl
      have e2 : (x : Int) % 16 = (r : Int) := by rw [← Hr.out]; rfl
      have p1 : (0 : Int) ≤ (p : Int) := by omega
      have p2 : (p : Int) < 16 := by omega
      have p3 : (p : Int) + 1 ≤ 16 := by omega
      have p4 : (0 : Int) ≤ (p : Int) + 1 := by omega
      have p5 : (p : Int) ≤ (p : Int) + 1 := by omega
      have p6 : ((p : Int) + 1).toNat = p + 1 := by omega
      have r1 : (0 : Int) ≤ (r : Int) := by omega
      have r2 : (r : Int) < 16 := by omega
      have r3 : (r : Int) + 1 ≤ 16 := by omega
      have r4 : (0 : Int) ≤ (r : Int) + 1 := by omega
      have r5 : (r : Int) ≤ (r : Int) + 1 := by omega
      have r6 : ((r : Int) + 1).toNat = r + 1 := by omega
      have pw : IntKind.u8.wrap (p : Int) = (p : Int) := IntWalk.u8_in _ (by omega)
      have pw1 : IntKind.u8.wrap ((p : Int) + 1) = (p : Int) + 1 := IntWalk.u8_in _ (by omega)
      have rw1 : IntKind.u8.wrap ((r : Int) + 1) = (r : Int) + 1 := IntWalk.u8_in _ (by omega)
      have rw0 : IntKind.u8.wrap (r : Int) = (r : Int) := IntWalk.u8_in _ (by omega)
      have hltI : (k : Int) < 16 := by omega
      have hkI : (0 : Int) ≤ (k : Int) := by omega
      have HSl := sP_len false l k
      have HEp : Hid ((⟨#[48, 49, 50, 51, 52, 53, 54, 55, 56, 57, 97, 98, 99, 100, 101, 102]⟩ : ByteArray).extract p (p + 1) = asB [hx false p]) := Lib.hid (hxg_fin.1 ⟨p, hp16⟩)
      have HEr : Hid ((⟨#[48, 49, 50, 51, 52, 53, 54, 55, 56, 57, 97, 98, 99, 100, 101, 102]⟩ : ByteArray).extract r (r + 1) = asB [hx false r]) := Lib.hid (hxg_fin.1 ⟨r, hr16⟩)
      by_cases h0 : k = 0
      · subst h0
        have hSs : S.size ≤ 60 := by rw [← HS.out, asB_size]; omega
        have hz1 : ¬ 9223372036854775807 < S.size + (min (p + 1) 16 - p) := by omega
        have hz2 : ¬ 9223372036854775807 < S.size + (min (p + 1) 16 - p) + (min (r + 1) 16 - r) := by omega
        have HNx : Hid (S ++ (⟨#[48, 49, 50, 51, 52, 53, 54, 55, 56, 57, 97, 98, 99, 100, 101, 102]⟩ : ByteArray).extract p (p + 1) ++ (⟨#[48, 49, 50, 51, 52, 53, 54, 55, 56, 57, 97, 98, 99, 100, 101, 102]⟩ : ByteArray).extract r (r + 1) = asB (sP false l (0 + 1))) := Lib.hid (by
          rw [HEp.out, HEr.out, ← HS.out, sP_succ false l 0, HX.out, pr, Hp.out, Hr.out]
          rw [if_neg (by omega)]
          apply ByteArray.ext
          simp [asB])
        go_wp2_with fail
        go_quiet (fail)
        go_wp2_with fail
        go_roundw
        case rel => exact ⟨0 + 1, U, by omega, rfl, congrArg Value.string HNx.out, rfl, Lib.hid (fun h => absurd h (by omega)), Lib.hid ⟨HBr.out.os, HBr.out.tape, HBr.out.output, HBr.out.size, HBr.out.block⟩⟩
        case measure => first | (simp [intOf]; done) | (simp [intOf]; omega)
      · have h0I : (0 : Int) < (k : Int) := by omega
        by_cases he : k % 2 = 0
        · have he1 : (k : Int) % 2 = 0 := by omega
          have h11 : ((k : Int) == 11) = false := beq_eq_false_iff_ne.2 (by omega)
          have hSs : S.size ≤ 60 := by rw [← HS.out, asB_size]; omega
          have hz0 : ¬ 9223372036854775807 < S.size + 1 := by omega
          have hz1 : ¬ 9223372036854775807 < S.size + 1 + (min (p + 1) 16 - p) := by omega
          have hz2 : ¬ 9223372036854775807 < S.size + 1 + (min (p + 1) 16 - p) + (min (r + 1) 16 - r) := by omega
          have HNx : Hid ((S ++ (⟨#[58]⟩ : ByteArray)) ++ (⟨#[48, 49, 50, 51, 52, 53, 54, 55, 56, 57, 97, 98, 99, 100, 101, 102]⟩ : ByteArray).extract p (p + 1) ++ (⟨#[48, 49, 50, 51, 52, 53, 54, 55, 56, 57, 97, 98, 99, 100, 101, 102]⟩ : ByteArray).extract r (r + 1) = asB (sP false l (k + 1))) := Lib.hid (by
            rw [HEp.out, HEr.out, ← HS.out, sP_succ false l k, HX.out, pr, Hp.out, Hr.out]
            rw [if_pos (by omega)]
            apply ByteArray.ext
            simp [asB])
          go_wp2_with fail
          go_quiet (fail)
          go_wp2_with fail
          go_roundw
          case rel => exact ⟨k + 1, U, by omega, by go_num, congrArg Value.string HNx.out, rfl, Lib.hid (fun _ => HU.out (by omega)), Lib.hid ⟨HBr.out.os, HBr.out.tape, HBr.out.output, HBr.out.size, HBr.out.block⟩⟩
          case measure => first | (simp [intOf]; done) | (simp [intOf]; omega)
        · have he1 : (k : Int) % 2 = 1 := by omega
          by_cases hk11 : k = 11
          · subst hk11
            have hSs : S.size ≤ 60 := by rw [← HS.out, asB_size]; omega
            have hz1 : ¬ 9223372036854775807 < S.size + (min (p + 1) 16 - p) := by omega
            have hz2 : ¬ 9223372036854775807 < S.size + (min (p + 1) 16 - p) + (min (r + 1) 16 - r) := by omega
            have HNx : Hid (S ++ (⟨#[48, 49, 50, 51, 52, 53, 54, 55, 56, 57, 97, 98, 99, 100, 101, 102]⟩ : ByteArray).extract p (p + 1) ++ (⟨#[48, 49, 50, 51, 52, 53, 54, 55, 56, 57, 97, 98, 99, 100, 101, 102]⟩ : ByteArray).extract r (r + 1) = asB (sP false l (11 + 1))) := Lib.hid (by
              rw [HEp.out, HEr.out, ← HS.out, sP_succ false l 11, HX.out, pr, Hp.out, Hr.out]
              rw [if_neg (by omega)]
              apply ByteArray.ext
              simp [asB])
            go_wp2_with fail
            go_quiet (fail)
            obtain ⟨x12, HX12⟩ : ∃ x, Hid (l.getD 12 0 = x) := ⟨_, Lib.hid rfl⟩
            have hx12 : x12 < 256 := by rw [← HX12.out]; exact getD_small HBd.out 12
            have wr12 : IntKind.u32.wrap (x12 : Int) = (x12 : Int) := IntWalk.u32_in _ (by omega)
            obtain ⟨D12, HD12⟩ : ∃ t, Hid (asB (numF 10 4 x12) = t) := ⟨_, Lib.hid rfl⟩
            have hDs12 : D12.size ≤ 4 := by rw [← HD12.out, asB_size]; exact numF_len _ _ _
            have HG12 : Hid (∀ w', Calls Tryd.prog 13 #[.int .u32 (x12 : Int), .int .u32 10] w' fun e w'' => e = .returned (.string D12) ∧ Below w'.heap.size w' w'') := Lib.hid (fun w' => by
              have := HDg.out 12 w'
              rwa [HX12.out, HD12.out] at this)
            obtain ⟨x13, HX13⟩ : ∃ x, Hid (l.getD 13 0 = x) := ⟨_, Lib.hid rfl⟩
            have hx13 : x13 < 256 := by rw [← HX13.out]; exact getD_small HBd.out 13
            have wr13 : IntKind.u32.wrap (x13 : Int) = (x13 : Int) := IntWalk.u32_in _ (by omega)
            obtain ⟨D13, HD13⟩ : ∃ t, Hid (asB (numF 10 4 x13) = t) := ⟨_, Lib.hid rfl⟩
            have hDs13 : D13.size ≤ 4 := by rw [← HD13.out, asB_size]; exact numF_len _ _ _
            have HG13 : Hid (∀ w', Calls Tryd.prog 13 #[.int .u32 (x13 : Int), .int .u32 10] w' fun e w'' => e = .returned (.string D13) ∧ Below w'.heap.size w' w'') := Lib.hid (fun w' => by
              have := HDg.out 13 w'
              rwa [HX13.out, HD13.out] at this)
            obtain ⟨x14, HX14⟩ : ∃ x, Hid (l.getD 14 0 = x) := ⟨_, Lib.hid rfl⟩
            have hx14 : x14 < 256 := by rw [← HX14.out]; exact getD_small HBd.out 14
            have wr14 : IntKind.u32.wrap (x14 : Int) = (x14 : Int) := IntWalk.u32_in _ (by omega)
            obtain ⟨D14, HD14⟩ : ∃ t, Hid (asB (numF 10 4 x14) = t) := ⟨_, Lib.hid rfl⟩
            have hDs14 : D14.size ≤ 4 := by rw [← HD14.out, asB_size]; exact numF_len _ _ _
            have HG14 : Hid (∀ w', Calls Tryd.prog 13 #[.int .u32 (x14 : Int), .int .u32 10] w' fun e w'' => e = .returned (.string D14) ∧ Below w'.heap.size w' w'') := Lib.hid (fun w' => by
              have := HDg.out 14 w'
              rwa [HX14.out, HD14.out] at this)
            obtain ⟨x15, HX15⟩ : ∃ x, Hid (l.getD 15 0 = x) := ⟨_, Lib.hid rfl⟩
            have hx15 : x15 < 256 := by rw [← HX15.out]; exact getD_small HBd.out 15
            have wr15 : IntKind.u32.wrap (x15 : Int) = (x15 : Int) := IntWalk.u32_in _ (by omega)
            obtain ⟨D15, HD15⟩ : ∃ t, Hid (asB (numF 10 4 x15) = t) := ⟨_, Lib.hid rfl⟩
            have hDs15 : D15.size ≤ 4 := by rw [← HD15.out, asB_size]; exact numF_len _ _ _
            have HG15 : Hid (∀ w', Calls Tryd.prog 13 #[.int .u32 (x15 : Int), .int .u32 10] w' fun e w'' => e = .returned (.string D15) ∧ Below w'.heap.size w' w'') := Lib.hid (fun w' => by
              have := HDg.out 15 w'
              rwa [HX15.out, HD15.out] at this)
            obtain ⟨S2, HS2⟩ : ∃ t, Hid (asB (sP false l (11 + 1)) = t) := ⟨_, Lib.hid rfl⟩
            have hS2 : S2.size ≤ 36 := by rw [← HS2.out, asB_size]; exact Nat.le_trans (sP_len _ _ _) (by omega)
            have HN2 := Lib.hid (HNx.out.trans HS2.out)
            rw [HN2.out]
            have hq0 : ¬ 9223372036854775807 < S2.size + 1 := by omega
            have hq1 : ¬ 9223372036854775807 < S2.size + 1 + D12.size := by omega
            have hq2 : ¬ 9223372036854775807 < S2.size + 1 + D12.size + 1 := by omega
            have hq3 : ¬ 9223372036854775807 < S2.size + 1 + D12.size + 1 + D13.size := by omega
            have hq4 : ¬ 9223372036854775807 < S2.size + 1 + D12.size + 1 + D13.size + 1 := by omega
            have hq5 : ¬ 9223372036854775807 < S2.size + 1 + D12.size + 1 + D13.size + 1 + D14.size := by omega
            have hq6 : ¬ 9223372036854775807 < S2.size + 1 + D12.size + 1 + D13.size + 1 + D14.size + 1 := by omega
            have hq7 : ¬ 9223372036854775807 < S2.size + 1 + D12.size + 1 + D13.size + 1 + D14.size + 1 + D15.size := by omega
            have HTe : Hid (((((((((S2 ++ (⟨#[58]⟩ : ByteArray)) ++ D12) ++ (⟨#[46]⟩ : ByteArray)) ++ D13) ++ (⟨#[46]⟩ : ByteArray)) ++ D14) ++ (⟨#[46]⟩ : ByteArray)) ++ D15) = TL) := Lib.hid (by
              rw [← HTL.out, ← sP_tail, HX12.out, HX13.out, HX14.out, HX15.out, ← HS2.out, ← HD12.out, ← HD13.out, ← HD14.out, ← HD15.out]
              apply ByteArray.ext
              simp [asB])
            have hc12 : ∀ p : BW (wr.drewN nq), p.w.cell? ⟨w.heap.size, 12, none⟩ = some (.int .u8 (x12 : Int)) := fun p => by
              have hg : (wr.drewN nq).heap[w.heap.size]? = some (.cells B 22 (0, 0)) := (HBr.out.block _ (lt_of_block G0.out)).trans G0.out
              rw [BW.cell hg p, HBc.out 12 (by omega), HX12.out]
            have hc13 : ∀ p : BW (wr.drewN nq), p.w.cell? ⟨w.heap.size, 13, none⟩ = some (.int .u8 (x13 : Int)) := fun p => by
              have hg : (wr.drewN nq).heap[w.heap.size]? = some (.cells B 22 (0, 0)) := (HBr.out.block _ (lt_of_block G0.out)).trans G0.out
              rw [BW.cell hg p, HBc.out 13 (by omega), HX13.out]
            have hc14 : ∀ p : BW (wr.drewN nq), p.w.cell? ⟨w.heap.size, 14, none⟩ = some (.int .u8 (x14 : Int)) := fun p => by
              have hg : (wr.drewN nq).heap[w.heap.size]? = some (.cells B 22 (0, 0)) := (HBr.out.block _ (lt_of_block G0.out)).trans G0.out
              rw [BW.cell hg p, HBc.out 14 (by omega), HX14.out]
            have hc15 : ∀ p : BW (wr.drewN nq), p.w.cell? ⟨w.heap.size, 15, none⟩ = some (.int .u8 (x15 : Int)) := fun p => by
              have hg : (wr.drewN nq).heap[w.heap.size]? = some (.cells B 22 (0, 0)) := (HBr.out.block _ (lt_of_block G0.out)).trans G0.out
              rw [BW.cell hg p, HBc.out 15 (by omega), HX15.out]
            go_wp2_with fail
            refine bw_region (by kernel_rfl) (by kernel_rfl) ?_
            repeat (quiet_step ((first
              | (with_reducible exact Calls.bw_of (HG12.out _))
              | (with_reducible exact Calls.bw_of (HG13.out _))
              | (with_reducible exact Calls.bw_of (HG14.out _))
              | (with_reducible exact Calls.bw_of (HG15.out _)))))
            refine wpQuiet_nil ?_
            intro _ hw'
            obtain ⟨⟨wq, hwq⟩, rfl⟩ := hw'
            have HBq := Lib.hid ((show Below W0.heap.size W0 (wr.drewN nq) from ⟨HBr.out.os, HBr.out.tape, HBr.out.output, HBr.out.size, HBr.out.block⟩).trans (hwq.mono HBr.out.size))
            clear hwq
            go_wp2_with fail
            go_roundw
            case rel => exact ⟨11 + 1, TL, by omega, rfl, congrArg Value.string HS2.out.symm, congrArg Value.string HTe.out, Lib.hid (fun _ => rfl), Lib.hid HBq.out⟩
            case measure => first | (simp [intOf]; done) | (simp [intOf]; omega)
          · have h11 : ((k : Int) == 11) = false := beq_eq_false_iff_ne.2 (by omega)
            have hSs : S.size ≤ 60 := by rw [← HS.out, asB_size]; omega
            have hz1 : ¬ 9223372036854775807 < S.size + (min (p + 1) 16 - p) := by omega
            have hz2 : ¬ 9223372036854775807 < S.size + (min (p + 1) 16 - p) + (min (r + 1) 16 - r) := by omega
            have HNx : Hid (S ++ (⟨#[48, 49, 50, 51, 52, 53, 54, 55, 56, 57, 97, 98, 99, 100, 101, 102]⟩ : ByteArray).extract p (p + 1) ++ (⟨#[48, 49, 50, 51, 52, 53, 54, 55, 56, 57, 97, 98, 99, 100, 101, 102]⟩ : ByteArray).extract r (r + 1) = asB (sP false l (k + 1))) := Lib.hid (by
              rw [HEp.out, HEr.out, ← HS.out, sP_succ false l k, HX.out, pr, Hp.out, Hr.out]
              rw [if_neg (by omega)]
              apply ByteArray.ext
              simp [asB])
            go_wp2_with fail
            go_quiet (fail)
            go_wp2_with fail
            go_roundw
            case rel => exact ⟨k + 1, U, by omega, by go_num, congrArg Value.string HNx.out, rfl, Lib.hid (fun _ => HU.out (by omega)), Lib.hid ⟨HBr.out.os, HBr.out.tape, HBr.out.output, HBr.out.size, HBr.out.block⟩⟩
            case measure => first | (simp [intOf]; done) | (simp [intOf]; omega)
    · have hS : S = TF := HS.out.symm.trans (by rw [show k = 16 by omega]; exact HTF.out)
      have hU : U = TL := HU.out (by omega)
      have hkI : (16 : Int) ≤ (k : Int) := by omega
      rw [hS, hU]
      clear hS hU HU HS hlt
      go_wp2_with fail
      refine (SF.out _).mono ?_
      rintro e w1 ⟨rfl, b1⟩
      have Y1 : Hid (Below W0.heap.size W0 w1) := Lib.hid (HBr.out.trans (b1.mono HBr.out.size))
      clear b1
      obtain ⟨W2, HW2⟩ : ∃ W, Hid (w1.alloc (.cells CT 24) = W) := ⟨_, Lib.hid rfl⟩
      have Y2 : Hid (Below W0.heap.size W0 W2) := Lib.hid (by rw [← HW2.out]; exact Y1.out.alloc Y1.out.size _)
      have X2 : Hid (W2.heap[w1.heap.size]? = some (.cells CT 24 (0, 0))) := Lib.hid (by rw [← HW2.out]; exact heap_alloc_new w1 _)
      go_wp2_with (refine wpL_store_row rfl 24 _ _ rfl w1.heap.size CT ?_ ?_ 24 zeroA ?_ ?_ ?_ ?_ ?_; exact rfl; exact rfl; exact heap_alloc_new w1 _; exact HDT.out; exact HYT.out; exact HOT.out; rw [World.setRow_alloc_new, HW2.out])
      refine (SL.out _).mono ?_
      rintro e w3 ⟨rfl, b3⟩
      have Y3 : Hid (Below W0.heap.size W0 w3) := Lib.hid (Y2.out.trans (b3.mono Y2.out.size))
      have X3 : Hid (w3.heap[w1.heap.size]? = some (.cells CT 24 (0, 0))) := Lib.hid ((b3.block _ (lt_of_block X2.out)).trans X2.out)
      clear b3
      obtain ⟨W4, HW4⟩ : ∃ W, Hid (w3.alloc (.cells CT 24) = W) := ⟨_, Lib.hid rfl⟩
      have Y4 : Hid (Below W0.heap.size W0 W4) := Lib.hid (by rw [← HW4.out]; exact Y3.out.alloc Y3.out.size _)
      have X4 : Hid (W4.heap[w1.heap.size]? = some (.cells CT 24 (0, 0))) := Lib.hid (by rw [← HW4.out, Below.heap_alloc _ _ _ (lt_of_block X3.out)]; exact X3.out)
      have U4 : Hid (W4.heap[w3.heap.size]? = some (.cells CT 24 (0, 0))) := Lib.hid (by rw [← HW4.out]; exact heap_alloc_new w3 _)
      have K4 : Hid (W4.heap[w.heap.size]? = some (.cells B 22 (0, 0))) := Lib.hid ((Y4.out.block _ (lt_of_block G0.out)).trans G0.out)
      obtain ⟨W5, HW5⟩ : ∃ W, Hid (W4.alloc (.cells CT 24) = W) := ⟨_, Lib.hid rfl⟩
      have Y5 : Hid (Below W0.heap.size W0 W5) := Lib.hid (by rw [← HW5.out]; exact Y4.out.alloc Y4.out.size _)
      have Z5 : Hid (Below w.heap.size w W5) := Lib.hid (Z0.out.trans (Y5.out.mono Z0.out.size))
      have X5 : Hid (W5.heap[w1.heap.size]? = some (.cells CT 24 (0, 0))) := Lib.hid (by rw [← HW5.out, Below.heap_alloc _ _ _ (lt_of_block X4.out)]; exact X4.out)
      have U5 : Hid (W5.heap[w3.heap.size]? = some (.cells CT 24 (0, 0))) := Lib.hid (by rw [← HW5.out, Below.heap_alloc _ _ _ (lt_of_block U4.out)]; exact U4.out)
      have V5 : Hid (W5.heap[W4.heap.size]? = some (.cells CT 24 (0, 0))) := Lib.hid (by rw [← HW5.out]; exact heap_alloc_new W4 _)
      go_wp2_with (first
        | (refine wpL_store_row rfl 24 _ _ rfl w3.heap.size CT ?_ ?_ 24 zeroA ?_ ?_ ?_ ?_ ?_; exact rfl; exact rfl; exact heap_alloc_new w3 _; exact HDT.out; exact HYT.out; exact HOT.out; rw [World.setRow_alloc_new, HW4.out])
        | (refine wpList_load_row rfl 22 _ rfl w.heap.size ?_ 22 B (0, 0) _ ?_ Tryd.underlying22 rfl HDB.out ?_; (exact rfl); (exact K4.out))
        | (refine wpL_build rfl 24 _ rfl CT ?_ ?_; exact HBt.out)
        | (refine wpL_store_row rfl 24 _ _ rfl W4.heap.size CT ?_ ?_ 24 zeroA ?_ ?_ ?_ ?_ ?_; exact rfl; exact rfl; exact heap_alloc_new W4 _; exact HDT.out; exact HYT.out; exact HOT.out; rw [World.setRow_alloc_new, HW5.out]))
      refine (alive4_any _ (HF10.out.later Z5.out) (HF16.out.later Z5.out)).mono ?_
      rintro e w6 ⟨rfl, b6⟩
      have Z6 : Hid (Below w.heap.size w w6) := Lib.hid (Z5.out.trans (b6.mono Z5.out.size))
      have X6 : Hid (w6.heap[w1.heap.size]? = some (.cells CT 24 (0, 0))) := Lib.hid ((b6.block _ (lt_of_block X5.out)).trans X5.out)
      have U6 : Hid (w6.heap[w3.heap.size]? = some (.cells CT 24 (0, 0))) := Lib.hid ((b6.block _ (lt_of_block U5.out)).trans U5.out)
      have V6 : Hid (w6.heap[W4.heap.size]? = some (.cells CT 24 (0, 0))) := Lib.hid ((b6.block _ (lt_of_block V5.out)).trans V5.out)
      clear b6
      go_wp2_with (first
        | (refine wpW_load_row rfl 24 _ rfl w1.heap.size ?_ 24 CT (0, 0) _ ?_ Tryd.underlying24 rfl HDT.out ?_; (exact rfl); (exact X6.out))
        | (refine wpW_load_row rfl 24 _ rfl w3.heap.size ?_ 24 CT (0, 0) _ ?_ Tryd.underlying24 rfl HDT.out ?_; (exact rfl); (exact U6.out))
        | (refine wpW_load_row rfl 24 _ rfl W4.heap.size ?_ 24 CT (0, 0) _ ?_ Tryd.underlying24 rfl HDT.out ?_; (exact rfl); (exact V6.out)))
      go_ret
      exact ⟨rfl, Z6.out⟩

set_option maxRecDepth 100000 in
set_option maxHeartbeats 4000000 in
theorem pieces_true (l : List Nat) (w : World) (hl : l.length = 16) (hb : ∀ x ∈ l, x < 256) (h10 : Fmt 10 256 w) (h16 : Fmt 16 65536 w) :
    Calls Tryd.prog 7 #[.agg (l.map u8v).toArray, .bool true] w fun e w' => e = .returned (.bool true) ∧ Below w.heap.size w w' := by
  have HF10 := Lib.hid h10; have HF16 := Lib.hid h16
  have HBd : Hid (∀ x ∈ l, x < 256) := Lib.hid hb
  obtain ⟨B, HB⟩ : ∃ B, Hid ((l.map u8v).toArray = B) := ⟨_, Lib.hid rfl⟩
  rw [HB.out]
  have HBs : Hid (B.size = 16) := Lib.hid (by rw [← HB.out]; simp [hl])
  have HBc : Hid (∀ k, k < 16 → B[k]? = some (.int .u8 ((l.getD k 0 : Nat) : Int))) := Lib.hid (fun k hk => by
    rw [← HB.out, List.getElem?_toArray, List.getElem?_map, List.getD_eq_getElem?_getD, List.getElem?_eq_getElem (by omega)]; rfl)
  have Hl := Lib.hid hl
  obtain ⟨hzB, hiB⟩ := zero_of_info infoB
  have HDB : Hid ((Tryd.prog.info? 22).map (·.size) = some B.size) := Lib.hid (by rw [hiB, HBs.out])
  clear hzB hiB
  obtain ⟨hz, hi⟩ := zero_of_info infoA
  have HI := Lib.hid hi; clear hi
  obtain ⟨CT, HCT⟩ : ∃ C, Hid (cellsA true l = C) := ⟨_, Lib.hid rfl⟩
  have HST : Hid (CT.size = 17) := Lib.hid (by rw [← HCT.out, cellsA_size, Hl.out])
  have HOT : Hid (CT.all (·.oneCell') = true) := Lib.hid (by rw [← HCT.out]; exact cellsA_one _ _)
  have HDT : Hid ((Tryd.prog.info? 24).map (·.size) = some CT.size) := Lib.hid (by rw [HI.out, HST.out])
  have HYT : Hid (zeroA.size = CT.size) := Lib.hid (by rw [HST.out]; exact zeroA_size)
  have HBt : Hid (Tryd.prog.built 24 [(0, .bool true), (1, .agg B)] = some CT) := Lib.hid (by rw [← HB.out, ← HCT.out]; exact built_six l Hl.out)
  have heqT : ∀ w, (binOp .eql 24 (.agg CT) (.agg CT)).run Tryd.prog w = .ok (.bool true) w := fun w => by rw [← HCT.out]; exact eqA_self true l Hl.out w
  obtain ⟨TF, HTF⟩ : ∃ t, Hid (asB (sP true l 16) = t) := ⟨_, Lib.hid rfl⟩
  obtain ⟨TL, HTL⟩ : ∃ t, Hid (asB (tailP true l) = t) := ⟨_, Lib.hid rfl⟩
  have hFs : TF.size ≤ 100 := by rw [← HTF.out, asB_size]; exact Nat.le_trans (sP_len _ _ _) (by omega)
  have HN : Hid (∀ j, (numF 10 4 (l.getD j 0)).length ≤ 4) := Lib.hid (fun j => numF_len _ _ _)
  have hLs : TL.size ≤ 100 := by
    rw [← HTL.out, asB_size, ← sP_tail]
    have h0 := sP_len true l 12
    have n2 := HN.out 12; have n3 := HN.out 13; have n4 := HN.out 14; have n5 := HN.out 15
    simp only [List.length_append, List.length_cons, List.length_nil]
    omega
  have SF : Hid (∀ w', Calls Tryd.prog 8 #[.string TF] w' fun e w'' => e = .returned (.tuple #[.agg CT, .int .i64 0]) ∧ Below w'.heap.size w' w'') := Lib.hid (fun w' => by
    have h := Six_any TF w' (by omega)
    have e : sixD TF.data.toList = some (pcs l) := by rw [← HTF.out, asB_data, sP_full]; exact six_full true l HBd.out
    rw [e, sixV, pb_pcs l Hl.out HBd.out, HCT.out] at h
    exact h)
  have SL : Hid (∀ w', Calls Tryd.prog 8 #[.string TL] w' fun e w'' => e = .returned (.tuple #[.agg CT, .int .i64 0]) ∧ Below w'.heap.size w' w'') := Lib.hid (fun w' => by
    have h := Six_any TL w' (by omega)
    have e : sixD TL.data.toList = some (pcs l) := by rw [← HTL.out, asB_data]; exact six_tail true l HBd.out
    rw [e, sixV, pb_pcs l Hl.out HBd.out, HCT.out] at h
    exact h)
  have HDg : Hid (∀ j w', Calls Tryd.prog 13 #[.int .u32 ((l.getD j 0 : Nat) : Int), .int .u32 10] w' fun e w'' => e = .returned (.string (asB (numF 10 4 (l.getD j 0)))) ∧ Below w'.heap.size w' w'') := Lib.hid (fun j w' => by
    have hxj := getD_small HBd.out j
    exact digits4_any 10 (by omega) (by omega) 4 (l.getD j 0) w' (by omega) (by omega) (by omega) (by omega))
  obtain ⟨W0, HW0⟩ : ∃ W, Hid (w.alloc (.cells B 22) = W) := ⟨_, Lib.hid rfl⟩
  have Z0 : Hid (Below w.heap.size w W0) := Lib.hid (by rw [← HW0.out]; exact (Below.refl _ _).alloc (Nat.le_refl _) _)
  have G0 : Hid (W0.heap[w.heap.size]? = some (.cells B 22 (0, 0))) := Lib.hid (by rw [← HW0.out]; exact heap_alloc_new w _)
  clear hl hb h10 h16
  go_enter Tryd.func7, Tryd.ntmps7
  go_wp2_with fail
  rw [HW0.out]
  go_loopw [6, 7, 8] (fun s t i wr => ∃ (k : Nat) (U : ByteArray), k ≤ 16 ∧ i = .int .i64 k ∧ s = .string (asB (sP true l k)) ∧ t = .string U ∧ Hid (11 < k → U = TL) ∧ Hid (Below W0.heap.size W0 wr)) (fun _ _ i _ => 16 - (intOf i).toNat)
  case atStart => exact ⟨0, ⟨#[]⟩, by omega, rfl, rfl, rfl, Lib.hid (by omega), Lib.hid (Below.refl _ _)⟩
  case round =>
    obtain ⟨k, U, hk, rfl, rfl, rfl, HU, HBr⟩ := hrel
    obtain ⟨S, HS⟩ : ∃ t, Hid (asB (sP true l k) = t) := ⟨_, Lib.hid rfl⟩
    rw [HS.out]
    by_cases hlt : k < 16
    · obtain ⟨x, HX⟩ : ∃ x, Hid (l.getD k 0 = x) := ⟨_, Lib.hid rfl⟩
      have hx256 : x < 256 := by rw [← HX.out]; exact getD_small HBd.out k
      have hcell : wr.cell? ⟨w.heap.size, k, none⟩ = some (.int .u8 (x : Int)) := by
        rw [HBr.out.cell (p := ⟨w.heap.size, k, none⟩) (lt_of_block G0.out), cell_of_row _ _ _ _ _ _ G0.out, HBc.out k hlt, HX.out]
      obtain ⟨p, Hp⟩ : ∃ p, Hid (x / 16 = p) := ⟨_, Lib.hid rfl⟩
      obtain ⟨r, Hr⟩ : ∃ r, Hid (x % 16 = r) := ⟨_, Lib.hid rfl⟩
      have hp16 : p < 16 := by rw [← Hp.out]; omega
      have hr16 : r < 16 := by rw [← Hr.out]; omega
      have e1 : (x : Int) / 16 = (p : Int) := by rw [← Hp.out]; rfl
      have e2 : (x : Int) % 16 = (r : Int) := by rw [← Hr.out]; rfl
      have p1 : (0 : Int) ≤ (p : Int) := by omega
      have p2 : (p : Int) < 16 := by omega
      have p3 : (p : Int) + 1 ≤ 16 := by omega
      have p4 : (0 : Int) ≤ (p : Int) + 1 := by omega
      have p5 : (p : Int) ≤ (p : Int) + 1 := by omega
      have p6 : ((p : Int) + 1).toNat = p + 1 := by omega
      have r1 : (0 : Int) ≤ (r : Int) := by omega
      have r2 : (r : Int) < 16 := by omega
      have r3 : (r : Int) + 1 ≤ 16 := by omega
      have r4 : (0 : Int) ≤ (r : Int) + 1 := by omega
      have r5 : (r : Int) ≤ (r : Int) + 1 := by omega
      have r6 : ((r : Int) + 1).toNat = r + 1 := by omega
      have pw : IntKind.u8.wrap (p : Int) = (p : Int) := IntWalk.u8_in _ (by omega)
      have pw1 : IntKind.u8.wrap ((p : Int) + 1) = (p : Int) + 1 := IntWalk.u8_in _ (by omega)
      have rw1 : IntKind.u8.wrap ((r : Int) + 1) = (r : Int) + 1 := IntWalk.u8_in _ (by omega)
      have rw0 : IntKind.u8.wrap (r : Int) = (r : Int) := IntWalk.u8_in _ (by omega)
      have hltI : (k : Int) < 16 := by omega
      have hkI : (0 : Int) ≤ (k : Int) := by omega
      have HSl := sP_len true l k
      have HEp : Hid ((⟨#[48, 49, 50, 51, 52, 53, 54, 55, 56, 57, 65, 66, 67, 68, 69, 70]⟩ : ByteArray).extract p (p + 1) = asB [hx true p]) := Lib.hid (hxg_fin.2 ⟨p, hp16⟩)
      have HEr : Hid ((⟨#[48, 49, 50, 51, 52, 53, 54, 55, 56, 57, 65, 66, 67, 68, 69, 70]⟩ : ByteArray).extract r (r + 1) = asB [hx true r]) := Lib.hid (hxg_fin.2 ⟨r, hr16⟩)
      by_cases h0 : k = 0
      · subst h0
        have hSs : S.size ≤ 60 := by rw [← HS.out, asB_size]; omega
        have hz1 : ¬ 9223372036854775807 < S.size + (min (p + 1) 16 - p) := by omega
        have hz2 : ¬ 9223372036854775807 < S.size + (min (p + 1) 16 - p) + (min (r + 1) 16 - r) := by omega
        have HNx : Hid (S ++ (⟨#[48, 49, 50, 51, 52, 53, 54, 55, 56, 57, 65, 66, 67, 68, 69, 70]⟩ : ByteArray).extract p (p + 1) ++ (⟨#[48, 49, 50, 51, 52, 53, 54, 55, 56, 57, 65, 66, 67, 68, 69, 70]⟩ : ByteArray).extract r (r + 1) = asB (sP true l (0 + 1))) := Lib.hid (by
          rw [HEp.out, HEr.out, ← HS.out, sP_succ true l 0, HX.out, pr, Hp.out, Hr.out]
          rw [if_neg (by omega)]
          apply ByteArray.ext
          simp [asB])
        go_wp2_with fail
        go_quiet (fail)
        go_wp2_with fail
        go_roundw
        case rel => exact ⟨0 + 1, U, by omega, rfl, congrArg Value.string HNx.out, rfl, Lib.hid (fun h => absurd h (by omega)), Lib.hid ⟨HBr.out.os, HBr.out.tape, HBr.out.output, HBr.out.size, HBr.out.block⟩⟩
        case measure => first | (simp [intOf]; done) | (simp [intOf]; omega)
      · have h0I : (0 : Int) < (k : Int) := by omega
        by_cases he : k % 2 = 0
        · have he1 : (k : Int) % 2 = 0 := by omega
          have h11 : ((k : Int) == 11) = false := beq_eq_false_iff_ne.2 (by omega)
          have hSs : S.size ≤ 60 := by rw [← HS.out, asB_size]; omega
          have hz0 : ¬ 9223372036854775807 < S.size + 1 := by omega
          have hz1 : ¬ 9223372036854775807 < S.size + 1 + (min (p + 1) 16 - p) := by omega
          have hz2 : ¬ 9223372036854775807 < S.size + 1 + (min (p + 1) 16 - p) + (min (r + 1) 16 - r) := by omega
          have HNx : Hid ((S ++ (⟨#[58]⟩ : ByteArray)) ++ (⟨#[48, 49, 50, 51, 52, 53, 54, 55, 56, 57, 65, 66, 67, 68, 69, 70]⟩ : ByteArray).extract p (p + 1) ++ (⟨#[48, 49, 50, 51, 52, 53, 54, 55, 56, 57, 65, 66, 67, 68, 69, 70]⟩ : ByteArray).extract r (r + 1) = asB (sP true l (k + 1))) := Lib.hid (by
            rw [HEp.out, HEr.out, ← HS.out, sP_succ true l k, HX.out, pr, Hp.out, Hr.out]
            rw [if_pos (by omega)]
            apply ByteArray.ext
            simp [asB])
          go_wp2_with fail
          go_quiet (fail)
          go_wp2_with fail
          go_roundw
          case rel => exact ⟨k + 1, U, by omega, by go_num, congrArg Value.string HNx.out, rfl, Lib.hid (fun _ => HU.out (by omega)), Lib.hid ⟨HBr.out.os, HBr.out.tape, HBr.out.output, HBr.out.size, HBr.out.block⟩⟩
          case measure => first | (simp [intOf]; done) | (simp [intOf]; omega)
        · have he1 : (k : Int) % 2 = 1 := by omega
          by_cases hk11 : k = 11
          · subst hk11
            have hSs : S.size ≤ 60 := by rw [← HS.out, asB_size]; omega
            have hz1 : ¬ 9223372036854775807 < S.size + (min (p + 1) 16 - p) := by omega
            have hz2 : ¬ 9223372036854775807 < S.size + (min (p + 1) 16 - p) + (min (r + 1) 16 - r) := by omega
            have HNx : Hid (S ++ (⟨#[48, 49, 50, 51, 52, 53, 54, 55, 56, 57, 65, 66, 67, 68, 69, 70]⟩ : ByteArray).extract p (p + 1) ++ (⟨#[48, 49, 50, 51, 52, 53, 54, 55, 56, 57, 65, 66, 67, 68, 69, 70]⟩ : ByteArray).extract r (r + 1) = asB (sP true l (11 + 1))) := Lib.hid (by
              rw [HEp.out, HEr.out, ← HS.out, sP_succ true l 11, HX.out, pr, Hp.out, Hr.out]
              rw [if_neg (by omega)]
              apply ByteArray.ext
              simp [asB])
            go_wp2_with fail
            go_quiet (fail)
            obtain ⟨x12, HX12⟩ : ∃ x, Hid (l.getD 12 0 = x) := ⟨_, Lib.hid rfl⟩
            have hx12 : x12 < 256 := by rw [← HX12.out]; exact getD_small HBd.out 12
            have wr12 : IntKind.u32.wrap (x12 : Int) = (x12 : Int) := IntWalk.u32_in _ (by omega)
            obtain ⟨D12, HD12⟩ : ∃ t, Hid (asB (numF 10 4 x12) = t) := ⟨_, Lib.hid rfl⟩
            have hDs12 : D12.size ≤ 4 := by rw [← HD12.out, asB_size]; exact numF_len _ _ _
            have HG12 : Hid (∀ w', Calls Tryd.prog 13 #[.int .u32 (x12 : Int), .int .u32 10] w' fun e w'' => e = .returned (.string D12) ∧ Below w'.heap.size w' w'') := Lib.hid (fun w' => by
              have := HDg.out 12 w'
              rwa [HX12.out, HD12.out] at this)
            obtain ⟨x13, HX13⟩ : ∃ x, Hid (l.getD 13 0 = x) := ⟨_, Lib.hid rfl⟩
            have hx13 : x13 < 256 := by rw [← HX13.out]; exact getD_small HBd.out 13
            have wr13 : IntKind.u32.wrap (x13 : Int) = (x13 : Int) := IntWalk.u32_in _ (by omega)
            obtain ⟨D13, HD13⟩ : ∃ t, Hid (asB (numF 10 4 x13) = t) := ⟨_, Lib.hid rfl⟩
            have hDs13 : D13.size ≤ 4 := by rw [← HD13.out, asB_size]; exact numF_len _ _ _
            have HG13 : Hid (∀ w', Calls Tryd.prog 13 #[.int .u32 (x13 : Int), .int .u32 10] w' fun e w'' => e = .returned (.string D13) ∧ Below w'.heap.size w' w'') := Lib.hid (fun w' => by
              have := HDg.out 13 w'
              rwa [HX13.out, HD13.out] at this)
            obtain ⟨x14, HX14⟩ : ∃ x, Hid (l.getD 14 0 = x) := ⟨_, Lib.hid rfl⟩
            have hx14 : x14 < 256 := by rw [← HX14.out]; exact getD_small HBd.out 14
            have wr14 : IntKind.u32.wrap (x14 : Int) = (x14 : Int) := IntWalk.u32_in _ (by omega)
            obtain ⟨D14, HD14⟩ : ∃ t, Hid (asB (numF 10 4 x14) = t) := ⟨_, Lib.hid rfl⟩
            have hDs14 : D14.size ≤ 4 := by rw [← HD14.out, asB_size]; exact numF_len _ _ _
            have HG14 : Hid (∀ w', Calls Tryd.prog 13 #[.int .u32 (x14 : Int), .int .u32 10] w' fun e w'' => e = .returned (.string D14) ∧ Below w'.heap.size w' w'') := Lib.hid (fun w' => by
              have := HDg.out 14 w'
              rwa [HX14.out, HD14.out] at this)
            obtain ⟨x15, HX15⟩ : ∃ x, Hid (l.getD 15 0 = x) := ⟨_, Lib.hid rfl⟩
            have hx15 : x15 < 256 := by rw [← HX15.out]; exact getD_small HBd.out 15
            have wr15 : IntKind.u32.wrap (x15 : Int) = (x15 : Int) := IntWalk.u32_in _ (by omega)
            obtain ⟨D15, HD15⟩ : ∃ t, Hid (asB (numF 10 4 x15) = t) := ⟨_, Lib.hid rfl⟩
            have hDs15 : D15.size ≤ 4 := by rw [← HD15.out, asB_size]; exact numF_len _ _ _
            have HG15 : Hid (∀ w', Calls Tryd.prog 13 #[.int .u32 (x15 : Int), .int .u32 10] w' fun e w'' => e = .returned (.string D15) ∧ Below w'.heap.size w' w'') := Lib.hid (fun w' => by
              have := HDg.out 15 w'
              rwa [HX15.out, HD15.out] at this)
            obtain ⟨S2, HS2⟩ : ∃ t, Hid (asB (sP true l (11 + 1)) = t) := ⟨_, Lib.hid rfl⟩
            have hS2 : S2.size ≤ 36 := by rw [← HS2.out, asB_size]; exact Nat.le_trans (sP_len _ _ _) (by omega)
            have HN2 := Lib.hid (HNx.out.trans HS2.out)
            rw [HN2.out]
            have hq0 : ¬ 9223372036854775807 < S2.size + 1 := by omega
            have hq1 : ¬ 9223372036854775807 < S2.size + 1 + D12.size := by omega
            have hq2 : ¬ 9223372036854775807 < S2.size + 1 + D12.size + 1 := by omega
            have hq3 : ¬ 9223372036854775807 < S2.size + 1 + D12.size + 1 + D13.size := by omega
            have hq4 : ¬ 9223372036854775807 < S2.size + 1 + D12.size + 1 + D13.size + 1 := by omega
            have hq5 : ¬ 9223372036854775807 < S2.size + 1 + D12.size + 1 + D13.size + 1 + D14.size := by omega
            have hq6 : ¬ 9223372036854775807 < S2.size + 1 + D12.size + 1 + D13.size + 1 + D14.size + 1 := by omega
            have hq7 : ¬ 9223372036854775807 < S2.size + 1 + D12.size + 1 + D13.size + 1 + D14.size + 1 + D15.size := by omega
            have HTe : Hid (((((((((S2 ++ (⟨#[58]⟩ : ByteArray)) ++ D12) ++ (⟨#[46]⟩ : ByteArray)) ++ D13) ++ (⟨#[46]⟩ : ByteArray)) ++ D14) ++ (⟨#[46]⟩ : ByteArray)) ++ D15) = TL) := Lib.hid (by
              rw [← HTL.out, ← sP_tail, HX12.out, HX13.out, HX14.out, HX15.out, ← HS2.out, ← HD12.out, ← HD13.out, ← HD14.out, ← HD15.out]
              apply ByteArray.ext
              simp [asB])
            have hc12 : ∀ p : BW (wr.drewN nq), p.w.cell? ⟨w.heap.size, 12, none⟩ = some (.int .u8 (x12 : Int)) := fun p => by
              have hg : (wr.drewN nq).heap[w.heap.size]? = some (.cells B 22 (0, 0)) := (HBr.out.block _ (lt_of_block G0.out)).trans G0.out
              rw [BW.cell hg p, HBc.out 12 (by omega), HX12.out]
            have hc13 : ∀ p : BW (wr.drewN nq), p.w.cell? ⟨w.heap.size, 13, none⟩ = some (.int .u8 (x13 : Int)) := fun p => by
              have hg : (wr.drewN nq).heap[w.heap.size]? = some (.cells B 22 (0, 0)) := (HBr.out.block _ (lt_of_block G0.out)).trans G0.out
              rw [BW.cell hg p, HBc.out 13 (by omega), HX13.out]
            have hc14 : ∀ p : BW (wr.drewN nq), p.w.cell? ⟨w.heap.size, 14, none⟩ = some (.int .u8 (x14 : Int)) := fun p => by
              have hg : (wr.drewN nq).heap[w.heap.size]? = some (.cells B 22 (0, 0)) := (HBr.out.block _ (lt_of_block G0.out)).trans G0.out
              rw [BW.cell hg p, HBc.out 14 (by omega), HX14.out]
            have hc15 : ∀ p : BW (wr.drewN nq), p.w.cell? ⟨w.heap.size, 15, none⟩ = some (.int .u8 (x15 : Int)) := fun p => by
              have hg : (wr.drewN nq).heap[w.heap.size]? = some (.cells B 22 (0, 0)) := (HBr.out.block _ (lt_of_block G0.out)).trans G0.out
              rw [BW.cell hg p, HBc.out 15 (by omega), HX15.out]
            go_wp2_with fail
            refine bw_region (by kernel_rfl) (by kernel_rfl) ?_
            repeat (quiet_step ((first
              | (with_reducible exact Calls.bw_of (HG12.out _))
              | (with_reducible exact Calls.bw_of (HG13.out _))
              | (with_reducible exact Calls.bw_of (HG14.out _))
              | (with_reducible exact Calls.bw_of (HG15.out _)))))
            refine wpQuiet_nil ?_
            intro _ hw'
            obtain ⟨⟨wq, hwq⟩, rfl⟩ := hw'
            have HBq := Lib.hid ((show Below W0.heap.size W0 (wr.drewN nq) from ⟨HBr.out.os, HBr.out.tape, HBr.out.output, HBr.out.size, HBr.out.block⟩).trans (hwq.mono HBr.out.size))
            clear hwq
            go_wp2_with fail
            go_roundw
            case rel => exact ⟨11 + 1, TL, by omega, rfl, congrArg Value.string HS2.out.symm, congrArg Value.string HTe.out, Lib.hid (fun _ => rfl), Lib.hid HBq.out⟩
            case measure => first | (simp [intOf]; done) | (simp [intOf]; omega)
          · have h11 : ((k : Int) == 11) = false := beq_eq_false_iff_ne.2 (by omega)
            have hSs : S.size ≤ 60 := by rw [← HS.out, asB_size]; omega
            have hz1 : ¬ 9223372036854775807 < S.size + (min (p + 1) 16 - p) := by omega
            have hz2 : ¬ 9223372036854775807 < S.size + (min (p + 1) 16 - p) + (min (r + 1) 16 - r) := by omega
            have HNx : Hid (S ++ (⟨#[48, 49, 50, 51, 52, 53, 54, 55, 56, 57, 65, 66, 67, 68, 69, 70]⟩ : ByteArray).extract p (p + 1) ++ (⟨#[48, 49, 50, 51, 52, 53, 54, 55, 56, 57, 65, 66, 67, 68, 69, 70]⟩ : ByteArray).extract r (r + 1) = asB (sP true l (k + 1))) := Lib.hid (by
              rw [HEp.out, HEr.out, ← HS.out, sP_succ true l k, HX.out, pr, Hp.out, Hr.out]
              rw [if_neg (by omega)]
              apply ByteArray.ext
              simp [asB])
            go_wp2_with fail
            go_quiet (fail)
            go_wp2_with fail
            go_roundw
            case rel => exact ⟨k + 1, U, by omega, by go_num, congrArg Value.string HNx.out, rfl, Lib.hid (fun _ => HU.out (by omega)), Lib.hid ⟨HBr.out.os, HBr.out.tape, HBr.out.output, HBr.out.size, HBr.out.block⟩⟩
            case measure => first | (simp [intOf]; done) | (simp [intOf]; omega)
    · have hS : S = TF := HS.out.symm.trans (by rw [show k = 16 by omega]; exact HTF.out)
      have hU : U = TL := HU.out (by omega)
      have hkI : (16 : Int) ≤ (k : Int) := by omega
      rw [hS, hU]
      clear hS hU HU HS hlt
      go_wp2_with fail
      refine (SF.out _).mono ?_
      rintro e w1 ⟨rfl, b1⟩
      have Y1 : Hid (Below W0.heap.size W0 w1) := Lib.hid (HBr.out.trans (b1.mono HBr.out.size))
      clear b1
      obtain ⟨W2, HW2⟩ : ∃ W, Hid (w1.alloc (.cells CT 24) = W) := ⟨_, Lib.hid rfl⟩
      have Y2 : Hid (Below W0.heap.size W0 W2) := Lib.hid (by rw [← HW2.out]; exact Y1.out.alloc Y1.out.size _)
      have X2 : Hid (W2.heap[w1.heap.size]? = some (.cells CT 24 (0, 0))) := Lib.hid (by rw [← HW2.out]; exact heap_alloc_new w1 _)
      go_wp2_with (refine wpL_store_row rfl 24 _ _ rfl w1.heap.size CT ?_ ?_ 24 zeroA ?_ ?_ ?_ ?_ ?_; exact rfl; exact rfl; exact heap_alloc_new w1 _; exact HDT.out; exact HYT.out; exact HOT.out; rw [World.setRow_alloc_new, HW2.out])
      refine (SL.out _).mono ?_
      rintro e w3 ⟨rfl, b3⟩
      have Y3 : Hid (Below W0.heap.size W0 w3) := Lib.hid (Y2.out.trans (b3.mono Y2.out.size))
      have X3 : Hid (w3.heap[w1.heap.size]? = some (.cells CT 24 (0, 0))) := Lib.hid ((b3.block _ (lt_of_block X2.out)).trans X2.out)
      clear b3
      obtain ⟨W4, HW4⟩ : ∃ W, Hid (w3.alloc (.cells CT 24) = W) := ⟨_, Lib.hid rfl⟩
      have Y4 : Hid (Below W0.heap.size W0 W4) := Lib.hid (by rw [← HW4.out]; exact Y3.out.alloc Y3.out.size _)
      have X4 : Hid (W4.heap[w1.heap.size]? = some (.cells CT 24 (0, 0))) := Lib.hid (by rw [← HW4.out, Below.heap_alloc _ _ _ (lt_of_block X3.out)]; exact X3.out)
      have U4 : Hid (W4.heap[w3.heap.size]? = some (.cells CT 24 (0, 0))) := Lib.hid (by rw [← HW4.out]; exact heap_alloc_new w3 _)
      have K4 : Hid (W4.heap[w.heap.size]? = some (.cells B 22 (0, 0))) := Lib.hid ((Y4.out.block _ (lt_of_block G0.out)).trans G0.out)
      obtain ⟨W5, HW5⟩ : ∃ W, Hid (W4.alloc (.cells CT 24) = W) := ⟨_, Lib.hid rfl⟩
      have Y5 : Hid (Below W0.heap.size W0 W5) := Lib.hid (by rw [← HW5.out]; exact Y4.out.alloc Y4.out.size _)
      have Z5 : Hid (Below w.heap.size w W5) := Lib.hid (Z0.out.trans (Y5.out.mono Z0.out.size))
      have X5 : Hid (W5.heap[w1.heap.size]? = some (.cells CT 24 (0, 0))) := Lib.hid (by rw [← HW5.out, Below.heap_alloc _ _ _ (lt_of_block X4.out)]; exact X4.out)
      have U5 : Hid (W5.heap[w3.heap.size]? = some (.cells CT 24 (0, 0))) := Lib.hid (by rw [← HW5.out, Below.heap_alloc _ _ _ (lt_of_block U4.out)]; exact U4.out)
      have V5 : Hid (W5.heap[W4.heap.size]? = some (.cells CT 24 (0, 0))) := Lib.hid (by rw [← HW5.out]; exact heap_alloc_new W4 _)
      go_wp2_with (first
        | (refine wpL_store_row rfl 24 _ _ rfl w3.heap.size CT ?_ ?_ 24 zeroA ?_ ?_ ?_ ?_ ?_; exact rfl; exact rfl; exact heap_alloc_new w3 _; exact HDT.out; exact HYT.out; exact HOT.out; rw [World.setRow_alloc_new, HW4.out])
        | (refine wpList_load_row rfl 22 _ rfl w.heap.size ?_ 22 B (0, 0) _ ?_ Tryd.underlying22 rfl HDB.out ?_; (exact rfl); (exact K4.out))
        | (refine wpL_build rfl 24 _ rfl CT ?_ ?_; exact HBt.out)
        | (refine wpL_store_row rfl 24 _ _ rfl W4.heap.size CT ?_ ?_ 24 zeroA ?_ ?_ ?_ ?_ ?_; exact rfl; exact rfl; exact heap_alloc_new W4 _; exact HDT.out; exact HYT.out; exact HOT.out; rw [World.setRow_alloc_new, HW5.out]))
      refine (alive4_any _ (HF10.out.later Z5.out) (HF16.out.later Z5.out)).mono ?_
      rintro e w6 ⟨rfl, b6⟩
      have Z6 : Hid (Below w.heap.size w w6) := Lib.hid (Z5.out.trans (b6.mono Z5.out.size))
      have X6 : Hid (w6.heap[w1.heap.size]? = some (.cells CT 24 (0, 0))) := Lib.hid ((b6.block _ (lt_of_block X5.out)).trans X5.out)
      have U6 : Hid (w6.heap[w3.heap.size]? = some (.cells CT 24 (0, 0))) := Lib.hid ((b6.block _ (lt_of_block U5.out)).trans U5.out)
      have V6 : Hid (w6.heap[W4.heap.size]? = some (.cells CT 24 (0, 0))) := Lib.hid ((b6.block _ (lt_of_block V5.out)).trans V5.out)
      clear b6
      go_wp2_with (first
        | (refine wpW_load_row rfl 24 _ rfl w1.heap.size ?_ 24 CT (0, 0) _ ?_ Tryd.underlying24 rfl HDT.out ?_; (exact rfl); (exact X6.out))
        | (refine wpW_load_row rfl 24 _ rfl w3.heap.size ?_ 24 CT (0, 0) _ ?_ Tryd.underlying24 rfl HDT.out ?_; (exact rfl); (exact U6.out))
        | (refine wpW_load_row rfl 24 _ rfl W4.heap.size ?_ 24 CT (0, 0) _ ?_ Tryd.underlying24 rfl HDT.out ?_; (exact rfl); (exact V6.out)))
      go_ret
      exact ⟨rfl, Z6.out⟩

theorem pieces_walk (l : List Nat) (g : Bool) (w : World) (hl : l.length = 16) (hb : ∀ x ∈ l, x < 256) (h10 : Fmt 10 256 w) (h16 : Fmt 16 65536 w) :
    Calls Tryd.prog 7 #[.agg (l.map u8v).toArray, .bool g] w fun e w' => e = .returned (.bool true) ∧ Below w.heap.size w w' := by
  cases g
  · exact pieces_false l w hl hb h10 h16
  · exact pieces_true l w hl hb h10 h16

end Go.Proofs.YtgmjfnddeogfdabDoor
