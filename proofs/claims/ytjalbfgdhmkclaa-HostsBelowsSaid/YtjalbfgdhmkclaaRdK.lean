/-
  Contract: fourOf.
-/
import Derived.Test.YtjalbfgdhmkclaaRdJ
import Derived.Test.YtjalbfgdhmkclaaAdV
namespace Go.Proofs.Ytjalbfgdhmkclaa
open Go.RowKit

/-- Behind k of the numbers. -/
def StF (ns : List Nat) (k : Nat) (D : Array Value) : Prop := (k < ns.length → (∀ x ∈ ns.take k, x < 256) ∧ D = cellsA false (ns.take k ++ List.replicate (16 - k) 0)) ∧ (k = ns.length → ∃ bs, lay4 4 ns = some bs ∧ D = cellsA false (bs ++ List.replicate 12 0))
def FourPost (ns : List Nat) (w : World) (e : Ending) (w' : World) : Prop := Below w.heap.size w w' ∧ (∀ bs, lay4 4 ns = some bs → e = .returned (.tuple #[.agg (cellsA false (bs ++ List.replicate 12 0)), .bool true])) ∧ (lay4 4 ns = none → e = .returned (.tuple #[.agg zeroA, .bool false]))

theorem sliceA (g k e : Nat) (h1 : k ≤ e) (h2 : e ≤ 16) (h3 : k < 16) (w : World) : (Instr.sliceAt 26 (.pointer (some ⟨g, 1, none⟩)) (some (.int .i64 (k : Int))) (some (.int .i64 (e : Int))) none).run Try.prog w = .ok (.slice (some ⟨g, 1 + k, none⟩) (e - k) (16 - k)) w := by
  have hl : Try.prog.arrayLen 26 = 16 := by kernel_rfl
  have he : Try.prog.elem 26 = 5 := by kernel_rfl
  have h := run_sliceAt_array_lh (P := Try.prog) w 26 ⟨g, 1, none⟩ (by rw [hl, he]; exact Try.underlying26) .i64 .i64 (k : Int) (e : Int) (by omega) (by omega) (by rw [hl]; omega)
  rw [h, he, hl]
  have hs : (sizeOf 5).run Try.prog w = .ok 1 w := by go_simp
  rw [hs]
  show Result.ok (slicedAt ⟨g, 1, none⟩ (k : Int).toNat (e : Int).toNat 16 1) w = _
  unfold slicedAt
  rw [Int.toNat_natCast, Int.toNat_natCast, if_neg (by omega), Nat.mul_one, Addr.add_lit]

theorem stF_last {ns : List Nat} {k m : Nat} {D1 : Array Value} (hl : k + 1 = ns.length) (_hpre : ∀ x ∈ ns.take k, x < 256) (_hlt : k < ns.length) (s1 : D1.size = (cellsA false (ns.take k ++ List.replicate (16 - k) 0)).size)
    (u1 : ∀ j, ¬ (1 + k ≤ j ∧ j < 1 + k + (4 - k)) → D1[j]? = (cellsA false (ns.take k ++ List.replicate (16 - k) 0))[j]?) (u2 : ∀ j, j < 4 - k → D1[1 + k + (4 - k) - 1 - j]? = some (byteN m j))
    (hy : lay4 4 ns = some (ns.take k ++ be (4 - k) m)) (h4 : ns.length ≤ 4) : StF ns (k + 1) D1 := by
  have hlen : (ns.take k ++ List.replicate (16 - k) 0).length = 16 := by simp; omega
  have := put_cells (six := false) (A := ns.take k ++ List.replicate (16 - k) 0) (k := k) (len := 4 - k) (n := m) (by rw [hlen]; omega) s1 u1 u2
  refine ⟨fun h => absurd h (by rw [← hl]; exact Nat.lt_irrefl _), fun _ => ⟨_, hy, ?_⟩⟩
  rw [this]
  congr 1
  have e1 : (ns.take k ++ List.replicate (16 - k) 0).take k = ns.take k := by rw [List.take_append_of_le_length (by simp; omega), List.take_take, Nat.min_self]
  have e2 : (ns.take k ++ List.replicate (16 - k) 0).drop (k + (4 - k)) = List.replicate 12 0 := by
    rw [show k + (4 - k) = 4 by omega, List.drop_append, List.drop_of_length_le (by rw [List.length_take]; omega), List.nil_append, List.length_take, show min k ns.length = k by omega, List.drop_replicate]
    congr 1; omega
  rw [e1, e2]

set_option maxRecDepth 100000 in
set_option maxHeartbeats 2000000 in
theorem fourOf_any (base : Nat) (v : Value) (ns : List Nat) (w : World) (hown : w.ownsRow base 3 1 v ns.length (ns.map k_iv)) (h4 : ns.length ≤ 4) (hle : ∀ n ∈ ns, n ≤ 4294967296) :
    Calls Try.prog 20 #[v] w (FourPost ns w) := by
  obtain ⟨hz, hi⟩ := zero_of_info infoA
  have HI := Lib.hid hi; clear hi
  obtain ⟨a, cap, rfl, _⟩ := slice_own hown
  have HOwn := Lib.hid hown
  have HLe := Lib.hid hle
  clear hown hle
  go_enter Try.func20, Try.ntmps20
  go_wp2
  have hr0 : ((w.alloc (.cells zeroA 28)).alloc (.cells zeroA 28)).heap[w.heap.size]? = some (.cells zeroA 28 (0, 0)) := by
    rw [Below.heap_alloc _ _ _ (by simp)]; exact heap_alloc_new w _
  have hg0 : ((w.alloc (.cells zeroA 28)).alloc (.cells zeroA 28)).heap[w.heap.size + 1]? = some (.cells zeroA 28 (0, 0)) := by
    have := heap_alloc_new (w.alloc (.cells zeroA 28)) (.cells zeroA 28)
    simpa using this
  have HR0 := Lib.hid hr0; have HG0 := Lib.hid hg0
  clear hr0 hg0
  go_loopw [5, 6, 7, 8, 11] (fun _ _ _ _ i wr => ∃ (k : Nat) (D : Array Value), k ≤ ns.length ∧ i = .int .i64 k ∧ Hid (StF ns k D) ∧ Hid (wr.heap[w.heap.size + 1]? = some (.cells D 28 (0, 0))) ∧ Hid (wr.heap[w.heap.size]? = some (.cells zeroA 28 (0, 0))) ∧ Hid (Below w.heap.size w wr)) (fun _ _ _ _ i _ => ns.length - (intOf i).toNat)
  case atStart =>
    refine ⟨0, zeroA, Nat.zero_le _, rfl, Lib.hid ⟨fun _ => ⟨by simp, rfl⟩, fun h => ?_⟩, HG0, HR0, Lib.hid (((Below.refl _ _).alloc (Nat.le_refl _) _).alloc (by simp) _)⟩
    have : ns = [] := List.eq_nil_of_length_eq_zero h.symm
    subst this
    exact ⟨List.replicate 4 0, rfl, rfl⟩
  case round =>
    obtain ⟨k, D, hk, rfl, HS, HG, HR, HB⟩ := hrel
    by_cases hlt : k < ns.length
    · obtain ⟨m, HM⟩ : ∃ m, Hid (ns[k] = m) := ⟨_, Lib.hid rfl⟩
      have hm : m ≤ 4294967296 := by rw [← HM.out]; exact HLe.out _ (List.getElem_mem _)
      obtain ⟨ga, rfl, hcell⟩ : ∃ ga, a = some ⟨ga, 0, none⟩ ∧ wr.cell? ⟨ga, k, none⟩ = some (.int .i64 (m : Int)) := by
        rcases HOwn.out.2 with ⟨h1, h0⟩ | ⟨ga, cap', cur, h1, h2, h3, h5⟩
        · omega
        · injection h1 with h1 _ h6
          subst h1; subst h6
          refine ⟨ga, rfl, ?_⟩
          rw [HB.out.cell (p := ⟨ga, k, none⟩) (lt_of_block h3), HOwn.out.cellAt k (by omega), List.getElem?_map, List.getElem?_eq_getElem hlt, HM.out]; rfl
      have hzs : zeroA.size = 17 := zeroA_size
      have HIz : Hid ((Try.prog.info? 28).map (·.size) = some zeroA.size) := Lib.hid (by rw [HI.out, zeroA_size])
      obtain ⟨hpre, hD⟩ := HS.out.1 hlt
      have HPre := Lib.hid hpre
      have HD := Lib.hid hD
      have HDs : Hid (D.size = 17) := Lib.hid (by rw [hD, cellsA_size]; simp; omega)
      have HT : Hid (ns = ns.take k ++ ns[k] :: ns.drop (k + 1)) := Lib.hid (by rw [← List.drop_eq_getElem_cons hlt, List.take_append_drop])
      clear hpre hD
      by_cases hl : k + 1 = ns.length
      · have hlI : (((k : Int) + 1) == (ns.length : Int)) = true := by simp; omega
        have hns : ns = ns.take k ++ [m] := by
          have := HT.out
          rw [List.drop_of_length_le (by omega), HM.out] at this; exact this
        have HLay : Hid ((m < 256 ^ (4 - k) → lay4 4 ns = some (ns.take k ++ be (4 - k) m)) ∧ (¬ m < 256 ^ (4 - k) → lay4 4 ns = none)) := Lib.hid (by
          have := lay4_pre (ns.take k) 4 m HPre.out
          rw [← hns] at this
          have e : (ns.take k).length = k := by rw [List.length_take]; omega
          rw [e] at this
          exact ⟨fun h => by rw [this, if_pos h], fun h => by rw [this, if_neg h]⟩)
        clear hns
        have HL := Lib.hid hl
        clear hl
        obtain rfl | rfl | rfl | rfl : k = 0 ∨ k = 1 ∨ k = 2 ∨ k = 3 := by omega
        · have hsl : ∀ w', (Instr.sliceAt 26 (.pointer (some ⟨w.heap.size + 1, 1, none⟩)) (some (.int .i64 0)) (some (.int .i64 4)) none).run Try.prog w' = .ok (.slice (some ⟨w.heap.size + 1, 1, none⟩) 4 16) w' := sliceA (w.heap.size + 1) 0 4 (by omega) (by omega) (by omega)
          have HPut := Lib.hid (put_any (w.heap.size + 1) 1 4 16 m D _ wr HG.out (by rw [HDs.out]; omega) (by rw [HDs.out]; omega) hm)
          by_cases h256 : m < 4294967296
          · have hd : ((m : Int) / 4294967296 != 0) = false := by simp; omega
            have HYes := HLay.out.1 h256
            go_wp2_with fail
            refine HPut.out.mono ?_
            rintro e w1 ⟨rfl, k1, D1, g1, s1, u1, u2⟩
            have HG1 := Lib.hid g1
            have HR1 : Hid (w1.heap[w.heap.size]? = some (.cells zeroA 28 (0, 0))) := Lib.hid (k1.at HR.out (by simp [Only]))
            have HB1 : Hid (Below w.heap.size w w1) := Lib.hid (HB.out.trans (k1.below (by have := HB.out.size; omega) (fun q hq => by rw [show q = w.heap.size + 1 from hq]; omega)))
            have HS1 : Hid (StF ns (0 + 1) D1) := Lib.hid (by
              rw [HD.out] at s1 u1
              exact stF_last HL.out HPre.out hlt s1 u1 u2 HYes h4)
            clear k1 g1 s1 u1 u2
            go_wp2
            go_roundw
            case rel => exact ⟨0 + 1, D1, by omega, by go_num, HS1, HG1, HR1, HB1⟩
            case measure => simp [intOf]; omega
          · have hd : ((m : Int) / 4294967296 != 0) = true := by simp; omega
            have HNo := Lib.hid (HLay.out.2 h256)
            go_wp2_with (refine wpL_store_row rfl _ _ _ rfl w.heap.size zeroA rfl rfl _ zeroA HR.out HIz.out rfl zeroA_one ?_)
            refine bodyPost_ret (v := .tuple #[.agg zeroA, .bool false]) (results_row2 Try.results20 _ _ w.heap.size _ zeroA (0, 0) _ rfl (setRow_heap _ _ zeroA zeroA _ _ HR.out) Try.underlying28 rfl HIz.out) rfl ⟨?_, ?_, ?_⟩
            · exact below_setRow HB.out (Nat.le_refl _) _
            · intro bs hbs; rw [HNo.out] at hbs; cases hbs
            · intro _; rfl
        · have hsl : ∀ w', (Instr.sliceAt 26 (.pointer (some ⟨w.heap.size + 1, 1, none⟩)) (some (.int .i64 1)) (some (.int .i64 4)) none).run Try.prog w' = .ok (.slice (some ⟨w.heap.size + 1, 2, none⟩) 3 15) w' := sliceA (w.heap.size + 1) 1 4 (by omega) (by omega) (by omega)
          have HPut := Lib.hid (put_any (w.heap.size + 1) 2 3 15 m D _ wr HG.out (by rw [HDs.out]; omega) (by rw [HDs.out]; omega) hm)
          by_cases h256 : m < 16777216
          · have hd : ((m : Int) / 16777216 != 0) = false := by simp; omega
            have HYes := HLay.out.1 h256
            go_wp2_with fail
            refine HPut.out.mono ?_
            rintro e w1 ⟨rfl, k1, D1, g1, s1, u1, u2⟩
            have HG1 := Lib.hid g1
            have HR1 : Hid (w1.heap[w.heap.size]? = some (.cells zeroA 28 (0, 0))) := Lib.hid (k1.at HR.out (by simp [Only]))
            have HB1 : Hid (Below w.heap.size w w1) := Lib.hid (HB.out.trans (k1.below (by have := HB.out.size; omega) (fun q hq => by rw [show q = w.heap.size + 1 from hq]; omega)))
            have HS1 : Hid (StF ns (1 + 1) D1) := Lib.hid (by
              rw [HD.out] at s1 u1
              exact stF_last HL.out HPre.out hlt s1 u1 u2 HYes h4)
            clear k1 g1 s1 u1 u2
            go_wp2
            go_roundw
            case rel => exact ⟨1 + 1, D1, by omega, by go_num, HS1, HG1, HR1, HB1⟩
            case measure => simp [intOf]; omega
          · have hd : ((m : Int) / 16777216 != 0) = true := by simp; omega
            have HNo := Lib.hid (HLay.out.2 h256)
            go_wp2_with (refine wpL_store_row rfl _ _ _ rfl w.heap.size zeroA rfl rfl _ zeroA HR.out HIz.out rfl zeroA_one ?_)
            refine bodyPost_ret (v := .tuple #[.agg zeroA, .bool false]) (results_row2 Try.results20 _ _ w.heap.size _ zeroA (0, 0) _ rfl (setRow_heap _ _ zeroA zeroA _ _ HR.out) Try.underlying28 rfl HIz.out) rfl ⟨?_, ?_, ?_⟩
            · exact below_setRow HB.out (Nat.le_refl _) _
            · intro bs hbs; rw [HNo.out] at hbs; cases hbs
            · intro _; rfl
        · have hsl : ∀ w', (Instr.sliceAt 26 (.pointer (some ⟨w.heap.size + 1, 1, none⟩)) (some (.int .i64 2)) (some (.int .i64 4)) none).run Try.prog w' = .ok (.slice (some ⟨w.heap.size + 1, 3, none⟩) 2 14) w' := sliceA (w.heap.size + 1) 2 4 (by omega) (by omega) (by omega)
          have HPut := Lib.hid (put_any (w.heap.size + 1) 3 2 14 m D _ wr HG.out (by rw [HDs.out]; omega) (by rw [HDs.out]; omega) hm)
          by_cases h256 : m < 65536
          · have hd : ((m : Int) / 65536 != 0) = false := by simp; omega
            have HYes := HLay.out.1 h256
            go_wp2_with fail
            refine HPut.out.mono ?_
            rintro e w1 ⟨rfl, k1, D1, g1, s1, u1, u2⟩
            have HG1 := Lib.hid g1
            have HR1 : Hid (w1.heap[w.heap.size]? = some (.cells zeroA 28 (0, 0))) := Lib.hid (k1.at HR.out (by simp [Only]))
            have HB1 : Hid (Below w.heap.size w w1) := Lib.hid (HB.out.trans (k1.below (by have := HB.out.size; omega) (fun q hq => by rw [show q = w.heap.size + 1 from hq]; omega)))
            have HS1 : Hid (StF ns (2 + 1) D1) := Lib.hid (by
              rw [HD.out] at s1 u1
              exact stF_last HL.out HPre.out hlt s1 u1 u2 HYes h4)
            clear k1 g1 s1 u1 u2
            go_wp2
            go_roundw
            case rel => exact ⟨2 + 1, D1, by omega, by go_num, HS1, HG1, HR1, HB1⟩
            case measure => simp [intOf]; omega
          · have hd : ((m : Int) / 65536 != 0) = true := by simp; omega
            have HNo := Lib.hid (HLay.out.2 h256)
            go_wp2_with (refine wpL_store_row rfl _ _ _ rfl w.heap.size zeroA rfl rfl _ zeroA HR.out HIz.out rfl zeroA_one ?_)
            refine bodyPost_ret (v := .tuple #[.agg zeroA, .bool false]) (results_row2 Try.results20 _ _ w.heap.size _ zeroA (0, 0) _ rfl (setRow_heap _ _ zeroA zeroA _ _ HR.out) Try.underlying28 rfl HIz.out) rfl ⟨?_, ?_, ?_⟩
            · exact below_setRow HB.out (Nat.le_refl _) _
            · intro bs hbs; rw [HNo.out] at hbs; cases hbs
            · intro _; rfl
        · have hsl : ∀ w', (Instr.sliceAt 26 (.pointer (some ⟨w.heap.size + 1, 1, none⟩)) (some (.int .i64 3)) (some (.int .i64 4)) none).run Try.prog w' = .ok (.slice (some ⟨w.heap.size + 1, 4, none⟩) 1 13) w' := sliceA (w.heap.size + 1) 3 4 (by omega) (by omega) (by omega)
          have HPut := Lib.hid (put_any (w.heap.size + 1) 4 1 13 m D _ wr HG.out (by rw [HDs.out]; omega) (by rw [HDs.out]; omega) hm)
          by_cases h256 : m < 256
          · have hd : ((m : Int) / 256 != 0) = false := by simp; omega
            have HYes := HLay.out.1 h256
            go_wp2_with fail
            refine HPut.out.mono ?_
            rintro e w1 ⟨rfl, k1, D1, g1, s1, u1, u2⟩
            have HG1 := Lib.hid g1
            have HR1 : Hid (w1.heap[w.heap.size]? = some (.cells zeroA 28 (0, 0))) := Lib.hid (k1.at HR.out (by simp [Only]))
            have HB1 : Hid (Below w.heap.size w w1) := Lib.hid (HB.out.trans (k1.below (by have := HB.out.size; omega) (fun q hq => by rw [show q = w.heap.size + 1 from hq]; omega)))
            have HS1 : Hid (StF ns (3 + 1) D1) := Lib.hid (by
              rw [HD.out] at s1 u1
              exact stF_last HL.out HPre.out hlt s1 u1 u2 HYes h4)
            clear k1 g1 s1 u1 u2
            go_wp2
            go_roundw
            case rel => exact ⟨3 + 1, D1, by omega, by go_num, HS1, HG1, HR1, HB1⟩
            case measure => simp [intOf]; omega
          · have hd : ((m : Int) / 256 != 0) = true := by simp; omega
            have HNo := Lib.hid (HLay.out.2 h256)
            go_wp2_with (refine wpL_store_row rfl _ _ _ rfl w.heap.size zeroA rfl rfl _ zeroA HR.out HIz.out rfl zeroA_one ?_)
            refine bodyPost_ret (v := .tuple #[.agg zeroA, .bool false]) (results_row2 Try.results20 _ _ w.heap.size _ zeroA (0, 0) _ rfl (setRow_heap _ _ zeroA zeroA _ _ HR.out) Try.underlying28 rfl HIz.out) rfl ⟨?_, ?_, ?_⟩
            · exact below_setRow HB.out (Nat.le_refl _) _
            · intro bs hbs; rw [HNo.out] at hbs; cases hbs
            · intro _; rfl
      · have hl' : k + 1 < ns.length := by omega
        have hlI : (((k : Int) + 1) == (ns.length : Int)) = false := beq_eq_false_iff_ne.2 (by omega)
        clear hl
        have hsl := sliceA (w.heap.size + 1) k (k + 1) (by omega) (by omega) (by omega)
        simp only [Int.natCast_add, Int.natCast_one, show k + 1 - k = 1 by omega] at hsl
        by_cases h256 : m < 256
        · have hd : ((m : Int) / 256 != 0) = false := by simp; omega
          go_wp2_with fail
          refine (put_any (w.heap.size + 1) (1 + k) 1 (16 - k) m D _ wr HG.out (by rw [HDs.out]; omega) (by rw [HDs.out]; omega) hm).mono ?_
          rintro e w1 ⟨rfl, k1, D1, g1, s1, u1, u2⟩
          have HG1 := Lib.hid g1
          have HR1 : Hid (w1.heap[w.heap.size]? = some (.cells zeroA 28 (0, 0))) := Lib.hid (k1.at HR.out (by simp [Only]))
          have HB1 : Hid (Below w.heap.size w w1) := Lib.hid (HB.out.trans (k1.below (by have := HB.out.size; omega) (fun q hq => by rw [show q = w.heap.size + 1 from hq]; omega)))
          have HS1 : Hid (StF ns (k + 1) D1) := Lib.hid (by
            rw [HD.out] at s1 u1
            have hlen : (ns.take k ++ List.replicate (16 - k) 0).length = 16 := by simp; omega
            have := put_cells (six := false) (A := ns.take k ++ List.replicate (16 - k) 0) (k := k) (len := 1) (n := m) (by rw [hlen]; omega) s1 u1 u2
            refine ⟨fun _ => ⟨?_, ?_⟩, fun h => by omega⟩
            · intro x hx
              rw [List.take_succ_eq_append_getElem hlt] at hx
              rcases List.mem_append.1 hx with hx | hx
              · exact HPre.out x hx
              · rw [List.mem_singleton.1 hx, HM.out]; exact h256
            · rw [this]
              congr 1
              rw [List.take_succ_eq_append_getElem hlt, HM.out]
              have e1 : (ns.take k ++ List.replicate (16 - k) 0).take k = ns.take k := by rw [List.take_append_of_le_length (by simp; omega), List.take_take, Nat.min_self]
              have e2 : (ns.take k ++ List.replicate (16 - k) 0).drop (k + 1) = List.replicate (16 - (k + 1)) 0 := by
                rw [List.drop_append, List.drop_of_length_le (by rw [List.length_take]; omega)]
                simp; omega
              rw [e1, e2]
              simp [be]; omega)
          clear k1 g1 s1 u1 u2
          go_wp2
          go_roundw
          case rel => exact ⟨k + 1, D1, by omega, by go_num, HS1, HG1, HR1, HB1⟩
          case measure => simp [intOf]; omega
        · have hd : ((m : Int) / 256 != 0) = true := by simp; omega
          have HNo : Hid (lay4 4 ns = none) := Lib.hid (by
            rw [HT.out]
            obtain ⟨y, rest, hy⟩ : ∃ y rest, ns.drop (k + 1) = y :: rest := by
              cases h : ns.drop (k + 1) with
              | nil => have := congrArg List.length h; rw [List.length_drop] at this; simp at this; omega
              | cons y r => exact ⟨y, r, rfl⟩
            rw [hy]
            exact lay4_bad _ _ _ _ _ HPre.out (by rw [HM.out]; omega))
          go_wp2_with (refine wpL_store_row rfl _ _ _ rfl w.heap.size zeroA rfl rfl _ zeroA HR.out HIz.out rfl zeroA_one ?_)
          refine bodyPost_ret (v := .tuple #[.agg zeroA, .bool false]) (results_row2 Try.results20 _ _ w.heap.size _ zeroA (0, 0) _ rfl (setRow_heap _ _ zeroA zeroA _ _ HR.out) Try.underlying28 rfl HIz.out) rfl ⟨?_, ?_, ?_⟩
          · exact below_setRow HB.out (Nat.le_refl _) _
          · intro bs hbs; rw [HNo.out] at hbs; cases hbs
          · intro _; rfl
    · obtain rfl : k = ns.length := by omega
      obtain ⟨bs, hbs, hD⟩ := HS.out.2 rfl
      have HBs := Lib.hid hbs
      have HD := Lib.hid hD
      have hln := (lay4_len ns 4 bs h4 hbs).1
      have HDz : Hid (D.size = 17) := Lib.hid (by rw [hD, cellsA_size]; simp; omega)
      have HOne : Hid (D.all (·.oneCell') = true) := Lib.hid (by rw [hD]; exact cellsA_one _ _)
      have HIz : Hid ((Try.prog.info? 28).map (·.size) = some D.size) := Lib.hid (by rw [HI.out, HDz.out])
      have HZD : Hid (zeroA.size = D.size) := Lib.hid (by rw [HDz.out, zeroA_size])
      clear hbs hD hln
      go_wp2_with (first | refine wpList_load_row rfl 28 _ rfl (w.heap.size + 1) rfl 28 D (0, 0) _ HG.out Try.underlying28 rfl HIz.out ?_ | refine wpL_store_row rfl _ _ _ rfl w.heap.size D rfl rfl _ zeroA HR.out HIz.out HZD.out HOne.out ?_)
      refine bodyPost_ret (v := .tuple #[.agg D, .bool true]) (results_row2 Try.results20 _ _ w.heap.size _ D (0, 0) _ rfl (setRow_heap _ _ zeroA D _ _ HR.out) Try.underlying28 rfl HIz.out) rfl ⟨?_, ?_, ?_⟩
      · exact below_setRow HB.out (Nat.le_refl _) _
      · intro bs' hbs; rw [HBs.out] at hbs; injection hbs with hbs; subst hbs; rw [← HD.out]
      · intro h; rw [HBs.out] at h; cases h

end Go.Proofs.Ytjalbfgdhmkclaa
