/-
  footmanlaw11.StsOpen: a text with a mark that is not closed is refused.
-/
import Derived.Test.YthffgnlebljkcabDoorTsN
import Derived.Test.YthffgnlebljkcabDoorBeyond
namespace Go.Proofs.YthffgnlebljkcabDoor
open Go.RowKit Go.Lib

def preO : List UInt8 := [109, 97, 120, 45, 97, 103, 101, 61, 49, 59]
theorem open_is {s t : List UInt8} (h : (s ++ t).count 34 = 0) (hl : s.length + t.length ≤ 30000) : badW (asB (preO ++ s ++ [34] ++ t)) = true := by
  rw [List.count_append] at h
  refine open_bad ?_ ?_
  · rw [List.count_append, List.count_append, List.count_append]
    have e1 : preO.count 34 = 0 := by decide
    have e2 : ([34] : List UInt8).count 34 = 1 := by decide
    omega
  · simp only [List.length_append, List.length_cons, List.length_nil]
    have : preO.length = 10 := rfl
    omega
set_option maxRecDepth 100000 in
set_option maxHeartbeats 4000000 in
theorem wopen_walk (s t : ByteArray) (w : World) (hs : s.size ≤ 140737488355328) (ht : t.size ≤ 140737488355328) (htab : Lib.TabIs Tryd.prog w "internal/strconv.uint64pow10" .u64 Lib.pow10Tab) :
    Calls Tryd.prog 3 #[.string s, .string t] w fun e w' => e = .returned (.bool true) ∧ Below w.heap.size w w' := by
  have HT := Lib.hid htab
  have HAl := Lib.hid fun w h => alive11_any w h
  have HA0 := Lib.hid (alive11_any w htab)
  have HCb : Hid (∀ w2 : World, (w2.alloc (.cells #[.int .i64 (s.size : Int), .int .i64 (t.size : Int)] 3)).cell? ⟨w2.heap.size, 0, none⟩ = some (.int .i64 (s.size : Int)) ∧ (w2.alloc (.cells #[.int .i64 (s.size : Int), .int .i64 (t.size : Int)] 3)).cell? ⟨w2.heap.size, 1, none⟩ = some (.int .i64 (t.size : Int))) := Lib.hid fun w2 => by
    constructor
    · rw [World.cell?_alloc_at _ _ _ _ rfl]; rfl
    · rw [World.cell?_alloc_at _ _ _ _ rfl]; rfl
  by_cases hbig : 1048576 < s.size + t.size
  · have HBy := Lib.hid fun w2 => Beyond2_yes w2.heap.size s.size t.size (w2.alloc (.cells #[.int .i64 (s.size : Int), .int .i64 (t.size : Int)] 3)) (HCb.out w2).1 (HCb.out w2).2 hbig (by unfold maxLen; omega)
    clear hbig hs ht htab
    go_enter Tryd.func3, Tryd.ntmps3
    go_wp2_with fail
    refine HA0.out.mono ?_
    rintro e w1 ⟨rfl, b1⟩
    have HB1 := Lib.hid b1
    clear b1
    go_wp2_with fail
    refine (HBy.out w1).mono ?_
    rintro e w2 ⟨rfl, rfl⟩
    have HB2 := Lib.hid (HB1.out.alloc HB1.out.size (.cells #[.int .i64 (s.size : Int), .int .i64 (t.size : Int)] 3))
    have HA2 := Lib.hid (HAl.out _ (tab11 HT.out HB2.out))
    go_wp2_with fail
    refine HA2.out.mono ?_
    rintro e w3 ⟨rfl, b3⟩
    have HB3 := Lib.hid (HB2.out.trans (b3.mono HB2.out.size))
    clear b3
    go_wp2
    go_ret
    exact ⟨rfl, HB3.out⟩
  · have HBy := Lib.hid fun w2 => Beyond2_no w2.heap.size s.size t.size (w2.alloc (.cells #[.int .i64 (s.size : Int), .int .i64 (t.size : Int)] 3)) (HCb.out w2).1 (HCb.out w2).2 (by omega)
    by_cases hl : 30000 < s.size + t.size
    · have hl1 : (30000 : Int) < (s.size : Int) + (t.size : Int) := by omega
      have hl2 : decide ((30000 : Int) < (s.size : Int) + (t.size : Int)) = true := decide_eq_true hl1
      have hz1 : (s.size : Int) ≤ 2000000 := by omega
      have hz2 : (t.size : Int) ≤ 2000000 := by omega
      clear hbig hs ht htab hl
      go_enter Tryd.func3, Tryd.ntmps3
      go_wp2_with fail
      refine HA0.out.mono ?_
      rintro e w1 ⟨rfl, b1⟩
      have HB1 := Lib.hid b1
      clear b1
      go_wp2_with fail
      refine (HBy.out w1).mono ?_
      rintro e w2 ⟨rfl, rfl⟩
      have HB2 := Lib.hid (HB1.out.alloc HB1.out.size (.cells #[.int .i64 (s.size : Int), .int .i64 (t.size : Int)] 3))
      have HA2 := Lib.hid (HAl.out _ (tab11 HT.out HB2.out))
      go_wp2_with fail
      refine HA2.out.mono ?_
      rintro e w3 ⟨rfl, b3⟩
      have HB3 := Lib.hid (HB2.out.trans (b3.mono HB2.out.size))
      clear b3
      go_wp2
      go_ret
      exact ⟨rfl, HB3.out⟩
    · have hl1 : ¬ (30000 : Int) < (s.size : Int) + (t.size : Int) := by omega
      have hl2 : decide ((30000 : Int) < (s.size : Int) + (t.size : Int)) = false := decide_eq_false hl1
      have hz1 : (s.size : Int) ≤ 30000 := by omega
      have hz2 : (t.size : Int) ≤ 30000 := by omega
      have hn1 : s.size ≤ 30000 := by omega
      have hn2 : t.size ≤ 30000 := by omega
      obtain ⟨A, HA⟩ : ∃ A, Hid (s ++ t = A) := ⟨_, Lib.hid rfl⟩
      have hAl : A.data.toList = s.data.toList ++ t.data.toList := by rw [← HA.out, ByteArray.data_append, Array.toList_append]
      have hAz : (A.size : Int) = (s.size : Int) + (t.size : Int) := by rw [← HA.out, ByteArray.size_append]; rfl
      have hA6 : (A.size : Int) ≤ 60000 := by omega
      have hAE := HA.out
      have HBd : Hid (∀ w, (A.data.toList.count 34 = 0) → Calls Tryd.prog 6 #[.string (⟨#[109, 97, 120, 45, 97, 103, 101, 61, 49, 59]⟩ ++ s ++ ⟨#[34]⟩ ++ t)] w fun e w' => e = .returned (.bool true) ∧ Below w.heap.size w w') := Lib.hid fun w hc => by
        have h := bad_any (asB (preO ++ s.data.toList ++ [34] ++ t.data.toList)) w
        rw [open_is (by rw [← hAl]; exact hc) (by rw [lenB, lenB]; omega)] at h
        have e : asB (preO ++ s.data.toList ++ [34] ++ t.data.toList) = (⟨#[109, 97, 120, 45, 97, 103, 101, 61, 49, 59]⟩ ++ s ++ ⟨#[34]⟩ ++ t : ByteArray) := by
          show _ = asB preO ++ asB s.data.toList ++ asB [34] ++ asB t.data.toList
          rw [asB_app, asB_app, asB_app]
        rw [e] at h
        exact h
      clear hbig hs ht htab hl hAl hAz
      go_enter Tryd.func3, Tryd.ntmps3
      go_wp2_with fail
      refine HA0.out.mono ?_
      rintro e w1 ⟨rfl, b1⟩
      have HB1 := Lib.hid b1
      clear b1
      go_wp2_with fail
      refine (HBy.out w1).mono ?_
      rintro e w2 ⟨rfl, rfl⟩
      obtain ⟨W2, HW2⟩ : ∃ W, Hid (w1.alloc (.cells #[.int .i64 (s.size : Int), .int .i64 (t.size : Int)] 3) = W) := ⟨_, Lib.hid rfl⟩
      have HB2 : Hid (Below w.heap.size w W2) := Lib.hid (by rw [← HW2.out]; exact HB1.out.alloc HB1.out.size _)
      rw [HW2.out]
      go_wp2
      go_loopw [6] (fun i wr => ∃ k : Nat, k ≤ A.size ∧ i = .int .i64 (k : Int) ∧ Hid ((A.data.toList.take k).count 34 = 0) ∧ W2 = wr) (fun i _ => A.size - (intOf i).toNat)
      case atStart => exact ⟨0, Nat.zero_le _, rfl, Lib.hid rfl, rfl⟩
      case round =>
        obtain ⟨k, hk, rfl, HQ, rfl⟩ := hrel
        by_cases hlt : k < A.size
        · obtain ⟨c, hx⟩ : ∃ c : UInt8, A[k]'hlt = c := ⟨_, rfl⟩
          have hc : A.data.toList[k]? = some c := by rw [← hx]; exact Lib.data_getElem? A k hlt
          have HTk : Hid (A.data.toList.take (k + 1) = A.data.toList.take k ++ [c]) := Lib.hid (by rw [List.take_add_one, hc]; rfl)
          have p1 : (k : Int) < (A.size : Int) := by omega
          clear hc
          by_cases q : c.toNat = 34
          · have e1 : ((c.toNat : Int) == 34) = true := by rw [q]; rfl
            clear q
            go_wp2
            go_ret
            exact ⟨rfl, HB2.out⟩
          · have e1 : ((c.toNat : Int) == 34) = false := beq_eq_false_iff_ne.2 (by omega)
            have HN : Hid ((A.data.toList.take (k + 1)).count 34 = 0) := Lib.hid (by
              rw [HTk.out, List.count_append, HQ.out]
              have : c ≠ 34 := fun e => q (by rw [e]; rfl)
              simp [this])
            clear q
            go_wp2
            go_roundw
            case rel => exact ⟨k + 1, by omega, by go_num, HN, trivial⟩
            case measure => simp [intOf]; omega
        · have hkA : A.data.toList.take k = A.data.toList := List.take_of_length_le (by rw [lenB]; omega)
          rw [hkA] at HQ
          have HB3 := Lib.hid (HBd.out W2 HQ.out)
          clear hkA
          go_wp2_with fail
          refine HB3.out.mono ?_
          rintro e w5 ⟨rfl, b5⟩
          have HB5 := Lib.hid (HB2.out.trans (b5.mono HB2.out.size))
          clear b5
          go_wp2
          go_ret
          exact ⟨rfl, HB5.out⟩

end Go.Proofs.YthffgnlebljkcabDoor
