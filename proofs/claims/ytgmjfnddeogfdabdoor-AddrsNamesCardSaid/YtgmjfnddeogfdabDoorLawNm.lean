/-
  The walk of AddrsNames.
-/
import Derived.Test.YtgmjfnddeogfdabDoorAl4
import Derived.Test.YtgmjfnddeogfdabDoorGd
import Derived.Test.YtgmjfnddeogfdabDoorBey
import Derived.Test.YtgmjfnddeogfdabDoorTxV
namespace Go.Proofs.YtgmjfnddeogfdabDoor
open Go.RowKit

theorem one_textN (x : Int) (a : UInt8) (h : (a.toNat : Int) = x) (w : World) : (convert 40 9 (.slice (some ⟨w.heap.size, 0, none⟩) 1 1)).run Tryd.prog (w.alloc (.cells #[.int .u8 x] 5)) = .ok (.string ⟨#[a]⟩) (w.alloc (.cells #[.int .u8 x] 5)) := by
  subst h
  exact run_convert_bytes_back (P := Tryd.prog) _ 40 9 5 ⟨w.heap.size, 0, none⟩ 1 [a] Tryd.underlying40 Tryd.underlying5 Tryd.underlying9 (fun j hj => by
    have : j = 0 := by simpa using hj
    subst this
    simp [Addr.add])
theorem nm_data (a : UInt8) (t : ByteArray) : ((⟨#[a]⟩ : ByteArray) ++ t).data.toList = a :: t.data.toList := by simp
theorem nm_data2 (a : UInt8) (s t : ByteArray) : (s ++ (⟨#[46]⟩ : ByteArray) ++ ((⟨#[a]⟩ : ByteArray) ++ t)).data.toList = s.data.toList ++ 46 :: a :: t.data.toList := by simp
theorem nm_data3 (a : UInt8) (s t : ByteArray) : (s ++ (⟨#[46]⟩ : ByteArray) ++ ((⟨#[a]⟩ : ByteArray) ++ t) ++ (⟨#[46]⟩ : ByteArray)).data.toList = s.data.toList ++ 46 :: a :: t.data.toList ++ [46] := by simp
theorem nm_size (a : UInt8) (s t : ByteArray) : (s ++ (⟨#[46]⟩ : ByteArray) ++ ((⟨#[a]⟩ : ByteArray) ++ t) ++ (⟨#[46]⟩ : ByteArray)).size = s.size + t.size + 3 := by
  rw [← lenB, nm_data3]; simp; omega
theorem nm_call (X : ByteArray) (h : fourD X.data.toList = (false, none)) (hs : X.size ≤ 1048600) (w : World) :
    Calls Tryd.prog 10 #[.string X] w fun e w' => e = .returned (.tuple #[.agg zeroA, .bool false, .int .i64 0]) ∧ Below w.heap.size w w' := by
  have := Four_any X w hs
  rw [h] at this; exact this

set_option maxRecDepth 100000 in
set_option maxHeartbeats 4000000 in
theorem names_walk (s t : ByteArray) (u : UInt8) (w : World) (hs : s.size ≤ 140737488351232) (ht : t.size ≤ 140737488351232) (h10 : Fmt 10 256 w) (h16 : Fmt 16 65536 w) :
    Calls Tryd.prog 5 #[.string s, .int .u8 u.toNat, .string t] w fun e w' => e = .returned (.bool true) ∧ Below w.heap.size w w' := by
  have HF10 := Lib.hid h10; have HF16 := Lib.hid h16
  clear h10 h16
  by_cases hb : 1048576 < s.size + t.size
  · go_enter Tryd.func5, Tryd.ntmps5
    go_wp2_with fail
    refine (alive4_any _ HF10.out HF16.out).mono ?_
    rintro e w1 ⟨rfl, b1⟩
    have B1 := Lib.hid b1; clear b1
    go_wp2_with fail
    refine (Beyond2_yes w1.heap.size s.size t.size _ (by simp) (by simp) hb (by unfold maxLen; omega)).mono ?_
    rintro e w2 ⟨rfl, rfl⟩
    have Z1 : Hid (Below w.heap.size w (w1.alloc (.cells #[.int .i64 s.size, .int .i64 t.size] 3))) := Lib.hid (B1.out.alloc B1.out.size _)
    go_wp2_with fail
    refine (alive4_any _ (HF10.out.later Z1.out) (HF16.out.later Z1.out)).mono ?_
    rintro e w2 ⟨rfl, b2⟩
    have B2 := Lib.hid b2; clear b2
    go_wp2
    go_ret
    exact ⟨rfl, Z1.out.trans (B2.out.mono Z1.out.size)⟩
  · have hul : u.toNat < 256 := u.toNat_lt
    obtain ⟨a, HA⟩ : ∃ a : UInt8, Hid ((a.toNat : Int) = 97 + (u.toNat : Int) % 26) := ⟨UInt8.ofNat (97 + u.toNat % 26), Lib.hid (by rw [UInt8.toNat_ofNat']; omega)⟩
    have HA2 : Hid (97 ≤ a.toNat ∧ a.toNat ≤ 122) := Lib.hid (by have := HA.out; omega)
    obtain ⟨hz, hi⟩ := zero_of_info infoA
    have HI := Lib.hid hi; clear hi
    have HZs : Hid (zeroA.size = 17) := Lib.hid zeroA_size
    have HID : Hid ((Tryd.prog.info? 24).map (·.size) = some zeroA.size) := Lib.hid (by rw [HI.out, HZs.out])
    have HOne : Hid (zeroA.all (·.oneCell') = true) := Lib.hid zeroA_one
    have HB00 := Lib.hid built_0
    have heq : ∀ w, (binOp .eql 24 (.agg zeroA) (.agg zeroA)).run Tryd.prog w = .ok (.bool true) w := fun w => eqA_self false _ (by simp) w
    go_enter Tryd.func5, Tryd.ntmps5
    go_wp2_with fail
    refine (alive4_any _ HF10.out HF16.out).mono ?_
    rintro e w1 ⟨rfl, b1⟩
    have B1 := Lib.hid b1; clear b1
    go_wp2_with fail
    refine (Beyond2_no w1.heap.size s.size t.size _ (by simp) (by simp) (by omega)).mono ?_
    rintro e w2 ⟨rfl, rfl⟩
    obtain ⟨W1, HW1⟩ : ∃ W, Hid (w1.alloc (.cells #[.int .i64 s.size, .int .i64 t.size] 3) = W) := ⟨_, Lib.hid rfl⟩
    rw [HW1.out]
    have Z1 : Hid (Below w.heap.size w W1) := Lib.hid (by rw [← HW1.out]; exact B1.out.alloc B1.out.size _)
    clear HW1 B1
    go_wp2_with fail
    go_loop [7] (fun i => ∃ k : Nat, k ≤ t.size ∧ i = .int .i64 k ∧ Hid (∀ x ∈ t.data.toList.take k, x ≠ 46)) (fun i => t.size - (intOf i).toNat)
    case atStart => exact ⟨0, Nat.zero_le _, rfl, Lib.hid (by simp)⟩
    case round =>
      obtain ⟨k, hk, rfl, HN⟩ := hrel
      by_cases hlt : k < t.size
      · by_cases he : t[k] = 46
        · have e1 : ((t[k].toNat : Int) == 46) = true := beq_iff_eq.2 (by rw [he]; rfl)
          clear he
          go_wp2
          go_ret
          exact ⟨rfl, Z1.out⟩
        · have e1 : ((t[k].toNat : Int) == 46) = false := beq_eq_false_iff_ne.2 (fun h => he (UInt8.toNat_inj.1 (by have : (46 : UInt8).toNat = 46 := rfl; omega)))
          have HN' : Hid (∀ x ∈ t.data.toList.take (k + 1), x ≠ 46) := Lib.hid (by
            intro x hx
            rw [take_snoc t k hlt, List.mem_append] at hx
            rcases hx with hx | hx
            · exact HN.out x hx
            · rw [List.mem_singleton] at hx; rw [hx]; exact he)
          clear he
          go_wp2
          go_round
          case rel => exact ⟨k + 1, by omega, by go_num, HN'⟩
          case measure => simp [intOf]; omega
      · have HT : Hid (∀ x ∈ t.data.toList, x ≠ 46) := Lib.hid (by
          have := HN.out
          rwa [List.take_of_length_le (by simp; omega)] at this)
        have HS := Lib.hid (nm_size a s t)
        have N1 : Hid (∀ w, Calls Tryd.prog 10 #[.string ((⟨#[a]⟩ : ByteArray) ++ t)] w fun e w' => e = .returned (.tuple #[.agg zeroA, .bool false, .int .i64 0]) ∧ Below w.heap.size w w') :=
          Lib.hid (nm_call _ (by rw [nm_data]; exact name_one a _ HA2.out HT.out) (by rw [← lenB, nm_data]; simp; omega))
        have N2 : Hid (∀ w, Calls Tryd.prog 10 #[.string (s ++ (⟨#[46]⟩ : ByteArray) ++ ((⟨#[a]⟩ : ByteArray) ++ t))] w fun e w' => e = .returned (.tuple #[.agg zeroA, .bool false, .int .i64 0]) ∧ Below w.heap.size w w') :=
          Lib.hid (nm_call _ (by rw [nm_data2]; exact (name_two _ a _ HA2.out HT.out).1) (by rw [← lenB, nm_data2]; simp; omega))
        have N3 : Hid (∀ w, Calls Tryd.prog 10 #[.string (s ++ (⟨#[46]⟩ : ByteArray) ++ ((⟨#[a]⟩ : ByteArray) ++ t) ++ (⟨#[46]⟩ : ByteArray))] w fun e w' => e = .returned (.tuple #[.agg zeroA, .bool false, .int .i64 0]) ∧ Below w.heap.size w w') :=
          Lib.hid (nm_call _ (by rw [nm_data3]; exact (name_two _ a _ HA2.out HT.out).2) (by rw [HS.out]; omega))
        have hcv := fun w => one_textN (97 + (u.toNat : Int) % 26) a HA.out w
        have hst : s.size + 1 + (1 + t.size) + 1 ≤ 9223372036854775807 := by omega
        go_wp2_with fail
        refine (N1.out _).mono ?_
        rintro e w2 ⟨rfl, b2⟩
        have Z2 : Hid (Below w.heap.size w w2) := Lib.hid (on_size Z1.out b2)
        clear b2
        go_wp2_with (refine wpL_store_row rfl 24 _ _ rfl w2.heap.size zeroA ?_ ?_ 24 zeroA ?_ ?_ ?_ ?_ ?_; exact rfl; exact rfl; exact heap_alloc_new w2 _; exact HID.out; exact rfl; exact HOne.out; rw [World.setRow_alloc_new])
        refine (N2.out _).mono ?_
        rintro e w3 ⟨rfl, b3⟩
        have Z3 : Hid (Below w.heap.size w w3) := Lib.hid (on_size Z2.out b3)
        have G23 : Hid (w3.heap[w2.heap.size]? = some (.cells zeroA 24 (0, 0))) := Lib.hid (on_two b3)
        clear b3
        go_wp2_with (refine wpL_store_row rfl 24 _ _ rfl w3.heap.size zeroA ?_ ?_ 24 zeroA ?_ ?_ ?_ ?_ ?_; exact rfl; exact rfl; exact heap_alloc_new w3 _; exact HID.out; exact rfl; exact HOne.out; rw [World.setRow_alloc_new])
        refine (N3.out _).mono ?_
        rintro e w4 ⟨rfl, b4⟩
        have Z4 : Hid (Below w.heap.size w w4) := Lib.hid (on_size Z3.out b4)
        have G24 : Hid (w4.heap[w2.heap.size]? = some (.cells zeroA 24 (0, 0))) := Lib.hid (on_one G23.out b4)
        have G34 : Hid (w4.heap[w3.heap.size]? = some (.cells zeroA 24 (0, 0))) := Lib.hid (on_two b4)
        clear b4
        obtain ⟨W, HW⟩ : ∃ W, Hid (w4.alloc (.cells zeroA 24) = W) := ⟨_, Lib.hid rfl⟩
        have G2 : Hid (W.heap[w2.heap.size]? = some (.cells zeroA 24 (0, 0))) := Lib.hid (by rw [← HW.out, Below.heap_alloc _ _ _ (lt_of_block G24.out)]; exact G24.out)
        have G3 : Hid (W.heap[w3.heap.size]? = some (.cells zeroA 24 (0, 0))) := Lib.hid (by rw [← HW.out, Below.heap_alloc _ _ _ (lt_of_block G34.out)]; exact G34.out)
        have G4 : Hid (W.heap[w4.heap.size]? = some (.cells zeroA 24 (0, 0))) := Lib.hid (by rw [← HW.out]; exact heap_alloc_new w4 _)
        have ZW : Hid (Below w.heap.size w W) := Lib.hid (by rw [← HW.out]; exact Z4.out.alloc Z4.out.size _)
        go_wp2_with (first
          | (refine wpL_store_row rfl 24 _ _ rfl w4.heap.size zeroA ?_ ?_ 24 zeroA ?_ ?_ ?_ ?_ ?_; exact rfl; exact rfl; exact heap_alloc_new w4 _; exact HID.out; exact rfl; exact HOne.out; rw [World.setRow_alloc_new, HW.out])
          | (refine wpW_load_row rfl 24 _ rfl w2.heap.size ?_ 24 zeroA (0, 0) _ ?_ Tryd.underlying24 rfl HID.out ?_; (exact rfl); (exact G2.out))
          | (refine wpW_load_row rfl 24 _ rfl w3.heap.size ?_ 24 zeroA (0, 0) _ ?_ Tryd.underlying24 rfl HID.out ?_; (exact rfl); (exact G3.out))
          | (refine wpW_load_row rfl 24 _ rfl w4.heap.size ?_ 24 zeroA (0, 0) _ ?_ Tryd.underlying24 rfl HID.out ?_; (exact rfl); (exact G4.out))
          | (refine wpW_build rfl 24 _ rfl zeroA ?_ ?_; exact HB00.out))
        go_ret
        exact ⟨rfl, ZW.out⟩
theorem names_all (s t : ByteArray) (c : Int) (w : World) (hs : s.size ≤ 140737488351232) (ht : t.size ≤ 140737488351232) (hc : (Lit.int .u8 c).wf = true) (h10 : Fmt 10 256 w) (h16 : Fmt 16 65536 w) :
    Calls Tryd.prog 5 #[.string s, .int .u8 c, .string t] w fun e w' => e = .returned (.bool true) ∧ Below w.heap.size w w' := by
  obtain ⟨u, rfl⟩ := byte_of2 c hc
  exact names_walk s t u w hs ht h10 h16

end Go.Proofs.YtgmjfnddeogfdabDoor
