/-
  The document's Below; the walk of HostsBelows.
-/
import Derived.Test.YtldddgmhmolohaaHsK2
import Derived.Test.YtldddgmhmolohaaBey
namespace Go.Proofs.Ytldddgmhmolohaa
open Go.RowKit

set_option maxRecDepth 100000 in
set_option maxHeartbeats 1000000 in
theorem RefBelow5_any (a b : ByteArray) (w : World) (ha : a.size ≤ 1048600) (hb : b.size ≤ 1048600) :
    Calls Try.prog 17 #[.string a, .string b] w fun e w' => e = .returned (.bool (belowB a b)) ∧ Below w.heap.size w w' := by
  obtain ⟨R, HR⟩ : ∃ R, Hid (belowB a b = R) := ⟨_, Lib.hid rfl⟩
  rw [HR.out]
  by_cases hab : a = b
  · have HT : Hid (R = true) := Lib.hid (by rw [← HR.out, hab, below_self])
    subst hab
    go_enter Try.func17, Try.ntmps17
    go_wp2
    go_ret
    exact ⟨ret_bool HT.out.symm, Below.refl _ _⟩
  have hne := neL hab
  have HB : Hid (R = (decide (0 < b.size) && !machB a && !machB b && Lib.hasSuffix a.data.toList (46 :: b.data.toList))) := Lib.hid (by rw [← HR.out, below_ne hab])
  clear hab HR
  by_cases h0 : b.size = 0
  · have hem := emT h0
    have HF : Hid (R = false) := Lib.hid (by rw [HB.out, h0]; rfl)
    clear HB h0
    go_enter Try.func17, Try.ntmps17
    go_wp2
    go_ret
    exact ⟨ret_bool HF.out.symm, Below.refl _ _⟩
  have hem := emF (s := b) (by omega)
  by_cases hs : a.size ≤ b.size
  · have HF : Hid (R = false) := Lib.hid (by rw [HB.out, suf_short hs, Bool.and_false])
    have hsI : ¬ 0 < (a.size : Int) - (b.size : Int) := by omega
    clear HB h0
    go_enter Try.func17, Try.ntmps17
    go_wp2
    go_ret
    exact ⟨ret_bool HF.out.symm, Below.refl _ _⟩
  obtain ⟨n, hn⟩ : ∃ n, a.size = b.size + (n + 1) := ⟨a.size - b.size - 1, by omega⟩
  have hna : n < a.size := by omega
  have hnI : (a.size : Int) - (b.size : Int) = (n : Int) + 1 := by omega
  have hnI0 : 0 < (n : Int) + 1 := by omega
  have hnI1 : (n : Int) + 1 - 1 = (n : Int) := by omega
  obtain ⟨ma, HMa⟩ : ∃ m, Hid (machB a = m) := ⟨_, Lib.hid rfl⟩
  obtain ⟨mb, HMb⟩ : ∃ m, Hid (machB b = m) := ⟨_, Lib.hid rfl⟩
  have HS : Hid (R = (!ma && !mb && (decide (a[n] = 46) && decide (a.extract (n + 1) a.size = b)))) := Lib.hid (by rw [HB.out, HMa.out, HMb.out, suf_cut n hn, decide_eq_true (by omega : 0 < b.size), Bool.true_and])
  have CA : Hid (∀ w, Calls Try.prog 24 #[.string a] w fun e w' => e = .returned (.bool ma) ∧ Below w.heap.size w w') := Lib.hid (fun w => by rw [← HMa.out]; exact RefMachine_any a w ha)
  have CB : Hid (∀ w, Calls Try.prog 24 #[.string b] w fun e w' => e = .returned (.bool mb) ∧ Below w.heap.size w w') := Lib.hid (fun w => by rw [← HMb.out]; exact RefMachine_any b w hb)
  clear HB h0 HMa HMb hs
  by_cases h46 : a[n] = 46
  · have h46I : ((a[n].toNat : Int) == 46) = true := by rw [h46]; rfl
    by_cases hx : a.extract (n + 1) a.size = b
    · have hxe : ((a.extract (n + 1) a.size).toList == b.toList) = true := by rw [hx]; simp
      have HF : Hid (R = (!ma && !mb)) := Lib.hid (by rw [HS.out, decide_eq_true h46, decide_eq_true hx, Bool.true_and, Bool.and_true])
      clear HS h46 hx
      have HN := Lib.hid hn
      have hn1 : n + 1 ≤ a.size := by omega
      clear hn
      go_enter Try.func17, Try.ntmps17
      go_wp2_with fail
      refine (CA.out _).mono ?_
      rintro e w1 ⟨rfl, b1⟩
      have B1 := Lib.hid b1; clear b1
      cases ma
      · go_wp2_with fail
        refine (CB.out _).mono ?_
        rintro e w2 ⟨rfl, b2⟩
        have B2 : Hid (Below w.heap.size w w2) := Lib.hid (keepW B1.out b2)
        clear b2
        go_wp2
        go_ret
        exact ⟨ret_bool (by rw [HF.out]; simp), B2.out⟩
      · go_wp2
        go_ret
        exact ⟨ret_bool (by rw [HF.out]; simp), B1.out⟩
    · have hxe : ((a.extract (n + 1) a.size).toList == b.toList) = false := neL hx
      have HF : Hid (R = false) := Lib.hid (by rw [HS.out, decide_eq_false hx, Bool.and_false, Bool.and_false])
      clear HS h46 hx
      have hn1 : n + 1 ≤ a.size := by omega
      clear hn
      go_enter Try.func17, Try.ntmps17
      go_wp2
      go_ret
      exact ⟨ret_bool HF.out.symm, Below.refl _ _⟩
  · have h46I : ((a[n].toNat : Int) == 46) = false := beq_eq_false_iff_ne.2 (fun e => h46 (UInt8.toNat_inj.1 (by have : (46 : UInt8).toNat = 46 := rfl; omega)))
    have HF : Hid (R = false) := Lib.hid (by rw [HS.out, decide_eq_false h46, Bool.false_and, Bool.and_false])
    clear HS h46 hn
    go_enter Try.func17, Try.ntmps17
    go_wp2
    go_ret
    exact ⟨ret_bool HF.out.symm, Below.refl _ _⟩

end Go.Proofs.Ytldddgmhmolohaa
