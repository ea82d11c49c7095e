/-
  Contracts: whether all bytes are plain; the place of the last border; a text's plain signs and its digits.
-/
import Derived.Test.YtgmjfnddeogfdaaDoorPnA
import Derived.Laws.RangeAny
import Derived.Lib.DecodeN
import Derived.RegionTactic
namespace Go.Proofs.YtgmjfnddeogfdaaDoor
open Go.RowKit

def plainL (l : List UInt8) : Bool := l.all fun c => decide (c.toNat < 128)
theorem plainL_snoc (l : List UInt8) (c : UInt8) : plainL (l ++ [c]) = (plainL l && decide (c.toNat < 128)) := by simp [plainL]
theorem plainL_at_false (s : ByteArray) (k : Nat) (h : k < s.size) (hc : ¬ s[k].toNat < 128) : plainL s.data.toList = false := by
  have hm : s[k] ∈ s.data.toList := by
    have : s[k] = s.data[k]'h := rfl
    rw [this]; simp
  rw [plainL, List.all_eq_false]; exact ⟨_, hm, by simpa using hc⟩
theorem decode_big (s : ByteArray) (k : Nat) (h : k < s.size) (hc : ¬ s[k].toNat < 128) : 128 ≤ (Utf8.decode s k).1 ∧ (Utf8.decode s k).1 ≤ 1114111 := by
  have e : s.get! k = s[k]'h := by simp [ByteArray.get!, getElem!_pos, h]; rfl
  rw [Lib.decode_at, e]
  have hl := s[k].toNat_lt
  generalize s[k].toNat = b0 at *
  unfold Lib.decodeN
  repeat' split
  all_goals simp only
  all_goals omega

set_option maxRecDepth 1000000 in
set_option maxHeartbeats 1000000 in
theorem plain_any (s : ByteArray) (w : World) :
    Calls Tryd.prog 19 #[.string s] w fun e w' => e = .returned (.bool (plainL s.data.toList)) ∧ ∃ pos, w' = w.iter s pos := by
  go_enter Tryd.func19, Tryd.ntmps19
  go_wp2
  go_loopw [4] (fun _ w' => ∃ pos : Nat, w' = w.iter s pos ∧ pos ≤ s.size ∧ plainL (s.data.toList.take pos) = true) (fun _ w' => s.size - w'.iterPos w.heap.size)
  case atStart => exact ⟨0, rfl, Nat.zero_le _, rfl⟩
  case round =>
    obtain ⟨pos, rfl, hle, hpl⟩ := hrel
    have HP := Lib.hid hpl
    clear hpl
    by_cases hp : pos < s.size
    · by_cases hc : s[pos].toNat < 128
      · have hnx : ∀ ty, (Instr.next (.pointer (some ⟨w.heap.size, 0, none⟩)) true ty).run Tryd.prog (w.iter s pos) = _ := fun ty => run_next_ascii w s pos ty hp hc
        go_wp2
        go_roundw
        case rel => exact ⟨pos + 1, rfl, by omega, by rw [take_snoc s pos hp, plainL_snoc, HP.out]; simpa using hc⟩
        case measure => simp; omega
      · have hnx : ∀ ty, (Instr.next (.pointer (some ⟨w.heap.size, 0, none⟩)) true ty).run Tryd.prog (w.iter s pos) = _ := fun ty => run_next_any w s pos ty hp
        obtain ⟨h1, h2⟩ := decode_big s pos hp hc
        have HF := Lib.hid (plainL_at_false s pos hp hc)
        go_wp2
        go_ret
        exact ⟨ret_bool HF.out.symm, _, rfl⟩
    · have hnx : ∀ ty, (Instr.next (.pointer (some ⟨w.heap.size, 0, none⟩)) true ty).run Tryd.prog (w.iter s pos) = _ := fun ty => run_next_end w s pos ty hp
      have HF : Hid (plainL s.data.toList = true) := Lib.hid (by rw [← HP.out, List.take_of_length_le (by simp; omega)])
      go_wp2
      go_ret
      exact ⟨ret_bool HF.out.symm, _, rfl⟩
theorem iter_below (w : World) (s : ByteArray) (pos : Nat) : Below w.heap.size w (w.iter s pos) := (Below.refl _ _).alloc (Nat.le_refl _) _

/-- The place of the last border, or -1. -/
def lastR : List UInt8 → Int
  | [] => -1
  | c :: r => if c = 45 then r.length else lastR r
def lastI (l : List UInt8) : Int := lastR l.reverse
theorem lastI_snoc (l : List UInt8) (c : UInt8) : lastI (l ++ [c]) = if c = 45 then (l.length : Int) else lastI l := by simp [lastI, lastR]
theorem lastI_bd (l : List UInt8) : -1 ≤ lastI l ∧ lastI l < l.length := by
  refine snocInd (P := fun l => -1 ≤ lastI l ∧ lastI l < l.length) (by simp [lastI, lastR]) (fun l c ih => ?_) l
  rw [lastI_snoc]
  split <;> simp <;> omega

set_option maxHeartbeats 1000000 in
theorem LastIndexByteString_any (s : ByteArray) (w : World) (hs : s.size ≤ maxLen) :
    Calls Tryd.prog 59 #[.string s, .int .u8 45] w fun e w' => e = .returned (.int .i64 (lastI s.data.toList)) ∧ w = w' := by
  unfold maxLen at hs
  go_enter Tryd.func59, Tryd.ntmps59
  go_wp2
  go_loop [5] (fun i => ∃ k : Nat, k ≤ s.size ∧ i = .int .i64 ((k : Int) - 1) ∧ lastI (s.data.toList.take k) = lastI s.data.toList) (fun i => (intOf i + 1).toNat)
  case atStart => exact ⟨s.size, Nat.le_refl _, rfl, by rw [List.take_of_length_le (by simp)]⟩
  case round =>
    obtain ⟨k, hk, rfl, ha⟩ := hrel
    have HA := Lib.hid ha; clear ha
    cases k with
    | zero =>
      have HF : Hid (lastI s.data.toList = -1) := Lib.hid (by rw [← HA.out]; rfl)
      go_wp2
      go_ret
      exact ⟨ret_int HF.out.symm, rfl⟩
    | succ k =>
      have hlt : k < s.size := by omega
      have e1 : ((k + 1 : Nat) : Int) - 1 = (k : Int) := by omega
      rw [e1]
      have HS := Lib.hid (take_snoc s k hlt)
      by_cases hc : s[k] = 45
      · have hc' : ((s[k].toNat : Int) == 45) = true := by rw [hc]; rfl
        have HF : Hid (lastI s.data.toList = k) := Lib.hid (by rw [← HA.out, HS.out, lastI_snoc, if_pos hc]; simp; try omega)
        go_wp2
        go_ret
        exact ⟨ret_int HF.out.symm, rfl⟩
      · have hc' : ((s[k].toNat : Int) == 45) = false := beq_eq_false_iff_ne.2 (fun h => hc (UInt8.toNat_inj.1 (by show s[k].toNat = 45; omega)))
        have HF : Hid (lastI (s.data.toList.take k) = lastI s.data.toList) := Lib.hid (by rw [← HA.out, HS.out, lastI_snoc, if_neg hc])
        go_wp2
        go_round
        case rel => exact ⟨k, by omega, rfl, HF.out⟩
        case measure => simp [intOf]

set_option maxHeartbeats 1000000 in
theorem LastIndexByte_any (s : ByteArray) (w : World) (hs : s.size ≤ maxLen) :
    Calls Tryd.prog 45 #[.string s, .int .u8 45] w fun e w' => e = .returned (.int .i64 (lastI s.data.toList)) ∧ w = w' := by
  go_enter Tryd.func45, Tryd.ntmps45
  go_wp2_with fail
  refine (LastIndexByteString_any s _ hs).mono ?_
  rintro e w1 ⟨rfl, rfl⟩
  go_wp2
  go_ret
  exact ⟨rfl, rfl⟩

/-- The plain signs of few letters, and their digits. -/
def pSigns (s : ByteArray) : ByteArray := if lastI s.data.toList ≤ 0 then ⟨#[]⟩ else s.extract 0 (lastI s.data.toList).toNat
def pRest (s : ByteArray) : ByteArray := if lastI s.data.toList ≤ 0 then s else s.extract ((lastI s.data.toList).toNat + 1) s.size

set_option maxHeartbeats 1000000 in
theorem parted_any (s : ByteArray) (w : World) (hs : s.size ≤ maxLen) :
    Calls Tryd.prog 30 #[.string s] w fun e w' => e = .returned (.tuple #[.string (pSigns s), .string (pRest s)]) ∧ ∃ m, w' = w.drewN m := by
  have hbd := lastI_bd s.data.toList
  have hl : (s.data.toList.length : Int) = s.size := by simp
  rw [hl] at hbd
  clear hl
  obtain ⟨k, HK⟩ : ∃ k, Hid (k = lastI s.data.toList) := ⟨_, Lib.hid rfl⟩
  rw [← HK.out] at hbd
  obtain ⟨h1, h2⟩ := hbd
  by_cases hk : k ≤ 0
  · have HR : Hid (pSigns s = ⟨#[]⟩ ∧ pRest s = s) := Lib.hid (by rw [pSigns, pRest, ← HK.out, if_pos hk, if_pos hk]; exact ⟨rfl, rfl⟩)
    go_enter Tryd.func30, Tryd.ntmps30
    go_wp2_with fail
    refine (LastIndexByte_any s _ hs).mono ?_
    rw [← HK.out]
    rintro e w1 ⟨rfl, rfl⟩
    go_wp2
    go_ret2
    exact ⟨by rw [HR.out.1, HR.out.2]; rfl, 0, rfl⟩
  · unfold maxLen at hs
    obtain ⟨n, rfl⟩ : ∃ n : Nat, k = n := ⟨k.toNat, by omega⟩
    have HR : Hid (pSigns s = s.extract 0 n ∧ pRest s = s.extract (n + 1) s.size) := Lib.hid (by rw [pSigns, pRest, ← HK.out, if_neg hk, if_neg hk]; exact ⟨rfl, rfl⟩)
    go_enter Tryd.func30, Tryd.ntmps30
    go_wp2_with fail
    refine (LastIndexByte_any s _ (by unfold maxLen; omega)).mono ?_
    rw [← HK.out]
    rintro e w1 ⟨rfl, rfl⟩
    have hw1 : IntKind.i64.wrap ((n : Int) + 1) = (n : Int) + 1 := by rw [IntKind.wrap_i64]; omega
    have hb1 : (0 : Int) ≤ (n : Int) + 1 := by omega
    have hb2 : (n : Int) + 1 ≤ s.size := by omega
    have htn : ((n : Int) + 1).toNat = n + 1 := by omega
    go_wp2
    go_region
    go_wp2
    go_ret2
    exact ⟨by rw [HR.out.1, HR.out.2]; rfl, 1, rfl⟩

end Go.Proofs.YtgmjfnddeogfdaaDoor
