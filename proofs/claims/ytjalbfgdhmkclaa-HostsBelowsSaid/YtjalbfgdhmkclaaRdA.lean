/-
  Contracts: the reader's cut and digits.
-/
import Derived.Test.YtjalbfgdhmkclaaKp
import Derived.Test.YtjalbfgdhmkclaaAdS
import Derived.Test.YtjalbfgdhmkclaaShelfA
import Derived.Test.YtjalbfgdhmkclaaAdB
namespace Go.Proofs.Ytjalbfgdhmkclaa
open Go.RowKit

/-- The reader at a block holds a text. -/
def Rd (w : World) (b : Nat) (t : ByteArray) : Prop := Holds1 w b 39 (.string t)
/-- No letter of it is great. -/
def Sml (l : List UInt8) : Prop := ∀ c ∈ l, ¬ (65 ≤ c.toNat ∧ c.toNat ≤ 90)
theorem Sml.drop {l : List UInt8} (h : Sml l) (k : Nat) : Sml (l.drop k) := fun c hc => h c (List.mem_of_mem_drop hc)
theorem Sml.suf {l p r : List UInt8} (h : Sml l) (e : l = p ++ r) : Sml r := fun c hc => h c (by rw [e]; exact List.mem_append_right _ hc)

set_option maxHeartbeats 400000 in
theorem cut_any (b : Nat) (t p : ByteArray) (w : World) (h : Rd w b t) :
    Calls Try.prog 19 #[.pointer (some ⟨b, 0, none⟩), .string p] w fun e w' => e = .returned (.bool (Lib.hasPrefix t.data.toList p.data.toList)) ∧ Rd w' b (asB (Lib.trimPrefix t.data.toList p.data.toList)) ∧ Kp (Only b) w w' := by
  have hc := h.cell
  have hf := h.free
  obtain ⟨d, HD⟩ : ∃ d, Hid (Lib.hasPrefix t.data.toList p.data.toList = d) := ⟨_, Lib.hid rfl⟩
  obtain ⟨r, HR⟩ : ∃ r, Hid (asB (Lib.trimPrefix t.data.toList p.data.toList) = r) := ⟨_, Lib.hid rfl⟩
  have HC : Hid (∀ w, Calls Try.prog 31 #[.string t, .string p] w fun e w' => e = .returned (.tuple #[.string r, .bool d]) ∧ w = w') := Lib.hid (fun w => (Try.strings_CutPrefix t p w).mono fun e w' ⟨he, hw⟩ => ⟨by rw [he, ← HD.out, ← HR.out]; rfl, hw.symm⟩)
  rw [HD.out, HR.out]
  go_enter Try.func19, Try.ntmps19
  go_wp2_with fail
  refine (HC.out _).mono ?_
  rintro e w' ⟨rfl, rfl⟩
  go_wp2
  go_ret
  exact ⟨rfl, h.set _, (Kp.refl _ _).setCell (X := Only b) (p := ⟨b, 0, none⟩) rfl _⟩

/-- A digit's place among the signs. -/
theorem idx_dig : ∀ b : Fin 17, ∀ n : Fin 256, ¬ (65 ≤ n.1 ∧ n.1 ≤ 90) → Lib.indexByte (([48, 49, 50, 51, 52, 53, 54, 55, 56, 57, 97, 98, 99, 100, 101, 102] : List UInt8).take b.1) (UInt8.ofNat n.1) = if hexV (UInt8.ofNat n.1) < b.1 then (hexV (UInt8.ofNat n.1) : Int) else -1 := by decide +kernel
theorem dgs_take {b : Nat} {l : List UInt8} {k : Nat} (h : k < (dgs b l).length) : ∃ hk : k < l.length, (dgs b l)[k] = l[k] ∧ dig b l[k] = true := by
  have hl := dgs_len b l
  have hk : k < l.length := by omega
  have h1 : (dgs b l)[k] = l[k] := by
    have := (List.takeWhile_prefix (p := dig b) (l := l))
    exact this.getElem h
  refine ⟨hk, h1, ?_⟩
  have : (dgs b l)[k] ∈ dgs b l := List.getElem_mem h
  rw [← h1]
  have ha := List.all_takeWhile (p := dig b) (l := l)
  exact List.all_eq_true.1 ha _ this
theorem dgs_stop {b : Nat} {l : List UInt8} (hk : (dgs b l).length < l.length) : dig b (l[(dgs b l).length]) = false := by
  have h := dgs_drop b l
  have h2 : (l.drop (dgs b l).length).head? = some l[(dgs b l).length] := by
    rw [List.head?_drop, List.getElem?_eq_getElem hk]
  rw [h] at h2
  cases hd : l.dropWhile (dig b) with
  | nil => rw [hd] at h2; cases h2
  | cons x r =>
    rw [hd] at h2
    have hx : x = l[(dgs b l).length] := by simpa using h2
    have hne : l.dropWhile (dig b) ≠ [] := by rw [hd]; simp
    have := List.head_dropWhile_not (dig b) hne
    simp only [hd, List.head_cons] at this
    rw [← hx]; exact this
def digitS : ByteArray := { data := #[48, 49, 50, 51, 52, 53, 54, 55, 56, 57, 97, 98, 99, 100, 101, 102] }
theorem idx_any (b : Nat) (hb : b ≤ 16) (c : UInt8) (hc : ¬ (65 ≤ c.toNat ∧ c.toNat ≤ 90)) (w : World) :
    Calls Try.prog 42 #[.string (digitS.extract 0 b), .int .u8 (c.toNat : Int)] w fun e w' => e = .returned (.int .i64 (if dig b c then (hexV c : Int) else -1)) ∧ w' = w := by
  refine (Try.strings_IndexByte _ _ w).mono fun e w' ⟨he, hw⟩ => ⟨?_, hw⟩
  rw [he]
  refine ret_int ?_
  have h := idx_dig ⟨b, by omega⟩ ⟨c.toNat, by have := c.toNat_lt; omega⟩ hc
  simp only [UInt8.ofNat_toNat] at h
  have e1 : (digitS.extract 0 b).data.toList = ([48, 49, 50, 51, 52, 53, 54, 55, 56, 57, 97, 98, 99, 100, 101, 102] : List UInt8).take b := by
    rw [ByteArray.data_extract, Array.toList_extract, List.extract_eq_take_drop]
    rfl
  have e2 : ((c.toNat : Int)).toNat.toUInt8 = c := by simp
  rw [e1, e2, h]
  simp [dig]

theorem ret_two {a b c d : Int} (h : a = b) (h' : c = d) : Ending.returned (.tuple #[.int .i64 a, .int .i64 c]) = .returned (.tuple #[.int .i64 b, .int .i64 d]) := by rw [h, h']
theorem at_list (t : ByteArray) (k : Nat) (hk : k < t.size) : t.data.toList[k]'(by simpa using hk) = t[k] := rfl

theorem idx_yes (b : Nat) (hb : b ≤ 16) (c : UInt8) (hc : ¬ (65 ≤ c.toNat ∧ c.toNat ≤ 90)) (hd : dig b c = true) (w : World) :
    Calls Try.prog 42 #[.string (({ data := #[48, 49, 50, 51, 52, 53, 54, 55, 56, 57, 97, 98, 99, 100, 101, 102] } : ByteArray).extract 0 b), .int .u8 (c.toNat : Int)] w fun e w' => e = .returned (.int .i64 (hexV c)) ∧ w' = w := by
  have := idx_any b hb c hc w
  rw [hd] at this; exact this
theorem idx_no (b : Nat) (hb : b ≤ 16) (c : UInt8) (hc : ¬ (65 ≤ c.toNat ∧ c.toNat ≤ 90)) (hd : dig b c = false) (w : World) :
    Calls Try.prog 42 #[.string (({ data := #[48, 49, 50, 51, 52, 53, 54, 55, 56, 57, 97, 98, 99, 100, 101, 102] } : ByteArray).extract 0 b), .int .u8 (c.toNat : Int)] w fun e w' => e = .returned (.int .i64 (-1)) ∧ w' = w := by
  have := idx_any b hb c hc w
  rw [hd] at this; exact this
theorem slice_digs (b : Nat) (hb : b ≤ 16) (w : World) : (Instr.slice 9 (.string ({ data := #[48, 49, 50, 51, 52, 53, 54, 55, 56, 57, 97, 98, 99, 100, 101, 102] } : ByteArray)) none (some (.int .i64 (b : Int))) none).run Try.prog w = .ok (.string (({ data := #[48, 49, 50, 51, 52, 53, 54, 55, 56, 57, 97, 98, 99, 100, 101, 102] } : ByteArray).extract 0 b)) w := by
  have h := run_slice_string_to_if (P := Try.prog) (w := w) 9 ({ data := #[48, 49, 50, 51, 52, 53, 54, 55, 56, 57, 97, 98, 99, 100, 101, 102] } : ByteArray) .i64 (b : Int) Try.underlying9
  have hs : ({ data := #[48, 49, 50, 51, 52, 53, 54, 55, 56, 57, 97, 98, 99, 100, 101, 102] } : ByteArray).size = 16 := rfl
  rw [hs, if_pos ⟨by omega, by omega⟩] at h
  exact h

end Go.Proofs.Ytjalbfgdhmkclaa
