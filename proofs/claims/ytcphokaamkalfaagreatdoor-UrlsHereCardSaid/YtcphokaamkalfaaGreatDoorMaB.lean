/-
  Contracts: the reader's cut and digits.
  Contract: the reader's digits.
  Contracts: what the reader reads: part, decimal, piece, small.
-/
import Derived.Test.YtcphokaamkalfaaGreatDoorMaA
import Derived.Test.YtcphokaamkalfaaGreatDoorShelfA
namespace Go.Proofs.YtcphokaamkalfaaGreatDoor
open Go.RowKit

/-- The reader at a block holds a text. -/
def Rd (w : World) (b : Nat) (t : ByteArray) : Prop := Holds1 w b 77 (.string t)
/-- No letter of it is great. -/
def Sml (l : List UInt8) : Prop := ∀ c ∈ l, ¬ (65 ≤ c.toNat ∧ c.toNat ≤ 90)
theorem Sml.drop {l : List UInt8} (h : Sml l) (k : Nat) : Sml (l.drop k) := fun c hc => h c (List.mem_of_mem_drop hc)
theorem Sml.suf {l p r : List UInt8} (h : Sml l) (e : l = p ++ r) : Sml r := fun c hc => h c (by rw [e]; exact List.mem_append_right _ hc)

set_option maxHeartbeats 400000 in
theorem cut_any (b : Nat) (t p : ByteArray) (w : World) (h : Rd w b t) :
  Calls Tryz.prog 98 #[.pointer (some ⟨b, 0, none⟩), .string p] w fun e w' => e = .returned (.bool (Lib.hasPrefix t.data.toList p.data.toList)) ∧ Rd w' b (asB (Lib.trimPrefix t.data.toList p.data.toList)) ∧ Kp (Only b) w w' := by
 have hc := h.cell
 have hf := h.free
 obtain ⟨d, HD⟩ : ∃ d, Hid (Lib.hasPrefix t.data.toList p.data.toList = d) := ⟨_, Lib.hid rfl⟩
 obtain ⟨r, HR⟩ : ∃ r, Hid (asB (Lib.trimPrefix t.data.toList p.data.toList) = r) := ⟨_, Lib.hid rfl⟩
 have HC : Hid (∀ w, Calls Tryz.prog 19 #[.string t, .string p] w fun e w' => e = .returned (.tuple #[.string r, .bool d]) ∧ w = w') := Lib.hid (fun w => (Tryz.strings_CutPrefix t p w).mono fun e w' ⟨he, hw⟩ => ⟨by rw [he, ← HD.out, ← HR.out]; rfl, hw.symm⟩)
 rw [HD.out, HR.out]
 go_enter Tryz.func98, Tryz.ntmps98
 go_wp2_with fail
 refine (HC.out _).mono ?_
 rintro e w' ⟨rfl, rfl⟩
 go_wp2
 go_ret
 exact ⟨rfl, h.set _, (Kp.refl _ _).setCell (X := Only b) (p := ⟨b, 0, none⟩) rfl _⟩

/-- A digit's place among the signs. -/
theorem idx_dig : ∀ b : Fin 17, ∀ n : Fin 256, ¬ (65 ≤ n.1 ∧ n.1 ≤ 90) → Lib.indexByte (([48, 49, 50, 51, 52, 53, 54, 55, 56, 57, 97, 98, 99, 100, 101, 102] : List UInt8).take b.1) (UInt8.ofNat n.1) = if hexV (UInt8.ofNat n.1) < b.1 then (hexV (UInt8.ofNat n.1) : Int) else -1 := by decide +kernel
theorem dgs_take {b : Nat} {l : List UInt8} {k : Nat} (h : k < (dgs b l).length) : ∃ hk : k < l.length, (dgs b l)[k] = l[k] ∧ dig b l[k] = true := by
 have hl := dgs_len b l
 have hk : k < l.length := by omega
 have h1 : (dgs b l)[k] = l[k] := by
  have := (List.takeWhile_prefix (p := dig b) (l := l))
  exact this.getElem h
 refine ⟨hk, h1, ?_⟩
 have : (dgs b l)[k] ∈ dgs b l := List.getElem_mem h
 rw [← h1]
 have ha := List.all_takeWhile (p := dig b) (l := l)
 exact List.all_eq_true.1 ha _ this
theorem dgs_stop {b : Nat} {l : List UInt8} (hk : (dgs b l).length < l.length) : dig b (l[(dgs b l).length]) = false := by
 have h := dgs_drop b l
 have h2 : (l.drop (dgs b l).length).head? = some l[(dgs b l).length] := by
  rw [List.head?_drop, List.getElem?_eq_getElem hk]
 rw [h] at h2
 cases hd : l.dropWhile (dig b) with
 | nil => rw [hd] at h2; cases h2
 | cons x r =>
  rw [hd] at h2
  have hx : x = l[(dgs b l).length] := by simpa using h2
  have hne : l.dropWhile (dig b) ≠ [] := by rw [hd]; simp
  have := List.head_dropWhile_not (dig b) hne
  simp only [hd, List.head_cons] at this
  rw [← hx]; exact this
def digitS : ByteArray := { data := #[48, 49, 50, 51, 52, 53, 54, 55, 56, 57, 97, 98, 99, 100, 101, 102] }
theorem idx_any (b : Nat) (hb : b ≤ 16) (c : UInt8) (hc : ¬ (65 ≤ c.toNat ∧ c.toNat ≤ 90)) (w : World) :
  Calls Tryz.prog 145 #[.string (digitS.extract 0 b), .int .u8 (c.toNat : Int)] w fun e w' => e = .returned (.int .i64 (if dig b c then (hexV c : Int) else -1)) ∧ w' = w := by
 refine (Tryz.strings_IndexByte _ _ w).mono fun e w' ⟨he, hw⟩ => ⟨?_, hw⟩
 rw [he]
 refine ret_int ?_
 have h := idx_dig ⟨b, by omega⟩ ⟨c.toNat, by have := c.toNat_lt; omega⟩ hc
 simp only [UInt8.ofNat_toNat] at h
 have e1 : (digitS.extract 0 b).data.toList = ([48, 49, 50, 51, 52, 53, 54, 55, 56, 57, 97, 98, 99, 100, 101, 102] : List UInt8).take b := by
  rw [ByteArray.data_extract, Array.toList_extract, List.extract_eq_take_drop]
  rfl
 have e2 : ((c.toNat : Int)).toNat.toUInt8 = c := by simp
 rw [e1, e2, h]
 simp [dig]

theorem ret_two {a b c d : Int} (h : a = b) (h' : c = d) : Ending.returned (.tuple #[.int .i64 a, .int .i64 c]) = .returned (.tuple #[.int .i64 b, .int .i64 d]) := by rw [h, h']
theorem idx_yes (b : Nat) (hb : b ≤ 16) (c : UInt8) (hc : ¬ (65 ≤ c.toNat ∧ c.toNat ≤ 90)) (hd : dig b c = true) (w : World) :
  Calls Tryz.prog 145 #[.string (({ data := #[48, 49, 50, 51, 52, 53, 54, 55, 56, 57, 97, 98, 99, 100, 101, 102] } : ByteArray).extract 0 b), .int .u8 (c.toNat : Int)] w fun e w' => e = .returned (.int .i64 (hexV c)) ∧ w' = w := by
 have := idx_any b hb c hc w
 rw [hd] at this; exact this
theorem idx_no (b : Nat) (hb : b ≤ 16) (c : UInt8) (hc : ¬ (65 ≤ c.toNat ∧ c.toNat ≤ 90)) (hd : dig b c = false) (w : World) :
  Calls Tryz.prog 145 #[.string (({ data := #[48, 49, 50, 51, 52, 53, 54, 55, 56, 57, 97, 98, 99, 100, 101, 102] } : ByteArray).extract 0 b), .int .u8 (c.toNat : Int)] w fun e w' => e = .returned (.int .i64 (-1)) ∧ w' = w := by
 have := idx_any b hb c hc w
 rw [hd] at this; exact this
theorem slice_digs (b : Nat) (hb : b ≤ 16) (w : World) : (Instr.slice 9 (.string ({ data := #[48, 49, 50, 51, 52, 53, 54, 55, 56, 57, 97, 98, 99, 100, 101, 102] } : ByteArray)) none (some (.int .i64 (b : Int))) none).run Tryz.prog w = .ok (.string (({ data := #[48, 49, 50, 51, 52, 53, 54, 55, 56, 57, 97, 98, 99, 100, 101, 102] } : ByteArray).extract 0 b)) w := by
 have h := run_slice_string_to_if (P := Tryz.prog) (w := w) 9 ({ data := #[48, 49, 50, 51, 52, 53, 54, 55, 56, 57, 97, 98, 99, 100, 101, 102] } : ByteArray) .i64 (b : Int) Tryz.underlying9
 have hs : ({ data := #[48, 49, 50, 51, 52, 53, 54, 55, 56, 57, 97, 98, 99, 100, 101, 102] } : ByteArray).size = 16 := rfl
 rw [hs, if_pos ⟨by omega, by omega⟩] at h
 exact h

end Go.Proofs.YtcphokaamkalfaaGreatDoor
namespace Go.Proofs.YtcphokaamkalfaaGreatDoor
open Go.RowKit

theorem drewN_two (w : World) (a b : Nat) : (w.drewN a).drewN b = w.drewN (a + b) := by
 simp [World.drewN, Nat.add_assoc]

set_option maxRecDepth 100000 in
set_option maxHeartbeats 1000000 in
theorem rd_digits_any (b base : Nat) (t : ByteArray) (w : World) (h : Rd w b t) (hs : t.size ≤ 1048600) (hb : base ≤ 16) (hsm : Sml t.data.toList) :
  Calls Tryz.prog 136 #[.pointer (some ⟨b, 0, none⟩), .int .i64 base] w fun e w' => e = .returned (.tuple #[.int .i64 (fol base (dgs base t.data.toList)), .int .i64 ((dgs base t.data.toList).length : Int)]) ∧ Rd w' b (asB (t.data.toList.dropWhile (dig base))) ∧ Kp (Only b) w w' := by
 have hc := h.cell
 have hf := h.free
 have hlt0 := h.lt
 have hl := lenB t
 obtain ⟨D, HD⟩ : ∃ D, Hid (dgs base t.data.toList = D) := ⟨_, Lib.hid rfl⟩
 have hDl := dgs_len base t.data.toList
 have HDrop := Lib.hid (dgs_drop base t.data.toList)
 have HYes : Hid (∀ k, (hk : k < t.size) → k < D.length → dig base t[k] = true ∧ D.take (k + 1) = D.take k ++ [t[k]]) := Lib.hid (by
  intro k hk hkD
  rw [← HD.out] at hkD
  obtain ⟨h1, h2, h3⟩ := dgs_take hkD
  refine ⟨h3, ?_⟩
  rw [← HD.out, List.take_succ_eq_append_getElem hkD, h2]; rfl)
 have HNo : Hid (∀ hk : D.length < t.size, dig base t[D.length] = false) := Lib.hid (by
  intro hk
  have h3 : (dgs base t.data.toList).length < t.data.toList.length := by rw [hl, HD.out]; exact hk
  have := dgs_stop h3
  rw [← this]
  congr 1
  show t.data.toList[D.length]'_ = _
  congr 1
  rw [HD.out])
 rw [HD.out] at HDrop hDl
 rw [HD.out]
 rw [hl] at hDl
 have HSm := Lib.hid hsm
 clear hl hsm
 go_enter Tryz.func136, Tryz.ntmps136
 go_wp2
 go_loopw [4, 5] (fun x i wr => ∃ k n : Nat, k ≤ D.length ∧ i = .int .i64 k ∧ x = .int .i64 (fol base (D.take k)) ∧ wr = w.drewN n) (fun _ i _ => t.size - (intOf i).toNat)
 case atStart => exact ⟨0, 0, Nat.zero_le _, rfl, rfl, rfl⟩
 case round =>
  obtain ⟨k, n, hk, rfl, rfl, rfl⟩ := hrel
  obtain ⟨W, HW⟩ : ∃ W, Hid (w.drewN n = W) := ⟨_, Lib.hid rfl⟩
  rw [HW.out]
  have hcW : W.cell? ⟨b, 0, none⟩ = some (.string t) := by rw [← HW.out]; exact hc
  have hfW : W.frozen? ⟨b, 0, none⟩ = false := by rw [← HW.out]; exact hf
  by_cases hlt : k < t.size
  ·have hsk : ¬ (65 ≤ t[k].toNat ∧ t[k].toNat ≤ 90) := HSm.out _ (by
    have : t[k] = t.data.toList[k]'(by simpa using hlt) := rfl
    rw [this]; exact List.getElem_mem _)
   by_cases hkD : k < D.length
   ·obtain ⟨hd, htk⟩ := HYes.out k hlt hkD
    have HTk := Lib.hid htk
    have hfl := fol_le base (D.take k)
    have hx := hexV_le t[k]
    obtain ⟨F, HF⟩ : ∃ F, Hid (fol base (D.take k) = F) := ⟨_, Lib.hid rfl⟩
    rw [HF.out] at hfl
    rw [HF.out]
    have HI : Hid (∀ w, Calls Tryz.prog 145 #[.string (({ data := #[48, 49, 50, 51, 52, 53, 54, 55, 56, 57, 97, 98, 99, 100, 101, 102] } : ByteArray).extract 0 base), .int .u8 (t[k].toNat : Int)] w fun e w' => e = .returned (.int .i64 (hexV t[k])) ∧ w' = w) := Lib.hid (idx_yes base hb t[k] hsk hd)
    clear htk hd hsk
    obtain ⟨x, HX⟩ : ∃ x, Hid (hexV t[k] = x) := ⟨_, Lib.hid rfl⟩
    rw [HX.out] at HI hx
    have hltI : (k : Int) < (t.size : Int) := by omega
    go_wp2
    have hsl := slice_digs base hb
    go_quiet ((go_loud (exact Calls.quiet_of_same (HI.out _))))
    go_wp2
    have hF36 : F * base ≤ 68719476736 := Nat.le_trans (Nat.mul_le_mul hfl hb) (by omega)
    obtain ⟨m, hm⟩ : ∃ m : Nat, F * base = m := ⟨_, rfl⟩
    refine ⟨⟨k + 1, n + nq, by omega, by go_num, ?_, ?_⟩, by simp [intOf]; omega⟩
    ·rw [HTk.out, fol_snoc, HF.out, stp, HX.out, hm]
     rw [show ((F : Int) * (base : Int)) = (m : Int) by rw [← hm]; simp]
     rw [hm] at hF36
     rw [IntWalk.wrap64_in (m : Int) (by omega), IntWalk.wrap64_in ((m : Int) + (x : Int)) (by omega)]
     congr 1
     omega
    ·rw [← HW.out]; exact (drewN_two w n nq)
   ·obtain rfl : k = D.length := by omega
    have hd := HNo.out hlt
    have HI : Hid (∀ w, Calls Tryz.prog 145 #[.string (({ data := #[48, 49, 50, 51, 52, 53, 54, 55, 56, 57, 97, 98, 99, 100, 101, 102] } : ByteArray).extract 0 base), .int .u8 (t[D.length].toNat : Int)] w fun e w' => e = .returned (.int .i64 (-1)) ∧ w' = w) := Lib.hid (idx_no base hb t[D.length] hsk hd)
    clear hd hsk
    have hltI : (D.length : Int) < (t.size : Int) := by omega
    go_wp2
    have hsl := slice_digs base hb
    go_quiet ((go_loud (exact Calls.quiet_of_same (HI.out _))))
    go_wp2
    all_goals
     go_ret2
     refine ⟨ret_two (by rw [List.take_length]) rfl, ?_, ?_⟩
     ·have h1 : Rd (W.drewN nq) b t := by rw [← HW.out]; exact h
      have h2 := h1.set (.string (t.extract D.length t.size))
      unfold Rd
      rw [← HDrop.out, ← ext_asB]
      exact h2
     ·exact Kp.setCell (X := Only b) (p := ⟨b, 0, none⟩) (by rw [← HW.out]; exact ((Kp.refl _ _).drewN n).drewN nq) rfl _
  ·obtain rfl : k = t.size := by omega
   have hDk : D.length = t.size := by omega
   have HTk : Hid (fol base (D.take t.size) = fol base D) := Lib.hid (by rw [← hDk, List.take_length])
   go_wp2
   all_goals
    go_ret2
    refine ⟨ret_two (by rw [HTk.out]) (by rw [hDk]), ?_, ?_⟩
    ·have h1 : Rd W b t := by rw [← HW.out]; exact h
     have h2 := h1.set (.string ByteArray.empty)
     unfold Rd
     rw [← HDrop.out, hDk, List.drop_of_length_le (by rw [lenB]; omega)]
     exact h2
    ·exact Kp.setCell (X := Only b) (p := ⟨b, 0, none⟩) (by rw [← HW.out]; exact (Kp.refl _ _).drewN n) rfl _

end Go.Proofs.YtcphokaamkalfaaGreatDoor
namespace Go.Proofs.YtcphokaamkalfaaGreatDoor
open Go.RowKit

/-- A slice of just these ints, in a block of its own. -/
def NumsAt (w : World) (base : Nat) (v : Value) (ns : List Nat) : Prop := ∃ g, base ≤ g ∧ v = .slice (some ⟨g, 0, none⟩) ns.length ns.length ∧ w.heap[g]? = some (.cells (ns.map k_iv).toArray 3 (0, 0))
/-- What a way to read leaves: the numbers and the rest, or whatever, and some rest. -/
def Reads1 (b : Nat) (o : Option (List Nat × List UInt8)) (w : World) (e : Ending) (w' : World) : Prop :=
 ∃ (v : Value) (r : ByteArray), Rd w' b r ∧ Kp (Only b) w w' ∧ (∀ ns u, o = some (ns, u) → e = .returned (.tuple #[v, .bool true]) ∧ NumsAt w' w.heap.size v ns ∧ r = asB u) ∧ (o = none → e = .returned (.tuple #[v, .bool false]))
theorem Reads1.yes {b : Nat} {ns : List Nat} {u : List UInt8} {w w' : World} {e : Ending} (v : Value) (h1 : Rd w' b (asB u)) (h2 : Kp (Only b) w w') (h3 : NumsAt w' w.heap.size v ns) (he : e = .returned (.tuple #[v, .bool true])) : Reads1 b (some (ns, u)) w e w' :=
 ⟨v, asB u, h1, h2, (fun ns' u' h => by injection h with h; injection h with h4 h5; subst h4; subst h5; exact ⟨he, h3, rfl⟩), (fun h => by cases h)⟩
theorem Reads1.no {b : Nat} {w w' : World} {e : Ending} (v : Value) (r : ByteArray) (h1 : Rd w' b r) (h2 : Kp (Only b) w w') (he : e = .returned (.tuple #[v, .bool false])) : Reads1 b none w e w' :=
 ⟨v, r, h1, h2, (fun ns' u' h => by cases h), (fun _ => he)⟩
theorem nums_one (w w1 : World) (n : Nat) (b : Nat) (k : Kp (Only b) w w1) : NumsAt (w1.alloc (.cells #[.int .i64 (n : Int)] 3)) w.heap.size (.slice (some ⟨w1.heap.size, 0, none⟩) 1 1) [n] :=
 ⟨_, k.size, rfl, heap_alloc_new w1 _⟩

set_option maxHeartbeats 1000000 in
theorem decimal_any (b : Nat) (t : ByteArray) (w : World) (h : Rd w b t) (hs : t.size ≤ 1048600) (hsm : Sml t.data.toList) :
  Calls Tryz.prog 175 #[.pointer (some ⟨b, 0, none⟩)] w (Reads1 b (rdec t.data.toList) w) := by
 obtain ⟨D, HD⟩ : ∃ D, Hid (dgs 10 t.data.toList = D) := ⟨_, Lib.hid rfl⟩
 have HC : Hid (Calls Tryz.prog 136 #[.pointer (some ⟨b, 0, none⟩), .int .i64 10] w fun e w' => e = .returned (.tuple #[.int .i64 (fol 10 D), .int .i64 (D.length : Int)]) ∧ Rd w' b (asB (t.data.toList.dropWhile (dig 10))) ∧ Kp (Only b) w w') := Lib.hid (by
  have := rd_digits_any b 10 t w h hs (by omega) hsm
  rw [HD.out] at this; exact this)
 by_cases hD : D = []
 ·have HR : Hid (rdec t.data.toList = none) := Lib.hid (by rw [rdec, HD.out, if_pos hD])
  have h0 : D.length = 0 := by rw [hD]; rfl
  rw [HR.out]
  clear hD
  have hc0 : decide ((0 : Int) < (D.length : Int)) = false := by simp [h0]
  go_enter Tryz.func175, Tryz.ntmps175
  go_wp2_with fail
  refine HC.out.mono ?_
  rintro e w1 ⟨rfl, r1, k1⟩
  have R1 := Lib.hid r1; have K1 := Lib.hid k1; clear r1 k1
  go_wp2
  go_ret2
  exact Reads1.no _ _ (R1.out.alloc _) (K1.out.alloc _) rfl
 ·have HR : Hid (rdec t.data.toList = some ([fol 10 D], t.data.toList.dropWhile (dig 10))) := Lib.hid (by rw [rdec, HD.out, if_neg hD])
  have h0 : 0 < D.length := List.length_pos_iff.2 hD
  rw [HR.out]
  clear hD
  go_enter Tryz.func175, Tryz.ntmps175
  go_wp2_with fail
  refine HC.out.mono ?_
  rintro e w1 ⟨rfl, r1, k1⟩
  have R1 := Lib.hid r1; have K1 := Lib.hid k1; clear r1 k1
  go_wp2
  go_ret2
  exact Reads1.yes _ (R1.out.alloc _) (K1.out.alloc _) (nums_one w w1 _ b K1.out) rfl

set_option maxHeartbeats 1000000 in
theorem piece_any (b : Nat) (t : ByteArray) (w : World) (h : Rd w b t) (hs : t.size ≤ 1048600) (hsm : Sml t.data.toList) :
  Calls Tryz.prog 95 #[.pointer (some ⟨b, 0, none⟩)] w (Reads1 b (rpiece t.data.toList) w) := by
 obtain ⟨D, HD⟩ : ∃ D, Hid (dgs 16 t.data.toList = D) := ⟨_, Lib.hid rfl⟩
 have HC : Hid (Calls Tryz.prog 136 #[.pointer (some ⟨b, 0, none⟩), .int .i64 16] w fun e w' => e = .returned (.tuple #[.int .i64 (fol 16 D), .int .i64 (D.length : Int)]) ∧ Rd w' b (asB (t.data.toList.dropWhile (dig 16))) ∧ Kp (Only b) w w') := Lib.hid (by
  have := rd_digits_any b 16 t w h hs (by omega) hsm
  rw [HD.out] at this; exact this)
 obtain ⟨m, HM⟩ : ∃ m, Hid (m = D.length) := ⟨_, Lib.hid rfl⟩
 rw [← HM.out] at HC
 by_cases h1 : 1 ≤ m
 ·by_cases h4 : m ≤ 4
  ·have HR : Hid (rpiece t.data.toList = some ([fol 16 D], t.data.toList.dropWhile (dig 16))) := Lib.hid (by rw [rpiece, HD.out, ← HM.out, if_pos ⟨h1, h4⟩])
   rw [HR.out]
   have hb4 : decide ((m : Int) ≤ 4) = true := by simp; omega
   go_enter Tryz.func95, Tryz.ntmps95
   go_wp2_with fail
   refine HC.out.mono ?_
   rintro e w1 ⟨rfl, r1, k1⟩
   have R1 := Lib.hid r1; have K1 := Lib.hid k1; clear r1 k1
   go_wp2
   go_ret2
   exact Reads1.yes _ (R1.out.alloc _) (K1.out.alloc _) (nums_one w w1 _ b K1.out) rfl
  ·have HR : Hid (rpiece t.data.toList = none) := Lib.hid (by rw [rpiece, HD.out, ← HM.out, if_neg (fun h => h4 h.2)])
   rw [HR.out]
   have hb4 : decide ((m : Int) ≤ 4) = false := by simp; omega
   go_enter Tryz.func95, Tryz.ntmps95
   go_wp2_with fail
   refine HC.out.mono ?_
   rintro e w1 ⟨rfl, r1, k1⟩
   have R1 := Lib.hid r1; have K1 := Lib.hid k1; clear r1 k1
   go_wp2
   go_ret2
   exact Reads1.no _ _ (R1.out.alloc _) (K1.out.alloc _) rfl
 ·have HR : Hid (rpiece t.data.toList = none) := Lib.hid (by rw [rpiece, HD.out, ← HM.out, if_neg (fun h => h1 h.1)])
  rw [HR.out]
  go_enter Tryz.func95, Tryz.ntmps95
  go_wp2_with fail
  refine HC.out.mono ?_
  rintro e w1 ⟨rfl, r1, k1⟩
  have R1 := Lib.hid r1; have K1 := Lib.hid k1; clear r1 k1
  go_wp2
  all_goals
   go_ret2
   exact Reads1.no _ _ (R1.out.alloc _) (K1.out.alloc _) rfl

set_option maxHeartbeats 1000000 in
theorem small_any (b : Nat) (t : ByteArray) (w : World) (h : Rd w b t) (hs : t.size ≤ 1048600) (hsm : Sml t.data.toList) :
  Calls Tryz.prog 135 #[.pointer (some ⟨b, 0, none⟩)] w (Reads1 b (rsmall t.data.toList) w) := by
 have hc := h.cell
 obtain ⟨D, HD⟩ : ∃ D, Hid (dgs 10 t.data.toList = D) := ⟨_, Lib.hid rfl⟩
 obtain ⟨m, HM⟩ : ∃ m, Hid (m = D.length) := ⟨_, Lib.hid rfl⟩
 obtain ⟨n, HN⟩ : ∃ n, Hid (n = fol 10 D) := ⟨_, Lib.hid rfl⟩
 have HC : Hid (Calls Tryz.prog 136 #[.pointer (some ⟨b, 0, none⟩), .int .i64 10] w fun e w' => e = .returned (.tuple #[.int .i64 (n : Int), .int .i64 (m : Int)]) ∧ Rd w' b (asB (t.data.toList.dropWhile (dig 10))) ∧ Kp (Only b) w w') := Lib.hid (by
  have := rd_digits_any b 10 t w h hs (by omega) hsm
  rw [HD.out, ← HM.out, ← HN.out] at this; exact this)
 obtain ⟨p, HP⟩ : ∃ p, Hid (Lib.hasPrefix t.data.toList [48] = p) := ⟨_, Lib.hid rfl⟩
 have HHP : Hid (∀ w, Calls Tryz.prog 164 #[.string t, .string ⟨#[48]⟩] w fun e w' => e = .returned (.bool p) ∧ w = w') := Lib.hid (fun w => (Tryz.strings_HasPrefix t ⟨#[48]⟩ w).mono fun e w' ⟨he, hw⟩ => ⟨by rw [he, ← HP.out], hw.symm⟩)
 have HP2 : Hid (p = true ↔ t.data.toList.head? = some 48) := Lib.hid (by
  rw [← HP.out]
  cases t.data.toList with
  | nil => simp [Lib.hasPrefix, List.isPrefixOf]
  | cons c l =>
   by_cases hc : c = 48
   ·subst hc; simp [Lib.hasPrefix, List.isPrefixOf]
   ·simp [Lib.hasPrefix, List.isPrefixOf, hc, Ne.symm hc])
 have HR : Hid (rsmall t.data.toList = if (p = true ∧ 1 < m) ∨ 255 < n then none else if m = 0 then none else some ([n], t.data.toList.dropWhile (dig 10))) := Lib.hid (by
  rw [rsmall, HD.out, ← HM.out, ← HN.out]
  have e1 : (t.data.toList.head? = some 48 ∧ 1 < m) ↔ (p = true ∧ 1 < m) := by rw [HP2.out]
  have e2 : D = [] ↔ m = 0 := by rw [HM.out]; exact List.length_eq_zero_iff.symm
  simp only [e1, e2])
 rw [HR.out]
 clear HR HP2
 by_cases h1 : p = true ∧ 1 < m
 ·rw [if_pos (.inl h1)]
  obtain ⟨rfl, h1⟩ := h1
  go_enter Tryz.func135, Tryz.ntmps135
  go_wp2_with fail
  refine (HHP.out _).mono ?_
  rintro e w0 ⟨rfl, rfl⟩
  go_wp2_with fail
  refine HC.out.mono ?_
  rintro e w1 ⟨rfl, r1, k1⟩
  have R1 := Lib.hid r1; have K1 := Lib.hid k1; clear r1 k1
  go_wp2
  go_ret2
  exact Reads1.no _ _ R1.out K1.out rfl
 ·by_cases h2 : 255 < n
  ·rw [if_pos (.inr h2)]
   cases p
   ·clear h1
    go_enter Tryz.func135, Tryz.ntmps135
    go_wp2_with fail
    refine (HHP.out _).mono ?_
    rintro e w0 ⟨rfl, rfl⟩
    go_wp2_with fail
    refine HC.out.mono ?_
    rintro e w1 ⟨rfl, r1, k1⟩
    have R1 := Lib.hid r1; have K1 := Lib.hid k1; clear r1 k1
    go_wp2
    go_ret2
    exact Reads1.no _ _ R1.out K1.out rfl
   ·have h1' : ¬ 1 < m := fun h => h1 ⟨rfl, h⟩
    clear h1
    go_enter Tryz.func135, Tryz.ntmps135
    go_wp2_with fail
    refine (HHP.out _).mono ?_
    rintro e w0 ⟨rfl, rfl⟩
    go_wp2_with fail
    refine HC.out.mono ?_
    rintro e w1 ⟨rfl, r1, k1⟩
    have R1 := Lib.hid r1; have K1 := Lib.hid k1; clear r1 k1
    go_wp2
    all_goals
     go_ret2
     exact Reads1.no _ _ R1.out K1.out rfl
  ·rw [if_neg (by rintro (h | h); exact h1 h; exact h2 h)]
   have h2' : n ≤ 255 := by omega
   have hpm : Hid (p = true → m ≤ 1) := Lib.hid (fun h => Nat.le_of_not_lt fun hm => h1 ⟨h, hm⟩)
   clear h1 h2
   by_cases h3 : m = 0
   ·rw [if_pos h3]
    have h3' : m ≤ 0 := by omega
    have hd0 : decide (0 < m) = false := by simp; omega
    have hd1 : decide ((0 : Int) < (m : Int)) = false := by simp; omega
    clear h3
    cases p <;> (have hp := hpm.out; clear hpm) <;>
    ·try (have hp' := hp rfl)
     clear hp
     go_enter Tryz.func135, Tryz.ntmps135
     go_wp2_with fail
     refine (HHP.out _).mono ?_
     rintro e w0 ⟨rfl, rfl⟩
     go_wp2_with fail
     refine HC.out.mono ?_
     rintro e w1 ⟨rfl, r1, k1⟩
     have R1 := Lib.hid r1; have K1 := Lib.hid k1; clear r1 k1
     go_wp2
     all_goals
      go_ret2
      exact Reads1.no _ _ (R1.out.alloc _) (K1.out.alloc _) rfl
   ·rw [if_neg h3]
    have h3' : 0 < m := by omega
    clear h3
    cases p <;> (have hp := hpm.out; clear hpm) <;>
    ·try (have hp' := hp rfl)
     clear hp
     go_enter Tryz.func135, Tryz.ntmps135
     go_wp2_with fail
     refine (HHP.out _).mono ?_
     rintro e w0 ⟨rfl, rfl⟩
     go_wp2_with fail
     refine HC.out.mono ?_
     rintro e w1 ⟨rfl, r1, k1⟩
     have R1 := Lib.hid r1; have K1 := Lib.hid k1; clear r1 k1
     go_wp2
     all_goals
      go_ret2
      exact Reads1.yes _ (R1.out.alloc _) (K1.out.alloc _) (nums_one w w1 _ b K1.out) rfl

end Go.Proofs.YtcphokaamkalfaaGreatDoor
