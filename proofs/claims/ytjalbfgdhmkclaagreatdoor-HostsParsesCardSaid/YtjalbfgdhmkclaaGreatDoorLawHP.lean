/-
  The document's Parse of hosts, whole; the walk of HostsParses.
-/
import Derived.Test.YtjalbfgdhmkclaaGreatDoorHsS
namespace Go.Proofs.YtjalbfgdhmkclaaGreatDoor
open Go.RowKit

theorem lastB (s : ByteArray) (h : 0 < s.size) : s.data.toList.getLast? = some (s[s.size - 1]'(by omega)) := by
  rw [List.getLast?_eq_getElem?, lenB, List.getElem?_eq_getElem (by rw [lenB]; omega)]; rfl
set_option maxRecDepth 100000 in
set_option maxHeartbeats 4000000 in
theorem RefBrack_any (s : ByteArray) (w : World) (hs : s.size ≤ 1000) (hh : s.data.toList.head? = some 91) :
    Calls Tryz.prog 11 #[.string s] w fun e w' => e = .returned (hsV (brackT (s.data.toList.drop 1))) ∧ Below w.heap.size w w' := by
  have hl := lenB s
  obtain ⟨r, hr⟩ : ∃ r, s.data.toList = 91 :: r := by
    cases e : s.data.toList with
    | nil => rw [e] at hh; cases hh
    | cons a r => rw [e] at hh; injection hh with hh; exact ⟨r, by rw [hh]⟩
  have h0 : 0 < s.size := by rw [← hl, hr]; simp
  have hem := emF5 h0
  have h91 : s[0] = 91 := by
    have : s[0] = s.data.toList[0]'(by omega) := rfl
    rw [this]; simp [hr]
  have h91I : ((s[0].toNat : Int) == 91) = true := by rw [h91]; rfl
  have hsI : (s.size : Int) ≤ 65536 := by omega
  have hlst := lastB s h0
  obtain ⟨O, HO⟩ : ∃ O, Hid (brackT (s.data.toList.drop 1) = O) := ⟨_, Lib.hid rfl⟩
  rw [HO.out]
  by_cases hlast : s[s.size - 1] = 93
  · have hrne : r ≠ [] := by
      intro e
      rw [e] at hr
      rw [hr] at hlst
      injection hlst with hlst
      rw [hlast] at hlst
      exact absurd hlst (by decide)
    have hgl : r.getLast? = some 93 := by
      rw [hr, hlast] at hlst
      match r, hrne with
      | c :: q, _ => rwa [List.getLast?_cons_cons] at hlst
    have hlI : ((s[s.size - 1].toNat : Int) == 93) = true := by rw [hlast]; rfl
    have hlN : ((s[s.size - 1].toNat : Int) != 93) = false := by rw [bne, hlI]; rfl
    have hrl : r.length + 1 = s.size := by rw [← hl, hr, List.length_cons]
    have hr1 : 1 ≤ r.length := List.length_pos_iff.2 hrne
    obtain ⟨D, HD⟩ : ∃ D, Hid (s.extract 1 (s.size - 1) = D) := ⟨_, Lib.hid rfl⟩
    have HDl : Hid (D.data.toList = r.dropLast) := Lib.hid (by
      rw [← HD.out, ext_mid s 1 (s.size - 1) (by omega), hr, List.drop_succ_cons, List.drop_zero, List.dropLast_eq_take, ← hrl]
      congr 1)
    have hDs : D.size ≤ 1000 := by
      have h1 := lenB D
      rw [HDl.out, List.length_dropLast] at h1
      omega
    have HOD : Hid (O = match sixD D.data.toList with
      | none => none
      | some ps => some (asB ([91] ++ textD true (pb ps) ++ [93]))) := Lib.hid (by
      rw [← HO.out, hr, List.drop_succ_cons, List.drop_zero, brackT, if_pos hgl, HDl.out]; rfl)
    have hs2 : 2 ≤ s.size := by omega
    have hs2I : (2 : Int) ≤ (s.size : Int) := by omega
    have hmax : max (1 : Int) ((s.size : Int) - 1) = (s.size : Int) - 1 := by omega
    obtain ⟨C, c, hv, hsz, hone, hcase⟩ := sixV_row D.data.toList
    obtain ⟨hz, hi⟩ := zero_of_info infoA
    have HI := Lib.hid hi; clear hi
    have HF : Hid (∀ w, Calls Tryz.prog 31 #[.string D] w fun e w' => e = .returned (.tuple #[.agg C, .int .i64 c]) ∧ Below w.heap.size w w') := Lib.hid (fun w => by
      have := RefSix_any D w (by omega)
      rwa [hv] at this)
    have HFe : Hid (∀ w, Calls Tryz.prog 31 #[.string (s.extract 1 (s.size - 1))] w fun e w' => e = .returned (.tuple #[.agg C, .int .i64 c]) ∧ Below w.heap.size w w') := Lib.hid (fun w => by rw [HD.out]; exact HF.out w)
    have HDD : Hid ((Tryz.prog.info? 47).map (·.size) = some C.size) := Lib.hid (by rw [HI.out, hsz])
    have HY : Hid (zeroA.size = C.size) := Lib.hid (by rw [hsz]; exact zeroA_size)
    have HOn := Lib.hid hone
    have HCs := Lib.hid hcase
    clear hv hsz hone hcase hlast hgl hrl hh h91 HF hlst hrne hr1
    go_enter Tryz.func11, Tryz.ntmps11
    go_wp2_with fail
    refine (HFe.out _).mono ?_
    rintro e w1 ⟨rfl, b1⟩
    obtain ⟨W2, HW2⟩ : ∃ W, Hid (w1.alloc (.cells C 47) = W) := ⟨_, Lib.hid rfl⟩
    have B2 : Hid (Below w.heap.size w W2) := Lib.hid (by rw [← HW2.out]; exact b1.alloc b1.size _)
    have G2 : Hid (W2.heap[w1.heap.size]? = some (.cells C 47 (0, 0))) := Lib.hid (by rw [← HW2.out]; exact heap_alloc_new w1 _)
    clear b1
    rcases HCs.out with ⟨rfl, h⟩ | ⟨rfl, ps, h, hl, hb, hC⟩
    · have HR : Hid (O = none) := Lib.hid (by rw [HOD.out, h])
      clear h HCs
      go_wp2_with (refine wpL_store_row rfl 47 _ _ rfl w1.heap.size C ?_ ?_ 47 zeroA ?_ ?_ ?_ ?_ ?_; exact rfl; exact rfl; exact heap_alloc_new w1 _; exact HDD.out; exact HY.out; exact HOn.out; rw [World.setRow_alloc_new, HW2.out])
      go_ret2
      exact ⟨ret_h (by rw [HR.out]; rfl), B2.out⟩
    · obtain ⟨T, HT⟩ : ∃ T, Hid (asB (textD true (pb ps)) = T) := ⟨_, Lib.hid rfl⟩
      have HR : Hid (O = some ((⟨#[91]⟩ : ByteArray) ++ T ++ ⟨#[93]⟩)) := Lib.hid (by
        rw [HOD.out, h, ← HT.out]
        show some _ = some _
        rw [show (⟨#[91]⟩ : ByteArray) = asB [91] from rfl, show (⟨#[93]⟩ : ByteArray) = asB [93] from rfl, asB_cat, asB_cat])
      have hTs : T.size ≤ 39 := by
        rw [← HT.out, asB_size]; exact (six_made (pb ps) hb).2.2.2
      have HTx : Hid (Calls Tryz.prog 32 #[.agg C] W2 fun e w' => e = .returned (.string T) ∧ Below W2.heap.size W2 w') := Lib.hid (by
        have := RefText_any true (pb ps) W2 hl hb
        rw [HT.out] at this
        rwa [hC])
      clear h HCs hl hb hC
      have hz1 : ¬ 9223372036854775807 < 1 + T.size := by omega
      have hz2 : ¬ 9223372036854775807 < 1 + T.size + 1 := by omega
      go_wp2_with (first
        | (refine wpL_store_row rfl 47 _ _ rfl w1.heap.size C ?_ ?_ 47 zeroA ?_ ?_ ?_ ?_ ?_; exact rfl; exact rfl; exact heap_alloc_new w1 _; exact HDD.out; exact HY.out; exact HOn.out; rw [World.setRow_alloc_new, HW2.out])
        | (refine wpList_load_row rfl 47 _ rfl w1.heap.size ?_ 47 C (0, 0) _ ?_ Tryz.underlying47 rfl HDD.out ?_; (exact rfl); (exact G2.out)))
      refine HTx.out.mono ?_
      rintro e w3 ⟨rfl, b3⟩
      have B3 : Hid (Below w.heap.size w w3) := Lib.hid (keepW B2.out b3)
      clear b3
      go_wp2
      go_ret2
      exact ⟨ret_h (by rw [HR.out]; rfl), B3.out⟩
  · have hlI : ((s[s.size - 1].toNat : Int) == 93) = false := beq_eq_false_iff_ne.2 (fun e => hlast (UInt8.toNat_inj.1 (by have : (93 : UInt8).toNat = 93 := rfl; omega)))
    have hlN : ((s[s.size - 1].toNat : Int) != 93) = true := by rw [bne, hlI]; rfl
    have HR : Hid (O = none) := Lib.hid (by
      rw [← HO.out, hr, List.drop_succ_cons, List.drop_zero, brackT, if_neg (fun e => ?_)]
      match r, e with
      | c :: q, e =>
        rw [hr, List.getLast?_cons_cons, e] at hlst
        injection hlst with hlst
        exact hlast hlst.symm)
    have hs1I : (1 : Int) ≤ (s.size : Int) := by omega
    clear hlast hh h91 hlst
    go_enter Tryz.func11, Tryz.ntmps11
    go_wp2
    go_ret2
    exact ⟨ret_h (by rw [HR.out]; rfl), Below.refl _ _⟩
theorem RefParse5_any (s : ByteArray) (w : World) (hs : s.size ≤ 1000) :
    Calls Tryz.prog 11 #[.string s] w fun e w' => e = .returned (hsV (hostO s)) ∧ Below w.heap.size w w' := by
  by_cases h : s.data.toList.head? = some 91
  · rw [hostO, if_pos h]; exact RefBrack_any s w hs h
  · rw [hostO, if_neg h]; exact RefNamed_any s w hs h

set_option maxRecDepth 100000 in
set_option maxHeartbeats 1000000 in
theorem hparses_walk (s : ByteArray) (w : World) (hs : s.size ≤ 140737488351232) (hW : Hw w) :
    Calls Tryz.prog 3 #[.string s] w fun e w' => e = .returned (.bool true) ∧ Below w.heap.size w w' := by
  by_cases h1 : 65536 < s.size
  · have hI : (65536 : Int) < (s.size : Int) := by omega
    have hI2 : (1000 : Int) < (s.size : Int) := by omega
    have C1 : Hid (Calls Tryz.prog 10 #[.string s] w fun e w' => e = .returned (.tuple #[.string ⟨#[]⟩, .int .i64 3]) ∧ Below w.heap.size w w') := Lib.hid (by
      have := HostsParse_any s w (by unfold maxLen; omega) (.inr h1) hW
      rwa [show hostT s = (⟨#[]⟩, 3) by rw [hostT, if_pos h1]] at this)
    have C2 : Hid (∀ w, Calls Tryz.prog 11 #[.string s] w fun e w' => e = .returned (.tuple #[.string ⟨#[]⟩, .int .i64 3]) ∧ Below w.heap.size w w') := Lib.hid (fun w => by
      go_enter Tryz.func11, Tryz.ntmps11
      go_wp2
      go_ret2
      exact ⟨rfl, Below.refl _ _⟩)
    clear hW h1
    go_enter Tryz.func3, Tryz.ntmps3
    go_wp2_with fail
    refine C1.out.mono ?_
    rintro e w1 ⟨rfl, b1⟩
    have B1 := Lib.hid b1; clear b1
    go_wp2_with fail
    refine (C2.out _).mono ?_
    rintro e w2 ⟨rfl, b2⟩
    have B2 : Hid (Below w.heap.size w w2) := Lib.hid (keepW B1.out b2)
    clear b2
    go_wp2
    go_ret
    exact ⟨rfl, B2.out⟩
  by_cases h2 : 1000 < s.size
  · have hI : (s.size : Int) ≤ 65536 := by omega
    have hI2 : (1000 : Int) < (s.size : Int) := by omega
    clear hW
    go_enter Tryz.func3, Tryz.ntmps3
    go_wp2
    go_ret
    exact ⟨rfl, Below.refl _ _⟩
  have hI2 : (s.size : Int) ≤ 1000 := by omega
  have hs1 : s.size ≤ 1000 := by omega
  obtain ⟨X, c, HX⟩ : ∃ X c, Hid (hsV (hostO s) = .tuple #[.string X, .int .i64 c]) := by
    cases hostO s with
    | none => exact ⟨_, _, Lib.hid rfl⟩
    | some x => exact ⟨_, _, Lib.hid rfl⟩
  have C1 : Hid (Calls Tryz.prog 10 #[.string s] w fun e w' => e = .returned (.tuple #[.string X, .int .i64 c]) ∧ Below w.heap.size w w') := Lib.hid (by
    have := HostsParse_any s w (by unfold maxLen; omega) (.inl hs1) hW
    rwa [show (.tuple #[.string (hostT s).1, .int .i64 (hostT s).2] : Value) = .tuple #[.string X, .int .i64 c] by rw [← HX.out, hsV_two, hostT, if_neg h1]; rfl] at this)
  have C2 : Hid (∀ w, Calls Tryz.prog 11 #[.string s] w fun e w' => e = .returned (.tuple #[.string X, .int .i64 c]) ∧ Below w.heap.size w w') := Lib.hid (fun w => by
    have := RefParse5_any s w hs1
    rwa [HX.out] at this)
  clear hW h1 h2
  go_enter Tryz.func3, Tryz.ntmps3
  go_wp2_with fail
  refine C1.out.mono ?_
  rintro e w1 ⟨rfl, b1⟩
  have B1 := Lib.hid b1; clear b1
  go_wp2_with fail
  refine (C2.out _).mono ?_
  rintro e w2 ⟨rfl, b2⟩
  have B2 : Hid (Below w.heap.size w w2) := Lib.hid (keepW B1.out b2)
  clear b2
  go_wp2
  go_ret
  exact ⟨rfl, B2.out⟩

end Go.Proofs.YtjalbfgdhmkclaaGreatDoor
