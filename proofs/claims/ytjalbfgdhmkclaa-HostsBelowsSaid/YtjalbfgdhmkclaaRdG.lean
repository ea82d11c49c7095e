/-
  Ways to read: four; either of two, whole; contracts: readerOf.
-/
import Derived.Test.YtjalbfgdhmkclaaRdF
import Derived.Test.YtjalbfgdhmkclaaLowC
namespace Go.Proofs.Ytjalbfgdhmkclaa
open Go.RowKit

theorem rfour_suf {l : List UInt8} {ns : List Nat} {u : List UInt8} (h : rfour l = some (ns, u)) : (∃ p, l = p ++ u ∧ p ≠ []) ∧ ns.length = 2 := by
  by_cases hl : l = []
  · subst hl; cases h
  unfold rfour at h
  split at h
  · split at h
    · rename_i ms h2
      injection h with h; injection h with h3 h4
      subst h3; subst h4
      refine ⟨⟨l, by simp, hl⟩, ?_⟩
      unfold two4 at h2
      split at h2
      · injection h2 with h2; subst h2; rfl
      · cases h2
    · cases h
  · cases h
/-- The first of two ways that can. -/
def orElse (o1 o2 : List UInt8 → Option (List Nat × List UInt8)) (l : List UInt8) : Option (List Nat × List UInt8) := match o1 l with
  | some x => some x
  | none => o2 l
def orElse2 (r1 r2 : Option (List Nat × List UInt8)) : Option (List Nat × List UInt8) := match r1 with
  | some x => some x
  | none => r2
/-- No less than all. -/
def whole1 (o : List UInt8 → Option (List Nat × List UInt8)) (l : List UInt8) : Option (List Nat × List UInt8) := match o l with
  | some (ns, u) => if u = [] then some (ns, u) else none
  | none => none

set_option maxRecDepth 100000 in
set_option maxHeartbeats 1000000 in
theorem eitherC_any (b p q g : Nat) (F1 F2 : FuncId) (f1 c1 f2 c2 : Array Value) (o1 o2 : List UInt8 → Option (List Nat × List UInt8)) (t : ByteArray) (w : World)
    (hp : Holds1 w p 32 (.pointer (some ⟨b, 0, none⟩))) (hq : Holds1 w q 60 (.slice (some ⟨g, 0, none⟩) 2 2))
    (hg : w.heap[g]? = some (.cells #[.func (.func F1) f1 c1, .func (.func F2) f2 c2] 47 (0, 0)))
    (hpb : p ≠ b) (_hqb : q ≠ b) (hgb : g ≠ b) (hW1 : Way b F1 f1 c1 o1 w) (hW2 : Way b F2 f2 c2 o2 w) (h : Rd w b t) (hs : t.size ≤ 1048600) (hsm : Sml t.data.toList) :
    Calls Try.prog 38 #[.pointer (some ⟨p, 0, none⟩), .pointer (some ⟨q, 0, none⟩)] w (Reads1 b (orElse o1 o2 t.data.toList) w) := by
  have cp := hp.cell
  have cq := hq.cell
  have cb := h.cell
  have hc0 : w.cell? ⟨g, 0, none⟩ = some (.func (.func F1) f1 c1) := by simp [World.cell?, hg]
  have hc1 : w.cell? ⟨g, 1, none⟩ = some (.func (.func F2) f2 c2) := by simp [World.cell?, hg]
  have e1 := hW1.ent
  have e2 := hW2.ent
  have HW1 := Lib.hid hW1
  have HW2 := Lib.hid hW2
  have HSm := Lib.hid hsm
  have H := Lib.hid h
  have Hc0 := Lib.hid hc0; have Hc1 := Lib.hid hc1; have Hcp := Lib.hid cp
  obtain ⟨r1, H1⟩ : ∃ r, Hid (o1 t.data.toList = r) := ⟨_, Lib.hid rfl⟩
  obtain ⟨r2, H2⟩ : ∃ r, Hid (o2 t.data.toList = r) := ⟨_, Lib.hid rfl⟩
  have HOr : Hid (orElse o1 o2 t.data.toList = orElse2 r1 r2) := Lib.hid (by rw [orElse, H1.out, H2.out]; rfl)
  rw [HOr.out]
  clear hg hW1 hW2 hsm h hc0 hc1
  go_enter Try.func38, Try.ntmps38
  go_wp2
  clear cp cb
  go_loopw [15] (fun i wr => ∃ k : Nat, k ≤ 2 ∧ i = .int .i64 k ∧ (1 ≤ k → r1 = none) ∧ (2 ≤ k → r2 = none) ∧ Hid (Rd wr b t) ∧ Hid (Kp (Only b) w wr)) (fun i _ => 2 - (intOf i).toNat)
  case atStart => exact ⟨0, by omega, rfl, fun h => absurd h (by omega), fun h => absurd h (by omega), H, Lib.hid (Kp.refl _ _)⟩
  case round =>
    obtain ⟨k, hk, rfl, hn1, hn2, HU, HK⟩ := hrel
    have cpk : wr.cell? ⟨p, 0, none⟩ = some (.pointer (some ⟨b, 0, none⟩)) := HK.out.cell Hcp.out hpb
    have c0k : wr.cell? ⟨g, 0, none⟩ = some (.func (.func F1) f1 c1) := HK.out.cell Hc0.out hgb
    have c1k : wr.cell? ⟨g, 1, none⟩ = some (.func (.func F2) f2 c2) := HK.out.cell Hc1.out hgb
    obtain rfl | rfl | rfl : k = 0 ∨ k = 1 ∨ k = 2 := by omega
    · clear hn1 hn2
      go_wp2_with fail
      refine (HW1.out.go _ t HK.out HU.out hs HSm.out).mono ?_
      rw [H1.out]
      rintro e w1 h1
      obtain ⟨v, r, a1, a2, a3, a4⟩ := h1
      have A1 := Lib.hid a1; have A3 := Lib.hid a3; have A4 := Lib.hid a4
      have HK1 : Hid (Kp (Only b) w w1) := Lib.hid (HK.out.trans a2)
      have HN1 : Hid (∀ v ns, NumsAt w1 wr.heap.size v ns → NumsAt w1 w.heap.size v ns) := Lib.hid (fun v ns ⟨g, g1, g2, g3⟩ => ⟨g, Nat.le_trans HK.out.size g1, g2, g3⟩)
      have hcb1 := a1.cell
      have hfb1 := a1.free
      have cp1 : w1.cell? ⟨p, 0, none⟩ = some (.pointer (some ⟨b, 0, none⟩)) := a2.cell cpk hpb
      clear a1 a2 a3 a4
      cases r1 with
      | none =>
        obtain rfl := A4.out rfl
        go_wp2
        go_roundw
        case rel => exact ⟨1, by omega, by go_num, fun _ => trivial, fun h => absurd h (by omega), Lib.hid (A1.out.set _), Lib.hid (HK1.out.setCell (X := Only b) (p := ⟨b, 0, none⟩) rfl _)⟩
        case measure => simp [intOf]
      | some x =>
        obtain ⟨ns, x⟩ := x
        obtain ⟨rfl, hn, hr⟩ := A3.out ns x rfl
        have HNn := Lib.hid hn; have HRr := Lib.hid hr
        clear hn hr
        go_wp2
        go_ret2
        exact Reads1.yes v (by rw [← HRr.out]; exact A1.out) HK1.out (HN1.out _ _ HNn.out) rfl
    · obtain rfl := hn1 (by omega)
      clear hn1 hn2
      go_wp2_with fail
      refine (HW2.out.go _ t HK.out HU.out hs HSm.out).mono ?_
      rw [H2.out]
      rintro e w1 h1
      obtain ⟨v, r, a1, a2, a3, a4⟩ := h1
      have A1 := Lib.hid a1; have A3 := Lib.hid a3; have A4 := Lib.hid a4
      have HK1 : Hid (Kp (Only b) w w1) := Lib.hid (HK.out.trans a2)
      have HN1 : Hid (∀ v ns, NumsAt w1 wr.heap.size v ns → NumsAt w1 w.heap.size v ns) := Lib.hid (fun v ns ⟨g, g1, g2, g3⟩ => ⟨g, Nat.le_trans HK.out.size g1, g2, g3⟩)
      have hcb1 := a1.cell
      have hfb1 := a1.free
      have cp1 : w1.cell? ⟨p, 0, none⟩ = some (.pointer (some ⟨b, 0, none⟩)) := a2.cell cpk hpb
      clear a1 a2 a3 a4
      cases r2 with
      | none =>
        obtain rfl := A4.out rfl
        go_wp2
        go_roundw
        case rel => exact ⟨2, by omega, by go_num, fun _ => trivial, fun _ => trivial, Lib.hid (A1.out.set _), Lib.hid (HK1.out.setCell (X := Only b) (p := ⟨b, 0, none⟩) rfl _)⟩
        case measure => simp [intOf]
      | some x =>
        obtain ⟨ns, x⟩ := x
        obtain ⟨rfl, hn, hr⟩ := A3.out ns x rfl
        have HNn := Lib.hid hn; have HRr := Lib.hid hr
        clear hn hr
        go_wp2
        go_ret2
        exact Reads1.yes v (by rw [← HRr.out]; exact A1.out) HK1.out (HN1.out _ _ HNn.out) rfl
    · obtain rfl := hn1 (by omega)
      obtain rfl := hn2 (by omega)
      clear hn1 hn2
      go_wp2
      go_ret2
      exact Reads1.no _ t HU.out HK.out rfl

set_option maxRecDepth 100000 in
set_option maxHeartbeats 1000000 in
theorem wholeC_any (b p q : Nat) (F : FuncId) (f c : Array Value) (o : List UInt8 → Option (List Nat × List UInt8)) (t : ByteArray) (w : World)
    (hp : Holds1 w p 47 (.func (.func F) f c)) (hq : Holds1 w q 32 (.pointer (some ⟨b, 0, none⟩))) (hqb : q ≠ b)
    (hW : Way b F f c o w) (h : Rd w b t) (hs : t.size ≤ 1048600) (hsm : Sml t.data.toList) :
    Calls Try.prog 39 #[.pointer (some ⟨p, 0, none⟩), .pointer (some ⟨q, 0, none⟩)] w (Reads1 b (whole1 o t.data.toList) w) := by
  have cp := hp.cell
  have cq := hq.cell
  have e1 := hW.ent
  have HC := Lib.hid (hW.go w t (Kp.refl _ _) h hs hsm)
  obtain ⟨r1, H1⟩ : ∃ r, Hid (o t.data.toList = r) := ⟨_, Lib.hid rfl⟩
  rw [H1.out] at HC
  rw [whole1, H1.out]
  clear hsm h hW
  have Hcq := Lib.hid cq
  cases r1 with
  | none =>
    simp only
    go_enter Try.func39, Try.ntmps39
    go_wp2_with fail
    refine HC.out.mono ?_
    rintro e w1 h1
    obtain ⟨v, r, a1, a2, a3, a4⟩ := h1
    have A1 := Lib.hid a1; have A2 := Lib.hid a2
    obtain rfl := a4 rfl
    clear a1 a2 a3 a4
    go_wp2
    go_quiet (fail)
    go_wp2
    go_ret2
    exact Reads1.no v r A1.out (A2.out.drewN _) rfl
  | some x =>
    obtain ⟨ns, x⟩ := x
    simp only
    cases x with
    | nil =>
      rw [if_pos rfl]
      have hem : (asB []).toList.isEmpty = true := by rw [ByteArray.toList_eq]; rfl
      go_enter Try.func39, Try.ntmps39
      go_wp2_with fail
      refine HC.out.mono ?_
      rintro e w1 h1
      obtain ⟨v, r, a1, a2, a3, a4⟩ := h1
      obtain ⟨rfl, hn, rfl⟩ := a3 ns _ rfl
      have A1 := Lib.hid a1; have A2 := Lib.hid a2; have HN := Lib.hid hn
      have cb1 := a1.cell
      have cq1 : w1.cell? ⟨q, 0, none⟩ = some (.pointer (some ⟨b, 0, none⟩)) := a2.cell Hcq.out hqb
      clear a1 a2 a3 a4 hn
      go_wp2
      go_quiet (fail)
      go_wp2
      go_ret2
      exact Reads1.yes v A1.out (A2.out.drewN _) HN.out rfl
    | cons y x =>
      rw [if_neg (by simp)]
      have hem : (asB (y :: x)).toList.isEmpty = false := by rw [ByteArray.toList_eq]; rfl
      go_enter Try.func39, Try.ntmps39
      go_wp2_with fail
      refine HC.out.mono ?_
      rintro e w1 h1
      obtain ⟨v, r, a1, a2, a3, a4⟩ := h1
      obtain ⟨rfl, hn, rfl⟩ := a3 ns _ rfl
      have A1 := Lib.hid a1; have A2 := Lib.hid a2
      have cb1 := a1.cell
      have cq1 : w1.cell? ⟨q, 0, none⟩ = some (.pointer (some ⟨b, 0, none⟩)) := a2.cell Hcq.out hqb
      clear a1 a2 a3 a4 hn
      go_wp2
      go_quiet (fail)
      go_wp2
      go_ret2
      exact Reads1.no v _ A1.out (A2.out.drewN _) rfl

end Go.Proofs.Ytjalbfgdhmkclaa
