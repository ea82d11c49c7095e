/-
  Plain words on the text of sixteen bytes: the longest run as the document finds it, the text as pieces, colons, two colons. Of no program.
  Plain words on numbers that are told and read again: digits by a base, parts, rows of them. Of no program.
  Ways to read: four; either of two, whole; contracts: readerOf.
-/
import Derived.Test.YtcphokaamkalfaaGreatDoorMaD
import Derived.Test.YtcphokaamkalfaaGreatDoorMaA
import Derived.Test.YtcphokaamkalfaaGreatDoorMaC
import Derived.Test.YtcphokaamkalfaaGreatDoorMpI
namespace Go.Proofs.YtcphokaamkalfaaGreatDoor
open Go.RowKit

theorem lrS_bd (P : List Nat) : (lrS P 8).2.1 ≤ (lrS P 8).2.2 ∧ (lrS P 8).2.2 ≤ 8 := ⟨(lrS_ok P 8).2.1, (lrS_ok P 8).2.2⟩
end Go.Proofs.YtcphokaamkalfaaGreatDoor
namespace Go.Proofs.YtcphokaamkalfaaGreatDoor
open Go.RowKit

theorem hd_hex : ∀ d : Fin 16, hexV (hd d.1) = d.1 := by decide +kernel
theorem hd_val {d : Nat} (h : d < 16) : hexV (hd d) = d := hd_hex ⟨d, h⟩
theorem hd_sign : ∀ d : Fin 16, hd d.1 ≠ 46 ∧ hd d.1 ≠ 58 ∧ hd d.1 ≠ 120 ∧ hd d.1 ≠ 88 ∧ (hd d.1 = 48 → d.1 = 0) := by decide +kernel
theorem hd_dig {b d : Nat} (h : d < b) (hb : b ≤ 16) : dig b (hd d) = true := by simp [dig, hd_val (show d < 16 by omega), h]
theorem numF_ne (b f n : Nat) (hf : 0 < f) : numF b f n ≠ [] := by
 cases f with
 | zero => omega
 | succ f => rw [numF]; split <;> simp
theorem numF_mem (b : Nat) (hb : 2 ≤ b) (hb' : b ≤ 16) : ∀ f n, ∀ c ∈ numF b f n, ∃ d, d < b ∧ c = hd d
 | 0, _, c, h => by simp [numF] at h
 | f + 1, n, c, h => by
  rw [numF] at h
  split at h
  ·rename_i hn; exact ⟨n, hn, by simpa using h⟩
  ·rcases List.mem_append.1 h with h | h
   ·exact numF_mem b hb hb' f _ c h
   ·exact ⟨n % b, Nat.mod_lt _ (by omega), by simpa using h⟩
theorem numF_all {b : Nat} (hb : 2 ≤ b) (hb' : b ≤ 16) (f n : Nat) : (numF b f n).all (dig b) = true := by
 rw [List.all_eq_true]
 intro c hc
 obtain ⟨d, hd1, rfl⟩ := numF_mem b hb hb' f n c hc
 exact hd_dig hd1 hb'
theorem numF_no {b : Nat} (hb : 2 ≤ b) (hb' : b ≤ 16) (f n : Nat) : ∀ c ∈ numF b f n, c ≠ 46 ∧ c ≠ 58 ∧ c ≠ 120 ∧ c ≠ 88 := by
 intro c hc
 obtain ⟨d, hd1, rfl⟩ := numF_mem b hb hb' f n c hc
 have := hd_sign ⟨d, by omega⟩
 exact ⟨this.1, this.2.1, this.2.2.1, this.2.2.2.1⟩
theorem fol_numF {b : Nat} (hb : 2 ≤ b) (hb' : b ≤ 16) : ∀ f n, n < b ^ f → n ≤ 4294967296 → fol b (numF b f n) = n
 | 0, n, h, _ => by
  have : n = 0 := by simpa using h
  subst this; rfl
 | f + 1, n, h, hn => by
  rw [numF]
  split
  ·rename_i hlt
   simp [fol, stp, hd_val (show n < 16 by omega)]; omega
  ·have hm : n % b < b := Nat.mod_lt _ (by omega)
   have hd1 : n / b < b ^ f := by
    rw [Nat.div_lt_iff_lt_mul (by omega)]; rw [Nat.pow_succ] at h; exact h
   have hd2 : n / b ≤ n := Nat.div_le_self _ _
   rw [fol_snoc, fol_numF hb hb' f (n / b) hd1 (by omega), stp, hd_val (show n % b < 16 by omega)]
   have := Nat.div_add_mod n b
   rw [Nat.mul_comm] at this
   omega
theorem cnt_numF {b : Nat} (hb : 2 ≤ b) (hb' : b ≤ 16) (f n : Nat) (h : n < b ^ f) (hn : n ≤ 4294967296) : cnt b (numF b f n) = some n := by
 rw [cnt_all (numF_all hb hb' f n), fol_numF hb hb' f n h hn]
/-- No nought ahead, but of nought itself. -/
theorem numF_head {b : Nat} (hb : 2 ≤ b) (hb' : b ≤ 16) : ∀ f n, n < b ^ f → (numF b f n).head? = some 48 → n = 0
 | 0, n, h, _ => by simpa using h
 | f + 1, n, h, h48 => by
  rw [numF] at h48
  split at h48
  ·rename_i hlt
   exact (hd_sign ⟨n, by omega⟩).2.2.2.2 (by simpa using h48)
  ·rename_i hge
   have hd1 : n / b < b ^ f := by
    rw [Nat.div_lt_iff_lt_mul (by omega)]; rw [Nat.pow_succ] at h; exact h
   have hpos : 1 ≤ n / b := (Nat.le_div_iff_mul_le (by omega)).2 (by omega)
   cases f with
   | zero => simp at hd1; omega
   | succ f =>
    rw [List.head?_append] at h48
    have hne := numF_ne b (f + 1) (n / b) (by omega)
    cases e : numF b (f + 1) (n / b) with
    | nil => contradiction
    | cons x r =>
     rw [e] at h48
     have := numF_head hb hb' (f + 1) (n / b) hd1 (by rw [e]; simpa using h48)
     omega
theorem numF_zero (b f : Nat) (hb : 2 ≤ b) : numF b (f + 1) 0 = [48] := by
 rw [numF, if_pos (by omega)]; rfl
theorem numF_len48 {b : Nat} (hb : 2 ≤ b) (hb' : b ≤ 16) (f n : Nat) (h : n < b ^ (f + 1)) (h48 : (numF b (f + 1) n).head? = some 48) : (numF b (f + 1) n).length = 1 := by
 have := numF_head hb hb' (f + 1) n h h48
 subst this
 rw [numF_zero b f hb]; rfl

theorem pc1_numF (n : Nat) (h : n < 65536) : pc1 (numF 16 4 n) = some [n] := by
 have h1 := numF_len 16 4 n
 have h2 : 1 ≤ (numF 16 4 n).length := List.length_pos_iff.2 (numF_ne 16 4 n (by omega))
 rw [pc1, if_pos ⟨h2, h1⟩, cnt_numF (by omega) (by omega) 4 n (by omega) (by omega)]
theorem isX_numF {b : Nat} (hb : 2 ≤ b) (hb' : b ≤ 16) (f n : Nat) : isX (numF b f n) = false := by
 have h := numF_no hb hb' f n
 match e : numF b f n with
 | [] => rfl
 | [_] => rfl
 | x :: y :: r =>
  have := h y (by rw [e]; simp)
  simp [isX, this.2.2.1, this.2.2.2]
theorem numD_dec (f n : Nat) (h : n < 10 ^ (f + 1)) (hn : n ≤ 4294967296) : numD (numF 10 (f + 1) n) = some n := by
 rw [numD, isX_numF (by omega) (by omega)]
 rw [if_neg (by simp), if_neg, if_neg (numF_ne _ _ _ (by omega)), cnt_numF (by omega) (by omega) _ n h hn]
 rintro ⟨h2, h48⟩
 have := numF_len48 (b := 10) (by omega) (by omega) f n h h48
 omega

/-- Parts that are told, one behind the other. -/
theorem pts_join (a : UInt8) : ∀ (x : List UInt8) (r : List (List UInt8)), (∀ q ∈ x :: r, ∀ c ∈ q, c ≠ a) → pts a (Lib.join (x :: r) [a]) = x :: r
 | x, [], h => by rw [Lib.join_one, pts_none a x (h x (by simp))]
 | x, y :: r, h => by
  have ih := pts_join a y r (fun q hq => h q (List.mem_cons_of_mem _ hq))
  have e : Lib.join (x :: y :: r) [a] = x ++ a :: Lib.join (y :: r) [a] := by simp [Lib.join, List.intercalate]
  rw [e, pts_front a x _ (h x (by simp)), ih]
theorem evs_mapG (evI evL : List UInt8 → Option (List Nat)) (g : Nat → List UInt8) : ∀ (n : Nat) (ns : List Nat), (∀ m ∈ n :: ns, evI (g m) = some [m] ∧ evL (g m) = some [m]) → evs evI evL ((n :: ns).map g) = some (n :: ns)
 | n, [], h => (h n (by simp)).2
 | n, m :: ns, h => by
  have ih := evs_mapG evI evL g m ns (fun q hq => h q (List.mem_cons_of_mem _ hq))
  rw [List.map_cons, evs_cons _ _ _ (by simp), (h n (by simp)).1, ih]; rfl
theorem join_split (x y : List UInt8) (r : List (List UInt8)) (a : UInt8) : Lib.join (x :: y :: r) [a] = x ++ a :: Lib.join (y :: r) [a] := by simp [Lib.join, List.intercalate]
theorem join_last (a : UInt8) : ∀ (x : List UInt8) (r : List (List UInt8)), (∀ q ∈ x :: r, q ≠ [] ∧ ∀ c ∈ q, c ≠ a) → Lib.join (x :: r) [a] ≠ [] ∧ (Lib.join (x :: r) [a]).getLast? ≠ some a
 | x, [], h => by
  rw [Lib.join_one]
  exact ⟨(h x (by simp)).1, fun e => (h x (by simp)).2 a (List.mem_of_getLast? e) rfl⟩
 | x, y :: r, h => by
  obtain ⟨h1, h2⟩ := join_last a y r (fun q hq => h q (List.mem_cons_of_mem _ hq))
  rw [join_split]
  refine ⟨by simp, fun e => h2 ?_⟩
  rw [List.getLast?_append, List.getLast?_cons] at e
  cases e2 : (Lib.join (y :: r) [a]).getLast? with
  | none => rw [List.getLast?_eq_none_iff] at e2; contradiction
  | some z => rw [e2] at e; simpa using e
theorem cut2_front : ∀ (A B : List UInt8), cut2 A = none → A.getLast? ≠ some 58 → cut2 (A ++ 58 :: 58 :: B) = some (A, B)
 | [], B, _, _ => by simp [cut2, List.isPrefixOf]
 | c :: A, B, h, hl => by
  rw [cut2] at h
  split at h
  ·cases h
  ·rename_i h1
   split at h
   ·cases h
   ·rename_i h2
    have ih := cut2_front A B h2 (by
     cases A with
     | nil => simp
     | cons d A => rwa [List.getLast?_cons_cons] at hl)
    rw [List.cons_append, cut2, ih, if_neg]
    intro h3
    apply h1
    cases A with
    | nil =>
     have : c = 58 := by
      simp [List.isPrefixOf] at h3; exact h3.symm
     exact absurd (by rw [this]; rfl) hl
    | cons d A => simpa [List.isPrefixOf] using h3
theorem cut2_no (q : List UInt8) (hq : ∀ c ∈ q, c ≠ 58) : cut2 q = none := by
 induction q with
 | nil => rfl
 | cons c q ih =>
  rw [cut2, ih (fun x hx => hq x (List.mem_cons_of_mem _ hx)), if_neg]
  have := hq c (by simp)
  simp [List.isPrefixOf, Ne.symm this]
theorem cut2_step (q l : List UInt8) (hq : ∀ c ∈ q, c ≠ 58) (hne : l ≠ []) (h58 : l.head? ≠ some 58) (hl : cut2 l = none) : cut2 (q ++ 58 :: l) = none := by
 induction q with
 | nil =>
  rw [List.nil_append, cut2, hl, if_neg]
  cases l with
  | nil => contradiction
  | cons x l =>
   have : x ≠ 58 := by simpa using h58
   simp [List.isPrefixOf, Ne.symm this]
 | cons c q ih =>
  rw [List.cons_append, cut2, ih (fun x hx => hq x (List.mem_cons_of_mem _ hx)), if_neg]
  have := hq c (by simp)
  simp [List.isPrefixOf, Ne.symm this]
theorem join_head (a : UInt8) (x : List UInt8) (r : List (List UInt8)) (hx : x ≠ []) : (Lib.join (x :: r) [a]).head? = x.head? := by
 cases x with
 | nil => contradiction
 | cons c x => rw [Lib.join_cons]; rfl
theorem cut2_join : ∀ (x : List UInt8) (r : List (List UInt8)), (∀ q ∈ x :: r, q ≠ [] ∧ ∀ c ∈ q, c ≠ 58) → cut2 (Lib.join (x :: r) [58]) = none
 | x, [], h => by rw [Lib.join_one]; exact cut2_no x (h x (by simp)).2
 | x, y :: r, h => by
  have hr : ∀ q ∈ y :: r, q ≠ [] ∧ ∀ c ∈ q, c ≠ 58 := fun q hq => h q (List.mem_cons_of_mem _ hq)
  have ih := cut2_join y r hr
  rw [join_split]
  refine cut2_step x _ (h x (by simp)).2 (join_last 58 y r hr).1 ?_ ih
  rw [join_head _ _ _ (hr y (by simp)).1]
  intro e
  obtain ⟨t, ht⟩ := List.head?_eq_some_iff.1 e
  exact (hr y (by simp)).2 58 (by rw [ht]; simp) rfl

end Go.Proofs.YtcphokaamkalfaaGreatDoor
namespace Go.Proofs.YtcphokaamkalfaaGreatDoor
open Go.RowKit

theorem rfour_suf {l : List UInt8} {ns : List Nat} {u : List UInt8} (h : rfour l = some (ns, u)) : (∃ p, l = p ++ u ∧ p ≠ []) ∧ ns.length = 2 := by
 by_cases hl : l = []
 ·subst hl; cases h
 unfold rfour at h
 split at h
 ·split at h
  ·rename_i ms h2
   injection h with h; injection h with h3 h4
   subst h3; subst h4
   refine ⟨⟨l, by simp, hl⟩, ?_⟩
   unfold two4 at h2
   split at h2
   ·injection h2 with h2; subst h2; rfl
   ·cases h2
  ·cases h
 ·cases h
theorem way_four (b : Nat) (W : World) : Way b 94 #[.pointer (some ⟨b, 0, none⟩)] #[] rfour W :=
 ⟨enters_of Tryz.func94 (by kernel_rfl) rfl, fun w t _ h hs hsm => four_any b t w h hs hsm, fun l ns u h => (rfour_suf h).1, fun l ns u h => by rw [(rfour_suf h).2]; omega⟩

/-- The first of two ways that can. -/
def orElse (o1 o2 : List UInt8 → Option (List Nat × List UInt8)) (l : List UInt8) : Option (List Nat × List UInt8) := match o1 l with
 | some x => some x
 | none => o2 l
def orElse2 (r1 r2 : Option (List Nat × List UInt8)) : Option (List Nat × List UInt8) := match r1 with
 | some x => some x
 | none => r2
/-- No less than all. -/
def whole1 (o : List UInt8 → Option (List Nat × List UInt8)) (l : List UInt8) : Option (List Nat × List UInt8) := match o l with
 | some (ns, u) => if u = [] then some (ns, u) else none
 | none => none

set_option maxRecDepth 100000 in
set_option maxHeartbeats 1000000 in
theorem eitherC_any (b p q g : Nat) (F1 F2 : FuncId) (f1 c1 f2 c2 : Array Value) (o1 o2 : List UInt8 → Option (List Nat × List UInt8)) (t : ByteArray) (w : World)
  (hp : Holds1 w p 73 (.pointer (some ⟨b, 0, none⟩))) (hq : Holds1 w q 143 (.slice (some ⟨g, 0, none⟩) 2 2))
  (hg : w.heap[g]? = some (.cells #[.func (.func F1) f1 c1, .func (.func F2) f2 c2] 110 (0, 0)))
  (hpb : p ≠ b) (_hqb : q ≠ b) (hgb : g ≠ b) (hW1 : Way b F1 f1 c1 o1 w) (hW2 : Way b F2 f2 c2 o2 w) (h : Rd w b t) (hs : t.size ≤ 1048600) (hsm : Sml t.data.toList) :
  Calls Tryz.prog 134 #[.pointer (some ⟨p, 0, none⟩), .pointer (some ⟨q, 0, none⟩)] w (Reads1 b (orElse o1 o2 t.data.toList) w) := by
 have cp := hp.cell
 have cq := hq.cell
 have cb := h.cell
 have hc0 : w.cell? ⟨g, 0, none⟩ = some (.func (.func F1) f1 c1) := by simp [World.cell?, hg]
 have hc1 : w.cell? ⟨g, 1, none⟩ = some (.func (.func F2) f2 c2) := by simp [World.cell?, hg]
 have e1 := hW1.ent
 have e2 := hW2.ent
 have HW1 := Lib.hid hW1
 have HW2 := Lib.hid hW2
 have HSm := Lib.hid hsm
 have H := Lib.hid h
 have Hc0 := Lib.hid hc0; have Hc1 := Lib.hid hc1; have Hcp := Lib.hid cp
 obtain ⟨r1, H1⟩ : ∃ r, Hid (o1 t.data.toList = r) := ⟨_, Lib.hid rfl⟩
 obtain ⟨r2, H2⟩ : ∃ r, Hid (o2 t.data.toList = r) := ⟨_, Lib.hid rfl⟩
 have HOr : Hid (orElse o1 o2 t.data.toList = orElse2 r1 r2) := Lib.hid (by rw [orElse, H1.out, H2.out]; rfl)
 rw [HOr.out]
 clear hg hW1 hW2 hsm h hc0 hc1
 go_enter Tryz.func134, Tryz.ntmps134
 go_wp2
 clear cp cb
 go_loopw [15] (fun i wr => ∃ k : Nat, k ≤ 2 ∧ i = .int .i64 k ∧ (1 ≤ k → r1 = none) ∧ (2 ≤ k → r2 = none) ∧ Hid (Rd wr b t) ∧ Hid (Kp (Only b) w wr)) (fun i _ => 2 - (intOf i).toNat)
 case atStart => exact ⟨0, by omega, rfl, fun h => absurd h (by omega), fun h => absurd h (by omega), H, Lib.hid (Kp.refl _ _)⟩
 case round =>
  obtain ⟨k, hk, rfl, hn1, hn2, HU, HK⟩ := hrel
  have cpk : wr.cell? ⟨p, 0, none⟩ = some (.pointer (some ⟨b, 0, none⟩)) := HK.out.cell Hcp.out hpb
  have c0k : wr.cell? ⟨g, 0, none⟩ = some (.func (.func F1) f1 c1) := HK.out.cell Hc0.out hgb
  have c1k : wr.cell? ⟨g, 1, none⟩ = some (.func (.func F2) f2 c2) := HK.out.cell Hc1.out hgb
  obtain rfl | rfl | rfl : k = 0 ∨ k = 1 ∨ k = 2 := by omega
  ·clear hn1 hn2
   go_wp2_with fail
   refine (HW1.out.go _ t HK.out HU.out hs HSm.out).mono ?_
   rw [H1.out]
   rintro e w1 h1
   obtain ⟨v, r, a1, a2, a3, a4⟩ := h1
   have A1 := Lib.hid a1; have A3 := Lib.hid a3; have A4 := Lib.hid a4
   have HK1 : Hid (Kp (Only b) w w1) := Lib.hid (HK.out.trans a2)
   have HN1 : Hid (∀ v ns, NumsAt w1 wr.heap.size v ns → NumsAt w1 w.heap.size v ns) := Lib.hid (fun v ns ⟨g, g1, g2, g3⟩ => ⟨g, Nat.le_trans HK.out.size g1, g2, g3⟩)
   have hcb1 := a1.cell
   have hfb1 := a1.free
   have cp1 : w1.cell? ⟨p, 0, none⟩ = some (.pointer (some ⟨b, 0, none⟩)) := a2.cell cpk hpb
   clear a1 a2 a3 a4
   cases r1 with
   | none =>
    obtain rfl := A4.out rfl
    go_wp2
    go_roundw
    case rel => exact ⟨1, by omega, by go_num, fun _ => trivial, fun h => absurd h (by omega), Lib.hid (A1.out.set _), Lib.hid (HK1.out.setCell (X := Only b) (p := ⟨b, 0, none⟩) rfl _)⟩
    case measure => simp [intOf]
   | some x =>
    obtain ⟨ns, x⟩ := x
    obtain ⟨rfl, hn, hr⟩ := A3.out ns x rfl
    have HNn := Lib.hid hn; have HRr := Lib.hid hr
    clear hn hr
    go_wp2
    go_ret2
    exact Reads1.yes v (by rw [← HRr.out]; exact A1.out) HK1.out (HN1.out _ _ HNn.out) rfl
  ·obtain rfl := hn1 (by omega)
   clear hn1 hn2
   go_wp2_with fail
   refine (HW2.out.go _ t HK.out HU.out hs HSm.out).mono ?_
   rw [H2.out]
   rintro e w1 h1
   obtain ⟨v, r, a1, a2, a3, a4⟩ := h1
   have A1 := Lib.hid a1; have A3 := Lib.hid a3; have A4 := Lib.hid a4
   have HK1 : Hid (Kp (Only b) w w1) := Lib.hid (HK.out.trans a2)
   have HN1 : Hid (∀ v ns, NumsAt w1 wr.heap.size v ns → NumsAt w1 w.heap.size v ns) := Lib.hid (fun v ns ⟨g, g1, g2, g3⟩ => ⟨g, Nat.le_trans HK.out.size g1, g2, g3⟩)
   have hcb1 := a1.cell
   have hfb1 := a1.free
   have cp1 : w1.cell? ⟨p, 0, none⟩ = some (.pointer (some ⟨b, 0, none⟩)) := a2.cell cpk hpb
   clear a1 a2 a3 a4
   cases r2 with
   | none =>
    obtain rfl := A4.out rfl
    go_wp2
    go_roundw
    case rel => exact ⟨2, by omega, by go_num, fun _ => trivial, fun _ => trivial, Lib.hid (A1.out.set _), Lib.hid (HK1.out.setCell (X := Only b) (p := ⟨b, 0, none⟩) rfl _)⟩
    case measure => simp [intOf]
   | some x =>
    obtain ⟨ns, x⟩ := x
    obtain ⟨rfl, hn, hr⟩ := A3.out ns x rfl
    have HNn := Lib.hid hn; have HRr := Lib.hid hr
    clear hn hr
    go_wp2
    go_ret2
    exact Reads1.yes v (by rw [← HRr.out]; exact A1.out) HK1.out (HN1.out _ _ HNn.out) rfl
  ·obtain rfl := hn1 (by omega)
   obtain rfl := hn2 (by omega)
   clear hn1 hn2
   go_wp2
   go_ret2
   exact Reads1.no _ t HU.out HK.out rfl

set_option maxRecDepth 100000 in
set_option maxHeartbeats 1000000 in
theorem wholeC_any (b p q : Nat) (F : FuncId) (f c : Array Value) (o : List UInt8 → Option (List Nat × List UInt8)) (t : ByteArray) (w : World)
  (hp : Holds1 w p 110 (.func (.func F) f c)) (hq : Holds1 w q 73 (.pointer (some ⟨b, 0, none⟩))) (hqb : q ≠ b)
  (hW : Way b F f c o w) (h : Rd w b t) (hs : t.size ≤ 1048600) (hsm : Sml t.data.toList) :
  Calls Tryz.prog 190 #[.pointer (some ⟨p, 0, none⟩), .pointer (some ⟨q, 0, none⟩)] w (Reads1 b (whole1 o t.data.toList) w) := by
 have cp := hp.cell
 have cq := hq.cell
 have e1 := hW.ent
 have HC := Lib.hid (hW.go w t (Kp.refl _ _) h hs hsm)
 obtain ⟨r1, H1⟩ : ∃ r, Hid (o t.data.toList = r) := ⟨_, Lib.hid rfl⟩
 rw [H1.out] at HC
 rw [whole1, H1.out]
 clear hsm h hW
 have Hcq := Lib.hid cq
 cases r1 with
 | none =>
  simp only
  go_enter Tryz.func190, Tryz.ntmps190
  go_wp2_with fail
  refine HC.out.mono ?_
  rintro e w1 h1
  obtain ⟨v, r, a1, a2, a3, a4⟩ := h1
  have A1 := Lib.hid a1; have A2 := Lib.hid a2
  obtain rfl := a4 rfl
  clear a1 a2 a3 a4
  go_wp2
  go_quiet (fail)
  go_wp2
  go_ret2
  exact Reads1.no v r A1.out (A2.out.drewN _) rfl
 | some x =>
  obtain ⟨ns, x⟩ := x
  simp only
  cases x with
  | nil =>
   rw [if_pos rfl]
   have hem : (asB []).toList.isEmpty = true := by rw [ByteArray.toList_eq]; rfl
   go_enter Tryz.func190, Tryz.ntmps190
   go_wp2_with fail
   refine HC.out.mono ?_
   rintro e w1 h1
   obtain ⟨v, r, a1, a2, a3, a4⟩ := h1
   obtain ⟨rfl, hn, rfl⟩ := a3 ns _ rfl
   have A1 := Lib.hid a1; have A2 := Lib.hid a2; have HN := Lib.hid hn
   have cb1 := a1.cell
   have cq1 : w1.cell? ⟨q, 0, none⟩ = some (.pointer (some ⟨b, 0, none⟩)) := a2.cell Hcq.out hqb
   clear a1 a2 a3 a4 hn
   go_wp2
   go_quiet (fail)
   go_wp2
   go_ret2
   exact Reads1.yes v A1.out (A2.out.drewN _) HN.out rfl
  | cons y x =>
   rw [if_neg (by simp)]
   have hem : (asB (y :: x)).toList.isEmpty = false := by rw [ByteArray.toList_eq]; rfl
   go_enter Tryz.func190, Tryz.ntmps190
   go_wp2_with fail
   refine HC.out.mono ?_
   rintro e w1 h1
   obtain ⟨v, r, a1, a2, a3, a4⟩ := h1
   obtain ⟨rfl, hn, rfl⟩ := a3 ns _ rfl
   have A1 := Lib.hid a1; have A2 := Lib.hid a2
   have cb1 := a1.cell
   have cq1 : w1.cell? ⟨q, 0, none⟩ = some (.pointer (some ⟨b, 0, none⟩)) := a2.cell Hcq.out hqb
   clear a1 a2 a3 a4 hn
   go_wp2
   go_quiet (fail)
   go_wp2
   go_ret2
   exact Reads1.no v _ A1.out (A2.out.drewN _) rfl

end Go.Proofs.YtcphokaamkalfaaGreatDoor
