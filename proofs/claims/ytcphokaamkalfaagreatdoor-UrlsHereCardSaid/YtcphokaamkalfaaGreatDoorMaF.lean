/-
  Contracts: readerOf, whole, either; the ways that they make; plain: what looks like four bytes.
  Contract: looksLikeFour.
  Contracts: put, fourOf.
  Contract: fourOf.
  Contract: Four: the document's answer.
-/
import Derived.Test.YtcphokaamkalfaaGreatDoorMaE
import Derived.Test.YtcphokaamkalfaaGreatDoorMaC
namespace Go.Proofs.YtcphokaamkalfaaGreatDoor
open Go.RowKit

theorem low_small (c : UInt8) : ¬ (65 ≤ (low c).toNat ∧ (low c).toNat ≤ 90) := by
 have : ∀ n : Fin 256, ¬ (65 ≤ (low (UInt8.ofNat n.1)).toNat ∧ (low (UInt8.ofNat n.1)).toNat ≤ 90) := by decide +kernel
 have h := this ⟨c.toNat, c.toNat_lt⟩
 simpa using h
theorem lowS_sml (s : ByteArray) : Sml (lowS s).data.toList := by
 intro c hc
 have : c ∈ s.data.toList.map low := hc
 obtain ⟨x, _, rfl⟩ := List.mem_map.1 this
 exact low_small x
theorem sml_88 {l : List UInt8} (h : Sml l) : ∀ c ∈ l, c ≠ 88 := fun c hc e => h c hc (by rw [e]; decide)

set_option maxHeartbeats 400000 in
theorem readerOf_any (s : ByteArray) (w : World) (hs : s.size ≤ maxLen) :
  Calls Tryz.prog 59 #[.string s] w fun e w' => ∃ b, w.heap.size ≤ b ∧ e = .returned (.pointer (some ⟨b, 0, none⟩)) ∧ Rd w' b (lowS s) ∧ Below w.heap.size w w' := by
 go_enter Tryz.func59, Tryz.ntmps59
 go_wp2_with fail
 refine (Lower_any s _ hs).mono ?_
 rintro e w1 ⟨rfl, b1⟩
 have B1 := Lib.hid b1; clear b1
 go_wp2
 go_ret
 exact ⟨w1.heap.size, B1.out.size, rfl, Holds1.new w1 _ _, B1.out.alloc B1.out.size _⟩

set_option maxHeartbeats 400000 in
theorem whole_any (rv fv : Value) (w : World) (h1 : rv.oneCell' = true) (h2 : fv.oneCell' = true) (h3 : ∃ a, rv = .pointer a) (h4 : ∃ F f c, fv = .func F f c) :
  Calls Tryz.prog 174 #[rv, fv] w fun e w' => e = .returned (.func (.func 190) #[] #[.pointer (some ⟨w.heap.size + 1, 0, none⟩), .pointer (some ⟨w.heap.size, 0, none⟩)]) ∧ (w.alloc (.cells #[rv] 73)).alloc (.cells #[fv] 110) = w' := by
 obtain ⟨a, rfl⟩ := h3
 obtain ⟨F, f, c, rfl⟩ := h4
 have hmf := mkfK
 clear h1 h2
 go_enter Tryz.func174, Tryz.ntmps174
 go_wp2
 go_ret
 exact ⟨rfl, rfl⟩
set_option maxHeartbeats 400000 in
theorem either_any (a g : Option Addr) (n k : Nat) (w : World) :
  Calls Tryz.prog 93 #[.pointer a, .slice g n k] w fun e w' => e = .returned (.func (.func 134) #[] #[.pointer (some ⟨w.heap.size, 0, none⟩), .pointer (some ⟨w.heap.size + 1, 0, none⟩)]) ∧ (w.alloc (.cells #[.pointer a] 73)).alloc (.cells #[.slice g n k] 143) = w' := by
 have hmf := mkfK
 go_enter Tryz.func93, Tryz.ntmps93
 go_wp2
 go_ret
 exact ⟨rfl, rfl⟩

theorem two_new {w w' : World} {t1 t2 : TypeId} {v1 v2 : Value} (h : (w.alloc (.cells #[v1] t1)).alloc (.cells #[v2] t2) = w') : Holds1 w' w.heap.size t1 v1 ∧ Holds1 w' (w.heap.size + 1) t2 v2 ∧ w'.heap.size = w.heap.size + 2 ∧ Below w.heap.size w w' := by
 subst h
 refine ⟨(Holds1.new w t1 v1).alloc _, ?_, by simp, ((Below.refl _ _).alloc (Nat.le_refl _) _).alloc (by simp) _⟩
 have := Holds1.new (w.alloc (.cells #[v1] t1)) t2 v2
 simpa using this
theorem orElse_some {o1 o2 : List UInt8 → Option (List Nat × List UInt8)} {l : List UInt8} {x : List Nat × List UInt8} (h : orElse o1 o2 l = some x) : o1 l = some x ∨ o2 l = some x := by
 unfold orElse at h
 split at h
 ·rename_i y hy; injection h with h; subst h; exact .inl hy
 ·exact .inr h
theorem whole1_some {o : List UInt8 → Option (List Nat × List UInt8)} {l : List UInt8} {x : List Nat × List UInt8} (h : whole1 o l = some x) : o l = some x ∧ x.2 = [] := by
 unfold whole1 at h
 split at h
 ·rename_i ns u hy
  split at h
  ·rename_i hu; injection h with h; subst h; exact ⟨hy, hu⟩
  ·cases h
 ·cases h
theorem way_whole {b p q : Nat} {F : FuncId} {f c : Array Value} {o : List UInt8 → Option (List Nat × List UInt8)} {W : World} (hp : Holds1 W p 110 (.func (.func F) f c)) (hq : Holds1 W q 73 (.pointer (some ⟨b, 0, none⟩))) (hpb : p ≠ b) (hqb : q ≠ b) (hW : Way b F f c o W) :
  Way b 190 #[] #[.pointer (some ⟨p, 0, none⟩), .pointer (some ⟨q, 0, none⟩)] (whole1 o) W :=
 ⟨enters_of Tryz.func190 (by kernel_rfl) rfl, fun w t k h hs hsm => wholeC_any b p q F f c o t w (hp.kept k hpb) (hq.kept k hqb) hqb (hW.later k) h hs hsm, fun l ns u h => hW.suf l ns u (whole1_some h).1, fun l ns u h => hW.num l ns u (whole1_some h).1⟩
theorem way_either {b p q g : Nat} {F1 F2 : FuncId} {f1 c1 f2 c2 : Array Value} {o1 o2 : List UInt8 → Option (List Nat × List UInt8)} {W : World}
  (hp : Holds1 W p 73 (.pointer (some ⟨b, 0, none⟩))) (hq : Holds1 W q 143 (.slice (some ⟨g, 0, none⟩) 2 2))
  (hg : W.heap[g]? = some (.cells #[.func (.func F1) f1 c1, .func (.func F2) f2 c2] 110 (0, 0)))
  (hpb : p ≠ b) (hqb : q ≠ b) (hgb : g ≠ b) (hW1 : Way b F1 f1 c1 o1 W) (hW2 : Way b F2 f2 c2 o2 W) :
  Way b 134 #[] #[.pointer (some ⟨p, 0, none⟩), .pointer (some ⟨q, 0, none⟩)] (orElse o1 o2) W :=
 ⟨enters_of Tryz.func134 (by kernel_rfl) rfl, fun w t k h hs hsm => eitherC_any b p q g F1 F2 f1 c1 f2 c2 o1 o2 t w (hp.kept k hpb) (hq.kept k hqb) (k.at hg hgb) hpb hqb hgb (hW1.later k) (hW2.later k) h hs hsm,
  fun l ns u h => (orElse_some h).elim (hW1.suf l ns u) (hW2.suf l ns u), fun l ns u h => (orElse_some h).elim (hW1.num l ns u) (hW2.num l ns u)⟩

/-- Great letters make no difference. -/
theorem low_eqs : ∀ n : Fin 256, hexV (low (UInt8.ofNat n.1)) = hexV (UInt8.ofNat n.1) ∧ (low (UInt8.ofNat n.1) = 46 ↔ UInt8.ofNat n.1 = 46) ∧ (low (UInt8.ofNat n.1) = 58 ↔ UInt8.ofNat n.1 = 58) ∧ (low (UInt8.ofNat n.1) = 48 ↔ UInt8.ofNat n.1 = 48) ∧ ((low (UInt8.ofNat n.1) = 120 ∨ low (UInt8.ofNat n.1) = 88) ↔ (UInt8.ofNat n.1 = 120 ∨ UInt8.ofNat n.1 = 88)) := by decide +kernel
theorem low_hex (c : UInt8) : hexV (low c) = hexV c := by have := (low_eqs ⟨c.toNat, c.toNat_lt⟩).1; simpa using this
theorem low_46 (c : UInt8) : low c = 46 ↔ c = 46 := by have := (low_eqs ⟨c.toNat, c.toNat_lt⟩).2.1; simpa using this
theorem low_58 (c : UInt8) : low c = 58 ↔ c = 58 := by have := (low_eqs ⟨c.toNat, c.toNat_lt⟩).2.2.1; simpa using this
theorem low_48 (c : UInt8) : low c = 48 ↔ c = 48 := by have := (low_eqs ⟨c.toNat, c.toNat_lt⟩).2.2.2.1; simpa using this
theorem low_x (c : UInt8) : (low c = 120 ∨ low c = 88) ↔ (c = 120 ∨ c = 88) := by have := (low_eqs ⟨c.toNat, c.toNat_lt⟩).2.2.2.2; simpa using this
theorem pts_low (a : UInt8) (h : ∀ c, low c = a ↔ c = a) : ∀ l : List UInt8, pts a (l.map low) = (pts a l).map (List.map low)
 | [] => rfl
 | c :: l => by
  rw [List.map_cons, pts, pts, pts_low a h l]
  by_cases hc : c = a
  ·rw [if_pos hc, if_pos ((h c).2 hc)]; rfl
  ·rw [if_neg hc, if_neg (fun e => hc ((h c).1 e))]
   cases pts a l <;> rfl
theorem fol_low (b : Nat) (l : List UInt8) : fol b (l.map low) = fol b l := by
 unfold fol
 rw [List.foldl_map]
 congr 1
 funext n c
 unfold stp; rw [low_hex]
theorem all_low (b : Nat) (l : List UInt8) : (l.map low).all (dig b) = l.all (dig b) := by
 rw [List.all_map]; congr 1; funext c; simp [dig, low_hex]
theorem cnt_low (b : Nat) (l : List UInt8) : cnt b (l.map low) = cnt b l := by
 unfold cnt; rw [all_low, fol_low]
theorem isX_low (l : List UInt8) : isX (l.map low) = isX l := by
 match l with
 | [] => rfl
 | [_] => rfl
 | a :: b :: r =>
  have h1 := low_48 a
  have h2 := low_x b
  simp only [List.map_cons, isX]
  rw [Bool.eq_iff_iff]
  simp only [Bool.and_eq_true, Bool.or_eq_true, decide_eq_true_eq, h1, h2]
theorem numD_low (l : List UInt8) : numD (l.map low) = numD l := by
 unfold numD
 rw [isX_low, ← List.map_drop, cnt_low, ← List.map_drop, cnt_low, cnt_low, List.length_map]
 have h1 : (l.map low).head? = some 48 ↔ l.head? = some 48 := by
  cases l with
  | nil => simp
  | cons c l => simp [low_48]
 have h2 : l.map low = [] ↔ l = [] := by simp
 simp only [h1, h2]
theorem looksQ_low (l : List UInt8) : looksQ (l.map low) = looksQ l := by
 unfold looksQ
 rw [isX_low, numD_low, all_low]
 cases l <;> rfl
theorem looks_ways (q : List UInt8) (hq : ∀ c ∈ q, c ≠ 46) (hx : ∀ c ∈ q, c ≠ 88) : (orElse (whole1 rpart) (whole1 rdec) q).isSome = looksQ q := by
 have h1 := part_reads q [] hq hx endy_nil (by simp)
 unfold Reads num1 at h1
 rw [List.append_nil] at h1
 have hw : (whole1 rpart q).isSome = (numD q).isSome := by
  cases hn : numD q with
  | none =>
   rw [hn] at h1
   rcases h1 with h | ⟨ns, c, r, h, _⟩
   ·simp [whole1, h]
   ·simp [whole1, h]
  | some n =>
   rw [hn] at h1
   simp [whole1, h1.1]
 have hd : (whole1 rdec q).isSome = (!q.isEmpty && q.all (dig 10)) := by
  by_cases hne : q = []
  ·subst hne; rfl
  have h2 := dec_reads q [] 46 hq endy_nil hne
  rw [List.append_nil] at h2
  cases ha : q.all (dig 10)
  ·rw [cnt_no ha] at h2
   rcases h2 with h | ⟨ns, c, r, h, _⟩
   ·simp [whole1, h]
   ·simp [whole1, h]
  ·rw [cnt_all ha] at h2
   simp only at h2
   simp [whole1, h2, hne]
 have ho : (orElse (whole1 rpart) (whole1 rdec) q).isSome = ((whole1 rpart q).isSome || (whole1 rdec q).isSome) := by
  unfold orElse
  cases whole1 rpart q <;> simp
 rw [ho, hw, hd]
 unfold looksQ
 cases hX : isX q
 ·cases hn : numD q with
  | none => simp
  | some n =>
   have : (!q.isEmpty && q.all (dig 10)) = true := by
    unfold numD at hn
    rw [hX] at hn
    simp only [Bool.false_eq_true, if_false] at hn
    split at hn
    ·rename_i h8
     obtain ⟨h81, h82⟩ := h8
     cases q with
     | nil => simp at h81
     | cons c q =>
      have hc : c = 48 := by simpa using h82
      subst hc
      unfold cnt at hn
      split at hn
      ·rename_i hall
       simp only [List.drop_succ_cons, List.drop_zero, List.all_eq_true] at hall
       have : dig 10 48 = true := by decide
       simp only [List.isEmpty_cons, Bool.not_false, Bool.true_and, List.all_cons, this, List.all_eq_true]
       intro x hx
       have := hall x hx
       simp [dig] at this ⊢; omega
      ·cases hn
    ·split at hn
     ·cases hn
     ·rename_i hne
      unfold cnt at hn
      split at hn
      ·rename_i hall
       cases q with
       | nil => contradiction
       | cons c q => simpa using hall
      ·cases hn
   simp [this]
 ·cases hn : numD q <;> cases (!q.isEmpty && q.all (dig 10)) <;> rfl

end Go.Proofs.YtcphokaamkalfaaGreatDoor
namespace Go.Proofs.YtcphokaamkalfaaGreatDoor
open Go.RowKit

theorem trimS_P (l : List UInt8) : Lib.trimSuffix l [46] = trimP l := by
 unfold Lib.trimSuffix Lib.hasSuffix trimP
 rcases List.eq_nil_or_concat l with rfl | ⟨r, x, rfl⟩
 ·rfl
 ·rw [List.concat_eq_append]
  have hs : ([46] : List UInt8).isSuffixOf (r ++ [x]) = true ↔ x = 46 := by
   rw [List.isSuffixOf_iff_suffix]
   constructor
   ·rintro ⟨p, hp⟩
    have := congrArg List.getLast? hp
    simpa [eq_comm] using this
   ·rintro rfl; exact ⟨r, rfl⟩
  by_cases hx : x = 46
  ·subst hx
   rw [if_pos (hs.2 rfl), if_pos (by simp)]
   simp
  ·rw [if_neg (fun h => hx (hs.1 h)), if_neg (by simpa using hx)]
theorem lastQ_at (T : ByteArray) : ∃ k : Nat, Lib.lastIndexByte T 46 + 1 = (k : Int) ∧ k ≤ T.size ∧ lastQ (pts 46 T.data.toList) = T.data.toList.drop k ∧ ∀ c ∈ T.data.toList.drop k, c ≠ 46 := by
 have hl := lenB T
 have hget : ∀ j, (hj : j < T.size) → ((T.data[j]!).toNat : Int) = ((T.data.toList[j]'(by omega)).toNat : Int) := by
  intro j hj
  rw [getElem!_pos T.data j hj]; rfl
 rcases Lib.lastIndexByte_spec T 46 with ⟨e, hn⟩ | ⟨i, hi, e, hc, hn⟩
 ·refine ⟨0, by rw [e]; rfl, Nat.zero_le _, ?_, ?_⟩
  ·have : ∀ c ∈ T.data.toList, c ≠ 46 := by
    intro c hc h46
    obtain ⟨j, hj, rfl⟩ := List.mem_iff_getElem.1 hc
    have hj' : j < T.size := by omega
    apply hn j hj'
    rw [hget j hj', h46]; rfl
   rw [pts_none 46 _ this]; rfl
  ·intro c hc h46
   rw [List.drop_zero] at hc
   obtain ⟨j, hj, rfl⟩ := List.mem_iff_getElem.1 hc
   have hj' : j < T.size := by omega
   apply hn j hj'
   rw [hget j hj', h46]; rfl
 ·have hd : ∀ c ∈ T.data.toList.drop (i + 1), c ≠ 46 := by
   intro c hc h46
   obtain ⟨j, hj, rfl⟩ := List.mem_iff_getElem.1 hc
   rw [List.length_drop] at hj
   apply hn (i + 1 + j) (by omega) (by omega)
   rw [hget _ (by omega)]
   rw [List.getElem_drop] at h46
   rw [h46]; rfl
  refine ⟨i + 1, by rw [e]; simp, by omega, ?_, hd⟩
  have hi46 : T.data.toList[i]'(by omega) = 46 := by
   have := hget i hi
   rw [hc] at this
   apply UInt8.toNat_inj.1
   have h2 : ((T.data.toList[i]'(by omega)).toNat : Int) = 46 := this.symm
   show _ = 46
   omega
  have hsplit : T.data.toList = T.data.toList.take i ++ 46 :: T.data.toList.drop (i + 1) := by
   rw [← hi46, ← List.drop_eq_getElem_cons (by omega), List.take_append_drop]
  conv => lhs; rw [hsplit, pts_append, pts_none 46 _ hd]
  simp [lastQ]

def trimB (s : ByteArray) : ByteArray := asB (trimP s.data.toList)
theorem trimB_size (s : ByteArray) : (trimB s).size ≤ s.size := by
 have h : (trimP s.data.toList).length ≤ s.data.toList.length := by
  unfold trimP; split
  ·rw [List.length_dropLast]; omega
  ·exact Nat.le_refl _
 have := lenB s
 show (trimP s.data.toList).toArray.size ≤ _
 rw [List.size_toArray]; omega
def looksF (s : ByteArray) : Bool := looksQ (lastQ (pts 46 (trimP s.data.toList)))

set_option maxRecDepth 100000 in
set_option maxHeartbeats 1000000 in
theorem looksLike_any (s : ByteArray) (w : World) (hs : s.size ≤ 1048600) :
  Calls Tryz.prog 146 #[.string s] w fun e w' => e = .returned (.bool (looksF s)) ∧ Below w.heap.size w w' := by
 obtain ⟨T, HT⟩ : ∃ T, Hid (trimB s = T) := ⟨_, Lib.hid rfl⟩
 have hTs : T.size ≤ 1048600 := by rw [← HT.out]; have := trimB_size s; omega
 have HTr : Hid (∀ w, Calls Tryz.prog 101 #[.string s, .string ⟨#[46]⟩] w fun e w' => e = .returned (.string T) ∧ w = w') := Lib.hid (fun w => (Tryz.strings_TrimSuffix s ⟨#[46]⟩ w (by omega)).mono fun e w' ⟨he, hw⟩ => ⟨by rw [he, ← HT.out, trimB, ← trimS_P]; rfl, hw.symm⟩)
 obtain ⟨k, hk1, hk2, hk3, hk4⟩ := lastQ_at T
 obtain ⟨i, HI⟩ : ∃ i, Hid (Lib.lastIndexByte T 46 = i) := ⟨_, Lib.hid rfl⟩
 rw [HI.out] at hk1
 have HLi : Hid (∀ w, Calls Tryz.prog 81 #[.string T, .string ⟨#[46]⟩] w fun e w' => e = .returned (.int .i64 i) ∧ w = w') := Lib.hid (fun w => (Tryz.strings_LastIndex_one T ⟨#[46]⟩ rfl (by omega) w).mono fun e w' ⟨he, hw⟩ => ⟨by rw [he, ← HI.out]; rfl, hw.symm⟩)
 obtain rfl : i = (k : Int) - 1 := by omega
 obtain ⟨Q, HQ⟩ : ∃ Q, Hid (T.extract k T.size = Q) := ⟨_, Lib.hid rfl⟩
 have hQs : Q.size ≤ 1048600 := by rw [← HQ.out]; simp; omega
 have HQd : Hid (Q.data.toList = T.data.toList.drop k) := Lib.hid (by rw [← HQ.out, ext_asB]; rfl)
 have HLk : Hid ((orElse (whole1 rpart) (whole1 rdec) (lowS Q).data.toList).isSome = looksF s) := Lib.hid (by
  have h1 : looksF s = looksQ Q.data.toList := by
   unfold looksF
   rw [HQd.out, ← hk3, ← HT.out]; rfl
  rw [h1, ← looksQ_low]
  refine looks_ways _ ?_ (sml_88 (lowS_sml Q))
  intro c hc
  have : c ∈ Q.data.toList.map low := hc
  obtain ⟨x, hx, rfl⟩ := List.mem_map.1 this
  rw [HQd.out] at hx
  exact fun e => hk4 x hx ((low_46 x).1 e))
 obtain ⟨oo, HO⟩ : ∃ oo, Hid (orElse (whole1 rpart) (whole1 rdec) (lowS Q).data.toList = oo) := ⟨_, Lib.hid rfl⟩
 rw [HO.out] at HLk
 rw [← HLk.out]
 have hmf := mkfK
 clear hk1 hk3 hk4
 go_enter Tryz.func146, Tryz.ntmps146
 go_wp2_with fail
 refine (HTr.out _).mono ?_
 rintro e w1 ⟨rfl, rfl⟩
 go_wp2_with fail
 refine (HLi.out _).mono ?_
 rintro e w1 ⟨rfl, rfl⟩
 go_wp2_with fail
 rw [HQ.out]
 refine (readerOf_any Q _ (by unfold maxLen; omega)).mono ?_
 rintro e w1 ⟨b, hb, rfl, r1, b1⟩
 have R1 := Lib.hid r1; have B1 := Lib.hid b1
 have hb1 := r1.lt
 clear r1 b1
 go_wp2_with fail
 refine (whole_any _ _ _ rfl rfl ⟨_, rfl⟩ ⟨_, _, _, rfl⟩).mono ?_
 rintro e w2 ⟨rfl, h2⟩
 obtain ⟨p1, p2, z2, b2⟩ := two_new h2
 have P1 := Lib.hid p1; have P2 := Lib.hid p2; have Z2 := Lib.hid z2; have B2 := Lib.hid b2
 clear h2 p1 p2 z2 b2
 go_wp2_with fail
 refine (whole_any _ _ _ rfl rfl ⟨_, rfl⟩ ⟨_, _, _, rfl⟩).mono ?_
 rintro e w3 ⟨rfl, h3⟩
 obtain ⟨p1, p2, z2, b2⟩ := two_new h3
 have Q1 := Lib.hid p1; have Q2 := Lib.hid p2; have Z3 := Lib.hid z2; have B3 := Lib.hid b2
 clear h3 p1 p2 z2 b2
 go_wp2_with fail
 refine (either_any _ _ _ _ _).mono ?_
 rintro e w5 ⟨rfl, h5⟩
 obtain ⟨p1, p2, z2, b2⟩ := two_new h5
 have hx := (b2.block w3.heap.size (by simp)).trans (heap_alloc_new w3 _)
 have E1 := Lib.hid p1; have E2 := Lib.hid p2; have Z5 := Lib.hid z2; have HX := Lib.hid hx
 have K35 : Hid (Below w3.heap.size w3 w5) := Lib.hid (((Below.refl _ _).alloc (Nat.le_refl _) _).trans (b2.mono (by simp)))
 clear h5 p1 p2 z2 b2 hx
 have HZ : Hid ((w3.alloc (.cells #[.func (.func 190) #[] #[.pointer (some ⟨w1.heap.size + 1, 0, none⟩), .pointer (some ⟨w1.heap.size, 0, none⟩)], .func (.func 190) #[] #[.pointer (some ⟨w2.heap.size + 1, 0, none⟩), .pointer (some ⟨w2.heap.size, 0, none⟩)]] 110)).heap.size = w3.heap.size + 1) := Lib.hid (by simp)
 rw [HZ.out] at E1 E2 Z5
 rw [HZ.out]
 have k23 : Kp (Only b) w2 w3 := Kp.of_below B3.out
 have k35 : Kp (Only b) w3 w5 := Kp.of_below K35.out
 have hW1 : Way b _ _ _ (whole1 rpart) w5 := (way_whole P2.out P1.out (by omega) (by omega) (way_part b w2)).later (k23.trans k35)
 have hW2 : Way b _ _ _ (whole1 rdec) w5 := (way_whole Q2.out Q1.out (by have := Z2.out; omega) (by have := Z2.out; omega) (way_decimal b w3)).later k35
 have hW := way_either E1.out E2.out HX.out (by have := Z2.out; have := Z3.out; omega) (by have := Z2.out; have := Z3.out; omega) (by have := Z2.out; have := Z3.out; omega) hW1 hW2
 have hR5 : Rd w5 b (lowS Q) := ((R1.out.kept (Kp.of_below (X := fun _ => False) B2.out) id).kept (Kp.of_below (X := fun _ => False) B3.out) id).kept (Kp.of_below (X := fun _ => False) K35.out) id
 have HGo := Lib.hid (hW.go w5 (lowS Q) (Kp.refl _ _) hR5 (by rw [lowS_size]; exact hQs) (lowS_sml Q))
 have hent := hW.ent
 have BB : Hid (Below w.heap.size w w5) := Lib.hid (by
  have hz := B1.out.size
  exact B1.out.trans ((B2.out.mono hz).trans ((B3.out.mono (by have := Z2.out; omega)).trans (K35.out.mono (by have := Z2.out; have := Z3.out; omega)))))
 have hbw : w.heap.size ≤ b := hb
 clear k23 k35 hW1 hW2 hW hR5
 rw [HO.out] at HGo
 go_wp2_with fail
 refine HGo.out.mono ?_
 rintro e w6 h6
 obtain ⟨v, r, a1, a2, a3, a4⟩ := h6
 have K6 : Hid (Below w.heap.size w w6) := Lib.hid (BB.out.trans (a2.below (by have := BB.out.size; omega) (fun k hk => by rw [show k = b from hk]; exact hbw)))
 cases oo with
 | none =>
  obtain rfl := a4 rfl
  clear a1 a2 a3 a4
  go_wp2
  go_ret
  exact ⟨rfl, K6.out⟩
 | some x =>
  obtain ⟨ns, u⟩ := x
  obtain ⟨rfl, _, _⟩ := a3 ns u rfl
  clear a1 a2 a3 a4
  go_wp2
  go_ret
  exact ⟨rfl, K6.out⟩

end Go.Proofs.YtcphokaamkalfaaGreatDoor
namespace Go.Proofs.YtcphokaamkalfaaGreatDoor
open Go.RowKit

set_option maxRecDepth 100000 in
set_option maxHeartbeats 1000000 in
theorem put_any (g o k cap n : Nat) (C : Array Value) (t : TypeId) (w : World) (hg : w.heap[g]? = some (.cells C t (0, 0))) (hk : o + k ≤ C.size) (hC : C.size ≤ 100) (hn : n ≤ 4294967296) :
  Calls Tryz.prog 137 #[.slice (some ⟨g, o, none⟩) k cap, .int .i64 (n : Int)] w fun e w' => e = .returned (.tuple #[]) ∧ Kp (Only g) w w' ∧ ∃ D, w'.heap[g]? = some (.cells D t (0, 0)) ∧ D.size = C.size ∧ (∀ j, ¬ (o ≤ j ∧ j < o + k) → D[j]? = C[j]?) ∧ (∀ j, j < k → D[o + k - 1 - j]? = some (byteN n j)) := by
 have Hg := Lib.hid hg
 clear hg
 go_enter Tryz.func137, Tryz.ntmps137
 go_wp2
 go_loopw [1, 4, 7] (fun x _ i wr => ∃ (j : Nat) (D : Array Value), j ≤ k ∧ i = .int .i64 j ∧ x = .int .i64 ((n / 256 ^ j : Nat) : Int) ∧ Hid (Kp (Only g) w wr) ∧ Hid (wr.heap[g]? = some (.cells D t (0, 0))) ∧ D.size = C.size ∧ Hid (∀ i, ¬ (o ≤ i ∧ i < o + k) → D[i]? = C[i]?) ∧ Hid (∀ i, i < j → D[o + k - 1 - i]? = some (byteN n i))) (fun _ _ i _ => k - (intOf i).toNat)
 case atStart => exact ⟨0, C, Nat.zero_le _, rfl, by simp, Lib.hid (Kp.refl _ _), Hg, rfl, Lib.hid (fun _ _ => rfl), Lib.hid (fun i h => absurd h (Nat.not_lt_zero _))⟩
 case round =>
  obtain ⟨j, D, hj, rfl, rfl, HK, HG, hD, H1, H2⟩ := hrel
  by_cases hlt : j < k
  ·have hc := frozen_of_row wr g (o + (k - 1 - j)) D _ HG.out
   obtain ⟨v, hv⟩ : ∃ v, D[o + (k - 1 - j)]? = some v := ⟨_, Array.getElem?_eq_getElem (by omega)⟩
   have hcl : wr.cell? ⟨g, o + (k - 1 - j), none⟩ = some v := (cell_of_row wr g _ D _ _ HG.out).trans hv
   obtain ⟨m, HM⟩ : ∃ m, Hid (n / 256 ^ j = m) := ⟨_, Lib.hid rfl⟩
   have hm : m ≤ 4294967296 := by rw [← HM.out]; exact Nat.le_trans (Nat.div_le_self _ _) hn
   have HG2 := Lib.hid (heap_setCell_same wr g (o + (k - 1 - j)) D _ (.int .u8 ((m : Int) % 256)) HG.out)
   rw [HM.out]
   clear hv
   go_wp2
   refine ⟨⟨j + 1, D.setIfInBounds (o + (k - 1 - j)) (.int .u8 ((m : Int) % 256)), by omega, by go_num, ?_, Lib.hid (HK.out.setCell (X := Only g) (p := ⟨g, o + (k - 1 - j), none⟩) rfl _), HG2, by simpa using hD, Lib.hid ?_, Lib.hid ?_⟩, by simp [intOf]; omega⟩
   ·rw [Nat.pow_succ, ← Nat.div_div_eq_div_mul, HM.out]
    congr 1
   ·intro i hi
    rw [Array.getElem?_setIfInBounds, if_neg (by omega)]
    exact H1.out i hi
   ·intro i hi
    rw [Array.getElem?_setIfInBounds]
    by_cases e : i = j
    ·subst e
     rw [if_pos (by omega), if_pos (by omega), byteN, HM.out]
     rfl
    ·rw [if_neg (by omega)]
     exact H2.out i (by omega)
  ·obtain rfl : j = k := by omega
   go_wp2
   go_end0
   exact ⟨rfl, HK.out, D, HG.out, hD, H1.out, H2.out⟩

end Go.Proofs.YtcphokaamkalfaaGreatDoor
namespace Go.Proofs.YtcphokaamkalfaaGreatDoor
open Go.RowKit

/-- Behind k of the numbers. -/
def StF (ns : List Nat) (k : Nat) (D : Array Value) : Prop := (k < ns.length → (∀ x ∈ ns.take k, x < 256) ∧ D = cellsA false (ns.take k ++ List.replicate (16 - k) 0)) ∧ (k = ns.length → ∃ bs, lay4 4 ns = some bs ∧ D = cellsA false (bs ++ List.replicate 12 0))
def FourPost (ns : List Nat) (w : World) (e : Ending) (w' : World) : Prop := Below w.heap.size w w' ∧ (∀ bs, lay4 4 ns = some bs → e = .returned (.tuple #[.agg (cellsA false (bs ++ List.replicate 12 0)), .bool true])) ∧ (lay4 4 ns = none → e = .returned (.tuple #[.agg zeroA, .bool false]))

theorem sliceA (g k e : Nat) (h1 : k ≤ e) (h2 : e ≤ 16) (h3 : k < 16) (w : World) : (Instr.sliceAt 52 (.pointer (some ⟨g, 1, none⟩)) (some (.int .i64 (k : Int))) (some (.int .i64 (e : Int))) none).run Tryz.prog w = .ok (.slice (some ⟨g, 1 + k, none⟩) (e - k) (16 - k)) w := by
 have hl : Tryz.prog.arrayLen 52 = 16 := by kernel_rfl
 have he : Tryz.prog.elem 52 = 5 := by kernel_rfl
 have h := run_sliceAt_array_lh (P := Tryz.prog) w 52 ⟨g, 1, none⟩ (by rw [hl, he]; exact Tryz.underlying52) .i64 .i64 (k : Int) (e : Int) (by omega) (by omega) (by rw [hl]; omega)
 rw [h, he, hl]
 have hs : (sizeOf 5).run Tryz.prog w = .ok 1 w := by go_simp
 rw [hs]
 show Result.ok (slicedAt ⟨g, 1, none⟩ (k : Int).toNat (e : Int).toNat 16 1) w = _
 unfold slicedAt
 rw [Int.toNat_natCast, Int.toNat_natCast, if_neg (by omega), Nat.mul_one, Addr.add_lit]

theorem stF_last {ns : List Nat} {k m : Nat} {D1 : Array Value} (hl : k + 1 = ns.length) (_hpre : ∀ x ∈ ns.take k, x < 256) (_hlt : k < ns.length) (s1 : D1.size = (cellsA false (ns.take k ++ List.replicate (16 - k) 0)).size)
  (u1 : ∀ j, ¬ (1 + k ≤ j ∧ j < 1 + k + (4 - k)) → D1[j]? = (cellsA false (ns.take k ++ List.replicate (16 - k) 0))[j]?) (u2 : ∀ j, j < 4 - k → D1[1 + k + (4 - k) - 1 - j]? = some (byteN m j))
  (hy : lay4 4 ns = some (ns.take k ++ be (4 - k) m)) (h4 : ns.length ≤ 4) : StF ns (k + 1) D1 := by
 have hlen : (ns.take k ++ List.replicate (16 - k) 0).length = 16 := by simp; omega
 have := put_cells (six := false) (A := ns.take k ++ List.replicate (16 - k) 0) (k := k) (len := 4 - k) (n := m) (by rw [hlen]; omega) s1 u1 u2
 refine ⟨fun h => absurd h (by rw [← hl]; exact Nat.lt_irrefl _), fun _ => ⟨_, hy, ?_⟩⟩
 rw [this]
 congr 1
 have e1 : (ns.take k ++ List.replicate (16 - k) 0).take k = ns.take k := by rw [List.take_append_of_le_length (by simp; omega), List.take_take, Nat.min_self]
 have e2 : (ns.take k ++ List.replicate (16 - k) 0).drop (k + (4 - k)) = List.replicate 12 0 := by
  rw [show k + (4 - k) = 4 by omega, List.drop_append, List.drop_of_length_le (by rw [List.length_take]; omega), List.nil_append, List.length_take, show min k ns.length = k by omega, List.drop_replicate]
  congr 1; omega
 rw [e1, e2]

set_option maxRecDepth 100000 in
set_option maxHeartbeats 2000000 in
theorem fourOf_any (base : Nat) (v : Value) (ns : List Nat) (w : World) (hown : w.ownsRow base 3 1 v ns.length (ns.map k_iv)) (h4 : ns.length ≤ 4) (hle : ∀ n ∈ ns, n ≤ 4294967296) :
  Calls Tryz.prog 148 #[v] w (FourPost ns w) := by
 obtain ⟨hz, hi⟩ := zero_of_info infoA
 have HI := Lib.hid hi; clear hi
 obtain ⟨a, cap, rfl, _⟩ := slice_own hown
 have HOwn := Lib.hid hown
 have HLe := Lib.hid hle
 clear hown hle
 go_enter Tryz.func148, Tryz.ntmps148
 go_wp2
 have hr0 : ((w.alloc (.cells zeroA 54)).alloc (.cells zeroA 54)).heap[w.heap.size]? = some (.cells zeroA 54 (0, 0)) := by
  rw [Below.heap_alloc _ _ _ (by simp)]; exact heap_alloc_new w _
 have hg0 : ((w.alloc (.cells zeroA 54)).alloc (.cells zeroA 54)).heap[w.heap.size + 1]? = some (.cells zeroA 54 (0, 0)) := by
  have := heap_alloc_new (w.alloc (.cells zeroA 54)) (.cells zeroA 54)
  simpa using this
 have HR0 := Lib.hid hr0; have HG0 := Lib.hid hg0
 clear hr0 hg0
 go_loopw [5, 6, 7, 8, 11] (fun _ _ _ _ i wr => ∃ (k : Nat) (D : Array Value), k ≤ ns.length ∧ i = .int .i64 k ∧ Hid (StF ns k D) ∧ Hid (wr.heap[w.heap.size + 1]? = some (.cells D 54 (0, 0))) ∧ Hid (wr.heap[w.heap.size]? = some (.cells zeroA 54 (0, 0))) ∧ Hid (Below w.heap.size w wr)) (fun _ _ _ _ i _ => ns.length - (intOf i).toNat)
 case atStart =>
  refine ⟨0, zeroA, Nat.zero_le _, rfl, Lib.hid ⟨fun _ => ⟨by simp, rfl⟩, fun h => ?_⟩, HG0, HR0, Lib.hid (((Below.refl _ _).alloc (Nat.le_refl _) _).alloc (by simp) _)⟩
  have : ns = [] := List.eq_nil_of_length_eq_zero h.symm
  subst this
  exact ⟨List.replicate 4 0, rfl, rfl⟩
 case round =>
  obtain ⟨k, D, hk, rfl, HS, HG, HR, HB⟩ := hrel
  by_cases hlt : k < ns.length
  ·obtain ⟨m, HM⟩ : ∃ m, Hid (ns[k] = m) := ⟨_, Lib.hid rfl⟩
   have hm : m ≤ 4294967296 := by rw [← HM.out]; exact HLe.out _ (List.getElem_mem _)
   obtain ⟨ga, rfl, hcell⟩ : ∃ ga, a = some ⟨ga, 0, none⟩ ∧ wr.cell? ⟨ga, k, none⟩ = some (.int .i64 (m : Int)) := by
    rcases HOwn.out.2 with ⟨h1, h0⟩ | ⟨ga, cap', cur, h1, h2, h3, h5⟩
    ·omega
    ·injection h1 with h1 _ h6
     subst h1; subst h6
     refine ⟨ga, rfl, ?_⟩
     rw [HB.out.cell (p := ⟨ga, k, none⟩) (lt_of_block h3), HOwn.out.cellAt k (by omega), List.getElem?_map, List.getElem?_eq_getElem hlt, HM.out]; rfl
   have hzs : zeroA.size = 17 := zeroA_size
   have HIz : Hid ((Tryz.prog.info? 54).map (·.size) = some zeroA.size) := Lib.hid (by rw [HI.out, zeroA_size])
   obtain ⟨hpre, hD⟩ := HS.out.1 hlt
   have HPre := Lib.hid hpre
   have HD := Lib.hid hD
   have HDs : Hid (D.size = 17) := Lib.hid (by rw [hD, cellsA_size]; simp; omega)
   have HT : Hid (ns = ns.take k ++ ns[k] :: ns.drop (k + 1)) := Lib.hid (by rw [← List.drop_eq_getElem_cons hlt, List.take_append_drop])
   clear hpre hD
   by_cases hl : k + 1 = ns.length
   ·have hlI : (((k : Int) + 1) == (ns.length : Int)) = true := by simp; omega
    have hns : ns = ns.take k ++ [m] := by
     have := HT.out
     rw [List.drop_of_length_le (by omega), HM.out] at this; exact this
    have HLay : Hid ((m < 256 ^ (4 - k) → lay4 4 ns = some (ns.take k ++ be (4 - k) m)) ∧ (¬ m < 256 ^ (4 - k) → lay4 4 ns = none)) := Lib.hid (by
     have := lay4_pre (ns.take k) 4 m HPre.out
     rw [← hns] at this
     have e : (ns.take k).length = k := by rw [List.length_take]; omega
     rw [e] at this
     exact ⟨fun h => by rw [this, if_pos h], fun h => by rw [this, if_neg h]⟩)
    clear hns
    have HL := Lib.hid hl
    clear hl
    obtain rfl | rfl | rfl | rfl : k = 0 ∨ k = 1 ∨ k = 2 ∨ k = 3 := by omega
    ·have hsl : ∀ w', (Instr.sliceAt 52 (.pointer (some ⟨w.heap.size + 1, 1, none⟩)) (some (.int .i64 0)) (some (.int .i64 4)) none).run Tryz.prog w' = .ok (.slice (some ⟨w.heap.size + 1, 1, none⟩) 4 16) w' := sliceA (w.heap.size + 1) 0 4 (by omega) (by omega) (by omega)
     have HPut := Lib.hid (put_any (w.heap.size + 1) 1 4 16 m D _ wr HG.out (by rw [HDs.out]; omega) (by rw [HDs.out]; omega) hm)
     by_cases h256 : m < 4294967296
     ·have hd : ((m : Int) / 4294967296 != 0) = false := by simp; omega
      have HYes := HLay.out.1 h256
      go_wp2_with fail
      refine HPut.out.mono ?_
      rintro e w1 ⟨rfl, k1, D1, g1, s1, u1, u2⟩
      have HG1 := Lib.hid g1
      have HR1 : Hid (w1.heap[w.heap.size]? = some (.cells zeroA 54 (0, 0))) := Lib.hid (k1.at HR.out (by simp [Only]))
      have HB1 : Hid (Below w.heap.size w w1) := Lib.hid (HB.out.trans (k1.below (by have := HB.out.size; omega) (fun q hq => by rw [show q = w.heap.size + 1 from hq]; omega)))
      have HS1 : Hid (StF ns (0 + 1) D1) := Lib.hid (by
       rw [HD.out] at s1 u1
       exact stF_last HL.out HPre.out hlt s1 u1 u2 HYes h4)
      clear k1 g1 s1 u1 u2
      go_wp2
      go_roundw
      case rel => exact ⟨0 + 1, D1, by omega, by go_num, HS1, HG1, HR1, HB1⟩
      case measure => simp [intOf]; omega
     ·have hd : ((m : Int) / 4294967296 != 0) = true := by simp; omega
      have HNo := Lib.hid (HLay.out.2 h256)
      go_wp2_with (refine wpL_store_row rfl _ _ _ rfl w.heap.size zeroA rfl rfl _ zeroA HR.out HIz.out rfl zeroA_one ?_)
      refine bodyPost_ret (v := .tuple #[.agg zeroA, .bool false]) (results_row2 Tryz.results148 _ _ w.heap.size _ zeroA (0, 0) _ rfl (setRow_heap _ _ zeroA zeroA _ _ HR.out) Tryz.underlying54 rfl HIz.out) rfl ⟨?_, ?_, ?_⟩
      ·exact below_setRow HB.out (Nat.le_refl _) _
      ·intro bs hbs; rw [HNo.out] at hbs; cases hbs
      ·intro _; rfl
    ·have hsl : ∀ w', (Instr.sliceAt 52 (.pointer (some ⟨w.heap.size + 1, 1, none⟩)) (some (.int .i64 1)) (some (.int .i64 4)) none).run Tryz.prog w' = .ok (.slice (some ⟨w.heap.size + 1, 2, none⟩) 3 15) w' := sliceA (w.heap.size + 1) 1 4 (by omega) (by omega) (by omega)
     have HPut := Lib.hid (put_any (w.heap.size + 1) 2 3 15 m D _ wr HG.out (by rw [HDs.out]; omega) (by rw [HDs.out]; omega) hm)
     by_cases h256 : m < 16777216
     ·have hd : ((m : Int) / 16777216 != 0) = false := by simp; omega
      have HYes := HLay.out.1 h256
      go_wp2_with fail
      refine HPut.out.mono ?_
      rintro e w1 ⟨rfl, k1, D1, g1, s1, u1, u2⟩
      have HG1 := Lib.hid g1
      have HR1 : Hid (w1.heap[w.heap.size]? = some (.cells zeroA 54 (0, 0))) := Lib.hid (k1.at HR.out (by simp [Only]))
      have HB1 : Hid (Below w.heap.size w w1) := Lib.hid (HB.out.trans (k1.below (by have := HB.out.size; omega) (fun q hq => by rw [show q = w.heap.size + 1 from hq]; omega)))
      have HS1 : Hid (StF ns (1 + 1) D1) := Lib.hid (by
       rw [HD.out] at s1 u1
       exact stF_last HL.out HPre.out hlt s1 u1 u2 HYes h4)
      clear k1 g1 s1 u1 u2
      go_wp2
      go_roundw
      case rel => exact ⟨1 + 1, D1, by omega, by go_num, HS1, HG1, HR1, HB1⟩
      case measure => simp [intOf]; omega
     ·have hd : ((m : Int) / 16777216 != 0) = true := by simp; omega
      have HNo := Lib.hid (HLay.out.2 h256)
      go_wp2_with (refine wpL_store_row rfl _ _ _ rfl w.heap.size zeroA rfl rfl _ zeroA HR.out HIz.out rfl zeroA_one ?_)
      refine bodyPost_ret (v := .tuple #[.agg zeroA, .bool false]) (results_row2 Tryz.results148 _ _ w.heap.size _ zeroA (0, 0) _ rfl (setRow_heap _ _ zeroA zeroA _ _ HR.out) Tryz.underlying54 rfl HIz.out) rfl ⟨?_, ?_, ?_⟩
      ·exact below_setRow HB.out (Nat.le_refl _) _
      ·intro bs hbs; rw [HNo.out] at hbs; cases hbs
      ·intro _; rfl
    ·have hsl : ∀ w', (Instr.sliceAt 52 (.pointer (some ⟨w.heap.size + 1, 1, none⟩)) (some (.int .i64 2)) (some (.int .i64 4)) none).run Tryz.prog w' = .ok (.slice (some ⟨w.heap.size + 1, 3, none⟩) 2 14) w' := sliceA (w.heap.size + 1) 2 4 (by omega) (by omega) (by omega)
     have HPut := Lib.hid (put_any (w.heap.size + 1) 3 2 14 m D _ wr HG.out (by rw [HDs.out]; omega) (by rw [HDs.out]; omega) hm)
     by_cases h256 : m < 65536
     ·have hd : ((m : Int) / 65536 != 0) = false := by simp; omega
      have HYes := HLay.out.1 h256
      go_wp2_with fail
      refine HPut.out.mono ?_
      rintro e w1 ⟨rfl, k1, D1, g1, s1, u1, u2⟩
      have HG1 := Lib.hid g1
      have HR1 : Hid (w1.heap[w.heap.size]? = some (.cells zeroA 54 (0, 0))) := Lib.hid (k1.at HR.out (by simp [Only]))
      have HB1 : Hid (Below w.heap.size w w1) := Lib.hid (HB.out.trans (k1.below (by have := HB.out.size; omega) (fun q hq => by rw [show q = w.heap.size + 1 from hq]; omega)))
      have HS1 : Hid (StF ns (2 + 1) D1) := Lib.hid (by
       rw [HD.out] at s1 u1
       exact stF_last HL.out HPre.out hlt s1 u1 u2 HYes h4)
      clear k1 g1 s1 u1 u2
      go_wp2
      go_roundw
      case rel => exact ⟨2 + 1, D1, by omega, by go_num, HS1, HG1, HR1, HB1⟩
      case measure => simp [intOf]; omega
     ·have hd : ((m : Int) / 65536 != 0) = true := by simp; omega
      have HNo := Lib.hid (HLay.out.2 h256)
      go_wp2_with (refine wpL_store_row rfl _ _ _ rfl w.heap.size zeroA rfl rfl _ zeroA HR.out HIz.out rfl zeroA_one ?_)
      refine bodyPost_ret (v := .tuple #[.agg zeroA, .bool false]) (results_row2 Tryz.results148 _ _ w.heap.size _ zeroA (0, 0) _ rfl (setRow_heap _ _ zeroA zeroA _ _ HR.out) Tryz.underlying54 rfl HIz.out) rfl ⟨?_, ?_, ?_⟩
      ·exact below_setRow HB.out (Nat.le_refl _) _
      ·intro bs hbs; rw [HNo.out] at hbs; cases hbs
      ·intro _; rfl
    ·have hsl : ∀ w', (Instr.sliceAt 52 (.pointer (some ⟨w.heap.size + 1, 1, none⟩)) (some (.int .i64 3)) (some (.int .i64 4)) none).run Tryz.prog w' = .ok (.slice (some ⟨w.heap.size + 1, 4, none⟩) 1 13) w' := sliceA (w.heap.size + 1) 3 4 (by omega) (by omega) (by omega)
     have HPut := Lib.hid (put_any (w.heap.size + 1) 4 1 13 m D _ wr HG.out (by rw [HDs.out]; omega) (by rw [HDs.out]; omega) hm)
     by_cases h256 : m < 256
     ·have hd : ((m : Int) / 256 != 0) = false := by simp; omega
      have HYes := HLay.out.1 h256
      go_wp2_with fail
      refine HPut.out.mono ?_
      rintro e w1 ⟨rfl, k1, D1, g1, s1, u1, u2⟩
      have HG1 := Lib.hid g1
      have HR1 : Hid (w1.heap[w.heap.size]? = some (.cells zeroA 54 (0, 0))) := Lib.hid (k1.at HR.out (by simp [Only]))
      have HB1 : Hid (Below w.heap.size w w1) := Lib.hid (HB.out.trans (k1.below (by have := HB.out.size; omega) (fun q hq => by rw [show q = w.heap.size + 1 from hq]; omega)))
      have HS1 : Hid (StF ns (3 + 1) D1) := Lib.hid (by
       rw [HD.out] at s1 u1
       exact stF_last HL.out HPre.out hlt s1 u1 u2 HYes h4)
      clear k1 g1 s1 u1 u2
      go_wp2
      go_roundw
      case rel => exact ⟨3 + 1, D1, by omega, by go_num, HS1, HG1, HR1, HB1⟩
      case measure => simp [intOf]; omega
     ·have hd : ((m : Int) / 256 != 0) = true := by simp; omega
      have HNo := Lib.hid (HLay.out.2 h256)
      go_wp2_with (refine wpL_store_row rfl _ _ _ rfl w.heap.size zeroA rfl rfl _ zeroA HR.out HIz.out rfl zeroA_one ?_)
      refine bodyPost_ret (v := .tuple #[.agg zeroA, .bool false]) (results_row2 Tryz.results148 _ _ w.heap.size _ zeroA (0, 0) _ rfl (setRow_heap _ _ zeroA zeroA _ _ HR.out) Tryz.underlying54 rfl HIz.out) rfl ⟨?_, ?_, ?_⟩
      ·exact below_setRow HB.out (Nat.le_refl _) _
      ·intro bs hbs; rw [HNo.out] at hbs; cases hbs
      ·intro _; rfl
   ·have hl' : k + 1 < ns.length := by omega
    have hlI : (((k : Int) + 1) == (ns.length : Int)) = false := beq_eq_false_iff_ne.2 (by omega)
    clear hl
    have hsl := sliceA (w.heap.size + 1) k (k + 1) (by omega) (by omega) (by omega)
    simp only [Int.natCast_add, Int.natCast_one, show k + 1 - k = 1 by omega] at hsl
    by_cases h256 : m < 256
    ·have hd : ((m : Int) / 256 != 0) = false := by simp; omega
     go_wp2_with fail
     refine (put_any (w.heap.size + 1) (1 + k) 1 (16 - k) m D _ wr HG.out (by rw [HDs.out]; omega) (by rw [HDs.out]; omega) hm).mono ?_
     rintro e w1 ⟨rfl, k1, D1, g1, s1, u1, u2⟩
     have HG1 := Lib.hid g1
     have HR1 : Hid (w1.heap[w.heap.size]? = some (.cells zeroA 54 (0, 0))) := Lib.hid (k1.at HR.out (by simp [Only]))
     have HB1 : Hid (Below w.heap.size w w1) := Lib.hid (HB.out.trans (k1.below (by have := HB.out.size; omega) (fun q hq => by rw [show q = w.heap.size + 1 from hq]; omega)))
     have HS1 : Hid (StF ns (k + 1) D1) := Lib.hid (by
      rw [HD.out] at s1 u1
      have hlen : (ns.take k ++ List.replicate (16 - k) 0).length = 16 := by simp; omega
      have := put_cells (six := false) (A := ns.take k ++ List.replicate (16 - k) 0) (k := k) (len := 1) (n := m) (by rw [hlen]; omega) s1 u1 u2
      refine ⟨fun _ => ⟨?_, ?_⟩, fun h => by omega⟩
      ·intro x hx
       rw [List.take_succ_eq_append_getElem hlt] at hx
       rcases List.mem_append.1 hx with hx | hx
       ·exact HPre.out x hx
       ·rw [List.mem_singleton.1 hx, HM.out]; exact h256
      ·rw [this]
       congr 1
       rw [List.take_succ_eq_append_getElem hlt, HM.out]
       have e1 : (ns.take k ++ List.replicate (16 - k) 0).take k = ns.take k := by rw [List.take_append_of_le_length (by simp; omega), List.take_take, Nat.min_self]
       have e2 : (ns.take k ++ List.replicate (16 - k) 0).drop (k + 1) = List.replicate (16 - (k + 1)) 0 := by
        rw [List.drop_append, List.drop_of_length_le (by rw [List.length_take]; omega)]
        simp; omega
       rw [e1, e2]
       simp [be]; omega)
     clear k1 g1 s1 u1 u2
     go_wp2
     go_roundw
     case rel => exact ⟨k + 1, D1, by omega, by go_num, HS1, HG1, HR1, HB1⟩
     case measure => simp [intOf]; omega
    ·have hd : ((m : Int) / 256 != 0) = true := by simp; omega
     have HNo : Hid (lay4 4 ns = none) := Lib.hid (by
      rw [HT.out]
      obtain ⟨y, rest, hy⟩ : ∃ y rest, ns.drop (k + 1) = y :: rest := by
       cases h : ns.drop (k + 1) with
       | nil => have := congrArg List.length h; rw [List.length_drop] at this; simp at this; omega
       | cons y r => exact ⟨y, r, rfl⟩
      rw [hy]
      exact lay4_bad _ _ _ _ _ HPre.out (by rw [HM.out]; omega))
     go_wp2_with (refine wpL_store_row rfl _ _ _ rfl w.heap.size zeroA rfl rfl _ zeroA HR.out HIz.out rfl zeroA_one ?_)
     refine bodyPost_ret (v := .tuple #[.agg zeroA, .bool false]) (results_row2 Tryz.results148 _ _ w.heap.size _ zeroA (0, 0) _ rfl (setRow_heap _ _ zeroA zeroA _ _ HR.out) Tryz.underlying54 rfl HIz.out) rfl ⟨?_, ?_, ?_⟩
     ·exact below_setRow HB.out (Nat.le_refl _) _
     ·intro bs hbs; rw [HNo.out] at hbs; cases hbs
     ·intro _; rfl
  ·obtain rfl : k = ns.length := by omega
   obtain ⟨bs, hbs, hD⟩ := HS.out.2 rfl
   have HBs := Lib.hid hbs
   have HD := Lib.hid hD
   have hln := (lay4_len ns 4 bs h4 hbs).1
   have HDz : Hid (D.size = 17) := Lib.hid (by rw [hD, cellsA_size]; simp; omega)
   have HOne : Hid (D.all (·.oneCell') = true) := Lib.hid (by rw [hD]; exact cellsA_one _ _)
   have HIz : Hid ((Tryz.prog.info? 54).map (·.size) = some D.size) := Lib.hid (by rw [HI.out, HDz.out])
   have HZD : Hid (zeroA.size = D.size) := Lib.hid (by rw [HDz.out, zeroA_size])
   clear hbs hD hln
   go_wp2_with (first | refine wpList_load_row rfl 54 _ rfl (w.heap.size + 1) rfl 54 D (0, 0) _ HG.out Tryz.underlying54 rfl HIz.out ?_ | refine wpL_store_row rfl _ _ _ rfl w.heap.size D rfl rfl _ zeroA HR.out HIz.out HZD.out HOne.out ?_)
   refine bodyPost_ret (v := .tuple #[.agg D, .bool true]) (results_row2 Tryz.results148 _ _ w.heap.size _ D (0, 0) _ rfl (setRow_heap _ _ zeroA D _ _ HR.out) Tryz.underlying54 rfl HIz.out) rfl ⟨?_, ?_, ?_⟩
   ·exact below_setRow HB.out (Nat.le_refl _) _
   ·intro bs' hbs; rw [HBs.out] at hbs; injection hbs with hbs; subst hbs; rw [← HD.out]
   ·intro h; rw [HBs.out] at h; cases h

end Go.Proofs.YtcphokaamkalfaaGreatDoor
namespace Go.Proofs.YtcphokaamkalfaaGreatDoor
open Go.RowKit

theorem trimP_low (l : List UInt8) : trimP (l.map low) = (trimP l).map low := by
 unfold trimP
 have h : (l.map low).getLast? = some 46 ↔ l.getLast? = some 46 := by
  rw [List.getLast?_map]
  cases l.getLast? with
  | none => simp
  | some c => simp [low_46]
 by_cases h1 : l.getLast? = some 46
 ·rw [if_pos h1, if_pos (h.2 h1), List.map_dropLast]
 ·rw [if_neg h1, if_neg (fun e => h1 (h.1 e))]
theorem lastQ_low (P : List (List UInt8)) : lastQ (P.map (List.map low)) = (lastQ P).map low := by
 unfold lastQ
 rw [List.getLast?_map]
 cases P.getLast? <;> rfl
theorem evs_low : ∀ P : List (List UInt8), evs num1 num1 (P.map (List.map low)) = evs num1 num1 P
 | [] => rfl
 | [q] => by
  show num1 (q.map low) = num1 q
  unfold num1; rw [numD_low]
 | q :: p :: P => by
  rw [List.map_cons, evs_cons _ _ _ (by simp), evs_cons _ _ _ (by simp), evs_low (p :: P)]
  unfold num1; rw [numD_low]
theorem fourD_low (l : List UInt8) : fourD (l.map low) = fourD l := by
 unfold fourD
 rw [trimP_low, pts_low 46 low_46, lastQ_low, looksQ_low, List.length_map, evs_low]
theorem fourD_fst (s : ByteArray) : (fourD s.data.toList).1 = looksF s := by
 unfold fourD looksF
 split <;> simp_all

theorem row_len {o : List UInt8 → Option (List Nat × List UInt8)} {sep : UInt8} {most : Nat} : ∀ (f : Nat) (out : List Nat) (l : List UInt8), out.length ≤ most → (rowG o sep most f out l).1.length ≤ most
 | 0, _, _, h => h
 | f + 1, out, l, h => by
  rw [rowG]
  split
  ·exact h
  ·split
   ·exact h
   ·split
    ·exact h
    ·exact row_len f _ _ (by rw [List.length_append]; omega)
theorem row_le {o : List UInt8 → Option (List Nat × List UInt8)} {sep : UInt8} {most B : Nat} (ho : ∀ l ns u, o l = some (ns, u) → ∀ n ∈ ns, n ≤ B) : ∀ (f : Nat) (out : List Nat) (l : List UInt8), (∀ n ∈ out, n ≤ B) → ∀ n ∈ (rowG o sep most f out l).1, n ≤ B
 | 0, _, _, h => h
 | f + 1, out, l, h => by
  rw [rowG]
  split
  ·exact h
  ·split
   ·exact h
   ·rename_i ns r h2
    split
    ·exact h
    ·exact row_le ho f _ _ fun n hn => by
      rcases List.mem_append.1 hn with hn | hn
      ·exact h n hn
      ·exact ho _ _ _ h2 n hn
theorem rpart_le : ∀ l ns u, rpart l = some (ns, u) → ∀ n ∈ ns, n ≤ 4294967296 := by
 intro l ns u h n hn
 unfold rpart at h
 split at h
 ·injection h with h; injection h with h1 h2; subst h1
  rw [List.mem_singleton.1 hn]; exact fol_le _ _
 ·split at h
  ·injection h with h; injection h with h1 h2; subst h1
   rw [List.mem_singleton.1 hn]; exact fol_le _ _
  ·unfold rdec at h
   split at h
   ·cases h
   ·injection h with h; injection h with h1 h2; subst h1
    rw [List.mem_singleton.1 hn]; exact fol_le _ _
theorem trim46 (r : List UInt8) : Lib.trimPrefix r [46] = [] ↔ (r = [] ∨ r = [46]) := by
 unfold Lib.trimPrefix Lib.hasPrefix
 cases r with
 | nil => simp [List.isPrefixOf]
 | cons c r =>
  by_cases hc : c = 46
  ·subst hc; simp [List.isPrefixOf]
  ·simp [List.isPrefixOf, Ne.symm hc, hc]

set_option maxRecDepth 100000 in
set_option maxHeartbeats 1000000 in
theorem Four_any (s : ByteArray) (w : World) (hs : s.size ≤ 1048600) :
  Calls Tryz.prog 104 #[.string s] w fun e w' => e = .returned (fourV (fourD s.data.toList)) ∧ Below w.heap.size w w' := by
 obtain ⟨hz, hi⟩ := zero_of_info infoA
 have HI := Lib.hid hi; clear hi
 have HIz : Hid ((Tryz.prog.info? 54).map (·.size) = some zeroA.size) := Lib.hid (by rw [HI.out, zeroA_size])
 have hfst := fourD_fst s
 obtain ⟨lk, HL⟩ : ∃ lk, Hid (looksF s = lk) := ⟨_, Lib.hid rfl⟩
 have HLk : Hid (∀ w, Calls Tryz.prog 146 #[.string s] w fun e w' => e = .returned (.bool lk) ∧ Below w.heap.size w w') := Lib.hid (fun w => by
  have := looksLike_any s w hs
  rwa [HL.out] at this)
 rw [HL.out] at hfst
 cases lk
 ·have HV : Hid (fourV (fourD s.data.toList) = .tuple #[.agg zeroA, .bool false, .int .i64 0]) := Lib.hid (by
   cases hq : fourD s.data.toList with
   | mk x y =>
    rw [hq] at hfst
    have : x = false := hfst
    subst this; rfl)
  rw [HV.out]
  clear hfst
  go_enter Tryz.func104, Tryz.ntmps104
  go_wp2_with fail
  refine (HLk.out _).mono ?_
  rintro e w1 ⟨rfl, b1⟩
  have B1 := Lib.hid b1
  have HR1 : Hid (w1.heap[w.heap.size]? = some (.cells zeroA 54 (0, 0))) := Lib.hid ((b1.block _ (by simp)).trans (heap_alloc_new w _))
  clear b1
  go_wp2_with (refine wpL_store_row rfl _ _ _ rfl w.heap.size zeroA rfl rfl _ zeroA HR1.out HIz.out rfl zeroA_one ?_)
  refine bodyPost_ret (v := .tuple #[.agg zeroA, .bool false, .int .i64 0]) (results_row3 Tryz.results104 _ _ w.heap.size _ zeroA (0, 0) _ rfl (setRow_heap _ _ zeroA zeroA _ _ HR1.out) Tryz.underlying54 rfl HIz.out) rfl ⟨rfl, ?_⟩
  exact below_setRow (((Below.refl _ _).alloc (Nat.le_refl _) _).trans (B1.out.mono (by simp))) (Nat.le_refl _) _
 ·obtain ⟨R, HR⟩ : ∃ R, Hid (rowG rpart 46 4 ((lowS s).size + 2) [] (lowS s).data.toList = R) := ⟨_, Lib.hid rfl⟩
  have HV : Hid (fourV (fourD s.data.toList) = fourV (true, if Lib.trimPrefix R.2 [46] = [] then lay4 4 R.1 else none)) := Lib.hid (by
   have h1 : looksQ (lastQ (pts 46 (trimP (lowS s).data.toList))) = true := by
    show looksQ (lastQ (pts 46 (trimP (s.data.toList.map low)))) = true
    rw [trimP_low, pts_low 46 low_46, lastQ_low, looksQ_low]; exact HL.out
   have h2 := fourP_eq (lowS s).data.toList (sml_88 (lowS_sml s)) h1
   have h3 : fourD (lowS s).data.toList = fourD s.data.toList := fourD_low _
   rw [h3] at h2
   have h4 : fourP (lowS s).data.toList = if Lib.trimPrefix R.2 [46] = [] then lay4 4 R.1 else none := by
    unfold fourP
    rw [lenB, HR.out]
    simp only [trim46]
   rw [h4] at h2
   cases hq : fourD s.data.toList with
   | mk x y =>
    rw [hq] at hfst h2
    have : x = true := hfst
    subst this
    have : _ = y := h2
    rw [this])
  rw [HV.out]
  have hRl : R.1.length ≤ 4 := by rw [← HR.out]; exact row_len _ _ _ (by simp)
  have HRle : Hid (∀ n ∈ R.1, n ≤ 4294967296) := Lib.hid (by rw [← HR.out]; exact row_le rpart_le _ _ _ (by simp))
  obtain ⟨A, B⟩ := R
  obtain ⟨T, HT⟩ : ∃ T, Hid (Lib.trimPrefix B [46] = T) := ⟨_, Lib.hid rfl⟩
  simp only
  rw [HT.out]
  obtain ⟨V, HVV⟩ : ∃ V, Hid (fourV (true, if T = [] then lay4 4 A else none) = V) := ⟨_, Lib.hid rfl⟩
  rw [HVV.out]
  have hmf := mkfK
  clear hfst
  have hls : (lowS s).size ≤ 1048600 := by rw [lowS_size]; exact hs
  go_enter Tryz.func104, Tryz.ntmps104
  go_wp2_with fail
  refine (HLk.out _).mono ?_
  rintro e w1 ⟨rfl, b1⟩
  have B1 := Lib.hid b1
  clear b1
  go_wp2_with fail
  refine (readerOf_any s _ (by unfold maxLen; omega)).mono ?_
  rintro e w2 ⟨b, hb, rfl, r2, b2⟩
  have R2 := Lib.hid r2; have B2 := Lib.hid b2
  clear r2 b2
  go_wp2_with fail
  refine (row_any b _ _ _ rpart 46 4 (lowS s) _ (way_part b _) R2.out hls (lowS_sml s) (by omega)).mono ?_
  rw [HR.out]
  rintro e w3 ⟨v, rfl, own3, r3, k3⟩
  have Own3 := Lib.hid own3; have R3 := Lib.hid r3; have K3 := Lib.hid k3
  clear own3 r3 k3
  go_wp2_with fail
  refine (cut_any b _ ⟨#[46]⟩ _ R3.out).mono ?_
  rintro e w4 ⟨rfl, r4, k4⟩
  rw [show Lib.trimPrefix (asB (A, B).2).data.toList (⟨#[46]⟩ : ByteArray).data.toList = T from HT.out] at r4
  have R4 := Lib.hid r4; have K4 := Lib.hid k4
  have Own4 := Lib.hid (own_kept Own3.out k4 (fun q hq e => by rw [show q = b from e] at hq; have := R2.out.lt; omega))
  clear r4 k4
  go_wp2_with fail
  refine (fourOf_any _ v A _ Own4.out hRl HRle.out).mono ?_
  rintro e w5 ⟨b5, h5, h6⟩
  have B5 := Lib.hid b5
  have c5 : w5.cell? ⟨b, 0, none⟩ = some (.string (asB T)) := (b5.cell (p := ⟨b, 0, none⟩) R4.out.lt).trans R4.out.cell
  have HBz0 : Hid (Below w.heap.size w w5) := Lib.hid (by
   have z1 := B1.out.size
   have z2 := B2.out.size
   have k34 : Kp (Only b) w2 w4 := K3.out.trans K4.out
   have hwb : w.heap.size ≤ b := by simp at z1; omega
   have bw2 : Below w.heap.size w w2 := (((Below.refl _ _).alloc (Nat.le_refl _) _).trans (B1.out.mono (by simp))).trans (B2.out.mono (by simp at z1; omega))
   have bw4 : Below w.heap.size w w4 := bw2.trans (k34.below bw2.size (fun q hq => by rw [show q = b from hq]; exact hwb))
   exact bw4.trans (b5.mono bw4.size))
  have HR0 : Hid (w5.heap[w.heap.size]? = some (.cells zeroA 54 (0, 0))) := Lib.hid (by
   have z1 := B1.out.size
   have z2 := B2.out.size
   have hwb : w.heap.size < b := by simp at z1; omega
   have e1 : w1.heap[w.heap.size]? = some (.cells zeroA 54 (0, 0)) := (B1.out.block _ (by simp)).trans (heap_alloc_new w _)
   have e2 : w2.heap[w.heap.size]? = some (.cells zeroA 54 (0, 0)) := (B2.out.block _ (lt_of_block e1)).trans e1
   have e4 := (K3.out.trans K4.out).at e2 (by unfold Only; omega)
   exact (b5.block _ (lt_of_block e4)).trans e4)
  have hzs := zeroA_size
  have HRa : ∀ o, Hid ((w5.alloc o).heap[w.heap.size]? = some (.cells zeroA 54 (0, 0))) := fun o => Lib.hid (by rw [Below.heap_alloc _ _ _ (lt_of_block HR0.out)]; exact HR0.out)
  cases hlay : lay4 4 A with
  | none =>
   obtain rfl := h6 hlay
   have HVn : Hid (V = .tuple #[.agg zeroA, .bool true, .int .i64 5]) := Lib.hid (by rw [← HVV.out, hlay, ite_self]; rfl)
   clear h5 h6 b5 hlay
   go_wp2_with (first | (refine wpL_store_row rfl _ _ _ rfl w5.heap.size zeroA rfl rfl _ zeroA (heap_alloc_new w5 _) HIz.out rfl zeroA_one ?_; rw [World.setRow_alloc_new]) | refine wpL_store_row rfl _ _ _ rfl w.heap.size zeroA rfl rfl _ zeroA (HRa _).out HIz.out rfl zeroA_one ?_)
   refine bodyPost_ret (v := .tuple #[.agg zeroA, .bool true, .int .i64 5]) (results_row3 Tryz.results104 _ _ w.heap.size _ zeroA (0, 0) _ rfl (setRow_heap _ _ zeroA zeroA _ _ (HRa _).out) Tryz.underlying54 rfl HIz.out) rfl ⟨by rw [HVn.out], ?_⟩
   exact below_setRow (HBz0.out.alloc HBz0.out.size _) (Nat.le_refl _) _
  | some bs =>
   obtain rfl := h5 bs hlay
   have hln := (lay4_len A 4 bs hRl hlay).1
   obtain ⟨D, HD⟩ : ∃ D, Hid (cellsA false (bs ++ List.replicate 12 0) = D) := ⟨_, Lib.hid rfl⟩
   have HDz : Hid (D.size = 17) := Lib.hid (by rw [← HD.out, cellsA_size]; simp; omega)
   have HOne : Hid (D.all (·.oneCell') = true) := Lib.hid (by rw [← HD.out]; exact cellsA_one _ _)
   have HID : Hid ((Tryz.prog.info? 54).map (·.size) = some D.size) := Lib.hid (by rw [HI.out, HDz.out])
   have HZD : Hid (zeroA.size = D.size) := Lib.hid (by rw [HDz.out, zeroA_size])
   rw [HD.out]
   clear hln
   cases T with
   | cons x T =>
    have HVn : Hid (V = .tuple #[.agg zeroA, .bool true, .int .i64 5]) := Lib.hid (by rw [← HVV.out, if_neg (by simp)]; rfl)
    have hem : (asB (x :: T)).toList.isEmpty = false := by rw [ByteArray.toList_eq]; rfl
    clear h5 h6 b5 hlay
    have c6 : ∀ o, (w5.alloc o).cell? ⟨b, 0, none⟩ = some (.string (asB (x :: T))) := fun o => by
     rw [World.cell?_alloc_lt w5 o _ (block_lt_of_cell c5)]; exact c5
    go_wp2_with (first | (refine wpL_store_row rfl _ _ _ rfl w5.heap.size D rfl rfl _ zeroA (heap_alloc_new w5 _) HID.out HZD.out HOne.out ?_; rw [World.setRow_alloc_new]) | refine wpL_store_row rfl _ _ _ rfl w.heap.size zeroA rfl rfl _ zeroA (HRa _).out HIz.out rfl zeroA_one ?_)
    refine bodyPost_ret (v := .tuple #[.agg zeroA, .bool true, .int .i64 5]) (results_row3 Tryz.results104 _ _ w.heap.size _ zeroA (0, 0) _ rfl (setRow_heap _ _ zeroA zeroA _ _ (HRa _).out) Tryz.underlying54 rfl HIz.out) rfl ⟨by rw [HVn.out], ?_⟩
    exact below_setRow (HBz0.out.alloc HBz0.out.size _) (Nat.le_refl _) _
   | nil =>
    have HVn : Hid (V = .tuple #[.agg D, .bool true, .int .i64 0]) := Lib.hid (by rw [← HVV.out, if_pos rfl, hlay, ← HD.out]; rfl)
    have hem : (asB []).toList.isEmpty = true := by rw [ByteArray.toList_eq]; rfl
    clear h5 h6 b5 hlay
    have c6 : ∀ o, (w5.alloc o).cell? ⟨b, 0, none⟩ = some (.string (asB [])) := fun o => by
     rw [World.cell?_alloc_lt w5 o _ (block_lt_of_cell c5)]; exact c5
    go_wp2_with (first | (refine wpL_store_row rfl _ _ _ rfl w5.heap.size D rfl rfl _ zeroA (heap_alloc_new w5 _) HID.out HZD.out HOne.out ?_; rw [World.setRow_alloc_new]) | refine wpList_load_row rfl 54 _ rfl w5.heap.size rfl 54 D (0, 0) _ (heap_alloc_new w5 _) Tryz.underlying54 rfl HID.out ?_ | refine wpL_store_row rfl _ _ _ rfl w.heap.size D rfl rfl _ zeroA (HRa _).out HID.out HZD.out HOne.out ?_)
    refine bodyPost_ret (v := .tuple #[.agg D, .bool true, .int .i64 0]) (results_row3 Tryz.results104 _ _ w.heap.size _ D (0, 0) _ rfl (setRow_heap _ _ zeroA D _ _ (HRa _).out) Tryz.underlying54 rfl HID.out) rfl ⟨by rw [HVn.out], ?_⟩
    exact below_setRow (HBz0.out.alloc HBz0.out.size _) (Nat.le_refl _) _

end Go.Proofs.YtcphokaamkalfaaGreatDoor
