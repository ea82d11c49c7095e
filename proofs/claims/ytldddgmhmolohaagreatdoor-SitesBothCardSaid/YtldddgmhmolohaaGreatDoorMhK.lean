/-
  Plain words on hosts: below another one; labels.
  Plain words on hosts: a name that was answered, its labels, and the names above it.
  Contracts: hosts.Machine, hosts.Below.
  Contracts: hosts.Labels, hosts.Parse in two cases.
-/
import Derived.Test.YtldddgmhmolohaaGreatDoorMhC
import Derived.Test.YtldddgmhmolohaaGreatDoorMhA
import Derived.Test.YtldddgmhmolohaaGreatDoorMaF
import Derived.Test.YtldddgmhmolohaaGreatDoorShelfS
import Derived.Test.YtldddgmhmolohaaGreatDoorHsC
namespace Go.Proofs.YtldddgmhmolohaaGreatDoor
open Go.RowKit

/-- The labels of a host. -/
def labelsL (s : ByteArray) : List ByteArray := if s.size = 0 then [] else if machB s then [s] else rawB 46 s

end Go.Proofs.YtldddgmhmolohaaGreatDoor
namespace Go.Proofs.YtldddgmhmolohaaGreatDoor
open Go.RowKit

theorem dot_fst {L : List ByteArray} (hne : L ≠ []) (hg : ∀ l ∈ L, GoodB l) : (fourD (dotJ L).data.toList).1 = looksQ (lastQ (L.map (·.data.toList))) := by
 have h1 : pts 46 (trimP (dotJ L).data.toList) = L.map (·.data.toList) := by
  rw [trimP_id (dot_last hne hg).2, dotJ_data, pts_joinL 46 _ (by simpa using hne) (fun p hp => by
   obtain ⟨l, hl, rfl⟩ := List.mem_map.1 hp
   exact (hg l hl).2.2.2.2.2)]
 unfold fourD
 rw [h1]
 cases looksQ (lastQ (L.map (·.data.toList))) <;> rfl
theorem NameX.parts {x : ByteArray} (h : NameX x) : rawB 46 x ≠ [] ∧ (∀ l ∈ rawB 46 x, GoodB l) ∧ dotJ (rawB 46 x) = x := by
 obtain ⟨L, hne, hg, rfl, _⟩ := h
 rw [rawB_dot hne (fun l hl => (hg l hl).2.2.2.2.2)]
 exact ⟨hne, hg, rfl⟩
theorem NameX.head {x : ByteArray} (h : NameX x) : x.data.toList.head? ≠ some 91 := fun e => h.no91 91 (head_mem e) rfl
theorem NameX.mach {x : ByteArray} (h : NameX x) : machB x = (fourD x.data.toList).1 := by
 have hd := h.head
 obtain ⟨L, _, _, _, _, _, h3⟩ := h
 rw [machB, decide_eq_false hd, Bool.false_or]
 rcases h3 with h3 | ⟨b0, b1, b2, b3, rfl, g0, g1, g2, g3⟩
 ·rw [h3]; rfl
 ·rw [four4_four g0 g1 g2 g3]; rfl
theorem BrX.mach {x : ByteArray} (h : BrX x) : machB x = true := by
 rw [machB, h.brack.2.2]; rfl
theorem NameX.size {x : ByteArray} (h : NameX x) : 0 < x.size ∧ x.size ≤ 253 := by
 have h1 := List.length_pos_iff.2 h.ne
 rw [lenB] at h1
 obtain ⟨_, _, _, _, _, h2, _⟩ := h
 exact ⟨h1, h2⟩
/-- No byte of a name cuts an address of a thing. -/
theorem NameX.byte {x : ByteArray} (h : NameX x) (k : Nat) (hk : k < x.size) : 32 < x[k].toNat ∧ x[k].toNat < 127 ∧ x[k].toNat ≠ 35 ∧ x[k].toNat ≠ 37 ∧ x[k].toNat ≠ 47 ∧ x[k].toNat ≠ 58 ∧ x[k].toNat ≠ 63 ∧ x[k].toNat ≠ 64 ∧ x[k].toNat ≠ 91 ∧ x[k].toNat ≠ 92 ∧ x[k].toNat ≠ 93 := by
 have hm : x[k] ∈ x.data.toList := by
  have : x[k] = x.data[k]'hk := rfl
  rw [this]; simp
 have h1 := h.no _ hm
 have h2 : x[k].toNat < 128 := by
  have := h.plain
  rw [plainL, List.all_eq_true] at this
  simpa using this _ hm
 have key : ∀ n : Fin 128, foulB (UInt8.ofNat n.1) = false → 32 < n.1 ∧ n.1 < 127 ∧ n.1 ≠ 35 ∧ n.1 ≠ 37 ∧ n.1 ≠ 47 ∧ n.1 ≠ 58 ∧ n.1 ≠ 63 ∧ n.1 ≠ 64 ∧ n.1 ≠ 91 ∧ n.1 ≠ 92 ∧ n.1 ≠ 93 := by decide +kernel
 exact key ⟨x[k].toNat, h2⟩ (by simpa using h1)
theorem NameX.label {x : ByteArray} (h : NameX x) : ∀ l ∈ labelsL x, 0 < l.size := by
 have h0 := h.size.1
 intro l hl
 rw [labelsL, if_neg (by omega)] at hl
 split at hl
 ·rw [List.mem_singleton] at hl; rw [hl]; exact h0
 ·exact (h.parts.2.1 l hl).2.1
theorem labels_ne {x : ByteArray} (h : 0 < x.size) : labelsL x ≠ [] := by
 rw [labelsL, if_neg (by omega)]
 split
 ·simp
 ·exact rawB_ne 46 x
/- The names that the last labels make. -/
def upS (L : List ByteArray) (i : Nat) : ByteArray := dotJ (L.drop i)
/-- That, with a point ahead; nothing behind the last one. -/
def upB (L : List ByteArray) (i : Nat) : ByteArray := if i < L.length then ⟨#[46]⟩ ++ upS L i else ⟨#[]⟩
theorem joinL_app : ∀ A B : List (List UInt8), A ≠ [] → B ≠ [] → Lib.join (A ++ B) [46] = Lib.join A [46] ++ 46 :: Lib.join B [46]
 | [], _, h, _ => absurd rfl h
 | [x], b :: B, _, _ => by rw [List.singleton_append, join_split, Lib.join_one]
 | [x], [], _, h => absurd rfl h
 | x :: y :: A, B, _, hB => by
  rw [List.cons_append, List.cons_append, join_split, join_split, ← List.cons_append, joinL_app (y :: A) B (by simp) hB]; simp
theorem up_step (L : List ByteArray) (i : Nat) (h : i < L.length) : upS L i = L[i] ++ upB L (i + 1) := by
 refine ba_of ?_
 rw [upS, dotJ_data, List.drop_eq_getElem_cons h, List.map_cons, upB]
 by_cases h1 : i + 1 < L.length
 ·rw [if_pos h1, List.drop_eq_getElem_cons h1, List.map_cons, join_split, ByteArray.data_append, Array.toList_append, ByteArray.data_append, Array.toList_append, upS, dotJ_data, List.drop_eq_getElem_cons h1, List.map_cons]; rfl
 ·rw [if_neg h1, List.drop_eq_nil_of_le (by omega), List.map_nil, Lib.join_one, ByteArray.data_append, Array.toList_append]; simp
theorem up_data (L : List ByteArray) (i j : Nat) (h : i < j) (hj : j < L.length) : (upS L i).data.toList = Lib.join (((L.drop i).take (j - i)).map (·.data.toList)) [46] ++ 46 :: (upS L j).data.toList := by
 have hd : L.drop i = (L.drop i).take (j - i) ++ L.drop j := by
  conv => lhs; rw [← List.take_append_drop (j - i) (L.drop i), List.drop_drop, show i + (j - i) = j by omega]
 have h1 : ((L.drop i).take (j - i)).map (·.data.toList) ≠ [] := by
  intro e
  have := congrArg List.length e
  simp at this; omega
 have h2 : (L.drop j).map (·.data.toList) ≠ [] := by
  intro e
  have := congrArg List.length e
  simp at this; omega
 rw [upS, dotJ_data, upS, dotJ_data]
 conv => lhs; rw [hd]
 rw [List.map_append, joinL_app _ _ h1 h2]
theorem up_size (L : List ByteArray) (i j : Nat) (h : i < j) (hj : j < L.length) : (upS L j).size < (upS L i).size := by
 have h1 := lenB (upS L i)
 have h2 := lenB (upS L j)
 rw [up_data L i j h hj, List.length_append, List.length_cons] at h1
 omega
theorem up_suf (L : List ByteArray) (i j : Nat) (h : i < j) (hj : j < L.length) : Lib.hasSuffix (upS L i).data.toList (46 :: (upS L j).data.toList) = true := by
 show List.isSuffixOf _ _ = true
 rw [List.isSuffixOf_iff_suffix, up_data L i j h hj]
 exact ⟨_, rfl⟩
/-- No machine, and no part is empty. -/
structure NoMach (L : List ByteArray) : Prop where
 good : ∀ l ∈ L, GoodB l
 last : looksQ (lastQ (L.map (·.data.toList))) = false
 no91 : ∀ l ∈ L, ∀ c ∈ l.data.toList, c ≠ 91
theorem mem_join {c : UInt8} : ∀ L : List (List UInt8), c ∈ Lib.join L [46] → c = 46 ∨ ∃ l ∈ L, c ∈ l
 | [], h => by rw [Lib.join_nil] at h; cases h
 | [x], h => by rw [Lib.join_one] at h; exact .inr ⟨x, by simp, h⟩
 | x :: y :: r, h => by
  rw [join_split] at h
  rcases List.mem_append.1 h with h | h
  ·exact .inr ⟨x, by simp, h⟩
  ·rcases List.mem_cons.1 h with h | h
   ·exact .inl h
   ·rcases mem_join (y :: r) h with h | ⟨l, hl, h⟩
    ·exact .inl h
    ·exact .inr ⟨l, List.mem_cons_of_mem _ hl, h⟩
theorem join_mem {c : UInt8} {l : List UInt8} : ∀ L : List (List UInt8), l ∈ L → c ∈ l → c ∈ Lib.join L [46]
 | [], h, _ => by cases h
 | [x], h, hc => by
  rw [List.mem_singleton] at h; rw [Lib.join_one, ← h]; exact hc
 | x :: y :: r, h, hc => by
  rw [join_split]
  rcases List.mem_cons.1 h with rfl | h
  ·exact List.mem_append_left _ hc
  ·exact List.mem_append_right _ (List.mem_cons_of_mem _ (join_mem (y :: r) h hc))
theorem NoMach.mach {L : List ByteArray} (h : NoMach L) (hne : L ≠ []) : machB (dotJ L) = false := by
 have h1 := dot_fst hne h.good
 rw [h.last] at h1
 have h2 : (dotJ L).data.toList.head? ≠ some 91 := fun e => by
  have hm := head_mem e
  rw [dotJ_data] at hm
  rcases mem_join _ hm with h3 | ⟨p, hp, hc⟩
  ·exact absurd h3 (by decide)
  ·obtain ⟨l, hl, rfl⟩ := List.mem_map.1 hp
   exact h.no91 l hl 91 hc rfl
 rw [machB, decide_eq_false h2, h1]; rfl
theorem NoMach.drop {L : List ByteArray} (h : NoMach L) (i : Nat) (hi : i < L.length) : NoMach (L.drop i) := by
 refine ⟨fun l hl => h.good l (List.mem_of_mem_drop hl), ?_, fun l hl => h.no91 l (List.mem_of_mem_drop hl)⟩
 have := h.last
 rw [lastQ, List.getLast?_map] at this ⊢
 rwa [List.getLast?_drop, if_neg (by omega)]
theorem NoMach.up {L : List ByteArray} (h : NoMach L) (i : Nat) (hi : i < L.length) : machB (upS L i) = false ∧ 0 < (upS L i).size := by
 have hne : L.drop i ≠ [] := by
  intro e
  have := congrArg List.length e
  simp at this; omega
 refine ⟨(h.drop i hi).mach hne, ?_⟩
 have h1 := List.length_pos_iff.2 (dot_last hne (h.drop i hi).good).1
 rw [lenB] at h1
 exact h1
theorem NoMach.below {L : List ByteArray} (h : NoMach L) (i j : Nat) (hij : i ≤ j) (hj : j < L.length) : belowB (upS L i) (upS L j) = true := by
 by_cases e : i = j
 ·rw [e]; exact below_self _
 ·have h1 := up_size L i j (by omega) hj
  obtain ⟨h2, h3⟩ := h.up i (by omega)
  obtain ⟨h4, h5⟩ := h.up j hj
  rw [below_ne (fun e => by rw [e] at h1; omega), decide_eq_true h5, h2, h4, up_suf L i j (by omega) hj]; rfl
theorem up_not (L : List ByteArray) (i j : Nat) (hij : i < j) (hj : j < L.length) : belowB (upS L j) (upS L i) = false := by
 have h1 := up_size L i j hij hj
 rw [below_ne (fun e => by rw [e] at h1; omega), suf_short (by omega), Bool.and_false]
theorem NameX.noMach {x : ByteArray} (h : NameX x) (hm : machB x = false) : NoMach (rawB 46 x) := by
 obtain ⟨h1, h2, h3⟩ := h.parts
 refine ⟨h2, ?_, fun l hl c hc => h.no91 c ((rawB_mem 46 x l hl).2 c hc).1⟩
 rw [← dot_fst h1 h2, h3, ← h.mach, hm]
theorem good_a : GoodB ⟨#[97]⟩ := by
 unfold GoodB
 decide +kernel
theorem NoMach.more {L : List ByteArray} (h : NoMach L) (hne : L ≠ []) : NoMach (⟨#[97]⟩ :: L) := by
 refine ⟨fun l hl => ?_, ?_, fun l hl => ?_⟩
 ·rcases List.mem_cons.1 hl with rfl | hl
  ·exact good_a
  ·exact h.good l hl
 ·have := h.last
  rw [lastQ, List.getLast?_map] at this ⊢
  rwa [List.getLast?_cons_of_ne_nil hne]
 ·rcases List.mem_cons.1 hl with rfl | hl
  ·decide
  ·exact h.no91 l hl
theorem up_zero (L : List ByteArray) : upS L 0 = dotJ L := rfl
theorem dot_cons (l : ByteArray) {L : List ByteArray} (h : L ≠ []) : dotJ (l :: L) = l ++ ⟨#[46]⟩ ++ dotJ L := by
 refine ba_of ?_
 match L, h with
 | y :: r, _ =>
  rw [dotJ_data, List.map_cons, List.map_cons, join_split, ByteArray.data_append, Array.toList_append, ByteArray.data_append, Array.toList_append, dotJ_data, List.map_cons]; simp
/-- With a label more it is below itself. -/
theorem NoMach.below_a {L : List ByteArray} (h : NoMach L) (hne : L ≠ []) : belowB (⟨#[97]⟩ ++ ⟨#[46]⟩ ++ dotJ L) (dotJ L) = true := by
 have h1 := (h.more hne).below 0 1 (by omega) (by have := List.length_pos_iff.2 hne; simp; omega)
 rwa [up_zero, dot_cons _ hne] at h1
theorem mach_not_a {x : ByteArray} (h : machB x = true) : belowB (⟨#[97]⟩ ++ ⟨#[46]⟩ ++ x) x = false := by
 rw [below_ne (fun e => by
  have h1 := congrArg ByteArray.size e
  rw [ByteArray.size_append, ByteArray.size_append, show (⟨#[97]⟩ : ByteArray).size = 1 from rfl, show (⟨#[46]⟩ : ByteArray).size = 1 from rfl] at h1
  omega), h]; simp
theorem mach_not_2 {x y : ByteArray} (h : machB x = true) (hs : y.size < x.size) : belowB x y = false := by
 rw [below_ne (fun e => by rw [e] at hs; omega), h]; simp

end Go.Proofs.YtldddgmhmolohaaGreatDoor
namespace Go.Proofs.YtldddgmhmolohaaGreatDoor
open Go.RowKit

set_option maxRecDepth 100000 in
set_option maxHeartbeats 1000000 in
theorem Machine_any (s : ByteArray) (w : World) (hs : s.size ≤ 1048600) :
  Calls Tryz.prog 39 #[.string s] w fun e w' => e = .returned (.bool (machB s)) ∧ Below w.heap.size w w' := by
 obtain ⟨C, b, c, hv, hsz, hone, hcase⟩ := fourV_mach s.data.toList
 obtain ⟨hz, hi⟩ := zero_of_info infoA
 have HI := Lib.hid hi; clear hi
 have HF : Hid (∀ w, Calls Tryz.prog 59 #[.string s] w fun e w' => e = .returned (.tuple #[.agg C, .bool b, .int .i64 c]) ∧ Below w.heap.size w w') := Lib.hid (fun w => by
  have := Four_any s w hs
  rwa [hv] at this)
 have HD : Hid ((Tryz.prog.info? 72).map (·.size) = some C.size) := Lib.hid (by rw [HI.out, hsz])
 have HY : Hid (zeroA.size = C.size) := Lib.hid (by rw [hsz]; exact zeroA_size)
 have HO := Lib.hid hone
 have HCs := Lib.hid hcase
 clear hv hsz hone hcase
 obtain ⟨p, Hp⟩ : ∃ p, Hid (decide (s.data.toList.head? = some 91) = p) := ⟨_, Lib.hid rfl⟩
 obtain ⟨M, HM⟩ : ∃ M, Hid (machB s = M) := ⟨_, Lib.hid rfl⟩
 have HMM : Hid (M = (p || (b && (c == 0)))) := Lib.hid (by rw [← HM.out, machB, Hp.out, ← HCs.out.2.2, HCs.out.2.1, Bool.and_comm b])
 have HP : Hid (Calls Tryz.prog 33 #[.string s, .string ⟨#[91]⟩] w fun e w' => e = .returned (.bool p) ∧ w' = w) := Lib.hid (by
  have := Tryz.strings_HasPrefix s ⟨#[91]⟩ w
  rw [show Lib.hasPrefix s.data.toList (⟨#[91]⟩ : ByteArray).data.toList = p from (pre_one _ _).trans Hp.out] at this
  exact this)
 rw [HM.out]
 have HC2 := Lib.hid HCs.out.1
 clear HCs
 cases p
 ·rcases HC2.out with ⟨rfl, rfl⟩ | ⟨rfl, rfl⟩ | ⟨rfl, rfl⟩
  all_goals
   go_enter Tryz.func39, Tryz.ntmps39
   go_wp2_with fail
   refine HP.out.mono ?_
   rintro e w0 ⟨rfl, rfl⟩
   go_wp2_with fail
   refine (HF.out _).mono ?_
   rintro e w1 ⟨rfl, b1⟩
   have B1 : Hid (Below w0.heap.size w0 (w1.alloc (.cells C 72))) := Lib.hid (b1.alloc b1.size _)
   clear b1
   go_wp2_with (refine wpL_store_row rfl 72 _ _ rfl w1.heap.size C ?_ ?_ 72 zeroA ?_ ?_ ?_ ?_ ?_; exact rfl; exact rfl; exact heap_alloc_new w1 _; exact HD.out; exact HY.out; exact HO.out; rw [World.setRow_alloc_new])
   go_ret
   exact ⟨ret_bool (by rw [HMM.out]; rfl), B1.out⟩
 ·have HR : Hid (M = true) := Lib.hid (by rw [HMM.out]; rfl)
  go_enter Tryz.func39, Tryz.ntmps39
  go_wp2_with fail
  refine HP.out.mono ?_
  rintro e w0 ⟨rfl, rfl⟩
  go_wp2
  go_ret
  exact ⟨ret_bool HR.out.symm, Below.refl _ _⟩
set_option maxRecDepth 100000 in
set_option maxHeartbeats 1000000 in
theorem Below5_any (a b : ByteArray) (w : World) (ha : a.size ≤ 1048600) (hb : b.size ≤ 1048600) :
  Calls Tryz.prog 46 #[.string a, .string b] w fun e w' => e = .returned (.bool (belowB a b)) ∧ Below w.heap.size w w' := by
 obtain ⟨R, HR⟩ : ∃ R, Hid (belowB a b = R) := ⟨_, Lib.hid rfl⟩
 rw [HR.out]
 by_cases hab : a = b
 ·have HT : Hid (R = true) := Lib.hid (by rw [← HR.out, hab, below_self])
  subst hab
  go_enter Tryz.func46, Tryz.ntmps46
  go_wp2
  go_ret
  exact ⟨ret_bool HT.out.symm, Below.refl _ _⟩
 have hne := neL hab
 have HB : Hid (R = (decide (0 < b.size) && !machB a && !machB b && Lib.hasSuffix a.data.toList (46 :: b.data.toList))) := Lib.hid (by rw [← HR.out, below_ne hab])
 clear hab HR
 by_cases h0 : b.size = 0
 ·have hem := emT h0
  have HF : Hid (R = false) := Lib.hid (by rw [HB.out, h0]; rfl)
  clear HB h0
  go_enter Tryz.func46, Tryz.ntmps46
  go_wp2
  go_ret
  exact ⟨ret_bool HF.out.symm, Below.refl _ _⟩
 have hem := emF (s := b) (by omega)
 obtain ⟨ma, HMa⟩ : ∃ m, Hid (machB a = m) := ⟨_, Lib.hid rfl⟩
 obtain ⟨mb, HMb⟩ : ∃ m, Hid (machB b = m) := ⟨_, Lib.hid rfl⟩
 obtain ⟨sf, HSf⟩ : ∃ m, Hid (Lib.hasSuffix a.data.toList (46 :: b.data.toList) = m) := ⟨_, Lib.hid rfl⟩
 have HB2 : Hid (R = (!ma && !mb && sf)) := Lib.hid (by rw [HB.out, HMa.out, HMb.out, HSf.out, decide_eq_true (by omega : 0 < b.size), Bool.true_and])
 have CA : Hid (∀ w, Calls Tryz.prog 39 #[.string a] w fun e w' => e = .returned (.bool ma) ∧ Below w.heap.size w w') := Lib.hid (fun w => by rw [← HMa.out]; exact Machine_any a w ha)
 have CB : Hid (∀ w, Calls Tryz.prog 39 #[.string b] w fun e w' => e = .returned (.bool mb) ∧ Below w.heap.size w w') := Lib.hid (fun w => by rw [← HMb.out]; exact Machine_any b w hb)
 have CS : Hid (∀ w, Calls Tryz.prog 35 #[.string a, .string (⟨#[46]⟩ ++ b)] w fun e w' => e = .returned (.bool sf) ∧ w' = w) := Lib.hid (fun w => by
  have := Tryz.strings_HasSuffix a (⟨#[46]⟩ ++ b) w (by omega)
  rwa [show ((⟨#[46]⟩ : ByteArray) ++ b).data.toList = 46 :: b.data.toList by rw [ByteArray.data_append, Array.toList_append]; rfl, HSf.out] at this)
 have hz1 : ¬ 9223372036854775807 < 1 + b.size := by omega
 clear HB h0 HMa HMb HSf
 go_enter Tryz.func46, Tryz.ntmps46
 go_wp2_with fail
 refine (CA.out _).mono ?_
 rintro e w1 ⟨rfl, b1⟩
 have B1 := Lib.hid b1; clear b1
 cases ma
 ·go_wp2_with fail
  refine (CB.out _).mono ?_
  rintro e w2 ⟨rfl, b2⟩
  have B2 : Hid (Below w.heap.size w w2) := Lib.hid (keepW B1.out b2)
  clear b2
  cases mb
  ·have HF : Hid (R = sf) := Lib.hid (by rw [HB2.out]; rfl)
   go_wp2_with fail
   refine (CS.out _).mono ?_
   rintro e w3 ⟨rfl, rfl⟩
   go_wp2
   go_ret
   exact ⟨ret_bool HF.out.symm, B2.out⟩
  ·have HF : Hid (R = false) := Lib.hid (by rw [HB2.out]; rfl)
   go_wp2
   go_ret
   exact ⟨ret_bool HF.out.symm, B2.out⟩
 ·have HF : Hid (R = false) := Lib.hid (by rw [HB2.out]; rfl)
  go_wp2
  go_ret
  exact ⟨ret_bool HF.out.symm, B1.out⟩

end Go.Proofs.YtldddgmhmolohaaGreatDoor
namespace Go.Proofs.YtldddgmhmolohaaGreatDoor
open Go.RowKit


set_option maxRecDepth 100000 in
set_option maxHeartbeats 1000000 in
theorem Labels_some (s : ByteArray) (m : Int) (w : World) (hs : s.size ≤ 1048600) (h0 : 0 < s.size) (hm : w.cell? ⟨0, 0, none⟩ = some (.int .i64 m)) :
  Calls Tryz.prog 99 #[.string s] w fun e w' => ∃ g, e = .returned (.slice (some ⟨g, 0, none⟩) (labelsL s).length (labelsL s).length) ∧ w.heap.size ≤ g ∧ w'.heap[g]? = some (.cells ((labelsL s).map Value.string).toArray 9 (0, 0)) ∧ Below w.heap.size w w' := by
 have HM := Lib.hid hm; clear hm
 have hem := emF h0
 obtain ⟨M, HMM⟩ : ∃ M, Hid (machB s = M) := ⟨_, Lib.hid rfl⟩
 have CM : Hid (∀ w, Calls Tryz.prog 39 #[.string s] w fun e w' => e = .returned (.bool M) ∧ Below w.heap.size w w') := Lib.hid (fun w => by rw [← HMM.out]; exact Machine_any s w hs)
 obtain ⟨L, HL⟩ : ∃ L, Hid (labelsL s = L) := ⟨_, Lib.hid rfl⟩
 rw [HL.out]
 have hs0 : ¬ s.size = 0 := by omega
 cases M
 ·have HLr : Hid (rawB 46 s = L) := Lib.hid (by rw [← HL.out, labelsL, if_neg hs0, HMM.out]; rfl)
  obtain ⟨n, HN⟩ : ∃ n, Hid (L.length = n) := ⟨_, Lib.hid rfl⟩
  have CS : Hid (∀ w, w.cell? ⟨0, 0, none⟩ = some (.int .i64 m) → Calls Tryz.prog 88 #[.string s, .string ⟨#[46]⟩] w fun e w' => e = .returned (.slice (some ⟨w.heap.size, 0, none⟩) n n) ∧ w.alloc (.cells (L.map Value.string).toArray 9) = w') := Lib.hid (fun w hm => by
   have := Tryz.strings_Split s ⟨#[46]⟩ m w (by omega) hm (Nat.le_refl 1)
   rw [show Lib.splitB ⟨#[46]⟩ 0 (Lib.countB s ⟨#[46]⟩) s = L from HLr.out, show Lib.countB s ⟨#[46]⟩ + 1 = n by rw [← rawB_len, HLr.out, HN.out]] at this
   exact this.mono fun _ _ ⟨h1, h2⟩ => ⟨h1, h2.symm⟩)
  rw [HN.out]
  clear hs0
  go_enter Tryz.func99, Tryz.ntmps99
  go_wp2_with fail
  refine (CM.out _).mono ?_
  rintro e w1 ⟨rfl, b1⟩
  have B1 := Lib.hid b1
  have HM1 : Hid (w1.cell? ⟨0, 0, none⟩ = some (.int .i64 m)) := Lib.hid ((b1.cell (block_lt_of_cell HM.out)).trans HM.out)
  clear b1
  go_wp2_with fail
  refine (CS.out _ HM1.out).mono ?_
  rintro e w2 ⟨rfl, rfl⟩
  go_wp2
  go_ret
  exact ⟨w1.heap.size, rfl, B1.out.size, heap_alloc_new w1 _, B1.out.alloc B1.out.size _⟩
 ·have HLr : Hid (L = [s]) := Lib.hid (by rw [← HL.out, labelsL, if_neg hs0, HMM.out]; rfl)
  rw [HLr.out]
  clear hs0
  go_enter Tryz.func99, Tryz.ntmps99
  go_wp2_with fail
  refine (CM.out _).mono ?_
  rintro e w1 ⟨rfl, b1⟩
  have B1 := Lib.hid b1
  clear b1
  go_wp2
  go_ret
  exact ⟨w1.heap.size, rfl, B1.out.size, heap_alloc_new w1 _, B1.out.alloc B1.out.size _⟩
theorem Parse_some {s x : ByteArray} (w : World) (hs : s.size ≤ 1000) (h : hostO s = some x) (hW : Hw w) : Calls Tryz.prog 143 #[.string s] w fun e w' => e = .returned (.tuple #[.string x, .int .i64 0]) ∧ Below w.heap.size w w' := by
 have := HostsParse_any s w (by unfold maxLen; omega) (.inl (by omega)) hW
 rwa [show hostT s = (x, 0) by rw [hostT, if_neg (by omega), h]] at this
theorem Parse_none {s : ByteArray} (w : World) (hs : s.size ≤ 1000) (h : hostO s = none) (hW : Hw w) : Calls Tryz.prog 143 #[.string s] w fun e w' => e = .returned (.tuple #[.string ⟨#[]⟩, .int .i64 5]) ∧ Below w.heap.size w w' := by
 have := HostsParse_any s w (by unfold maxLen; omega) (.inl (by omega)) hW
 rwa [show hostT s = (⟨#[]⟩, 5) by rw [hostT, if_neg (by omega), h]] at this

end Go.Proofs.YtldddgmhmolohaaGreatDoor
