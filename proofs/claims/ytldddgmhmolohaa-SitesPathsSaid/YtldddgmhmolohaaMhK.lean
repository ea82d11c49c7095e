/-
  Plain words on hosts: below another one; labels.
  Plain words on hosts: a name that was answered, its labels, and the names above it.
  Contracts: hosts.Machine, hosts.Below.
  Contracts: hosts.Labels, hosts.Parse in two cases.
-/
import Derived.Test.YtldddgmhmolohaaMhC
import Derived.Test.YtldddgmhmolohaaMhA
import Derived.Test.YtldddgmhmolohaaMaF
import Derived.Test.YtldddgmhmolohaaMrF
import Derived.Test.YtldddgmhmolohaaShelfS
import Derived.Test.YtldddgmhmolohaaHsC
namespace Go.Proofs.Ytldddgmhmolohaa
open Go.RowKit

end Go.Proofs.Ytldddgmhmolohaa
namespace Go.Proofs.Ytldddgmhmolohaa
open Go.RowKit

theorem dot_fst {L : List ByteArray} (hne : L ≠ []) (hg : ∀ l ∈ L, GoodB l) : (fourD (dotJ L).data.toList).1 = looksQ (lastQ (L.map (·.data.toList))) := by
  have h1 : pts 46 (trimP (dotJ L).data.toList) = L.map (·.data.toList) := by
    rw [trimP_id (dot_last hne hg).2, dotJ_data, pts_joinL 46 _ (by simpa using hne) (fun p hp => by
      obtain ⟨l, hl, rfl⟩ := List.mem_map.1 hp
      exact (hg l hl).2.2.2.2.2)]
  unfold fourD
  rw [h1]
  cases looksQ (lastQ (L.map (·.data.toList))) <;> rfl
theorem NameX.parts {x : ByteArray} (h : NameX x) : rawB 46 x ≠ [] ∧ (∀ l ∈ rawB 46 x, GoodB l) ∧ dotJ (rawB 46 x) = x := by
  obtain ⟨L, hne, hg, rfl, _⟩ := h
  rw [rawB_dot hne (fun l hl => (hg l hl).2.2.2.2.2)]
  exact ⟨hne, hg, rfl⟩
theorem NameX.head {x : ByteArray} (h : NameX x) : x.data.toList.head? ≠ some 91 := fun e => h.no91 91 (head_mem e) rfl
theorem NameX.mach {x : ByteArray} (h : NameX x) : machB x = (fourD x.data.toList).1 := by
  have hd := h.head
  obtain ⟨L, _, _, _, _, _, h3⟩ := h
  rw [machB, decide_eq_false hd, Bool.false_or]
  rcases h3 with h3 | ⟨b0, b1, b2, b3, rfl, g0, g1, g2, g3⟩
  · rw [h3]; rfl
  · rw [four4_four g0 g1 g2 g3]; rfl
theorem BrX.mach {x : ByteArray} (h : BrX x) : machB x = true := by
  rw [machB, h.brack.2.2]; rfl
theorem NameX.size {x : ByteArray} (h : NameX x) : 0 < x.size ∧ x.size ≤ 253 := by
  have h1 := List.length_pos_iff.2 h.ne
  rw [lenB] at h1
  obtain ⟨_, _, _, _, _, h2, _⟩ := h
  exact ⟨h1, h2⟩
/- The names that the last labels make. -/
def upS (L : List ByteArray) (i : Nat) : ByteArray := dotJ (L.drop i)
theorem joinL_app : ∀ A B : List (List UInt8), A ≠ [] → B ≠ [] → Lib.join (A ++ B) [46] = Lib.join A [46] ++ 46 :: Lib.join B [46]
  | [], _, h, _ => absurd rfl h
  | [x], b :: B, _, _ => by rw [List.singleton_append, join_split, Lib.join_one]
  | [x], [], _, h => absurd rfl h
  | x :: y :: A, B, _, hB => by
    rw [List.cons_append, List.cons_append, join_split, join_split, ← List.cons_append, joinL_app (y :: A) B (by simp) hB]; simp
theorem up_data (L : List ByteArray) (i j : Nat) (h : i < j) (hj : j < L.length) : (upS L i).data.toList = Lib.join (((L.drop i).take (j - i)).map (·.data.toList)) [46] ++ 46 :: (upS L j).data.toList := by
  have hd : L.drop i = (L.drop i).take (j - i) ++ L.drop j := by
    conv => lhs; rw [← List.take_append_drop (j - i) (L.drop i), List.drop_drop, show i + (j - i) = j by omega]
  have h1 : ((L.drop i).take (j - i)).map (·.data.toList) ≠ [] := by
    intro e
    have := congrArg List.length e
    simp at this; omega
  have h2 : (L.drop j).map (·.data.toList) ≠ [] := by
    intro e
    have := congrArg List.length e
    simp at this; omega
  rw [upS, dotJ_data, upS, dotJ_data]
  conv => lhs; rw [hd]
  rw [List.map_append, joinL_app _ _ h1 h2]
theorem up_size (L : List ByteArray) (i j : Nat) (h : i < j) (hj : j < L.length) : (upS L j).size < (upS L i).size := by
  have h1 := lenB (upS L i)
  have h2 := lenB (upS L j)
  rw [up_data L i j h hj, List.length_append, List.length_cons] at h1
  omega
theorem up_suf (L : List ByteArray) (i j : Nat) (h : i < j) (hj : j < L.length) : Lib.hasSuffix (upS L i).data.toList (46 :: (upS L j).data.toList) = true := by
  show List.isSuffixOf _ _ = true
  rw [List.isSuffixOf_iff_suffix, up_data L i j h hj]
  exact ⟨_, rfl⟩
/-- No machine, and no part is empty. -/
structure NoMach (L : List ByteArray) : Prop where
  good : ∀ l ∈ L, GoodB l
  last : looksQ (lastQ (L.map (·.data.toList))) = false
  no91 : ∀ l ∈ L, ∀ c ∈ l.data.toList, c ≠ 91
theorem mem_join {c : UInt8} : ∀ L : List (List UInt8), c ∈ Lib.join L [46] → c = 46 ∨ ∃ l ∈ L, c ∈ l
  | [], h => by rw [Lib.join_nil] at h; cases h
  | [x], h => by rw [Lib.join_one] at h; exact .inr ⟨x, by simp, h⟩
  | x :: y :: r, h => by
    rw [join_split] at h
    rcases List.mem_append.1 h with h | h
    · exact .inr ⟨x, by simp, h⟩
    · rcases List.mem_cons.1 h with h | h
      · exact .inl h
      · rcases mem_join (y :: r) h with h | ⟨l, hl, h⟩
        · exact .inl h
        · exact .inr ⟨l, List.mem_cons_of_mem _ hl, h⟩
theorem NoMach.mach {L : List ByteArray} (h : NoMach L) (hne : L ≠ []) : machB (dotJ L) = false := by
  have h1 := dot_fst hne h.good
  rw [h.last] at h1
  have h2 : (dotJ L).data.toList.head? ≠ some 91 := fun e => by
    have hm := head_mem e
    rw [dotJ_data] at hm
    rcases mem_join _ hm with h3 | ⟨p, hp, hc⟩
    · exact absurd h3 (by decide)
    · obtain ⟨l, hl, rfl⟩ := List.mem_map.1 hp
      exact h.no91 l hl 91 hc rfl
  rw [machB, decide_eq_false h2, h1]; rfl
theorem NoMach.drop {L : List ByteArray} (h : NoMach L) (i : Nat) (hi : i < L.length) : NoMach (L.drop i) := by
  refine ⟨fun l hl => h.good l (List.mem_of_mem_drop hl), ?_, fun l hl => h.no91 l (List.mem_of_mem_drop hl)⟩
  have := h.last
  rw [lastQ, List.getLast?_map] at this ⊢
  rwa [List.getLast?_drop, if_neg (by omega)]
theorem NoMach.up {L : List ByteArray} (h : NoMach L) (i : Nat) (hi : i < L.length) : machB (upS L i) = false ∧ 0 < (upS L i).size := by
  have hne : L.drop i ≠ [] := by
    intro e
    have := congrArg List.length e
    simp at this; omega
  refine ⟨(h.drop i hi).mach hne, ?_⟩
  have h1 := List.length_pos_iff.2 (dot_last hne (h.drop i hi).good).1
  rw [lenB] at h1
  exact h1
theorem NoMach.below {L : List ByteArray} (h : NoMach L) (i j : Nat) (hij : i ≤ j) (hj : j < L.length) : belowB (upS L i) (upS L j) = true := by
  by_cases e : i = j
  · rw [e]; exact below_self _
  · have h1 := up_size L i j (by omega) hj
    obtain ⟨h2, h3⟩ := h.up i (by omega)
    obtain ⟨h4, h5⟩ := h.up j hj
    rw [below_ne (fun e => by rw [e] at h1; omega), decide_eq_true h5, h2, h4, up_suf L i j (by omega) hj]; rfl
end Go.Proofs.Ytldddgmhmolohaa
namespace Go.Proofs.Ytldddgmhmolohaa
open Go.RowKit

set_option maxRecDepth 100000 in
set_option maxHeartbeats 1000000 in
theorem Machine_any (s : ByteArray) (w : World) (hs : s.size ≤ 1048600) :
    Calls Try.prog 23 #[.string s] w fun e w' => e = .returned (.bool (machB s)) ∧ Below w.heap.size w w' := by
  obtain ⟨C, b, c, hv, hsz, hone, hcase⟩ := fourV_mach s.data.toList
  obtain ⟨hz, hi⟩ := zero_of_info infoA
  have HI := Lib.hid hi; clear hi
  have HF : Hid (∀ w, Calls Try.prog 26 #[.string s] w fun e w' => e = .returned (.tuple #[.agg C, .bool b, .int .i64 c]) ∧ Below w.heap.size w w') := Lib.hid (fun w => by
    have := Four_any s w hs
    rwa [hv] at this)
  have HD : Hid ((Try.prog.info? 36).map (·.size) = some C.size) := Lib.hid (by rw [HI.out, hsz])
  have HY : Hid (zeroA.size = C.size) := Lib.hid (by rw [hsz]; exact zeroA_size)
  have HO := Lib.hid hone
  have HCs := Lib.hid hcase
  clear hv hsz hone hcase
  obtain ⟨p, Hp⟩ : ∃ p, Hid (decide (s.data.toList.head? = some 91) = p) := ⟨_, Lib.hid rfl⟩
  obtain ⟨M, HM⟩ : ∃ M, Hid (machB s = M) := ⟨_, Lib.hid rfl⟩
  have HMM : Hid (M = (p || (b && (c == 0)))) := Lib.hid (by rw [← HM.out, machB, Hp.out, ← HCs.out.2.2, HCs.out.2.1, Bool.and_comm b])
  have HP : Hid (Calls Try.prog 14 #[.string s, .string ⟨#[91]⟩] w fun e w' => e = .returned (.bool p) ∧ w' = w) := Lib.hid (by
    have := Try.strings_HasPrefix s ⟨#[91]⟩ w
    rw [show Lib.hasPrefix s.data.toList (⟨#[91]⟩ : ByteArray).data.toList = p from (pre_one _ _).trans Hp.out] at this
    exact this)
  rw [HM.out]
  have HC2 := Lib.hid HCs.out.1
  clear HCs
  cases p
  · rcases HC2.out with ⟨rfl, rfl⟩ | ⟨rfl, rfl⟩ | ⟨rfl, rfl⟩
    all_goals
      go_enter Try.func23, Try.ntmps23
      go_wp2_with fail
      refine HP.out.mono ?_
      rintro e w0 ⟨rfl, rfl⟩
      go_wp2_with fail
      refine (HF.out _).mono ?_
      rintro e w1 ⟨rfl, b1⟩
      have B1 : Hid (Below w0.heap.size w0 (w1.alloc (.cells C 36))) := Lib.hid (b1.alloc b1.size _)
      clear b1
      go_wp2_with (refine wpL_store_row rfl 36 _ _ rfl w1.heap.size C ?_ ?_ 36 zeroA ?_ ?_ ?_ ?_ ?_; exact rfl; exact rfl; exact heap_alloc_new w1 _; exact HD.out; exact HY.out; exact HO.out; rw [World.setRow_alloc_new])
      go_ret
      exact ⟨ret_bool (by rw [HMM.out]; rfl), B1.out⟩
  · have HR : Hid (M = true) := Lib.hid (by rw [HMM.out]; rfl)
    go_enter Try.func23, Try.ntmps23
    go_wp2_with fail
    refine HP.out.mono ?_
    rintro e w0 ⟨rfl, rfl⟩
    go_wp2
    go_ret
    exact ⟨ret_bool HR.out.symm, Below.refl _ _⟩
set_option maxRecDepth 100000 in
set_option maxHeartbeats 1000000 in
theorem Below5_any (a b : ByteArray) (w : World) (ha : a.size ≤ 1048600) (hb : b.size ≤ 1048600) :
    Calls Try.prog 16 #[.string a, .string b] w fun e w' => e = .returned (.bool (belowB a b)) ∧ Below w.heap.size w w' := by
  obtain ⟨R, HR⟩ : ∃ R, Hid (belowB a b = R) := ⟨_, Lib.hid rfl⟩
  rw [HR.out]
  by_cases hab : a = b
  · have HT : Hid (R = true) := Lib.hid (by rw [← HR.out, hab, below_self])
    subst hab
    go_enter Try.func16, Try.ntmps16
    go_wp2
    go_ret
    exact ⟨ret_bool HT.out.symm, Below.refl _ _⟩
  have hne := neL hab
  have HB : Hid (R = (decide (0 < b.size) && !machB a && !machB b && Lib.hasSuffix a.data.toList (46 :: b.data.toList))) := Lib.hid (by rw [← HR.out, below_ne hab])
  clear hab HR
  by_cases h0 : b.size = 0
  · have hem := emT h0
    have HF : Hid (R = false) := Lib.hid (by rw [HB.out, h0]; rfl)
    clear HB h0
    go_enter Try.func16, Try.ntmps16
    go_wp2
    go_ret
    exact ⟨ret_bool HF.out.symm, Below.refl _ _⟩
  have hem := emF (s := b) (by omega)
  obtain ⟨ma, HMa⟩ : ∃ m, Hid (machB a = m) := ⟨_, Lib.hid rfl⟩
  obtain ⟨mb, HMb⟩ : ∃ m, Hid (machB b = m) := ⟨_, Lib.hid rfl⟩
  obtain ⟨sf, HSf⟩ : ∃ m, Hid (Lib.hasSuffix a.data.toList (46 :: b.data.toList) = m) := ⟨_, Lib.hid rfl⟩
  have HB2 : Hid (R = (!ma && !mb && sf)) := Lib.hid (by rw [HB.out, HMa.out, HMb.out, HSf.out, decide_eq_true (by omega : 0 < b.size), Bool.true_and])
  have CA : Hid (∀ w, Calls Try.prog 23 #[.string a] w fun e w' => e = .returned (.bool ma) ∧ Below w.heap.size w w') := Lib.hid (fun w => by rw [← HMa.out]; exact Machine_any a w ha)
  have CB : Hid (∀ w, Calls Try.prog 23 #[.string b] w fun e w' => e = .returned (.bool mb) ∧ Below w.heap.size w w') := Lib.hid (fun w => by rw [← HMb.out]; exact Machine_any b w hb)
  have CS : Hid (∀ w, Calls Try.prog 13 #[.string a, .string (⟨#[46]⟩ ++ b)] w fun e w' => e = .returned (.bool sf) ∧ w' = w) := Lib.hid (fun w => by
    have := Try.strings_HasSuffix a (⟨#[46]⟩ ++ b) w (by omega)
    rwa [show ((⟨#[46]⟩ : ByteArray) ++ b).data.toList = 46 :: b.data.toList by rw [ByteArray.data_append, Array.toList_append]; rfl, HSf.out] at this)
  have hz1 : ¬ 9223372036854775807 < 1 + b.size := by omega
  clear HB h0 HMa HMb HSf
  go_enter Try.func16, Try.ntmps16
  go_wp2_with fail
  refine (CA.out _).mono ?_
  rintro e w1 ⟨rfl, b1⟩
  have B1 := Lib.hid b1; clear b1
  cases ma
  · go_wp2_with fail
    refine (CB.out _).mono ?_
    rintro e w2 ⟨rfl, b2⟩
    have B2 : Hid (Below w.heap.size w w2) := Lib.hid (keepW B1.out b2)
    clear b2
    cases mb
    · have HF : Hid (R = sf) := Lib.hid (by rw [HB2.out]; rfl)
      go_wp2_with fail
      refine (CS.out _).mono ?_
      rintro e w3 ⟨rfl, rfl⟩
      go_wp2
      go_ret
      exact ⟨ret_bool HF.out.symm, B2.out⟩
    · have HF : Hid (R = false) := Lib.hid (by rw [HB2.out]; rfl)
      go_wp2
      go_ret
      exact ⟨ret_bool HF.out.symm, B2.out⟩
  · have HF : Hid (R = false) := Lib.hid (by rw [HB2.out]; rfl)
    go_wp2
    go_ret
    exact ⟨ret_bool HF.out.symm, B1.out⟩

end Go.Proofs.Ytldddgmhmolohaa
namespace Go.Proofs.Ytldddgmhmolohaa
open Go.RowKit


end Go.Proofs.Ytldddgmhmolohaa
