/-
  Plain words on rules: a part, a rule, the rules that fit, how many parts a suffix has, what is answered.
  Contracts: footmanlaw01.TextsSize of some texts, TwinTexts, LeftTexts.
  Contracts: suffix.isPart, isParts, isRule, Check.
  Contracts: suffix.endsWith, ruleOf, fitting: the rules that fit, one by one.
  Plain words on suffixes: whose names are whose; without rules; rules in another order.
  Contracts: suffix.isName, lastParts, Suffix, Own; great of suffix's statements.
  Plain words on rules: the document's rule is the program's; a host's last parts, told one by one.
-/
import Derived.Test.YtldddgmhmolohaaGreatDoorMhK
import Derived.Test.YtldddgmhmolohaaGreatDoorMrA
import Derived.Test.YtldddgmhmolohaaGreatDoorMhA
import Derived.OwnWalk
import Derived.Lib.AppendZeros
import Derived.RegionTactic
import Derived.Test.YtldddgmhmolohaaGreatDoorShelfC
import Derived.Test.YtldddgmhmolohaaGreatDoorShelfW
import Derived.RangeFuncNested
import Derived.RangeFuncBound
import Derived.RangeFuncCalls
import Derived.RangeFuncLeaves
import Derived.Shelf.Abstract
import Derived.Shelf.RegionOpen
import Derived.OwnWalkIn
import Derived.TacticsInMore
import Derived.LoopNIn
import Derived.LoopIn
import Derived.RangeFuncBox
namespace Go.Proofs.YtldddgmhmolohaaGreatDoor
open Go.RowKit

/-- A sign of a part. -/
def sgnB (c : UInt8) : Bool := decide (0 ≤ Lib.indexByte [97, 98, 99, 100, 101, 102, 103, 104, 105, 106, 107, 108, 109, 110, 111, 112, 113, 114, 115, 116, 117, 118, 119, 120, 121, 122, 48, 49, 50, 51, 52, 53, 54, 55, 56, 57, 45] c)
def partB (p : ByteArray) : Bool := p.data.toList.all sgnB && (decide (0 < p.size) && decide (p.size ≤ 63))
def partsB (s : ByteArray) : Bool := decide (s.size ≤ 253) && (rawB 46 s).all partB
/-- Does a rule begin with an exclamation mark? -/
def exB (s : ByteArray) : Bool := Lib.hasPrefix s.data.toList [33]
def bareS (s : ByteArray) : ByteArray := ⟨(Lib.trimPrefix s.data.toList [33]).toArray⟩
def starS (s : ByteArray) : ByteArray := ⟨(Lib.trimPrefix s.data.toList [42, 46]).toArray⟩
def pointB (s : ByteArray) : Bool := decide (0 ≤ Lib.indexByte s.data.toList 46)
def ruleB (s : ByteArray) : Bool := if exB s then partsB (bareS s) && pointB (bareS s) else partsB (starS s)
def rulesB (R : List ByteArray) : Bool := decide (R.length ≤ 1024) && R.all ruleB
/-- A rule's parts. -/
def bareL (s : ByteArray) : List ByteArray := rawB 46 (bareS s)
/-- Do a host's last parts fit a rule's? -/
def fitsB (P H : List ByteArray) : Bool := decide (P.length ≤ H.length) && (List.range P.length).all fun j => decide (P[j]? = some ⟨#[42]⟩) || decide (P[j]? = H[H.length - P.length + j]?)
def fit1 (H : List ByteArray) (r : ByteArray) : List (Nat × Bool) := if fitsB (bareL r) H then [((bareL r).length, exB r)] else []
/-- The rules that fit: how many parts each has, and whether it excepts. -/
def fitL (R H : List ByteArray) : List (Nat × Bool) := R.flatMap (fit1 H)
def sufN : List (Nat × Bool) → Nat → Nat
  | [], m => m
  | (n, true) :: _, _ => n - 1
  | (n, false) :: r, m => sufN r (max m n)
/-- How many parts a suffix has. -/
def manyN (R H : List ByteArray) : Nat := sufN (fitL R H) 1
def nameB (h : ByteArray) : Bool := decide (hostO h = some h) && !machB h
def sfxB (L : List ByteArray) (n : Nat) : ByteArray := dotJ (L.drop (L.length - n))
/-- What is answered: the suffix, and so many parts more. -/
def sufT (R : List ByteArray) (h : ByteArray) (more : Nat) : ByteArray × Int :=
  if rulesB R = false then (⟨#[]⟩, 1) else if nameB h = false then (⟨#[]⟩, 5) else
  if (rawB 46 h).length < manyN R (rawB 46 h) + more then (⟨#[]⟩, 0) else (sfxB (rawB 46 h) (manyN R (rawB 46 h) + more), 0)

theorem bareS_size (s : ByteArray) : (bareS s).size ≤ s.size := by
  have h := lenB s
  show (Lib.trimPrefix s.data.toList [33]).toArray.size ≤ _
  rw [List.size_toArray, Lib.trimPrefix]
  split
  · rw [List.length_drop]; omega
  · omega
theorem starS_size (s : ByteArray) : (starS s).size ≤ s.size := by
  have h := lenB s
  show (Lib.trimPrefix s.data.toList [42, 46]).toArray.size ≤ _
  rw [List.size_toArray, Lib.trimPrefix]
  split
  · rw [List.length_drop]; omega
  · omega
theorem partB_no {p : ByteArray} {k : Nat} (h : k < p.size) (hc : sgnB p[k] = false) : partB p = false := by
  rw [partB]
  have : p.data.toList.all sgnB = false := by
    rw [← Bool.not_eq_true, List.all_eq_true]
    intro hall
    have h2 : p[k] ∈ p.data.toList := by
      have : k < p.data.toList.length := by rw [lenB]; exact h
      exact (show p.data.toList[k] = p[k] from rfl) ▸ List.getElem_mem this
    rw [hall _ h2] at hc; cases hc
  rw [this]; rfl
theorem partB_all {p : ByteArray} (h : ∀ k (hk : k < p.size), sgnB p[k] = true) : partB p = (decide (0 < p.size) && decide (p.size ≤ 63)) := by
  rw [partB]
  have : p.data.toList.all sgnB = true := by
    rw [List.all_eq_true]
    intro c hc
    obtain ⟨k, hk, rfl⟩ := List.getElem_of_mem hc
    exact h k (by rw [← lenB]; exact hk)
  rw [this]; rfl
theorem all_no {f : ByteArray → Bool} {L : List ByteArray} {k : Nat} (h : k < L.length) (hf : f L[k] = false) : L.all f = false := by
  rw [← Bool.not_eq_true, List.all_eq_true]
  intro hall
  rw [hall _ (List.getElem_mem h)] at hf; cases hf
theorem all_yes {f : ByteArray → Bool} {L : List ByteArray} (h : ∀ k (hk : k < L.length), f L[k] = true) : L.all f = true := by
  rw [List.all_eq_true]
  intro c hc
  obtain ⟨k, hk, rfl⟩ := List.getElem_of_mem hc
  exact h k hk

/- The rules that fit, one by one. -/
theorem fitL_take (R H : List ByteArray) (k : Nat) (h : k < R.length) : fitL (R.take (k + 1)) H = fitL (R.take k) H ++ fit1 H R[k] := by
  rw [List.take_succ_eq_append_getElem h, fitL, fitL, List.flatMap_append, List.flatMap_cons, List.flatMap_nil, List.append_nil]
theorem fitL_pre (R H : List ByteArray) (k : Nat) : fitL (R.take k) H <+: fitL R H := by
  refine ⟨fitL (R.drop k) H, ?_⟩
  rw [fitL, fitL, fitL, ← List.flatMap_append, List.take_append_drop]
theorem fits_len {P H : List ByteArray} (h : fitsB P H = true) : P.length ≤ H.length := by
  rw [fitsB, Bool.and_eq_true] at h
  exact of_decide_eq_true h.1
theorem fitL_mem {R H : List ByteArray} {x : Nat × Bool} (h : x ∈ fitL R H) : ∃ r ∈ R, fitsB (bareL r) H = true ∧ x = ((bareL r).length, exB r) := by
  rw [fitL, List.mem_flatMap] at h
  obtain ⟨r, hr, hx⟩ := h
  rw [fit1] at hx
  split at hx
  · rename_i hf
    exact ⟨r, hr, hf, by simpa using hx⟩
  · cases hx
theorem sufN_app : ∀ (A B : List (Nat × Bool)) (m : Nat), (∀ x ∈ A, x.2 = false) → sufN (A ++ B) m = sufN B (sufN A m)
  | [], _, _, _ => rfl
  | (n, true) :: A, B, m, h => by have := h (n, true) List.mem_cons_self; cases this
  | (n, false) :: A, B, m, h => by
    rw [List.cons_append, sufN, sufN, sufN_app A B _ (fun x hx => h x (List.mem_cons_of_mem _ hx))]
theorem sufN_stop (A B : List (Nat × Bool)) (n m : Nat) (h : ∀ x ∈ A, x.2 = false) : sufN (A ++ (n, true) :: B) m = n - 1 := by
  rw [sufN_app A _ m h, sufN]
theorem sufN_one (A : List (Nat × Bool)) (n m : Nat) (h : ∀ x ∈ A, x.2 = false) : sufN (A ++ [(n, false)]) m = max (sufN A m) n := by
  rw [sufN_app A _ m h, sufN, sufN]
theorem sufN_le (N : Nat) : ∀ (A : List (Nat × Bool)) (m : Nat), (∀ x ∈ A, x.1 ≤ N) → m ≤ N → sufN A m ≤ N
  | [], _, _, h => h
  | (n, true) :: A, m, h, _ => by have := h (n, true) List.mem_cons_self; rw [sufN]; omega
  | (n, false) :: A, m, h, hm => by
    rw [sufN]
    exact sufN_le N A _ (fun x hx => h x (List.mem_cons_of_mem _ hx)) (by have := h (n, false) List.mem_cons_self; simp at this; omega)
theorem sufN_pos : ∀ (A : List (Nat × Bool)) (m : Nat), (∀ x ∈ A, x.2 = true → 2 ≤ x.1) → 1 ≤ m → 1 ≤ sufN A m
  | [], _, _, h => h
  | (n, true) :: A, m, h, _ => by have := h (n, true) List.mem_cons_self rfl; rw [sufN]; simp at this; omega
  | (n, false) :: A, m, h, hm => by
    rw [sufN]
    exact sufN_pos A _ (fun x hx => h x (List.mem_cons_of_mem _ hx)) (by omega)
theorem manyN_le (R H : List ByteArray) (h : H ≠ []) : manyN R H ≤ H.length := by
  refine sufN_le _ _ _ (fun x hx => ?_) (by have := List.length_pos_iff.2 h; omega)
  obtain ⟨r, _, hf, rfl⟩ := fitL_mem hx
  exact fits_len hf
theorem pts_two {a : UInt8} {l : List UInt8} (h : a ∈ l) : 2 ≤ (pts a l).length := by
  obtain ⟨x, y, rfl⟩ := List.append_of_mem h
  rw [pts_append, List.length_append]
  have h1 := List.length_pos_iff.2 (pts_ne a x)
  have h2 := List.length_pos_iff.2 (pts_ne a y)
  omega
theorem pts_one {a : UInt8} {l : List UInt8} (h : a ∉ l) : pts a l = [l] := pts_none a l (fun _ hc e => h (e ▸ hc))
theorem ix_mem (a : UInt8) : ∀ l : List UInt8, 0 ≤ Lib.indexByte l a ↔ a ∈ l
  | [] => by simp [Lib.indexByte]
  | c :: l => by
    have ih := ix_mem a l
    rw [List.mem_cons, Lib.indexByte]
    by_cases h : c = a
    · subst h; simp
    · have h1 : (c == a) = false := beq_eq_false_iff_ne.2 h
      rw [h1]
      by_cases h2 : Lib.indexByte l a = -1
      · rw [h2] at ih ⊢
        simp only [Bool.false_eq_true, if_false]
        constructor
        · intro h3; simp at h3
        · rintro (h3 | h3)
          · exact absurd h3.symm h
          · have := ih.2 h3; omega
      · have h4 : (Lib.indexByte l a == -1) = false := beq_eq_false_iff_ne.2 h2
        simp only [h4, Bool.false_eq_true, if_false]
        constructor
        · intro h3
          exact .inr (ih.1 (by have := Lib.indexByte_ge l a; omega))
        · rintro (h3 | h3)
          · exact absurd h3.symm h
          · have := ih.2 h3; omega
theorem raw_two (s : ByteArray) : 2 ≤ (rawB 46 s).length ↔ pointB s = true := by
  rw [rawB_eq, List.length_map, pointB, decide_eq_true_eq, ix_mem]
  constructor
  · intro h
    by_cases hm : 46 ∈ s.data.toList
    · exact hm
    · rw [pts_one hm] at h; simp at h
  · exact pts_two
theorem manyN_pos {R : List ByteArray} (H : List ByteArray) (h : rulesB R = true) : 1 ≤ manyN R H := by
  refine sufN_pos _ _ (fun x hx hb => ?_) (Nat.le_refl _)
  obtain ⟨r, hr, hf, rfl⟩ := fitL_mem hx
  rw [rulesB, Bool.and_eq_true, List.all_eq_true] at h
  have h2 := h.2 r hr
  have hb' : exB r = true := hb
  rw [ruleB, hb', if_pos rfl, Bool.and_eq_true] at h2
  exact (raw_two _).2 h2.2
theorem fits_long {P H : List ByteArray} (h : H.length < P.length) : fitsB P H = false := by
  rw [fitsB, decide_eq_false (by omega), Bool.false_and]
theorem fits_no {P H : List ByteArray} {j : Nat} {p x : ByteArray} (hj : j < P.length) (hp : P[j]? = some p) (hx : H[H.length - P.length + j]? = some x) (h1 : p ≠ ⟨#[42]⟩) (h2 : p ≠ x) : fitsB P H = false := by
  rw [fitsB]
  have : ((List.range P.length).all fun j => decide (P[j]? = some ⟨#[42]⟩) || decide (P[j]? = H[H.length - P.length + j]?)) = false := by
    rw [← Bool.not_eq_true, List.all_eq_true]
    intro hall
    have := hall j (List.mem_range.2 hj)
    rw [hp, hx, Bool.or_eq_true, decide_eq_true_eq, decide_eq_true_eq] at this
    rcases this with h | h
    · exact h1 (Option.some.inj h)
    · exact h2 (Option.some.inj h)
  rw [this, Bool.and_false]
theorem fits_yes {P H : List ByteArray} (hl : P.length ≤ H.length) (h : ∀ j, j < P.length → P[j]? = some ⟨#[42]⟩ ∨ P[j]? = H[H.length - P.length + j]?) : fitsB P H = true := by
  rw [fitsB, decide_eq_true hl, Bool.true_and, List.all_eq_true]
  intro j hj
  rw [Bool.or_eq_true, decide_eq_true_eq, decide_eq_true_eq]
  exact h j (List.mem_range.1 hj)

end Go.Proofs.YtldddgmhmolohaaGreatDoor
namespace Go.Proofs.YtldddgmhmolohaaGreatDoor
open Go.RowKit

/-- Texts that lie in a row. -/
structure TxAt (R : List ByteArray) (a0 : Option Addr) (b off : Nat) (w : World) : Prop where
  at0 : 0 < R.length → a0 = some ⟨b, off, none⟩
  cell : ∀ j (h : j < R.length), w.cell? ⟨b, off + j, none⟩ = some (.string R[j])
theorem TxAt.later {R : List ByteArray} {a0 : Option Addr} {b off : Nat} {w w' : World} (h : TxAt R a0 b off w) (hb : Below w.heap.size w w') : TxAt R a0 b off w' :=
  ⟨h.at0, fun j hj => (hb.cell (block_lt_of_cell (h.cell j hj))).trans (h.cell j hj)⟩

def szL (L : List ByteArray) : Nat := (L.map (·.size)).sum
theorem szL_take (L : List ByteArray) (k : Nat) (h : k < L.length) : szL (L.take (k + 1)) = szL (L.take k) + L[k].size := by
  rw [List.take_succ_eq_append_getElem h, szL, szL, List.map_append, List.sum_append]; simp
theorem szL_mem {x : ByteArray} : ∀ {L : List ByteArray}, x ∈ L → x.size ≤ szL L
  | [], h => by cases h
  | y :: L, h => by
    have e : szL (y :: L) = y.size + szL L := by simp [szL]
    rcases List.mem_cons.1 h with rfl | h
    · omega
    · have := szL_mem h; omega

set_option maxRecDepth 100000 in
set_option maxHeartbeats 1000000 in
theorem TextsSz_any (L : List ByteArray) (a0 : Option Addr) (b off cap : Nat) (w : World) (hA : 0 < L.length → a0 = some ⟨b, off, none⟩) (hc : ∀ j (h : j < L.length), w.cell? ⟨b, off + j, none⟩ = some (.string L[j])) (hn : L.length ≤ 2000) (hs : ∀ x ∈ L, x.size ≤ 140737488355328) :
    Calls Tryz.prog 9 #[.slice a0 L.length cap] w fun e w' => ∃ r : Nat, e = .returned (.int .i64 r) ∧ (r ≤ 1048576 → L.length + szL L = r) ∧ Below w.heap.size w w' := by
  have HC := Lib.hid hc; clear hc
  have HS := Lib.hid hs; clear hs
  have HAd := Lib.hid hA; clear hA
  obtain ⟨n, HN⟩ : ∃ n, Hid (L.length = n) := ⟨_, Lib.hid rfl⟩
  rw [HN.out] at hn ⊢
  go_enter Tryz.func9, Tryz.ntmps9
  go_wp2
  go_loopw [3, 4] (fun z i wr => ∃ k r : Nat, k ≤ n ∧ r ≤ n + k * 140737488355328 ∧ i = .int .i64 k ∧ z = .int .i64 r ∧ Hid (r = n + szL (L.take k)) ∧ Hid (Below w.heap.size w wr)) (fun _ i _ => n - (intOf i).toNat)
  case atStart => exact ⟨0, n, Nat.zero_le _, by omega, rfl, rfl, Lib.hid (by simp [szL]), Lib.hid (Below.refl _ _)⟩
  case round =>
    obtain ⟨k, r, hk, hr, rfl, rfl, HR, HB⟩ := hrel
    by_cases hlt : k < n
    · by_cases hbig : r ≤ 1048576
      · have hkL : k < L.length := by rw [HN.out]; exact hlt
        obtain ⟨x, Hx⟩ : ∃ x, Hid (L[k] = x) := ⟨_, Lib.hid rfl⟩
        have hxs : x.size ≤ 140737488355328 := by rw [← Hx.out]; exact HS.out _ (List.getElem_mem hkL)
        have hx : wr.cell? ⟨b, off + k, none⟩ = some (.string x) := by rw [← Hx.out]; exact (HB.out.cell (block_lt_of_cell (HC.out k hkL))).trans (HC.out k hkL)
        have ha : a0 = some ⟨b, off, none⟩ := HAd.out (by omega)
        subst ha
        have hbI : (r : Int) ≤ 1048576 := by omega
        have HR2 : Hid (r + x.size = n + szL (L.take (k + 1))) := Lib.hid (by rw [szL_take L k hkL, Hx.out, HR.out]; omega)
        go_wp2
        exact ⟨⟨k + 1, r + x.size, by omega, by omega, by go_num, by go_num, HR2, HB⟩, by simp [intOf]; omega⟩
      · have hbI : (1048576 : Int) < (r : Int) := by omega
        go_wp2
        go_ret
        exact ⟨r, rfl, fun h => by omega, HB.out⟩
    · obtain rfl : k = n := by omega
      go_wp2
      go_ret
      refine ⟨r, rfl, fun h => ?_, HB.out⟩
      have := HR.out
      rw [List.take_of_length_le (by rw [HN.out]; exact Nat.le_refl _)] at this
      omega

def spareS : ByteArray := ⟨#[115, 112, 97, 114, 101]⟩
/-- A twin: the texts, and one more behind them. -/
def TwinAt (L : List ByteArray) (g c : Nat) (w : World) : Prop := (∃ C, w.heap[g]? = some (.cells C 9 (0, 0)) ∧ (∀ j, j < L.length + 1 → C[j]? = ((L ++ [spareS]).map Value.string)[j]?)) ∧ L.length + 1 ≤ c
theorem TwinAt.cell {L : List ByteArray} {g c : Nat} {w : World} (h : TwinAt L g c w) (j : Nat) (hj : j < L.length) : w.cell? ⟨g, 0 + j, none⟩ = some (.string L[j]) := by
  obtain ⟨⟨C, hC, hj2⟩, _⟩ := h
  rw [cell_of_row _ _ _ _ _ _ hC, Nat.zero_add, hj2 j (by omega), List.getElem?_map, List.getElem?_append_left hj, List.getElem?_eq_getElem hj]; rfl
theorem TwinAt.lt {L : List ByteArray} {g c : Nat} {w : World} (h : TwinAt L g c w) : g < w.heap.size := by
  obtain ⟨⟨C, hC, _⟩, _⟩ := h
  exact lt_of_block hC
theorem TwinAt.later {L : List ByteArray} {g c : Nat} {w w' : World} (h : TwinAt L g c w) (hb : Below w.heap.size w w') : TwinAt L g c w' := by
  obtain ⟨⟨C, hC, h2⟩, h3⟩ := h
  exact ⟨⟨C, (hb.block g (lt_of_block hC)).trans hC, h2⟩, h3⟩

/-- Texts that are no more than may be gone through. -/
def Fair (R : List ByteArray) (h : ByteArray) : Prop := R.length ≤ 2000 ∧ (∀ r ∈ R, r.size ≤ 50000) ∧ h.size ≤ 1000

end Go.Proofs.YtldddgmhmolohaaGreatDoor
namespace Go.Proofs.YtldddgmhmolohaaGreatDoor
open Go.RowKit

set_option maxRecDepth 100000 in
set_option maxHeartbeats 1000000 in
theorem isPart_any (p : ByteArray) (w : World) (hp : p.size ≤ 9000000) :
    Calls Tryz.prog 89 #[.string p] w fun e w' => e = .returned (.bool (partB p)) ∧ w = w' := by
  have CI : Hid (∀ (c : UInt8) w, Calls Tryz.prog 135 #[.string ⟨#[97, 98, 99, 100, 101, 102, 103, 104, 105, 106, 107, 108, 109, 110, 111, 112, 113, 114, 115, 116, 117, 118, 119, 120, 121, 122, 48, 49, 50, 51, 52, 53, 54, 55, 56, 57, 45]⟩, .int .u8 (c.toNat : Int)] w fun e w' => ∃ j : Int, e = .returned (.int .i64 j) ∧ sgnB c = decide (0 ≤ j) ∧ w = w') := Lib.hid (fun c w => by
    have := Tryz.strings_IndexByte ⟨#[97, 98, 99, 100, 101, 102, 103, 104, 105, 106, 107, 108, 109, 110, 111, 112, 113, 114, 115, 116, 117, 118, 119, 120, 121, 122, 48, 49, 50, 51, 52, 53, 54, 55, 56, 57, 45]⟩ (c.toNat : Int) w
    rw [show (c.toNat : Int).toNat.toUInt8 = c by simp] at this
    exact this.mono fun e w' ⟨h1, h2⟩ => ⟨_, h1, rfl, h2.symm⟩)
  go_enter Tryz.func89, Tryz.ntmps89
  go_wp2
  go_loop [3, 6] (fun _ i => ∃ k : Nat, k ≤ p.size ∧ i = .int .i64 k ∧ Hid (∀ j (h : j < p.size), j < k → sgnB p[j] = true)) (fun _ i => p.size - (intOf i).toNat)
  case atStart => exact ⟨0, Nat.zero_le _, rfl, Lib.hid (fun _ _ h => absurd h (Nat.not_lt_zero _))⟩
  case round =>
    obtain ⟨k, hk, rfl, HOk⟩ := hrel
    by_cases hlt : k < p.size
    · go_wp2_with fail
      refine (CI.out p[k] _).mono ?_
      rintro e w1 ⟨j, rfl, hj, rfl⟩
      by_cases h0 : j < 0
      · have HR : Hid (partB p = false) := Lib.hid (partB_no hlt (by rw [hj, decide_eq_false (by omega)]))
        clear hj
        go_wp2
        go_ret
        exact ⟨ret_bool (by rw [HR.out]), rfl⟩
      · have h1 : 0 ≤ j := by omega
        have HS : Hid (sgnB p[k] = true) := Lib.hid (by rw [hj, decide_eq_true h1])
        clear hj h0
        go_wp2
        go_round
        case rel => exact ⟨k + 1, by omega, by go_num, Lib.hid (fun j hj hjk => by
          by_cases e : j = k
          · subst e; exact HS.out
          · exact HOk.out j hj (by omega))⟩
        case measure => simp [intOf]; omega
    · have HR : Hid (partB p = (decide (0 < p.size) && decide (p.size ≤ 63))) := Lib.hid (partB_all (fun j hj => HOk.out j hj (by omega)))
      clear HOk
      by_cases h1 : 0 < p.size
      · by_cases h2 : p.size ≤ 63
        · have HR2 : Hid (partB p = true) := Lib.hid (by rw [HR.out, decide_eq_true h1, decide_eq_true h2]; rfl)
          have d1 : (0 : Int) < (p.size : Int) := by omega
          have d2 : (p.size : Int) ≤ 63 := by omega
          clear HR
          go_wp2
          go_ret
          exact ⟨ret_bool (by rw [HR2.out]), rfl⟩
        · have HR2 : Hid (partB p = false) := Lib.hid (by rw [HR.out, decide_eq_false h2, Bool.and_false])
          have d1 : (0 : Int) < (p.size : Int) := by omega
          have d2 : (63 : Int) < (p.size : Int) := by omega
          clear HR
          go_wp2
          go_ret
          exact ⟨ret_bool (by rw [HR2.out]; first | rfl | exact decide_eq_false (by omega)), rfl⟩
      · have HR2 : Hid (partB p = false) := Lib.hid (by rw [HR.out, decide_eq_false h1, Bool.false_and])
        have d1 : (p.size : Int) ≤ 0 := by omega
        clear HR
        go_wp2
        go_ret
        exact ⟨ret_bool (by rw [HR2.out]), rfl⟩

set_option maxRecDepth 100000 in
set_option maxHeartbeats 1000000 in
theorem isParts_any (s : ByteArray) (m : Int) (w : World) (hs : s.size ≤ 1000000) (hm : w.cell? ⟨0, 0, none⟩ = some (.int .i64 m)) :
    Calls Tryz.prog 56 #[.string s] w fun e w' => e = .returned (.bool (partsB s)) ∧ Below w.heap.size w w' := by
  have HM := Lib.hid hm; clear hm
  by_cases hbig : 253 < s.size
  · have HR : Hid (partsB s = false) := Lib.hid (by rw [partsB, decide_eq_false (by omega), Bool.false_and])
    have hI : (253 : Int) < (s.size : Int) := by omega
    go_enter Tryz.func56, Tryz.ntmps56
    go_wp2
    go_ret
    exact ⟨ret_bool (by rw [HR.out]), Below.refl _ _⟩
  have hI : (s.size : Int) ≤ 253 := by omega
  obtain ⟨P, HP⟩ : ∃ P, Hid (rawB 46 s = P) := ⟨_, Lib.hid rfl⟩
  have HR : Hid (partsB s = P.all partB) := Lib.hid (by rw [partsB, decide_eq_true (by omega), Bool.true_and, HP.out])
  obtain ⟨n, HN⟩ : ∃ n, Hid (P.length = n) := ⟨_, Lib.hid rfl⟩
  have hn : n ≤ 254 := by rw [← HN.out, ← HP.out]; have := rawB_count 46 s; omega
  have HPs : Hid (∀ p ∈ P, p.size ≤ 253) := Lib.hid (fun p hp => by rw [← HP.out] at hp; have := (rawB_mem 46 s p hp).1; omega)
  have HS : Hid (Calls Tryz.prog 88 #[.string s, .string ⟨#[46]⟩] w fun e w' => e = .returned (.slice (some ⟨w.heap.size, 0, none⟩) n n) ∧ w.alloc (.cells (P.map Value.string).toArray 9) = w') := Lib.hid (by
    have := Tryz.strings_Split s ⟨#[46]⟩ m w (by omega) HM.out (Nat.le_refl 1)
    rw [show Lib.splitB ⟨#[46]⟩ 0 (Lib.countB s ⟨#[46]⟩) s = P from HP.out, show Lib.countB s ⟨#[46]⟩ + 1 = n by rw [← rawB_len, HP.out, HN.out]] at this
    exact this.mono fun e w' ⟨h1, h2⟩ => ⟨h1, h2.symm⟩)
  have HRow : Hid ((w.alloc (.cells (P.map Value.string).toArray 9)).heap[w.heap.size]? = some (.cells (P.map Value.string).toArray 9 (0, 0))) := Lib.hid (heap_alloc_new w _)
  have HB : Hid (Below w.heap.size w (w.alloc (.cells (P.map Value.string).toArray 9))) := Lib.hid ((Below.refl _ _).alloc (Nat.le_refl _) _)
  clear hbig
  go_enter Tryz.func56, Tryz.ntmps56
  go_wp2_with fail
  refine HS.out.mono ?_
  rintro e w1 ⟨rfl, hw1⟩
  obtain ⟨W, HW⟩ : ∃ W, Hid (w.alloc (.cells (P.map Value.string).toArray 9) = W) := ⟨_, Lib.hid rfl⟩
  obtain rfl : W = w1 := HW.out.symm.trans hw1
  rw [HW.out] at HRow HB
  clear hw1
  go_wp2
  go_loop [4, 11] (fun _ i => ∃ k : Nat, k ≤ n ∧ i = .int .i64 k ∧ Hid (∀ j (h : j < P.length), j < k → partB P[j] = true)) (fun _ i => n - (intOf i).toNat)
  case atStart => exact ⟨0, Nat.zero_le _, rfl, Lib.hid (fun _ _ h => absurd h (Nat.not_lt_zero _))⟩
  case round =>
    obtain ⟨k, hk, rfl, HOk⟩ := hrel
    by_cases hlt : k < n
    · have hkP : k < P.length := by rw [HN.out]; exact hlt
      obtain ⟨p, Hp⟩ : ∃ p, Hid (P[k] = p) := ⟨_, Lib.hid rfl⟩
      have hps : p.size ≤ 253 := by rw [← Hp.out]; exact HPs.out _ (List.getElem_mem hkP)
      have hc : W.cell? ⟨w.heap.size, k, none⟩ = some (.string p) := by
        rw [cell_of_row W _ _ _ _ _ HRow.out, List.getElem?_toArray, List.getElem?_map, List.getElem?_eq_getElem hkP, Hp.out]; rfl
      obtain ⟨c, Hc⟩ : ∃ c, Hid (partB p = c) := ⟨_, Lib.hid rfl⟩
      have HCp := Lib.hid (isPart_any p)
      rw [Hc.out] at HCp
      cases c
      · have HR2 : Hid (partsB s = false) := Lib.hid (by rw [HR.out]; exact all_no hkP (by rw [Hp.out]; exact Hc.out))
        go_wp2_with fail
        refine (HCp.out _ (by omega)).mono ?_
        rintro e w1 ⟨rfl, rfl⟩
        go_wp2
        go_ret
        exact ⟨ret_bool (by rw [HR2.out]), HB.out⟩
      · go_wp2_with fail
        refine (HCp.out _ (by omega)).mono ?_
        rintro e w1 ⟨rfl, rfl⟩
        go_wp2
        go_round
        case rel => exact ⟨k + 1, by omega, by go_num, Lib.hid (fun j hj hjk => by
          by_cases e : j = k
          · subst e; rw [Hp.out]; exact Hc.out
          · exact HOk.out j hj (by omega))⟩
        case measure => simp [intOf]; omega
    · have HR2 : Hid (partsB s = true) := Lib.hid (by rw [HR.out]; exact all_yes (fun j hj => HOk.out j hj (by rw [HN.out] at hj; omega)))
      go_wp2
      go_ret
      exact ⟨ret_bool (by rw [HR2.out]), HB.out⟩

set_option maxRecDepth 100000 in
set_option maxHeartbeats 1000000 in
theorem isRule_any (s : ByteArray) (m : Int) (w : World) (hs : s.size ≤ 1000000) (hm : w.cell? ⟨0, 0, none⟩ = some (.int .i64 m)) :
    Calls Tryz.prog 38 #[.string s] w fun e w' => e = .returned (.bool (ruleB s)) ∧ Below w.heap.size w w' := by
  have HM := Lib.hid hm; clear hm
  obtain ⟨x, Hx⟩ : ∃ x, Hid (exB s = x) := ⟨_, Lib.hid rfl⟩
  obtain ⟨D, HD⟩ : ∃ D, Hid (bareS s = D) := ⟨_, Lib.hid rfl⟩
  obtain ⟨T, HT⟩ : ∃ T, Hid (starS s = T) := ⟨_, Lib.hid rfl⟩
  have hDs : D.size ≤ 1000000 := by rw [← HD.out]; have := bareS_size s; omega
  have hTs : T.size ≤ 1000000 := by rw [← HT.out]; have := starS_size s; omega
  have HC : Hid (∀ w, Calls Tryz.prog 34 #[.string s, .string ⟨#[33]⟩] w fun e w' => e = .returned (.tuple #[.string D, .bool x]) ∧ w = w') := Lib.hid (fun w => by
    have := Tryz.strings_CutPrefix s ⟨#[33]⟩ w
    rw [show Lib.hasPrefix s.data.toList (⟨#[33]⟩ : ByteArray).data.toList = x from Hx.out, show (⟨(Lib.trimPrefix s.data.toList (⟨#[33]⟩ : ByteArray).data.toList).toArray⟩ : ByteArray) = D from HD.out] at this
    exact this.mono fun e w' ⟨h1, h2⟩ => ⟨h1, h2.symm⟩)
  have HTp : Hid (∀ w, Calls Tryz.prog 58 #[.string s, .string ⟨#[42, 46]⟩] w fun e w' => e = .returned (.string T) ∧ w = w') := Lib.hid (fun w => by
    have := Tryz.strings_TrimPrefix s ⟨#[42, 46]⟩ w
    rw [show (⟨(Lib.trimPrefix s.data.toList (⟨#[42, 46]⟩ : ByteArray).data.toList).toArray⟩ : ByteArray) = T from HT.out] at this
    exact this.mono fun e w' ⟨h1, h2⟩ => ⟨h1, h2.symm⟩)
  have HCo : Hid (∀ w, Calls Tryz.prog 57 #[.string D, .string ⟨#[46]⟩] w fun e w' => e = .returned (.bool (pointB D)) ∧ w = w') := Lib.hid (fun w =>
    (Tryz.strings_Contains_one D 46 w).mono fun e w' ⟨h1, h2⟩ => ⟨h1, h2.symm⟩)
  have HR : Hid (ruleB s = if x then partsB D && pointB D else partsB T) := Lib.hid (by rw [ruleB, Hx.out, HD.out, HT.out])
  cases x
  · have HR2 : Hid (ruleB s = partsB T) := Lib.hid HR.out
    go_enter Tryz.func38, Tryz.ntmps38
    go_wp2_with fail
    refine (HC.out _).mono ?_
    rintro e w1 ⟨rfl, rfl⟩
    go_wp2_with fail
    refine (HTp.out _).mono ?_
    rintro e w1 ⟨rfl, rfl⟩
    go_wp2_with fail
    refine (isParts_any T m _ hTs HM.out).mono ?_
    rintro e w1 ⟨rfl, b1⟩
    have B1 := Lib.hid b1; clear b1
    go_wp2
    go_ret
    exact ⟨ret_bool (by rw [HR2.out]), B1.out⟩
  · have HR2 : Hid (ruleB s = (partsB D && pointB D)) := Lib.hid HR.out
    obtain ⟨y, Hy⟩ : ∃ y, Hid (partsB D = y) := ⟨_, Lib.hid rfl⟩
    have CP := Lib.hid (fun w hm => isParts_any D m w hDs hm)
    rw [Hy.out] at CP HR2
    cases y
    · go_enter Tryz.func38, Tryz.ntmps38
      go_wp2_with fail
      refine (HC.out _).mono ?_
      rintro e w1 ⟨rfl, rfl⟩
      go_wp2_with fail
      refine (CP.out _ HM.out).mono ?_
      rintro e w1 ⟨rfl, b1⟩
      have B1 := Lib.hid b1; clear b1
      go_wp2
      go_ret
      exact ⟨ret_bool (by rw [HR2.out]; rfl), B1.out⟩
    · go_enter Tryz.func38, Tryz.ntmps38
      go_wp2_with fail
      refine (HC.out _).mono ?_
      rintro e w1 ⟨rfl, rfl⟩
      go_wp2_with fail
      refine (CP.out _ HM.out).mono ?_
      rintro e w1 ⟨rfl, b1⟩
      have B1 := Lib.hid b1; clear b1
      go_wp2_with fail
      refine (HCo.out _).mono ?_
      rintro e w1 ⟨rfl, rfl⟩
      go_wp2
      go_ret
      exact ⟨ret_bool (by rw [HR2.out]; rfl), B1.out⟩

set_option maxRecDepth 100000 in
set_option maxHeartbeats 1000000 in
theorem Check_any (R : List ByteArray) (a0 : Option Addr) (b off cap : Nat) (m : Int) (w : World) (hT : TxAt R a0 b off w) (hn : R.length ≤ 2000000) (hz : ∀ r ∈ R, r.size ≤ 50000) (hm : w.cell? ⟨0, 0, none⟩ = some (.int .i64 m)) :
    Calls Tryz.prog 23 #[.slice a0 R.length cap] w fun e w' => e = .returned (.bool (rulesB R)) ∧ Below w.heap.size w w' := by
  have HM := Lib.hid hm; clear hm
  have HTx := Lib.hid hT; clear hT
  have HZ := Lib.hid hz; clear hz
  obtain ⟨n, HN⟩ : ∃ n, Hid (R.length = n) := ⟨_, Lib.hid rfl⟩
  rw [HN.out] at hn ⊢
  by_cases hbig : 1024 < n
  · have HR : Hid (rulesB R = false) := Lib.hid (by rw [rulesB, HN.out, decide_eq_false (by omega), Bool.false_and])
    have hI : (1024 : Int) < (n : Int) := by omega
    go_enter Tryz.func23, Tryz.ntmps23
    go_wp2
    go_ret
    exact ⟨ret_bool (by rw [HR.out]), Below.refl _ _⟩
  have hI : (n : Int) ≤ 1024 := by omega
  have HR : Hid (rulesB R = R.all ruleB) := Lib.hid (by rw [rulesB, HN.out, decide_eq_true (by omega), Bool.true_and])
  clear hbig
  go_enter Tryz.func23, Tryz.ntmps23
  go_wp2
  go_loopw [4, 10] (fun _ i wr => ∃ k : Nat, k ≤ n ∧ i = .int .i64 k ∧ Hid (Below w.heap.size w wr) ∧ Hid (∀ j (h : j < R.length), j < k → ruleB R[j] = true)) (fun _ i _ => n - (intOf i).toNat)
  case atStart => exact ⟨0, Nat.zero_le _, rfl, Lib.hid (Below.refl _ _), Lib.hid (fun _ _ h => absurd h (Nat.not_lt_zero _))⟩
  case round =>
    obtain ⟨k, hk, rfl, HB, HOk⟩ := hrel
    by_cases hlt : k < n
    · have hkP : k < R.length := by rw [HN.out]; exact hlt
      obtain ⟨p, Hp⟩ : ∃ p, Hid (R[k] = p) := ⟨_, Lib.hid rfl⟩
      have hps : p.size ≤ 50000 := by rw [← Hp.out]; exact HZ.out _ (List.getElem_mem hkP)
      have hc : wr.cell? ⟨b, off + k, none⟩ = some (.string p) := by rw [← Hp.out]; exact (HTx.out.later HB.out).cell k hkP
      have ha : a0 = some ⟨b, off, none⟩ := HTx.out.at0 (by omega)
      subst ha
      obtain ⟨c, Hc⟩ : ∃ c, Hid (ruleB p = c) := ⟨_, Lib.hid rfl⟩
      have HCp := Lib.hid (fun w hm => isRule_any p m w (by omega) hm)
      rw [Hc.out] at HCp
      have HMr : Hid (wr.cell? ⟨0, 0, none⟩ = some (.int .i64 m)) := Lib.hid ((HB.out.cell (block_lt_of_cell HM.out)).trans HM.out)
      cases c
      · have HR2 : Hid (rulesB R = false) := Lib.hid (by rw [HR.out]; exact all_no hkP (by rw [Hp.out]; exact Hc.out))
        go_wp2_with fail
        refine (HCp.out _ HMr.out).mono ?_
        rintro e w1 ⟨rfl, b1⟩
        have B1 : Hid (Below w.heap.size w w1) := Lib.hid (keepW HB.out b1)
        clear b1 hc
        go_wp2
        go_ret
        exact ⟨ret_bool (by rw [HR2.out]), B1.out⟩
      · go_wp2_with fail
        refine (HCp.out _ HMr.out).mono ?_
        rintro e w1 ⟨rfl, b1⟩
        have B1 : Hid (Below w.heap.size w w1) := Lib.hid (keepW HB.out b1)
        clear b1 hc
        go_wp2
        go_roundw
        case rel => exact ⟨k + 1, by omega, by go_num, B1, Lib.hid (fun j hj hjk => by
          by_cases e : j = k
          · subst e; rw [Hp.out]; exact Hc.out
          · exact HOk.out j hj (by omega))⟩
        case measure => simp [intOf]; omega
    · have HR2 : Hid (rulesB R = true) := Lib.hid (by rw [HR.out]; exact all_yes (fun j hj => HOk.out j hj (by rw [HN.out] at hj; omega)))
      go_wp2
      go_ret
      exact ⟨ret_bool (by rw [HR2.out]), HB.out⟩

end Go.Proofs.YtldddgmhmolohaaGreatDoor
namespace Go.Proofs.YtldddgmhmolohaaGreatDoor
open Go.RowKit Go.Shelf
attribute [local go_sem] Oper.semAt_some

set_option maxRecDepth 100000 in
set_option maxHeartbeats 1000000 in
theorem endsWith_any (P H : List ByteArray) (gH cH gP cP : Nat) (w : World) (hn : P.length ≤ 1000000) (hnH : H.length ≤ 1000000)
    (hH : ∀ j (h : j < H.length), w.cell? ⟨gH, j, none⟩ = some (.string H[j])) (hP : ∀ j (h : j < P.length), w.cell? ⟨gP, j, none⟩ = some (.string P[j])) :
    Calls Tryz.prog 189 #[.slice (some ⟨gH, 0, none⟩) H.length cH, .slice (some ⟨gP, 0, none⟩) P.length cP, .string ⟨#[42]⟩] w fun e w' => e = .returned (.bool (fitsB P H)) ∧ w = w' := by
  have HH := Lib.hid hH; clear hH
  have HP := Lib.hid hP; clear hP
  obtain ⟨n, HN⟩ : ∃ n, Hid (P.length = n) := ⟨_, Lib.hid rfl⟩
  obtain ⟨m, HM⟩ : ∃ m, Hid (H.length = m) := ⟨_, Lib.hid rfl⟩
  rw [HN.out] at hn ⊢
  rw [HM.out] at hnH ⊢
  by_cases hlong : m < n
  · have HR : Hid (fitsB P H = false) := Lib.hid (fits_long (by rw [HN.out, HM.out]; exact hlong))
    go_enter Tryz.func189, Tryz.ntmps189
    go_wp2
    go_ret
    exact ⟨ret_bool (by rw [HR.out]), rfl⟩
  obtain ⟨d, hd⟩ : ∃ d : Nat, (m : Int) - (n : Int) = (d : Int) := ⟨m - n, by omega⟩
  have hdn : d + n = m := by omega
  have Hd := Lib.hid hd
  have hd0 : (n : Int) ≤ (m : Int) := by omega
  go_enter Tryz.func189, Tryz.ntmps189
  go_wp2
  go_loop [8, 9, 19] (fun _ _ i => ∃ k : Nat, k ≤ n ∧ i = .int .i64 k ∧ Hid (∀ j, j < k → P[j]? = some ⟨#[42]⟩ ∨ P[j]? = H[d + j]?)) (fun _ _ i => n - (intOf i).toNat)
  case atStart => exact ⟨0, Nat.zero_le _, rfl, Lib.hid (fun _ h => absurd h (Nat.not_lt_zero _))⟩
  case round =>
    obtain ⟨k, hk, rfl, HOk⟩ := hrel
    by_cases hlt : k < n
    · have hkP : k < P.length := by rw [HN.out]; exact hlt
      have hkH : d + k < H.length := by rw [HM.out]; omega
      obtain ⟨p, Hp⟩ : ∃ p, Hid (P[k] = p) := ⟨_, Lib.hid rfl⟩
      obtain ⟨x, Hx⟩ : ∃ x, Hid (H[d + k] = x) := ⟨_, Lib.hid rfl⟩
      have hc : w.cell? ⟨gP, k, none⟩ = some (.string p) := by rw [← Hp.out]; exact HP.out k hkP
      have hx : w.cell? ⟨gH, d + k, none⟩ = some (.string x) := by rw [← Hx.out]; exact HH.out (d + k) hkH
      have hPk : P[k]? = some p := by rw [List.getElem?_eq_getElem hkP, Hp.out]
      have hHk : H[d + k]? = some x := by rw [List.getElem?_eq_getElem hkH, Hx.out]
      have HPk := Lib.hid hPk
      have HHk := Lib.hid hHk
      clear hPk hHk
      by_cases h1 : p = ⟨#[42]⟩
      · have e1 : p.toList = [42] := by rw [h1, ByteArray.toList_eq]
        have HOk2 : Hid (∀ j, j < k + 1 → P[j]? = some ⟨#[42]⟩ ∨ P[j]? = H[d + j]?) := Lib.hid (fun j hj => by
          by_cases e : j = k
          · subst e; rw [HPk.out, h1]; exact .inl rfl
          · exact HOk.out j (by omega))
        clear h1 hx
        go_wp2
        go_round
        case rel => exact ⟨k + 1, by omega, by go_num, HOk2⟩
        case measure => simp [intOf]; omega
      · have e1 : ¬ p.toList = [42] := fun e => h1 (ba_of (by rw [ByteArray.toList_eq] at e; exact e))
        have e1b : (p.toList == [42]) = false := beq_eq_false_iff_ne.2 e1
        by_cases h2 : p = x
        · have HOk2 : Hid (∀ j, j < k + 1 → P[j]? = some ⟨#[42]⟩ ∨ P[j]? = H[d + j]?) := Lib.hid (fun j hj => by
            by_cases e : j = k
            · subst e; rw [HPk.out, HHk.out, h2]; exact .inr rfl
            · exact HOk.out j (by omega))
          subst h2
          clear h1
          go_wp2
          go_round
          case rel => exact ⟨k + 1, by omega, by go_num, HOk2⟩
          case measure => simp [intOf]; omega
        · have e2 : ¬ p.toList = x.toList := fun e => h2 (ba_of (by rw [ByteArray.toList_eq, ByteArray.toList_eq] at e; exact e))
          have e2b : (p.toList == x.toList) = false := beq_eq_false_iff_ne.2 e2
          have HR : Hid (fitsB P H = false) := Lib.hid (fits_no hkP HPk.out (by rw [HM.out, HN.out, show m - n + k = d + k by omega]; exact HHk.out) h1 h2)
          clear h1 h2
          go_wp2
          go_ret
          exact ⟨ret_bool (by rw [HR.out]), rfl⟩
    · have HR : Hid (fitsB P H = true) := Lib.hid (fits_yes (by rw [HM.out, HN.out]; omega) (fun j hj => by
        rw [HM.out, HN.out, show m - n = d by omega]
        exact HOk.out j (by rw [HN.out] at hj; omega)))
      go_wp2
      go_ret
      exact ⟨ret_bool (by rw [HR.out]), rfl⟩

/-- A rule as it lies: its parts, whether it excepts. -/
def ruleV (g n : Nat) (x : Bool) : Array Value := #[.slice (some ⟨g, 0, none⟩) n n, .bool x]
theorem ruleV_one (g n : Nat) (x : Bool) : (ruleV g n x).all (·.oneCell') = true := by simp [ruleV, Value.oneCell']
def rule0 : Array Value := #[.slice none 0 0, .bool false]
theorem sx_infoR : (Tryz.prog.info? 134).map (·.size) = some 2 := by kernel_rfl
set_option maxRecDepth 100000 in
set_option maxHeartbeats 1000000 in
theorem ruleOf_any (s : ByteArray) (m : Int) (w : World) (hs : s.size ≤ 1000000) (hm : w.cell? ⟨0, 0, none⟩ = some (.int .i64 m)) :
    Calls Tryz.prog 188 #[.string s] w fun e w' => ∃ g, e = .returned (.agg (ruleV g (bareL s).length (exB s))) ∧ w'.heap[g]? = some (.cells ((bareL s).map Value.string).toArray 9 (0, 0)) ∧ Below w.heap.size w w' := by
  have HM := Lib.hid hm; clear hm
  obtain ⟨x, Hx⟩ : ∃ x, Hid (exB s = x) := ⟨_, Lib.hid rfl⟩
  obtain ⟨D, HD⟩ : ∃ D, Hid (bareS s = D) := ⟨_, Lib.hid rfl⟩
  obtain ⟨P, HP⟩ : ∃ P, Hid (bareL s = P) := ⟨_, Lib.hid rfl⟩
  obtain ⟨n, HN⟩ : ∃ n, Hid (P.length = n) := ⟨_, Lib.hid rfl⟩
  have hDs : D.size ≤ 1000000 := by rw [← HD.out]; have := bareS_size s; omega
  have HPD : Hid (rawB 46 D = P) := Lib.hid (by rw [← HD.out]; exact HP.out)
  rw [HP.out, Hx.out, HN.out]
  have HC : Hid (∀ w, Calls Tryz.prog 34 #[.string s, .string ⟨#[33]⟩] w fun e w' => e = .returned (.tuple #[.string D, .bool x]) ∧ w = w') := Lib.hid (fun w => by
    have := Tryz.strings_CutPrefix s ⟨#[33]⟩ w
    rw [show Lib.hasPrefix s.data.toList (⟨#[33]⟩ : ByteArray).data.toList = x from Hx.out, show (⟨(Lib.trimPrefix s.data.toList (⟨#[33]⟩ : ByteArray).data.toList).toArray⟩ : ByteArray) = D from HD.out] at this
    exact this.mono fun e w' ⟨h1, h2⟩ => ⟨h1, h2.symm⟩)
  have HS : Hid (∀ w, w.cell? ⟨0, 0, none⟩ = some (.int .i64 m) → Calls Tryz.prog 88 #[.string D, .string ⟨#[46]⟩] w fun e w' => e = .returned (.slice (some ⟨w.heap.size, 0, none⟩) n n) ∧ w.alloc (.cells (P.map Value.string).toArray 9) = w') := Lib.hid (fun w hm => by
    have := Tryz.strings_Split D ⟨#[46]⟩ m w (by omega) hm (Nat.le_refl 1)
    rw [show Lib.splitB ⟨#[46]⟩ 0 (Lib.countB D ⟨#[46]⟩) D = P from HPD.out, show Lib.countB D ⟨#[46]⟩ + 1 = n by rw [← rawB_len, HPD.out, HN.out]] at this
    exact this.mono fun e w' ⟨h1, h2⟩ => ⟨h1, h2.symm⟩)
  go_enter Tryz.func188, Tryz.ntmps188
  go_wp2_with fail
  refine (HC.out _).mono ?_
  rintro e w1 ⟨rfl, rfl⟩
  go_wp2_with fail
  refine (HS.out _ (cell_old _ HM.out)).mono ?_
  rintro e w1 ⟨rfl, hw1⟩
  have hz0 : (w.alloc (.cells rule0 134)).heap.size = w.heap.size + 1 := by simp
  have HR0 : Hid (w1.heap[w.heap.size]? = some (.cells rule0 134 (0, 0))) := Lib.hid (by rw [← hw1]; exact (Below.heap_alloc _ _ _ (by simp)).trans (heap_alloc_new w _))
  have HR1 : Hid (w1.heap[w.heap.size + 1]? = some (.cells (P.map Value.string).toArray 9 (0, 0))) := Lib.hid (by rw [← hw1]; have := heap_alloc_new (w.alloc (.cells rule0 134)) (.cells (P.map Value.string).toArray 9); rwa [hz0] at this)
  have HB : Hid (Below w.heap.size w w1) := Lib.hid (by rw [← hw1]; exact ((Below.refl _ _).alloc (Nat.le_refl _) _).alloc (by simp) _)
  clear hw1 hz0
  go_wp2_with (refine wpL_store_row rfl 134 _ _ rfl w.heap.size (ruleV (w.heap.size + 1) n x) ?_ ?_ 134 rule0 ?_ ?_ ?_ ?_ ?_; exact rfl; exact rfl; exact HR0.out; exact sx_infoR; exact rfl; exact ruleV_one _ _ _)
  refine bodyPost_ret (results_cell_row rfl _ _ w.heap.size 134 (ruleV (w.heap.size + 1) n x) (0, 0) _ rfl (setRow_heap _ _ _ _ _ _ HR0.out) Tryz.underlying134 rfl sx_infoR) rfl ?_
  exact ⟨w.heap.size + 1, rfl, (setRow_other _ _ _ _ (by omega)).trans HR1.out, below_setRow HB.out (Nat.le_refl _) _⟩

set_option maxHeartbeats 400000 in
theorem fitting_any (a0 a1 : Option Addr) (n m c d : Nat) (w : World) :
    Calls Tryz.prog 144 #[.slice a0 n c, .slice a1 m d] w fun e w' => e = .returned (.func (.func 187) #[] #[.pointer (some ⟨w.heap.size, 0, none⟩), .pointer (some ⟨w.heap.size + 1, 0, none⟩)]) ∧ (w.alloc (.cells #[.slice a0 n c] 22)).alloc (.cells #[.slice a1 m d] 22) = w' := by
  have hmf := mkfK
  go_enter Tryz.func144, Tryz.ntmps144
  go_wp2
  go_ret
  exact ⟨rfl, rfl⟩

/- A struct stored whole, and read whole, within a fence. -/
theorem wpListIn_store_row {F : Fence} {n : Nat} {P : Program} {ops : Array Oper} {rest : List Oper} {o : Oper} {a : Act} {w : World} {Q : Exit → Act → World → Prop} (hgd : o.guard = none) (ty : TypeId) (x y : Operand) (ho : o.op = .store ty x y)
    (g : Nat) (cells : Array Value) (hx : a.eval x = .pointer (some ⟨g, 0, none⟩)) (hy : a.eval y = .agg cells)
    (t : TypeId) (old : Array Value) (hg : w.heap[g]? = some (.cells old t (0, 0))) (hi : (P.info? ty).map (·.size) = some cells.size)
    (hold : old.size = cells.size) (h1 : cells.all (·.oneCell') = true)
    (h : wpListIn F n P ops Q rest (a.put o.dst undef) (w.setRow g cells)) : wpListIn F n P ops Q (o :: rest) a w := by
  refine wpListIn_plain hgd fun K hK' => ?_
  unfold Oper.wpIn
  refine ⟨by simp [Oper.about, ho], ?_⟩
  rw [Oper.semAt_plain F _ _ (by rw [ho]; intro c hc'; cases hc')]
  simp only [execOp, ho, hx, hy, Instr.storeAt, Instr.sureAddr, Sem.run_bind, Sem.run_pure, Result.andThen_ok, run_storeVar_row w g t ty old cells hg hi hold h1]
  exact hK' _ _ h
theorem wpListIn_load_row {F : Fence} {n : Nat} {P : Program} {ops : Array Oper} {rest : List Oper} {o : Oper} {a : Act} {w : World} {Q : Exit → Act → World → Prop} (hw : Region.wanted o (yielded ops a.tmps) = true) (ty : TypeId) (x : Operand) (ho : o.op = .load ty x)
    (g : Nat) (hx : a.eval x = .pointer (some ⟨g, 0, none⟩)) (t : TypeId) (cs : Array Value) (fr : Nat × Nat) (d : TypeDesc) (hg : w.heap[g]? = some (.cells cs t fr))
    (hu : P.underlying ty = some d) (hd : (match d with | .struct _ | .array _ _ => true | _ => false) = true) (hi : (P.info? ty).map (·.size) = some cs.size)
    (h : wpListIn F n P ops Q rest (a.put o.dst (.agg cs)) w) : wpListIn F n P ops Q (o :: rest) a w := by
  refine wpListIn_step fun K hK' => ?_
  simp only [hw, if_true]
  unfold Oper.wpIn
  refine ⟨by simp [Oper.about, ho], ?_⟩
  rw [Oper.semAt_plain F _ _ (by rw [ho]; intro c hc'; cases hc')]
  simp only [execOp, ho, hx, Instr.loadAt, Instr.sureAddr, Sem.run_bind, Sem.run_pure, Result.andThen_ok, run_loadVar_row w g t ty cs fr d hg hu hd hi]
  exact hK' _ _ h

abbrev Fit := { x : Nat × Nat × Bool // x.2.1 ≤ 60000 }
def fitR (x : Fit) : Nat × Bool := x.1.2
def encF (x : Fit) : Array Value := #[.agg (ruleV x.1.1 x.1.2.1 x.1.2.2)]
/-- What a round that goes on keeps. -/
def KpF (n₀ Bp : Nat) (W W' : World) : Prop := Below n₀ W W' ∧ W'.heap[Bp]? = W.heap[Bp]?
theorem below_grown {W W' : World} (h : Below W.heap.size W W') : W.grownBy W' none := ⟨h.os, h.tape, h.output, h.size, fun k hk _ => h.block k hk⟩

set_option maxHeartbeats 2000000 in
set_option maxRecDepth 1000000 in
theorem fit1_in (n : Nat) (_hn : 1 ≤ n) (l Br Bp n₀ : Nat) (R H : List ByteArray) (ar : Option Addr) (br ofr cr gH cH : Nat) (m : Int) (J Jx : List Fit → World → Prop) (W : World)
    (hJ : AbidesFrom W.heap.size J) (hRl : R.length ≤ 2000) (hRs : ∀ r ∈ R, r.size ≤ 50000) (hHl : H.length ≤ 1000000)
    (hY : ∀ pre x W1, J pre W1 → pre.length < R.length → YieldAt Fence.wide (n - 1) Tryz.prog l (encF x) W1 fun e W' =>
      (e = .returned (.bool true) ∧ J (pre ++ [x]) W' ∧ KpF n₀ Bp W1 W') ∨ (e = .returned (.bool false) ∧ Jx (pre ++ [x]) W'))
    (hBr : W.cell? ⟨Br, 0, none⟩ = some (.slice ar R.length cr)) (hBp : W.cell? ⟨Bp, 0, none⟩ = some (.slice (some ⟨gH, 0, none⟩) H.length cH))
    (hT : TxAt R ar br ofr W) (hb : 0 < R.length → br < n₀) (hH : ∀ j (h : j < H.length), W.cell? ⟨gH, j, none⟩ = some (.string H[j])) (hg : gH < n₀) (hn0 : n₀ ≤ W.heap.size)
    (hm : W.cell? ⟨0, 0, none⟩ = some (.int .i64 m)) (hm0 : 0 < n₀) (h0 : J [] W) :
    CallsIn Fence.wide n Tryz.prog 187 #[.func (.yield l) #[] #[], .pointer (some ⟨Br, 0, none⟩), .pointer (some ⟨Bp, 0, none⟩)] W fun e W' => (∃ v, e = .returned v) ∧
      ((∃ ys : List Fit, ys.map fitR = fitL R H ∧ J ys W') ∨ (∃ pre : List Fit, pre.map fitR <+: fitL R H ∧ Jx pre W')) := by
  have HTx := Lib.hid hT; clear hT
  have HH := Lib.hid hH; clear hH
  have HRs := Lib.hid hRs; clear hRs
  have HM := Lib.hid hm; clear hm
  have HBp := Lib.hid hBp
  have hBpl : Bp < W.heap.size := block_lt_of_cell hBp
  clear hBp
  obtain ⟨nR, HN⟩ : ∃ n, Hid (R.length = n) := ⟨_, Lib.hid rfl⟩
  rw [HN.out] at hRl hb hBr hY
  refine callsIn_of_wp Tryz.func187 rfl trivial ?_ rfl
  simp only [Tryz.ntmps187, List.size_toArray, List.length_cons, List.length_nil, Nat.reduceAdd, Nat.reduceSub, Array.replicate_succ, Array.replicate_zero, List.push_toArray, List.append_toArray, List.nil_append, List.cons_append]
  gi_wp2
  gi_loopw [5, 6, 9] (fun _ _ i wr => ∃ (k : Nat) (pre : List Fit), k ≤ nR ∧ i = .int .i64 k ∧ pre.length ≤ k ∧ Hid (pre.map fitR = fitL (R.take k) H) ∧ Hid (J pre wr) ∧ Hid (KpF n₀ Bp W wr)) (fun _ _ i _ => nR - (intOf i).toNat)
  case atStart => exact ⟨0, [], Nat.zero_le _, rfl, Nat.le_refl _, Lib.hid rfl, Lib.hid h0, Lib.hid ⟨Below.refl _ _, rfl⟩⟩
  case round =>
    obtain ⟨k, pre, hk, rfl, hpk, HE, HJ, HK⟩ := hrel
    by_cases hlt : k < nR
    · have hkP : k < R.length := by rw [HN.out]; exact hlt
      obtain ⟨p, Hp⟩ : ∃ p, Hid (R[k] = p) := ⟨_, Lib.hid rfl⟩
      have hps : p.size ≤ 50000 := by rw [← Hp.out]; exact HRs.out _ (List.getElem_mem hkP)
      have hc : wr.cell? ⟨br, ofr + k, none⟩ = some (.string p) := by rw [← Hp.out]; exact (HK.out.1.cell (p := ⟨br, ofr + k, none⟩) (hb (by omega))).trans (HTx.out.cell k hkP)
      have ha : ar = some ⟨br, ofr, none⟩ := HTx.out.at0 (by omega)
      subst ha
      have HMr : Hid (wr.cell? ⟨0, 0, none⟩ = some (.int .i64 m)) := Lib.hid ((HK.out.1.cell (p := ⟨0, 0, none⟩) hm0).trans HM.out)
      have HRule := Lib.hid (fun w hm => (callsIn_wide (n := n - 1)).2 (ruleOf_any p m w (by omega) hm))
      obtain ⟨x, Hx⟩ : ∃ x, Hid (exB p = x) := ⟨_, Lib.hid rfl⟩
      obtain ⟨P, HP⟩ : ∃ P, Hid (bareL p = P) := ⟨_, Lib.hid rfl⟩
      obtain ⟨q, HQ⟩ : ∃ n, Hid (P.length = n) := ⟨_, Lib.hid rfl⟩
      have hq : q ≤ 50001 := by rw [← HQ.out, ← HP.out]; have := rawB_count 46 (bareS p); have := bareS_size p; show (rawB 46 (bareS p)).length ≤ _; omega
      obtain ⟨f, Hf⟩ : ∃ f, Hid (fitsB P H = f) := ⟨_, Lib.hid rfl⟩
      have HE2 : Hid (fitL (R.take (k + 1)) H = fitL (R.take k) H ++ if f then [(q, x)] else []) := Lib.hid (by
        rw [fitL_take R H k hkP, Hp.out, fit1, HP.out, Hx.out, HQ.out, Hf.out])
      rw [HP.out, Hx.out, HQ.out] at HRule
      gi_wp2_with fail
      refine ⟨trivial, ?_⟩
      refine (HRule.out _ HMr.out).mono ?_
      rintro e w2 ⟨g, rfl, hrow, b2⟩
      obtain ⟨W3, HW3⟩ : ∃ W3, Hid (w2.alloc (.cells (ruleV g q x) 134) = W3) := ⟨_, Lib.hid rfl⟩
      have hgl : g < w2.heap.size := lt_of_block hrow
      have hrow3 : W3.heap[g]? = some (.cells (P.map Value.string).toArray 9 (0, 0)) := by rw [← HW3.out, Below.heap_alloc _ _ _ hgl]; exact hrow
      have hst3 : W3.heap[w2.heap.size]? = some (.cells (ruleV g q x) 134 (0, 0)) := by rw [← HW3.out]; exact heap_alloc_new _ _
      have hc3 : W3.cell? ⟨w2.heap.size, 0, none⟩ = some (.slice (some ⟨g, 0, none⟩) q q) := by rw [cell_of_row _ _ _ _ _ _ hst3]; rfl
      have b3 : Below wr.heap.size wr W3 := by rw [← HW3.out]; exact b2.alloc b2.size _
      have hnw : n₀ ≤ wr.heap.size := Nat.le_trans hn0 HK.out.1.size
      have HK3 : Hid (KpF n₀ Bp W W3) := Lib.hid ⟨HK.out.1.trans (b3.mono hnw), (b3.block Bp (Nat.lt_of_lt_of_le hBpl HK.out.1.size)).trans HK.out.2⟩
      have HJ3 : Hid (J pre W3) := Lib.hid (hJ pre wr W3 none HJ.out (below_grown b3) (fun r e => by cases e))
      have hcB : W3.cell? ⟨Bp, 0, none⟩ = some (.slice (some ⟨gH, 0, none⟩) H.length cH) := (World.cell?_of_block (a := ⟨Bp, 0, none⟩) HK3.out.2).trans HBp.out
      have CE : Hid (CallsIn Fence.wide (n - 1) Tryz.prog 189 #[.slice (some ⟨gH, 0, none⟩) H.length cH, .slice (some ⟨g, 0, none⟩) q q, .string ⟨#[42]⟩] W3 fun e w' => e = .returned (.bool f) ∧ W3 = w') := Lib.hid (by
        have := endsWith_any P H gH cH g q W3 (by rw [HQ.out]; omega) hHl (fun j h => (HK3.out.1.cell (p := ⟨gH, j, none⟩) hg).trans (HH.out j h)) (fun j h => by
          rw [cell_of_row _ _ _ _ _ _ hrow3, List.getElem?_toArray, List.getElem?_map, List.getElem?_eq_getElem h]; rfl)
        rw [HQ.out, Hf.out] at this
        exact callsIn_wide.2 this)
      have HS3 := Lib.hid hst3
      clear hrow hrow3 b2 b3 hst3 hc
      cases f
      · gi_wp2_with (first | (refine wpListIn_store_row rfl 134 _ _ rfl w2.heap.size (ruleV g q x) ?_ ?_ 134 rule0 ?_ ?_ ?_ ?_ ?_; exact rfl; exact rfl; exact heap_alloc_new w2 _; exact sx_infoR; exact rfl; exact ruleV_one _ _ _; rw [World.setRow_alloc_new, HW3.out]) | (refine ⟨trivial, ?_⟩; gi_at_call 189; refine CE.out.mono ?_; rintro e w' ⟨rfl, rfl⟩))
        refine ⟨fun _ h => (by cases h), ?_⟩
        gi_wp2
        go_roundw
        case rel => exact ⟨k + 1, pre, by omega, by go_num, by omega, Lib.hid (by rw [HE.out, HE2.out]; simp), HJ3, HK3⟩
        case measure => simp [intOf]; omega
      · have hqF : ((g, q, x) : Nat × Nat × Bool).2.1 ≤ 60000 := by show q ≤ 60000; omega
        have HE4 : Hid ((pre ++ [(⟨(g, q, x), hqF⟩ : Fit)]).map fitR = fitL (R.take (k + 1)) H) := Lib.hid (by rw [List.map_append, HE.out, HE2.out]; rfl)
        obtain ⟨fn, tmps, assign, body, hy, hR⟩ := hY pre (⟨(g, q, x), hqF⟩ : Fit) W3 HJ3.out (by omega)
        dsimp only [encF] at hy
        gi_wp2_with (first | (refine wpListIn_store_row rfl 134 _ _ rfl w2.heap.size (ruleV g q x) ?_ ?_ 134 rule0 ?_ ?_ ?_ ?_ ?_; exact rfl; exact rfl; exact heap_alloc_new w2 _; exact sx_infoR; exact rfl; exact ruleV_one _ _ _; rw [World.setRow_alloc_new, HW3.out]) | (refine ⟨trivial, ?_⟩; gi_at_call 189; refine CE.out.mono ?_; rintro e w' ⟨rfl, rfl⟩) | (refine wpListIn_load_row (by rfl) 134 _ rfl w2.heap.size ?_ 134 (ruleV g q x) (0, 0) _ ?_ Tryz.underlying134 rfl sx_infoR ?_; exact rfl; exact HS3.out))
        refine hR.mono ?_
        rintro e W4 (⟨rfl, hJ4, hk4⟩ | ⟨rfl, hJx4⟩)
        · have HJ4 := Lib.hid hJ4
          have HK4 : Hid (KpF n₀ Bp W W4) := Lib.hid ⟨HK3.out.1.trans hk4.1, hk4.2.trans HK3.out.2⟩
          clear hJ4 hk4
          gi_wp2
          go_roundw
          case rel => exact ⟨k + 1, pre ++ [(⟨(g, q, x), hqF⟩ : Fit)], by omega, by go_num, by simp; omega, HE4, HJ4, HK4⟩
          case measure => simp [intOf]; omega
        · have HJ4 := Lib.hid hJx4
          clear hJx4
          gi_wp2
          refine bodyPost_ret (results_none rfl _ _ _) rfl ?_
          exact ⟨⟨_, rfl⟩, .inr ⟨_, by rw [HE4.out]; exact fitL_pre R H (k + 1), HJ4.out⟩⟩
    · have HE3 : Hid (pre.map fitR = fitL R H) := Lib.hid (by rw [HE.out, List.take_of_length_le (by rw [HN.out]; omega)])
      gi_wp2
      go_end0
      exact ⟨⟨_, rfl⟩, .inl ⟨_, HE3.out, HJ.out⟩⟩

theorem fit_stops (n : Nat) (hn : 1 ≤ n) (Br Bp n₀ : Nat) (R H : List ByteArray) (ar : Option Addr) (br ofr cr gH cH : Nat) (m : Int) (w : World)
    (hRl : R.length ≤ 2000) (hRs : ∀ r ∈ R, r.size ≤ 50000) (hHl : H.length ≤ 1000000)
    (hBr : w.cell? ⟨Br, 0, none⟩ = some (.slice ar R.length cr)) (hBp : w.cell? ⟨Bp, 0, none⟩ = some (.slice (some ⟨gH, 0, none⟩) H.length cH))
    (hT : TxAt R ar br ofr w) (hb : 0 < R.length → br < n₀) (hH : ∀ j (h : j < H.length), w.cell? ⟨gH, j, none⟩ = some (.string H[j])) (hg : gH < n₀) (hn0 : n₀ ≤ w.heap.size)
    (hm : w.cell? ⟨0, 0, none⟩ = some (.int .i64 m)) (hm0 : 0 < n₀) :
    SeqStopsK Fence.wide n Tryz.prog 187 #[.pointer (some ⟨Br, 0, none⟩), .pointer (some ⟨Bp, 0, none⟩)] encF (KpF n₀ Bp) (fun ys => ys.map fitR = fitL R H) (fun pre => pre.map fitR <+: fitL R H) R.length w :=
  fun l J Jx W hW hJ _ hY h0 => fit1_in n hn l Br Bp n₀ R H ar br ofr cr gH cH m J Jx W hJ hRl hRs hHl hY ((hW.cell (block_lt_of_cell hBr)).trans hBr) ((hW.cell (block_lt_of_cell hBp)).trans hBp)
    (hT.later hW) hb (fun j h => (hW.cell (p := ⟨gH, j, none⟩) (Nat.lt_of_lt_of_le hg hn0)).trans (hH j h)) hg (Nat.le_trans hn0 hW.size) ((hW.cell (block_lt_of_cell hm)).trans hm) hm0 h0

theorem kpF_t {n₀ Bp : Nat} {A B C : World} (h : KpF n₀ Bp A B) (k : KpF n₀ Bp B C) : KpF n₀ Bp A C := ⟨h.1.trans k.1, k.2.trans h.2⟩
theorem kpF_b {n₀ Bp : Nat} {w : World} (hn : n₀ ≤ w.heap.size) (hp : Bp < w.heap.size) (W : World) (l : Nat) (o o' : Obj) (hl : w.heap.size ≤ l) (h : W.heap[l]? = some o) (h1 : o.isCells = false) (h2 : o.isWalk = false) : KpF n₀ Bp W (W.putObj l o') :=
  ⟨belowK_b hn W l o o' hl h h1 h2, World.putObj_heap_other (by omega)⟩
theorem own_row2 {β : Type} (B : Nat) (c : Array Value) (t : TypeId) (lo : Nat) (f : Nat → Act → Prop) (a' : Act) : OwnFrom B (fun (_ : β) W => ∃ Bx, lo ≤ Bx ∧ W.heap[Bx]? = some (.cells c t (0, 0)) ∧ f Bx a') := fun s X Y row hs hg hr => by
  obtain ⟨Bx, h1, h2, h3⟩ := hs
  refine ⟨Bx, h1, (hg.block Bx (lt_of_block h2) (fun e => ?_)).trans h2, h3⟩
  obtain ⟨_, o, ho, hc⟩ := hr Bx e.symm
  rw [h2] at ho; cases ho; cases hc
def NoEx (pre : List Fit) : Prop := ∀ x ∈ pre, (fitR x).2 = false
theorem NoEx.map {pre : List Fit} (h : NoEx pre) : ∀ x ∈ pre.map fitR, x.2 = false := fun x hx => by
  obtain ⟨y, hy, rfl⟩ := List.mem_map.1 hx
  exact h y hy
theorem NoEx.more {pre : List Fit} (h : NoEx pre) {x : Fit} (hx : (fitR x).2 = false) : NoEx (pre ++ [x]) := fun y hy => by
  rcases List.mem_append.1 hy with h1 | h1
  · exact h y h1
  · obtain rfl := List.mem_singleton.1 h1
    exact hx
/-- Between two rounds, and behind the last one. -/
def IF (w : World) (A : Nat) (pre : List Fit) (W : World) : Prop := (NoEx pre ∧ Boxed W (A + 1) 3 (.int .i64 (sufN (pre.map fitR) 1)) ∧ Boxed W A 3 (.int .i64 0) ∧ A + 4 ≤ W.heap.size) ∧ Below A w W
def IxF (w : World) (A : Nat) (c : Code) (pre : List Fit) (W : World) : Prop := (c = .ret ∧ ∃ pre' x, pre = pre' ++ [x] ∧ NoEx pre' ∧ (fitR x).2 = true ∧ Boxed W A 3 (.int .i64 ((fitR x).1 - 1))) ∧ Below A w W
theorem if_own (w : World) (A B : Nat) (h1 : A ≤ w.heap.size) (h2 : A ≤ B) : OwnFrom B (IF w A) :=
  OwnFrom.and (Own.from (fun s X Y row hs hg hr => ⟨hs.1, boxed_own (A + 1) _ (fun _ => _) s X Y row hs.2.1 hg hr, boxed_own A _ (fun _ => _) s X Y row hs.2.2.1 hg hr, Nat.le_trans hs.2.2.2 hg.size⟩) _) (ownFrom_below h1 h2)
theorem ixf_own (w : World) (A B : Nat) (h1 : A ≤ w.heap.size) (h2 : A ≤ B) (c : Code) : OwnFrom B (IxF w A c) :=
  OwnFrom.and (Own.from (fun s X Y row hs hg hr => by
      obtain ⟨h1, pre', x, h2, h3, h4, h5⟩ := hs
      exact ⟨h1, pre', x, h2, h3, h4, boxed_own A _ (fun _ => _) s X Y row h5 hg hr⟩) _) (ownFrom_below h1 h2)
theorem if_more {w : World} {A : Nat} {pre : List Fit} {W : World} (h : IF w A pre W) {x : Fit} (hx : (fitR x).2 = false) : IF w A (pre ++ [x]) (W.setCell ⟨A + 1, 0, none⟩ (.int .i64 (max ((sufN (pre.map fitR) 1 : Nat) : Int) ((fitR x).1 : Int)))) := by
  obtain ⟨⟨h1, h2, h3, h5⟩, h4⟩ := h
  refine ⟨⟨h1.more hx, ?_, h3.other (by omega) _, by simpa using h5⟩, h4.setCell (p := ⟨A + 1, 0, none⟩) (by show A ≤ A + 1; omega) _⟩
  have e : (pre ++ [x]).map fitR = pre.map fitR ++ [((fitR x).1, false)] := by
    rw [List.map_append, List.map_cons, List.map_nil]
    congr 2
    exact Prod.ext rfl hx
  rw [e, sufN_one _ _ _ h1.map, show ((max (sufN (pre.map fitR) 1) (fitR x).1 : Nat) : Int) = max ((sufN (pre.map fitR) 1 : Nat) : Int) ((fitR x).1 : Int) by omega]
  exact one_setCell h2
theorem ixf_stop {w : World} {A : Nat} {pre : List Fit} {W : World} (h : IF w A pre W) {x : Fit} (hx : (fitR x).2 = true) : IxF w A .ret (pre ++ [x]) (W.setCell ⟨A, 0, none⟩ (.int .i64 (((fitR x).1 : Int) - 1))) := by
  obtain ⟨⟨h1, h2, h3, -⟩, h4⟩ := h
  exact ⟨⟨rfl, pre, x, rfl, h1, hx, one_setCell h3⟩, h4.setCell (p := ⟨A, 0, none⟩) (Nat.le_refl _) _⟩
set_option maxHeartbeats 2000000 in
set_option maxRecDepth 1000000 in
theorem suffixLength_any (R H : List ByteArray) (ar : Option Addr) (br ofr cr gH cH : Nat) (m : Int) (w : World) (hR : rulesB R = true)
    (hRl : R.length ≤ 2000) (hRs : ∀ r ∈ R, r.size ≤ 50000) (hHl : H.length ≤ 1000000) (hT : TxAt R ar br ofr w) (hH : ∀ j (h : j < H.length), w.cell? ⟨gH, j, none⟩ = some (.string H[j])) (hg : gH < w.heap.size)
    (hm : w.cell? ⟨0, 0, none⟩ = some (.int .i64 m)) :
    Calls Tryz.prog 100 #[.slice ar R.length cr, .slice (some ⟨gH, 0, none⟩) H.length cH] w fun e w' => e = .returned (.int .i64 (manyN R H)) ∧ Below w.heap.size w w' := by
  have HF := Lib.hid (fun w => (callsIn_wide (n := 3 - 1)).2 (fitting_any ar (some ⟨gH, 0, none⟩) R.length H.length cr cH w))
  refine (callsIn_wide (n := 3)).1 ?_
  refine callsIn_of_wp_marks Tryz.func100 rfl trivial ?_ rfl
  simp only [Tryz.ntmps100, List.size_toArray, List.length_cons, List.length_nil, Nat.reduceAdd, Nat.reduceSub, Array.replicate_succ, Array.replicate_zero, List.push_toArray, List.append_toArray, List.nil_append, List.cons_append]
  gi_wp2_with fail
  refine ⟨trivial, ?_⟩
  refine (HF.out _).mono ?_
  rintro e W0 ⟨rfl, hw1⟩
  simp only [World.size_alloc]
  obtain ⟨A, HA⟩ : ∃ A, Hid (w.heap.size = A) := ⟨_, Lib.hid rfl⟩
  have hz : W0.heap.size = A + 4 := by rw [← hw1, ← HA.out]; simp
  have hb0 : Boxed W0 A 3 (.int .i64 0) := by
    rw [← hw1, ← HA.out]; exact (((Boxed.new w _ _).alloc _).alloc _).alloc _
  have hb1 : Boxed W0 (A + 1) 3 (.int .i64 1) := by
    rw [← hw1, ← HA.out]
    have := Boxed.new (w.alloc (.cells #[.int .i64 0] 3)) 3 (.int .i64 1)
    rw [World.size_alloc] at this
    exact (this.alloc _).alloc _
  have hb2 : Boxed W0 (A + 1 + 1) 22 (.slice ar R.length cr) := by
    rw [← hw1, ← HA.out]
    have := Boxed.new ((w.alloc (.cells #[.int .i64 0] 3)).alloc (.cells #[.int .i64 1] 3)) 22 (.slice ar R.length cr)
    simp only [World.size_alloc] at this
    exact this.alloc _
  have hb3 : Boxed W0 (A + 1 + 1 + 1) 22 (.slice (some ⟨gH, 0, none⟩) H.length cH) := by
    rw [← hw1, ← HA.out]
    have := Boxed.new (((w.alloc (.cells #[.int .i64 0] 3)).alloc (.cells #[.int .i64 1] 3)).alloc (.cells #[.slice ar R.length cr] 22)) 22 (.slice (some ⟨gH, 0, none⟩) H.length cH)
    simp only [World.size_alloc] at this
    exact this
  have hB0 : Below A w W0 := by
    rw [← hw1, ← HA.out]
    exact ((((Below.refl _ w).alloc (Nat.le_refl _) _).alloc (by simp) _).alloc (by simp; omega) _).alloc (by simp; omega) _
  have hbr : 0 < R.length → br < A := fun h => by rw [← HA.out]; exact block_lt_of_cell (hT.cell 0 h)
  have hgA : gH < A := by rw [← HA.out]; exact hg
  have hmA : 0 < A := by rw [← HA.out]; exact block_lt_of_cell hm
  have hcell : ∀ {q : Addr} {v : Value}, w.cell? q = some v → W0.cell? q = some v := fun {q v} h => (hB0.cell (p := q) (by rw [← HA.out]; exact block_lt_of_cell h)).trans h
  have hT0 : TxAt R ar br ofr W0 := ⟨hT.at0, fun j h => hcell (hT.cell j h)⟩
  have hstops := fit_stops (3 - 1) (by omega) (A + 1 + 1) (A + 1 + 1 + 1) A R H ar br ofr cr gH cH m W0 hRl hRs hHl hb2.cell hb3.cell hT0 hbr (fun j h => hcell (hH j h)) hgA (by omega) (hcell hm) hmA
  have hpos : ∀ x ∈ fitL R H, x.2 = true → 2 ≤ x.1 := fun x hx hb => by
    obtain ⟨r, hr, hf, rfl⟩ := fitL_mem hx
    have h := hR
    rw [rulesB, Bool.and_eq_true, List.all_eq_true] at h
    have h2 := h.2 r hr
    have hb' : exB r = true := hb
    rw [ruleB, hb', if_pos rfl, Bool.and_eq_true] at h2
    exact (raw_two _).2 h2.2
  rw [HA.out]
  clear hw1 hT hH hm hcell hT0 hb2
  gi_wp2
  refine wpIn_rangeFunc_ownH rfl (by omega) (gf := 187) (lb := #[.pointer (some ⟨A + 1 + 1, 0, none⟩), .pointer (some ⟨A + 1 + 1 + 1, 0, none⟩)]) rfl trivial (enters_of Tryz.func187 (by kernel_rfl) rfl)
    hstops (fun h k => kpF_t h k) (kpF_b (by omega) (by omega)) (Below.refl _ _) (fun _ => rfl)
    (IF w A) (IxF w A) (if_own w A _ (by rw [HA.out]; exact Nat.le_refl _) (by omega)) (ixf_own w A _ (by rw [HA.out]; exact Nat.le_refl _) (by omega))
    ⟨⟨fun x hx => (by cases hx), hb1, hb0, by omega⟩, hB0⟩
    (fun x a' W => ∃ Bx, A + 4 ≤ Bx ∧ W.heap[Bx]? = some (.cells (ruleV x.1.1 x.1.2.1 x.1.2.2) 134 (0, 0)) ∧ a' = { tmps := #[.slice ar R.length cr, .slice (some ⟨gH, 0, none⟩) H.length cH, undef, undef, .pointer (some ⟨A, 0, none⟩), .pointer (some ⟨A + 1, 0, none⟩), .pointer (some ⟨Bx, 0, none⟩), .slice ar R.length cr, .slice (some ⟨gH, 0, none⟩) H.length cH, .func (.func 187) #[] #[.pointer (some ⟨A + 1 + 1, 0, none⟩), .pointer (some ⟨A + 1 + 1 + 1, 0, none⟩)], .agg (ruleV x.1.1 x.1.2.1 x.1.2.2), undef, undef, undef, undef, undef, undef, undef, undef, undef, undef, undef, undef], defers := [] })
    (fun x a' => own_row2 _ _ _ (A + 4) (fun Bx a' => a' = _) a') ?assign ?body ?done ?stop
  case assign =>
    rintro l pre ⟨⟨g, q, e⟩, hq⟩ W K hI hK
    have hAW : A + 4 ≤ W.heap.size := hI.1.2.2.2
    dsimp only [encF]
    gi_wp2_with (refine wpListIn_store_row rfl 134 _ _ rfl W.heap.size (ruleV g q e) ?_ ?_ 134 rule0 ?_ ?_ ?_ ?_ ?_; exact rfl; exact rfl; exact heap_alloc_new W _; exact sx_infoR; exact rfl; exact ruleV_one _ _ _; rw [World.setRow_alloc_new])
    have hb : Below A W (W.alloc (.cells (ruleV g q e) 134)) := (Below.refl A W).alloc (by omega) _
    obtain ⟨⟨i1, i2, i3, i4⟩, i5⟩ := hI
    exact hK _ _ ((KeepsOthers.alloc _ _).from _) ⟨hb, Below.heap_alloc _ _ _ (by omega)⟩ ⟨⟨i1, i2.alloc _, i3.alloc _, by simp; omega⟩, i5.trans hb⟩ ⟨W.heap.size, hAW, heap_alloc_new _ _, rfl⟩
  case body =>
    rintro l pre ⟨⟨g, q, e⟩, hq⟩ a' W hl ⟨r, hr⟩ hI ⟨Bx, hBx, hX, rfl⟩ hlt
    have hq' : q ≤ 60000 := hq
    obtain ⟨M, HM⟩ : ∃ M, Hid (sufN (pre.map fitR) 1 = M) := ⟨_, Lib.hid rfl⟩
    have h1 := hI.1.2.1
    rw [HM.out] at h1
    have c0 : W.cell? ⟨Bx, 0, none⟩ = some (.slice (some ⟨g, 0, none⟩) q q) := by rw [cell_of_row _ _ _ _ _ _ hX]; rfl
    have c1 : W.cell? ⟨Bx, 1, none⟩ = some (.bool e) := by rw [cell_of_row _ _ _ _ _ _ hX]; rfl
    have cm := h1.cell
    have fm := h1.frozen
    have ca := hI.1.2.2.1.cell
    have fa := hI.1.2.2.1.frozen
    have HI := Lib.hid hI
    clear h1 hI
    cases e
    · gi_wp2
      refine ⟨(KeepsOthers.setCell _ _ _).from _, ⟨(Below.refl A W).setCell (p := ⟨A + 1, 0, none⟩) (by show A ≤ A + 1; omega) _, Below.heap_setCell _ _ _ _ (by show A + 1 + 1 + 1 ≠ A + 1; omega)⟩, ?_⟩
      have := if_more HI.out (x := ⟨(g, q, false), hq⟩) rfl
      rw [HM.out] at this
      exact this
    · gi_wp2
      exact ⟨(KeepsOthers.setCell _ _ _).from _, ixf_stop HI.out (x := ⟨(g, q, true), hq⟩) rfl⟩
  case done =>
    rintro D ys W hD hS ⟨⟨hex, h1, h0, -⟩, hB⟩ hK
    have HM : Hid (sufN (ys.map fitR) 1 = manyN R H) := Lib.hid (by rw [hS]; rfl)
    rw [HM.out] at h1
    have cm := h1.cell
    have ca := h0.cell
    have fa := h0.frozen
    gi_wp2
    have hK' := (KeepsOthers.setCell W ⟨A, 0, none⟩ (.int .i64 (manyN R H))).same D _ hK rfl
    refine ⟨by simp, .inl ⟨_, _, rfl, run_takeDeferred hK', ?_⟩⟩
    have hc5 := cell_kept (cell_of_one (show (W.setCell ⟨A, 0, none⟩ (.int .i64 (manyN R H))).heap[A]? = some (.cells #[.int .i64 (manyN R H)] 3 (0, 0)) from one_setCell h0)) (grownBy_putObj' _ D (.deferred none)) (fun r e => by cases e; exact ⟨_, hK', rfl⟩)
    refine ⟨.int .i64 (manyN R H), ?_, rfl, ?_⟩
    · simp [results, Tryz.f100, go_sem, hc5]
    · rw [HA.out]
      exact (hB.setCell (p := ⟨A, 0, none⟩) (Nat.le_refl _) _).trans (belowK_b (w := W0) (by omega) _ D _ _ hD hK' rfl rfl)
  case stop =>
    rintro D c pre W hD hSp ⟨⟨rfl, pre', x, rfl, hex, hx, hb⟩, hB⟩ hK
    have HM : Hid (((fitR x).1 : Int) - 1 = (manyN R H : Int)) := Lib.hid (by
      have e : (pre' ++ [x]).map fitR = pre'.map fitR ++ [((fitR x).1, true)] := by
        rw [List.map_append, List.map_cons, List.map_nil]
        congr 2
        exact Prod.ext rfl hx
      obtain ⟨T, hTl⟩ := hSp
      rw [e, List.append_assoc, List.singleton_append] at hTl
      have h1 : 2 ≤ (fitR x).1 := hpos ((fitR x).1, true) (by rw [← hTl]; simp) rfl
      have h2 : manyN R H = (fitR x).1 - 1 := by rw [manyN, ← hTl, sufN_stop _ _ _ _ hex.map]
      omega)
    rw [HM.out] at hb
    gi_wp2
    refine ⟨by simp, .inl ⟨_, _, rfl, run_takeDeferred hK, ?_⟩⟩
    have hc5 := cell_kept hb.cell (grownBy_putObj' _ D (.deferred none)) (fun r e => by cases e; exact ⟨_, hK, rfl⟩)
    refine ⟨.int .i64 (manyN R H), ?_, rfl, ?_⟩
    · simp [results, Tryz.f100, go_sem, hc5]
    · rw [HA.out]
      exact hB.trans (belowK_b (w := W0) (by omega) W D _ _ hD hK rfl rfl)

end Go.Proofs.YtldddgmhmolohaaGreatDoor
namespace Go.Proofs.YtldddgmhmolohaaGreatDoor
open Go.RowKit

theorem nameB_name {h : ByteArray} (hs : h.size ≤ 1000) (hn : nameB h = true) : NameX h ∧ machB h = false := by
  rw [nameB, Bool.and_eq_true, decide_eq_true_eq, Bool.not_eq_true'] at hn
  rcases host_made (by omega) hn.1 with h1 | h1
  · exact ⟨h1, hn.2⟩
  · have := h1.mach; rw [this] at hn; cases hn.2
theorem sx_labels {h : ByteArray} (hs : h.size ≤ 1000) (hn : nameB h = true) : labelsL h = rawB 46 h ∧ NoMach (rawB 46 h) ∧ upS (rawB 46 h) 0 = h ∧ rawB 46 h ≠ [] ∧ h.size ≤ 253 ∧ 0 < h.size := by
  obtain ⟨h1, h2⟩ := nameB_name hs hn
  obtain ⟨h3, h4⟩ := h1.size
  refine ⟨by rw [labelsL, if_neg (by omega), h2, if_neg (by simp)], h1.noMach h2, ?_, rawB_ne 46 h, h4, h3⟩
  rw [up_zero]; exact h1.parts.2.2
end Go.Proofs.YtldddgmhmolohaaGreatDoor
namespace Go.Proofs.YtldddgmhmolohaaGreatDoor
open Go.RowKit

set_option maxRecDepth 100000 in
set_option maxHeartbeats 1000000 in
theorem isName_any (s : ByteArray) (w : World) (hs : s.size ≤ 1000) (hW : Hw w) :
    Calls Tryz.prog 98 #[.string s] w fun e w' => e = .returned (.bool (nameB s)) ∧ Below w.heap.size w w' := by
  cases hO : hostO s with
  | none =>
    have C1 := Lib.hid (Parse_none w hs hO hW)
    have HR : Hid (nameB s = false) := Lib.hid (by rw [nameB, hO, decide_eq_false (by simp), Bool.false_and])
    clear hO hW
    go_enter Tryz.func98, Tryz.ntmps98
    go_wp2_with fail
    refine C1.out.mono ?_
    rintro e w1 ⟨rfl, b1⟩
    have B1 := Lib.hid b1; clear b1
    go_wp2
    go_ret
    exact ⟨ret_bool (by rw [HR.out]), B1.out⟩
  | some x =>
    have C1 := Lib.hid (Parse_some w hs hO hW)
    by_cases hx : x = s
    · subst hx
      obtain ⟨M, HMM⟩ : ∃ M, Hid (machB x = M) := ⟨_, Lib.hid rfl⟩
      have CM : Hid (∀ w, Calls Tryz.prog 39 #[.string x] w fun e w' => e = .returned (.bool M) ∧ Below w.heap.size w w') := Lib.hid (fun w => by rw [← HMM.out]; exact Machine_any x w (by omega))
      have HR : Hid (nameB x = !M) := Lib.hid (by rw [nameB, hO, decide_eq_true rfl, HMM.out, Bool.true_and])
      clear hO hW
      go_enter Tryz.func98, Tryz.ntmps98
      go_wp2_with fail
      refine C1.out.mono ?_
      rintro e w1 ⟨rfl, b1⟩
      have B1 := Lib.hid b1; clear b1
      go_wp2_with fail
      refine (CM.out _).mono ?_
      rintro e w2 ⟨rfl, b2⟩
      have B2 : Hid (Below w.heap.size w w2) := Lib.hid (keepW B1.out b2)
      clear b2
      go_wp2
      go_ret
      exact ⟨ret_bool (by rw [HR.out]), B2.out⟩
    · have HR : Hid (nameB s = false) := Lib.hid (by rw [nameB, hO, decide_eq_false (fun e => hx (Option.some.inj e)), Bool.false_and])
      have e1 : ¬ x.toList = s.toList := fun e => hx (ba_of (by rw [ByteArray.toList_eq, ByteArray.toList_eq] at e; exact e))
      have e1b : (x.toList == s.toList) = false := beq_eq_false_iff_ne.2 e1
      clear hO hW hx
      go_enter Tryz.func98, Tryz.ntmps98
      go_wp2_with fail
      refine C1.out.mono ?_
      rintro e w1 ⟨rfl, b1⟩
      have B1 := Lib.hid b1; clear b1
      go_wp2
      go_ret
      exact ⟨ret_bool (by rw [HR.out]), B1.out⟩

theorem dotJ_small : ∀ L : List ByteArray, (∀ l ∈ L, l.size ≤ 253) → (Lib.join (L.map (·.data.toList)) [46]).length ≤ 254 * L.length
  | [], _ => by simp [Lib.join_nil]
  | [x], h => by
    have := h x List.mem_cons_self
    rw [List.map_cons, List.map_nil, Lib.join_one, lenB]; simp; omega
  | x :: y :: r, h => by
    have h1 := h x List.mem_cons_self
    have h2 := dotJ_small (y :: r) (fun l hl => h l (List.mem_cons_of_mem _ hl))
    rw [List.map_cons, List.map_cons, join_split, List.length_append, List.length_cons, lenB, List.length_cons]
    rw [List.map_cons] at h2
    simp only [List.length_cons] at h2 ⊢
    omega
set_option maxRecDepth 100000 in
set_option maxHeartbeats 2000000 in
theorem lastParts_any (R : List ByteArray) (a0 : Option Addr) (b off cap : Nat) (h : ByteArray) (k : Nat) (hk : k ≤ 1) (w : World) (hT : TxAt R a0 b off w) (hF : Fair R h) (hW : Hw w) :
    Calls Tryz.prog 60 #[.slice a0 R.length cap, .string h, .int .i64 (k : Int)] w fun e w' => e = .returned (.tuple #[.string (sufT R h k).1, .int .i64 (sufT R h k).2]) ∧ Below w.heap.size w w' := by
  obtain ⟨hRl, hRs, hh⟩ := hF
  have HW := Lib.hid hW; clear hW
  have HTx := Lib.hid hT; clear hT
  obtain ⟨m, hm⟩ := HW.out.ml
  have HM := Lib.hid hm; clear hm
  obtain ⟨c, Hc⟩ : ∃ c, Hid (rulesB R = c) := ⟨_, Lib.hid rfl⟩
  have CC := Lib.hid (Check_any R a0 b off cap m w HTx.out (by omega) hRs HM.out)
  rw [Hc.out] at CC
  cases c
  · have HR : Hid (sufT R h k = (⟨#[]⟩, 1)) := Lib.hid (by rw [sufT, if_pos Hc.out])
    rw [HR.out]
    go_enter Tryz.func60, Tryz.ntmps60
    go_wp2_with fail
    refine CC.out.mono ?_
    rintro e w1 ⟨rfl, b1⟩
    have B1 := Lib.hid b1; clear b1
    go_wp2
    go_ret2
    exact ⟨rfl, B1.out⟩
  obtain ⟨d, Hd⟩ : ∃ d, Hid (nameB h = d) := ⟨_, Lib.hid rfl⟩
  have CN := Lib.hid (fun w hW => isName_any h w hh hW)
  rw [Hd.out] at CN
  cases d
  · have HR : Hid (sufT R h k = (⟨#[]⟩, 5)) := Lib.hid (by rw [sufT, if_neg (by rw [Hc.out]; simp), if_pos Hd.out])
    rw [HR.out]
    go_enter Tryz.func60, Tryz.ntmps60
    go_wp2_with fail
    refine CC.out.mono ?_
    rintro e w1 ⟨rfl, b1⟩
    have B1 := Lib.hid b1; clear b1
    go_wp2_with fail
    refine (CN.out _ (HW.out.later B1.out)).mono ?_
    rintro e w2 ⟨rfl, b2⟩
    have B2 : Hid (Below w.heap.size w w2) := Lib.hid (keepW B1.out b2)
    clear b2
    go_wp2
    go_ret2
    exact ⟨rfl, B2.out⟩
  obtain ⟨hl1, hl2, -, hl4, hl5, hl6⟩ := sx_labels hh Hd.out
  obtain ⟨L, HL⟩ : ∃ L, Hid (rawB 46 h = L) := ⟨_, Lib.hid rfl⟩
  rw [HL.out] at hl1 hl2 hl4
  obtain ⟨n, HN⟩ : ∃ n, Hid (L.length = n) := ⟨_, Lib.hid rfl⟩
  obtain ⟨N, HNN⟩ : ∃ N, Hid (manyN R L = N) := ⟨_, Lib.hid rfl⟩
  have hN1 : 1 ≤ N := by rw [← HNN.out]; exact manyN_pos L Hc.out
  have hN2 : N ≤ n := by rw [← HNN.out, ← HN.out]; exact manyN_le R L hl4
  have hn : n ≤ 254 := by rw [← HN.out, ← HL.out]; have := rawB_count 46 h; omega
  have HLs : Hid (∀ l ∈ L, l.size ≤ 253) := Lib.hid (fun l hl => by rw [← HL.out] at hl; have := (rawB_mem 46 h l hl).1; omega)
  have CL : Hid (∀ w, w.cell? ⟨0, 0, none⟩ = some (.int .i64 m) → Calls Tryz.prog 99 #[.string h] w fun e w' => ∃ g, e = .returned (.slice (some ⟨g, 0, none⟩) n n) ∧ w'.heap[g]? = some (.cells (L.map Value.string).toArray 9 (0, 0)) ∧ Below w.heap.size w w') := Lib.hid (fun w hm => by
    have := Labels_some h m w (by omega) hl6 hm
    rw [hl1, HN.out] at this
    exact this.mono fun e w' ⟨g, h1, _, h3, h4⟩ => ⟨g, h1, h3, h4⟩)
  have CS : Hid (∀ w g, TxAt R a0 b off w → (∀ j (h : j < L.length), w.cell? ⟨g, j, none⟩ = some (.string L[j])) → g < w.heap.size → w.cell? ⟨0, 0, none⟩ = some (.int .i64 m) →
      Calls Tryz.prog 100 #[.slice a0 R.length cap, .slice (some ⟨g, 0, none⟩) n n] w fun e w' => e = .returned (.int .i64 N) ∧ Below w.heap.size w w') := Lib.hid (fun w g hT hH hg hm => by
    have := suffixLength_any R L a0 b off cap g n m w Hc.out hRl hRs (by rw [HN.out]; omega) hT hH hg hm
    rwa [HN.out, HNN.out] at this)
  have hni : ((n : Int) - (N : Int)) = ((n - N : Nat) : Int) := by omega
  by_cases hlt : n < N + k
  · have HR : Hid (sufT R h k = (⟨#[]⟩, 0)) := Lib.hid (by rw [sufT, if_neg (by rw [Hc.out]; simp), if_neg (by rw [Hd.out]; simp), HL.out, HN.out, HNN.out, if_pos hlt])
    rw [HR.out]
    have hI : (n : Int) - (N : Int) - (k : Int) < 0 := by omega
    have hb1 : (N : Int) ≤ (n : Int) := by omega
    have hb2 : (k : Int) ≤ 1 := by omega
    clear hni hl1 hl2 hl4
    go_enter Tryz.func60, Tryz.ntmps60
    go_wp2_with fail
    refine CC.out.mono ?_
    rintro e w1 ⟨rfl, b1⟩
    have B1 := Lib.hid b1; clear b1
    go_wp2_with fail
    refine (CN.out _ (HW.out.later B1.out)).mono ?_
    rintro e w2 ⟨rfl, b2⟩
    have B2 : Hid (Below w.heap.size w w2) := Lib.hid (keepW B1.out b2)
    clear b2
    go_wp2_with fail
    refine (CL.out _ ((B2.out.cell (block_lt_of_cell HM.out)).trans HM.out)).mono ?_
    rintro e w3 ⟨g, rfl, hg, b3⟩
    have B3 : Hid (Below w.heap.size w w3) := Lib.hid (keepW B2.out b3)
    have HG := Lib.hid hg
    clear b3 hg
    go_wp2_with fail
    refine (CS.out _ g (HTx.out.later B3.out) (fun j h => by rw [cell_of_row _ _ _ _ _ _ HG.out, List.getElem?_toArray, List.getElem?_map, List.getElem?_eq_getElem h]; rfl) (lt_of_block HG.out) ((B3.out.cell (block_lt_of_cell HM.out)).trans HM.out)).mono ?_
    rintro e w4 ⟨rfl, b4⟩
    have B4 : Hid (Below w.heap.size w w4) := Lib.hid (keepW B3.out b4)
    clear b4
    go_wp2
    go_ret2
    exact ⟨rfl, B4.out⟩
  · obtain ⟨a, ha⟩ : ∃ a : Nat, (n : Int) - (N : Int) - (k : Int) = (a : Int) := ⟨n - (N + k), by omega⟩
    have han : a + (N + k) = n := by omega
    have HA := Lib.hid ha
    obtain ⟨X, HX⟩ : ∃ X, Hid (L.drop a = X) := ⟨_, Lib.hid rfl⟩
    have hXl : X.length = n - a := by rw [← HX.out, List.length_drop, HN.out]
    have HR : Hid (sufT R h k = (dotJ X, 0)) := Lib.hid (by rw [sufT, if_neg (by rw [Hc.out]; simp), if_neg (by rw [Hd.out]; simp), HL.out, HN.out, HNN.out, if_neg hlt, sfxB, HN.out, show n - (N + k) = a by omega, HX.out])
    rw [HR.out]
    have CJ : Hid (∀ w g, w.heap[g]? = some (.cells (L.map Value.string).toArray 9 (0, 0)) → Calls Tryz.prog 101 #[.slice (some ⟨g, a, none⟩) (n - a) (n - a), .string ⟨#[46]⟩] w fun e w' => e = .returned (.string (dotJ X)) ∧ Below w.heap.size w w') := Lib.hid (fun w g hg => by
      have hsz := dotJ_small X (fun l hl => by rw [← HX.out] at hl; exact HLs.out l (List.mem_of_mem_drop hl))
      have := Tryz.strings_Join g a (n - a) X ⟨#[46]⟩ w (fun j x hx => by
        rw [cell_of_row _ _ _ _ _ _ hg, List.getElem?_toArray, List.getElem?_map]
        rw [← HX.out, List.getElem?_drop] at hx
        rw [hx]; rfl) (lt_of_block hg) (by omega) (by omega) (by show (Lib.join (X.map (·.data.toList)) [46]).length ≤ _; omega)
      rw [hXl] at this
      exact this)
    have haI : (a : Int) ≤ (n : Int) := by omega
    have halt : a < n := by omega
    have hb1 : (N : Int) ≤ (n : Int) := by omega
    have hb2 : (k : Int) ≤ 1 := by omega
    clear hni hl1 hl2 hl4 hXl
    go_enter Tryz.func60, Tryz.ntmps60
    go_wp2_with fail
    refine CC.out.mono ?_
    rintro e w1 ⟨rfl, b1⟩
    have B1 := Lib.hid b1; clear b1
    go_wp2_with fail
    refine (CN.out _ (HW.out.later B1.out)).mono ?_
    rintro e w2 ⟨rfl, b2⟩
    have B2 : Hid (Below w.heap.size w w2) := Lib.hid (keepW B1.out b2)
    clear b2
    go_wp2_with fail
    refine (CL.out _ ((B2.out.cell (block_lt_of_cell HM.out)).trans HM.out)).mono ?_
    rintro e w3 ⟨g, rfl, hg, b3⟩
    have B3 : Hid (Below w.heap.size w w3) := Lib.hid (keepW B2.out b3)
    have HG := Lib.hid hg
    clear b3 hg
    go_wp2_with fail
    refine (CS.out _ g (HTx.out.later B3.out) (fun j h => by rw [cell_of_row _ _ _ _ _ _ HG.out, List.getElem?_toArray, List.getElem?_map, List.getElem?_eq_getElem h]; rfl) (lt_of_block HG.out) ((B3.out.cell (block_lt_of_cell HM.out)).trans HM.out)).mono ?_
    rintro e w4 ⟨rfl, b4⟩
    have B4 : Hid (Below w.heap.size w w4) := Lib.hid (keepW B3.out b4)
    have HG4 : Hid (w4.heap[g]? = some (.cells (L.map Value.string).toArray 9 (0, 0))) := Lib.hid ((b4.block g (lt_of_block HG.out)).trans HG.out)
    clear b4
    go_wp2_with fail
    refine (CJ.out _ g HG4.out).mono ?_
    rintro e w5 ⟨rfl, b5⟩
    have B5 : Hid (Below w.heap.size w w5) := Lib.hid (keepW B4.out b5)
    clear b5
    go_wp2
    go_ret2
    exact ⟨rfl, B5.out⟩

theorem Own_any (R : List ByteArray) (a0 : Option Addr) (b off cap : Nat) (h : ByteArray) (w : World) (hT : TxAt R a0 b off w) (hF : Fair R h) (hW : Hw w) :
    Calls Tryz.prog 40 #[.slice a0 R.length cap, .string h] w fun e w' => e = .returned (.tuple #[.string (sufT R h 1).1, .int .i64 (sufT R h 1).2]) ∧ Below w.heap.size w w' := by
  have C := Lib.hid (lastParts_any R a0 b off cap h 1 (by omega) w hT hF hW)
  go_enter Tryz.func40, Tryz.ntmps40
  go_wp2_with fail
  refine C.out.mono ?_
  rintro e w1 ⟨rfl, b1⟩
  have B1 := Lib.hid b1; clear b1
  go_wp2
  go_ret2
  exact ⟨rfl, B1.out⟩

end Go.Proofs.YtldddgmhmolohaaGreatDoor
namespace Go.Proofs.YtldddgmhmolohaaGreatDoor
open Go.RowKit

end Go.Proofs.YtldddgmhmolohaaGreatDoor
