/-
  Contract: sixOf.
  Plain words: an address's text says it again. Of no program.
  Words and small laws for walks, of no function: a table of 256, cells of new memory, bytes that are put behind a row.
  Contracts: digit, firstByte, Decode.
  Contract: Decode.
-/
import Derived.Test.YtldddgmhmolohaaMaF
import Derived.Test.YtldddgmhmolohaaMaE
import Derived.Test.YtldddgmhmolohaaRows
import Derived.Test.YtldddgmhmolohaaMpA
import Derived.WalkSpells
import Derived.WalkLawsBesides
import Derived.Deep.QuietTactic
import Derived.BigQuiet
import Derived.OneCell
import Derived.Deep.WholeRow
import Derived.Laws.CopyOwn
import Derived.Laws.IdiomStrings
import Derived.Laws.EntriesVeiled
import Derived.Deep.AppendLies
import Derived.ArgAppend
import Derived.RegionTactic
import Derived.Laws.Cover4
import Derived.Lib.DecodeN
import Derived.Lib.AppendZeros
import Derived.Test.YtldddgmhmolohaaMaA
namespace Go.Proofs.Ytldddgmhmolohaa
open Go.RowKit

/-- Pieces as bytes. -/
def pb (P : List Nat) : List Nat := P.flatMap (be 2)
end Go.Proofs.Ytldddgmhmolohaa
namespace Go.Proofs.Ytldddgmhmolohaa
open Go.RowKit

theorem lrS_zero (P : List Nat) : ∀ k, (∀ j, (lrS P k).1 ≤ j → j < k → P.getD j 0 = 0) ∧ (∀ j, (lrS P k).2.1 ≤ j → j < (lrS P k).2.2 → P.getD j 0 = 0)
  | 0 => ⟨fun j _ h => by omega, fun j _ h => by simp [lrS] at h⟩
  | k + 1 => by
    obtain ⟨h1, h2⟩ := lrS_zero P k
    have hok := lrS_ok P k
    rw [lrS]
    by_cases hz : P.getD k 0 = 0
    · have hall : ∀ j, (lrS P k).1 ≤ j → j < k + 1 → P.getD j 0 = 0 := fun j hj hk => by
        by_cases e : j = k
        · rw [e]; exact hz
        · exact h1 j hj (by omega)
      rw [if_neg (by simpa using hz)]
      split
      · exact ⟨hall, hall⟩
      · exact ⟨hall, h2⟩
    · rw [if_pos hz]
      exact ⟨fun j hj hk => by simp only at hj; omega, h2⟩
theorem be2_pair (x y : Nat) (hx : x < 256) (hy : y < 256) : be 2 (256 * x + y) = [x, y] := by
  simp [be]; omega
theorem pb_pcs : ∀ l : List Nat, l.length = 16 → (∀ x ∈ l, x < 256) → pb (pcs l) = l
  | [a0, a1, a2, a3, a4, a5, a6, a7, a8, a9, b0, b1, b2, b3, b4, b5], _, h => by
    show be 2 (256 * a0 + a1) ++ (be 2 (256 * a2 + a3) ++ (be 2 (256 * a4 + a5) ++ (be 2 (256 * a6 + a7) ++ (be 2 (256 * a8 + a9) ++ (be 2 (256 * b0 + b1) ++ (be 2 (256 * b2 + b3) ++ (be 2 (256 * b4 + b5) ++ []))))))) = _
    rw [be2_pair a0 a1 (h _ (by simp)) (h _ (by simp)), be2_pair a2 a3 (h _ (by simp)) (h _ (by simp)), be2_pair a4 a5 (h _ (by simp)) (h _ (by simp)), be2_pair a6 a7 (h _ (by simp)) (h _ (by simp)), be2_pair a8 a9 (h _ (by simp)) (h _ (by simp)), be2_pair b0 b1 (h _ (by simp)) (h _ (by simp)), be2_pair b2 b3 (h _ (by simp)) (h _ (by simp)), be2_pair b4 b5 (h _ (by simp)) (h _ (by simp))]
    rfl
theorem by2_small {l : List Nat} (hb : ∀ x ∈ l, x < 256) (k j : Nat) : by2 l k j < 65536 := by
  have hg : ∀ i, l.getD i 0 < 256 := fun i => by
    rw [List.getD_eq_getElem?_getD]
    cases h : l[i]? with
    | none => decide
    | some x => exact hb x (List.mem_of_getElem? h)
  have h1 := hg (2 * j)
  have h2 := hg (2 * j + 1)
  unfold by2
  split
  · omega
  · split <;> omega
theorem pcs_small {l : List Nat} (hb : ∀ x ∈ l, x < 256) : ∀ x ∈ pcs l, x < 65536 := by
  intro x hx
  obtain ⟨j, _, rfl⟩ := List.mem_map.1 hx
  exact by2_small hb 16 j
theorem hexs_ok (P : List Nat) : ∀ q ∈ P.map (numF 16 4), q ≠ [] ∧ ∀ c ∈ q, c ≠ 58 := by
  intro q hq
  obtain ⟨n, _, rfl⟩ := List.mem_map.1 hq
  exact ⟨numF_ne 16 4 n (by omega), fun c hc => (numF_no (by omega) (by omega) 4 n c hc).2.1⟩
/-- Pieces that are told are read again. -/
theorem pieces_back (en : Bool) (P : List Nat) (hP : ∀ x ∈ P, x < 65536) : piecesD en (Lib.join (P.map (numF 16 4)) [58]) = some P := by
  cases P with
  | nil => rfl
  | cons n ns =>
    have h1 := hexs_ok (n :: ns)
    rw [List.map_cons] at h1 ⊢
    rw [piecesD, if_neg (join_last 58 _ _ h1).1, pts_join 58 _ _ (fun q hq => (h1 q hq).2), ← List.map_cons]
    refine evs_mapG _ _ _ n ns (fun m hm => ?_)
    have hp := pc1_numF m (hP m hm)
    refine ⟨hp, ?_⟩
    cases en
    · exact hp
    · simp [both1, hp]
theorem cut2_nums (P : List Nat) : cut2 (Lib.join (P.map (numF 16 4)) [58]) = none ∧ (Lib.join (P.map (numF 16 4)) [58]).getLast? ≠ some 58 := by
  cases P with
  | nil => exact ⟨rfl, by simp [Lib.join_nil]⟩
  | cons n ns =>
    have h1 := hexs_ok (n :: ns)
    rw [List.map_cons] at h1 ⊢
    exact ⟨cut2_join _ _ h1, (join_last 58 _ _ h1).2⟩
theorem mid_zero (P : List Nat) (F T : Nat) (hT : T ≤ P.length) (hF : F ≤ T) (hz : ∀ j, F ≤ j → j < T → P.getD j 0 = 0) : P.take F ++ List.replicate (T - F) 0 ++ P.drop T = P := by
  have h1 : (P.drop F).take (T - F) = List.replicate (T - F) 0 := by
    apply List.ext_getElem?
    intro i
    by_cases hi : i < T - F
    · rw [List.getElem?_take_of_lt hi, List.getElem?_drop, List.getElem?_replicate, if_pos hi]
      have := hz (F + i) (by omega) (by omega)
      rw [List.getD_eq_getElem?_getD, List.getElem?_eq_getElem (by omega)] at this
      rw [List.getElem?_eq_getElem (by omega)]
      exact congrArg some this
    · rw [List.getElem?_eq_none (by rw [List.length_take]; omega), List.getElem?_eq_none (by rw [List.length_replicate]; omega)]
  have h2 : P.drop T = (P.drop F).drop (T - F) := by rw [List.drop_drop]; congr 1; omega
  rw [← h1, h2, List.append_assoc, List.take_append_drop, List.take_append_drop]
theorem six_back (l : List Nat) (hb : ∀ x ∈ l, x < 256) : sixD (sixT l) = some (pcs l) := by
  have hP := pcs_small hb
  have h8 : (pcs l).length = 8 := by simp [pcs]
  obtain ⟨hFT, hT⟩ := lrS_bd (pcs l)
  have hz := (lrS_zero (pcs l) 8).2
  unfold sixT
  generalize (lrS (pcs l) 8).2.1 = F at *
  generalize (lrS (pcs l) 8).2.2 = T at *
  generalize pcs l = P at *
  split
  · rw [sixD, (cut2_nums P).1, pieces_back true P hP]
    simp only
    rw [if_pos h8]
  · have hc := cut2_front (Lib.join ((P.take F).map (numF 16 4)) [58]) (Lib.join ((P.drop T).map (numF 16 4)) [58]) (cut2_nums _).1 (cut2_nums _).2
    rw [show Lib.join ((P.take F).map (numF 16 4)) [58] ++ [58, 58] ++ Lib.join ((P.drop T).map (numF 16 4)) [58] = Lib.join ((P.take F).map (numF 16 4)) [58] ++ 58 :: 58 :: Lib.join ((P.drop T).map (numF 16 4)) [58] by simp]
    rw [sixD, hc]
    simp only
    rw [pieces_back false _ (fun x hx => hP x (List.mem_of_mem_take hx)), pieces_back true _ (fun x hx => hP x (List.mem_of_mem_drop hx))]
    simp only
    have e1 : (P.take F).length = F := by rw [List.length_take]; omega
    have e2 : (P.drop T).length = 8 - T := by rw [List.length_drop]; omega
    rw [e1, e2, if_pos (by omega), show 8 - F - (8 - T) = T - F by omega, mid_zero P F T (by omega) hFT hz]

theorem decs_ok (P : List Nat) : ∀ q ∈ P.map (numF 10 4), q ≠ [] ∧ ∀ c ∈ q, c ≠ 46 := by
  intro q hq
  obtain ⟨n, _, rfl⟩ := List.mem_map.1 hq
  exact ⟨numF_ne 10 4 n (by omega), fun c hc => (numF_no (by omega) (by omega) 4 n c hc).1⟩
theorem num1_dec (n : Nat) (h : n < 256) : num1 (numF 10 4 n) = some [n] := by
  rw [num1, numD_dec 3 n (by omega) (by omega)]
/-- What begins with a digit and has digits alone looks like four bytes. -/
theorem looks_dec (n : Nat) : looksQ (numF 10 4 n) = true := by
  have h1 := numF_all (b := 10) (by omega) (by omega) 4 n
  have h2 := numF_ne 10 4 n (by omega)
  rw [looksQ, h1]
  cases h : numF 10 4 n with
  | nil => contradiction
  | cons x y => rfl
theorem trimP_id {l : List UInt8} (h : l.getLast? ≠ some 46) : trimP l = l := by rw [trimP, if_neg h]
theorem four_back (a b c d : Nat) (r : List Nat) (ha : a < 256) (hb : b < 256) (hc : c < 256) (hd : d < 256) : fourD (four1T (a :: b :: c :: d :: r)) = (true, some [a, b, c, d]) := by
  have h1 := decs_ok [a, b, c, d]
  have hl := join_last 46 _ _ h1
  have hp := pts_join 46 _ _ (fun q hq => (h1 q hq).2)
  have ht : trimP (four1T (a :: b :: c :: d :: r)) = four1T (a :: b :: c :: d :: r) := trimP_id hl.2
  have hp' : pts 46 (four1T (a :: b :: c :: d :: r)) = [a, b, c, d].map (numF 10 4) := hp
  have he : evs num1 num1 ([a, b, c, d].map (numF 10 4)) = some [a, b, c, d] := evs_mapG _ _ _ a [b, c, d] (fun m hm => by
    have : m < 256 := by
      simp at hm
      rcases hm with rfl | rfl | rfl | rfl <;> assumption
    exact ⟨num1_dec m this, num1_dec m this⟩)
  have hk : looksQ (lastQ ([a, b, c, d].map (numF 10 4))) = true := looks_dec d
  rw [fourD, ht, hp', hk, he]
  simp only [if_true]
  rw [if_neg (by simp)]
  have : lay4 4 [a, b, c, d] = some [a, b, c, d] := by
    simp only [lay4, ha, hb, hc]
    simp [be, hd]
  rw [this]
end Go.Proofs.Ytldddgmhmolohaa
namespace Go.Proofs.Ytldddgmhmolohaa
open Go.RowKit

end Go.Proofs.Ytldddgmhmolohaa
namespace Go.Proofs.Ytldddgmhmolohaa
open Go.RowKit

end Go.Proofs.Ytldddgmhmolohaa
namespace Go.Proofs.Ytldddgmhmolohaa
open Go.RowKit

/-- A text with three signs as bytes. -/
def decS (s : ByteArray) : ByteArray := ⟨(pc_decL s.data.toList).toArray⟩
end Go.Proofs.Ytldddgmhmolohaa
