/-
  Plain words on the text of sixteen bytes: the longest run as the document finds it, the text as pieces, colons, two colons. Of no program.
  Plain words on numbers that are told and read again: digits by a base, parts, rows of them. Of no program.
  Ways to read: four; either of two, whole; contracts: readerOf.
-/
import Derived.Test.YtdifdikfgkiocaaDoorMaD
import Derived.Test.YtdifdikfgkiocaaDoorMaA
import Derived.Test.YtdifdikfgkiocaaDoorMaC
import Derived.Test.YtdifdikfgkiocaaDoorMpI
namespace Go.Proofs.YtdifdikfgkiocaaDoor
open Go.RowKit

end Go.Proofs.YtdifdikfgkiocaaDoor
namespace Go.Proofs.YtdifdikfgkiocaaDoor
open Go.RowKit

theorem hd_hex : ∀ d : Fin 16, hexV (hd d.1) = d.1 := by decide +kernel
theorem hd_val {d : Nat} (h : d < 16) : hexV (hd d) = d := hd_hex ⟨d, h⟩
theorem hd_sign : ∀ d : Fin 16, hd d.1 ≠ 46 ∧ hd d.1 ≠ 58 ∧ hd d.1 ≠ 120 ∧ hd d.1 ≠ 88 ∧ (hd d.1 = 48 → d.1 = 0) := by decide +kernel
theorem hd_dig {b d : Nat} (h : d < b) (hb : b ≤ 16) : dig b (hd d) = true := by simp [dig, hd_val (show d < 16 by omega), h]
theorem numF_ne (b f n : Nat) (hf : 0 < f) : numF b f n ≠ [] := by
  cases f with
  | zero => omega
  | succ f => rw [numF]; split <;> simp
theorem numF_mem (b : Nat) (hb : 2 ≤ b) (hb' : b ≤ 16) : ∀ f n, ∀ c ∈ numF b f n, ∃ d, d < b ∧ c = hd d
  | 0, _, c, h => by simp [numF] at h
  | f + 1, n, c, h => by
    rw [numF] at h
    split at h
    · rename_i hn; exact ⟨n, hn, by simpa using h⟩
    · rcases List.mem_append.1 h with h | h
      · exact numF_mem b hb hb' f _ c h
      · exact ⟨n % b, Nat.mod_lt _ (by omega), by simpa using h⟩
theorem numF_all {b : Nat} (hb : 2 ≤ b) (hb' : b ≤ 16) (f n : Nat) : (numF b f n).all (dig b) = true := by
  rw [List.all_eq_true]
  intro c hc
  obtain ⟨d, hd1, rfl⟩ := numF_mem b hb hb' f n c hc
  exact hd_dig hd1 hb'
theorem numF_no {b : Nat} (hb : 2 ≤ b) (hb' : b ≤ 16) (f n : Nat) : ∀ c ∈ numF b f n, c ≠ 46 ∧ c ≠ 58 ∧ c ≠ 120 ∧ c ≠ 88 := by
  intro c hc
  obtain ⟨d, hd1, rfl⟩ := numF_mem b hb hb' f n c hc
  have := hd_sign ⟨d, by omega⟩
  exact ⟨this.1, this.2.1, this.2.2.1, this.2.2.2.1⟩
theorem fol_numF {b : Nat} (hb : 2 ≤ b) (hb' : b ≤ 16) : ∀ f n, n < b ^ f → n ≤ 4294967296 → fol b (numF b f n) = n
  | 0, n, h, _ => by
    have : n = 0 := by simpa using h
    subst this; rfl
  | f + 1, n, h, hn => by
    rw [numF]
    split
    · rename_i hlt
      simp [fol, stp, hd_val (show n < 16 by omega)]; omega
    · have hm : n % b < b := Nat.mod_lt _ (by omega)
      have hd1 : n / b < b ^ f := by
        rw [Nat.div_lt_iff_lt_mul (by omega)]; rw [Nat.pow_succ] at h; exact h
      have hd2 : n / b ≤ n := Nat.div_le_self _ _
      rw [fol_snoc, fol_numF hb hb' f (n / b) hd1 (by omega), stp, hd_val (show n % b < 16 by omega)]
      have := Nat.div_add_mod n b
      rw [Nat.mul_comm] at this
      omega
theorem cnt_numF {b : Nat} (hb : 2 ≤ b) (hb' : b ≤ 16) (f n : Nat) (h : n < b ^ f) (hn : n ≤ 4294967296) : cnt b (numF b f n) = some n := by
  rw [cnt_all (numF_all hb hb' f n), fol_numF hb hb' f n h hn]
/-- No nought ahead, but of nought itself. -/
theorem numF_head {b : Nat} (hb : 2 ≤ b) (hb' : b ≤ 16) : ∀ f n, n < b ^ f → (numF b f n).head? = some 48 → n = 0
  | 0, n, h, _ => by simpa using h
  | f + 1, n, h, h48 => by
    rw [numF] at h48
    split at h48
    · rename_i hlt
      exact (hd_sign ⟨n, by omega⟩).2.2.2.2 (by simpa using h48)
    · rename_i hge
      have hd1 : n / b < b ^ f := by
        rw [Nat.div_lt_iff_lt_mul (by omega)]; rw [Nat.pow_succ] at h; exact h
      have hpos : 1 ≤ n / b := (Nat.le_div_iff_mul_le (by omega)).2 (by omega)
      cases f with
      | zero => simp at hd1; omega
      | succ f =>
        rw [List.head?_append] at h48
        have hne := numF_ne b (f + 1) (n / b) (by omega)
        cases e : numF b (f + 1) (n / b) with
        | nil => contradiction
        | cons x r =>
          rw [e] at h48
          have := numF_head hb hb' (f + 1) (n / b) hd1 (by rw [e]; simpa using h48)
          omega
theorem numF_zero (b f : Nat) (hb : 2 ≤ b) : numF b (f + 1) 0 = [48] := by
  rw [numF, if_pos (by omega)]; rfl
theorem numF_len48 {b : Nat} (hb : 2 ≤ b) (hb' : b ≤ 16) (f n : Nat) (h : n < b ^ (f + 1)) (h48 : (numF b (f + 1) n).head? = some 48) : (numF b (f + 1) n).length = 1 := by
  have := numF_head hb hb' (f + 1) n h h48
  subst this
  rw [numF_zero b f hb]; rfl

theorem isX_numF {b : Nat} (hb : 2 ≤ b) (hb' : b ≤ 16) (f n : Nat) : isX (numF b f n) = false := by
  have h := numF_no hb hb' f n
  match e : numF b f n with
  | [] => rfl
  | [_] => rfl
  | x :: y :: r =>
    have := h y (by rw [e]; simp)
    simp [isX, this.2.2.1, this.2.2.2]
theorem numD_dec (f n : Nat) (h : n < 10 ^ (f + 1)) (hn : n ≤ 4294967296) : numD (numF 10 (f + 1) n) = some n := by
  rw [numD, isX_numF (by omega) (by omega)]
  rw [if_neg (by simp), if_neg, if_neg (numF_ne _ _ _ (by omega)), cnt_numF (by omega) (by omega) _ n h hn]
  rintro ⟨h2, h48⟩
  have := numF_len48 (b := 10) (by omega) (by omega) f n h h48
  omega

/-- Parts that are told, one behind the other. -/
theorem pts_join (a : UInt8) : ∀ (x : List UInt8) (r : List (List UInt8)), (∀ q ∈ x :: r, ∀ c ∈ q, c ≠ a) → pts a (Lib.join (x :: r) [a]) = x :: r
  | x, [], h => by rw [Lib.join_one, pts_none a x (h x (by simp))]
  | x, y :: r, h => by
    have ih := pts_join a y r (fun q hq => h q (List.mem_cons_of_mem _ hq))
    have e : Lib.join (x :: y :: r) [a] = x ++ a :: Lib.join (y :: r) [a] := by simp [Lib.join, List.intercalate]
    rw [e, pts_front a x _ (h x (by simp)), ih]
theorem evs_mapG (evI evL : List UInt8 → Option (List Nat)) (g : Nat → List UInt8) : ∀ (n : Nat) (ns : List Nat), (∀ m ∈ n :: ns, evI (g m) = some [m] ∧ evL (g m) = some [m]) → evs evI evL ((n :: ns).map g) = some (n :: ns)
  | n, [], h => (h n (by simp)).2
  | n, m :: ns, h => by
    have ih := evs_mapG evI evL g m ns (fun q hq => h q (List.mem_cons_of_mem _ hq))
    rw [List.map_cons, evs_cons _ _ _ (by simp), (h n (by simp)).1, ih]; rfl
theorem join_split (x y : List UInt8) (r : List (List UInt8)) (a : UInt8) : Lib.join (x :: y :: r) [a] = x ++ a :: Lib.join (y :: r) [a] := by simp [Lib.join, List.intercalate]
theorem join_last (a : UInt8) : ∀ (x : List UInt8) (r : List (List UInt8)), (∀ q ∈ x :: r, q ≠ [] ∧ ∀ c ∈ q, c ≠ a) → Lib.join (x :: r) [a] ≠ [] ∧ (Lib.join (x :: r) [a]).getLast? ≠ some a
  | x, [], h => by
    rw [Lib.join_one]
    exact ⟨(h x (by simp)).1, fun e => (h x (by simp)).2 a (List.mem_of_getLast? e) rfl⟩
  | x, y :: r, h => by
    obtain ⟨h1, h2⟩ := join_last a y r (fun q hq => h q (List.mem_cons_of_mem _ hq))
    rw [join_split]
    refine ⟨by simp, fun e => h2 ?_⟩
    rw [List.getLast?_append, List.getLast?_cons] at e
    cases e2 : (Lib.join (y :: r) [a]).getLast? with
    | none => rw [List.getLast?_eq_none_iff] at e2; contradiction
    | some z => rw [e2] at e; simpa using e
end Go.Proofs.YtdifdikfgkiocaaDoor
namespace Go.Proofs.YtdifdikfgkiocaaDoor
open Go.RowKit

end Go.Proofs.YtdifdikfgkiocaaDoor
