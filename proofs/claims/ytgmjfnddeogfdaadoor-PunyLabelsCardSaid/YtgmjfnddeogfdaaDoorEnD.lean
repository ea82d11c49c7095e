/-
  Contract: puny.sorted.
-/
import Derived.Test.YtgmjfnddeogfdaaDoorEnC
namespace Go.Proofs.YtgmjfnddeogfdaaDoor
open Go.RowKit

/-- One other sign more. -/
theorem Gth.other {s : ByteArray} {w0 : World} {gt k base pos : Nat} {vo vt : Value} {D : List Pr} {wr : World} (h : Gth s w0 gt k base pos vo vt D wr) (x : Pr) (hx : isPl x = false) (hD : D.length ≤ 1000000) :
    ∃ vt' w1, (Builtin.append_ #[49, 49] 49 #[vt, .slice (some ⟨wr.heap.size, 0, none⟩) 1 1]).run Tryd.prog (wr.alloc (.cells #[.int .i32 (x.1 : Int), .int .i64 (x.2 : Int)] 54)) = .ok vt' w1 ∧
      Gth s w0 gt k base pos vo vt' (D ++ [x]) w1 := by
  have o := h.ord
  obtain ⟨i0, hi, hz0, hz1, hz2⟩ := info_parts infoO
  have hol : (otL D).length ≤ D.length := by simp [otL]; exact List.length_filter_le _ _
  obtain ⟨vt', w1, hrun, hown, hg, hblk⟩ := app_own2 (P := Tryd.prog) (wr.alloc (.cells #[.int .i32 (x.1 : Int), .int .i64 (x.2 : Int)] 54)) base 49 49 54 i0 (.agg #[.int .i32 0, .int .i64 0]) 2 16 Tryd.underlying49 hi hz0 hz1 hz2 rfl (by decide)
    vt (otL D).length (flat (otL D)) (h.oth.alloc _) ⟨wr.heap.size, 0, none⟩ 1 1 [.int .i32 (x.1 : Int), .int .i64 (x.2 : Int)] (by simp) (World.news_of_block (cs := #[.int .i32 (x.1 : Int), .int .i64 (x.2 : Int)]) (t := 54) (fr := (0, 0)) (heap_alloc_new wr _)) (by simp [Value.oneCell']) (by unfold maxLen; omega) (by omega) (by simp; omega)
  have hga := World.grownBy_alloc wr (.cells #[.int .i32 (x.1 : Int), .int .i64 (x.2 : Int)] 54) none
  have hsz : wr.heap.size ≤ w1.heap.size := by have := hg.size; simp at this; omega
  have hnk : ∀ j, j < base → w1.heap[j]? = wr.heap[j]? := fun j hj => by
    have hj1 : some j ≠ vt.ownBlock := fun e => by have := (h.oth.lt j e.symm).1; omega
    rw [hg.block j (by simp; omega) hj1]
    exact hga.block j (by omega) (by simp)
  have hlen : (otL (D ++ [x])).length = (otL D).length + 1 := by rw [otL_snoc, hx]; simp
  have hmap : flat (otL (D ++ [x])) = flat (otL D) ++ [.int .i32 (x.1 : Int), .int .i64 (x.2 : Int)] := by rw [otL_snoc, hx, flat_append]; rfl
  have hpb : plB (D ++ [x]) = plB D := by rw [plB_snoc, hx]; simp
  have hpa : plA (D ++ [x]) = plA D := by rw [plA_snoc, hx]; simp
  refine ⟨vt', w1, hrun, ?_, ?_, ?_, ?_, ?_, ?_, ?_⟩
  · rw [hnk k (by omega)]; exact h.it
  · rw [hpa]; exact h.fen.old (hnk gt (by omega))
  · rw [hpb]
    exact (h.out.alloc _).kept hg (by
      cases e : vo.ownBlock with
      | none => exact .inl rfl
      | some q => exact .inr (fun e2 => h.ne q e e2.symm))
  · rw [hlen, hmap]; exact hown
  · intro q hq hv
    rcases hblk with hb | hb
    · rw [hb] at hv; exact h.ne q hq hv
    · have h1 := hb q hv
      have h2 := (h.out.lt q hq).2
      simp at h1; omega
  · exact (h.bel.grown hga (by omega) (fun q hq => by cases hq)).grown hg (by simp; omega) (fun q hq => by have := (h.oth.lt q hq).1; omega)
  · exact ⟨o.1, o.2.1, o.2.2.1, by omega⟩

theorem width_pos (s : ByteArray) (p : Nat) : 1 ≤ (Utf8.decode s p).2 := by
  rw [Lib.decode_at]
  unfold Lib.decodeN
  repeat' split
  all_goals simp
theorem sgn_end (s : ByteArray) (f p : Nat) (h : ¬ p < s.size) : sgn s f p = [] := by
  cases f with
  | zero => rfl
  | succ f => rw [sgn, if_neg h]
theorem sgn_on (s : ByteArray) (f p : Nat) (h : p < s.size) : sgn s (f + 1) p = ((Utf8.decode s p).1, p) :: sgn s f (p + (Utf8.decode s p).2) := by rw [sgn, if_pos h]
theorem sgn_ge (s : ByteArray) : ∀ f p, ∀ x ∈ sgn s f p, p ≤ x.2
  | 0, _, x, h => by simp [sgn] at h
  | f + 1, p, x, h => by
    rw [sgn] at h
    split at h
    · rcases List.mem_cons.1 h with rfl | h
      · exact Nat.le_refl _
      · have := sgn_ge s f _ x h
        omega
    · simp at h
theorem sgn_ris (s : ByteArray) : ∀ f p, Ris (sgn s f p)
  | 0, _ => .nil
  | f + 1, p => by
    rw [sgn]
    split
    · refine List.Pairwise.cons (fun y hy => ?_) (sgn_ris s f _)
      have h1 := sgn_ge s f _ y hy
      have h2 := width_pos s p
      show p < y.2
      omega
    · exact .nil
theorem ot_ris {D : List Pr} (h : Ris D) : Ris (otL D) := List.Pairwise.sublist List.filter_sublist h

end Go.Proofs.YtgmjfnddeogfdaaDoor
