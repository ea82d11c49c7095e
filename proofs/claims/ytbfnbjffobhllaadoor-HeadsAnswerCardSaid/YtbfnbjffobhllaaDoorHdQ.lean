/-
  Package heads, plain words: fields and first lines as they are put are read again.
-/
import Derived.Test.YtbfnbjffobhllaaDoorHdP
namespace Go.Proofs.YtbfnbjffobhllaaDoor
open Go.RowKit

theorem hd_tok : ∀ k : Fin 256, tokB k.1 = true → 33 ≤ k.1 ∧ k.1 < 127 ∧ k.1 ≠ 58 := by decide +kernel
theorem tokS_mem {l : List UInt8} (h : tokS l = true) {c : UInt8} (hc : c ∈ l) : 33 ≤ c.toNat ∧ c.toNat < 127 ∧ c.toNat ≠ 58 := by
  unfold tokS at h
  rw [Bool.and_eq_true] at h
  have h2 := h.2
  unfold allT at h2
  rw [List.all_eq_true] at h2
  exact hd_tok ⟨c.toNat, c.toNat_lt⟩ (h2 c hc)
theorem tokS_nil {l : List UInt8} (h : tokS l = true) : l ≠ [] := by
  rintro rfl; cases h
theorem tx_iff {c : UInt8} : txB c = true ↔ c.toNat = 9 ∨ (32 ≤ c.toNat ∧ c.toNat ≠ 127) := by simp [txB]
theorem sg_iff {c : UInt8} : sgB c = true ↔ 32 < c.toNat ∧ c.toNat < 127 := by simp [sgB]
theorem u8_ne {c d : UInt8} (h : c.toNat ≠ d.toNat) : c ≠ d := fun e => h (e ▸ rfl)
theorem tx_mem {l : List UInt8} (h : l.all txB = true) {c : UInt8} (hc : c ∈ l) : c ≠ 13 ∧ c ≠ 10 := by
  rw [List.all_eq_true] at h
  have := tx_iff.1 (h c hc)
  exact ⟨u8_ne (by show c.toNat ≠ 13; omega), u8_ne (by show c.toNat ≠ 10; omega)⟩
theorem fld_parts {f : Fld} (h : fldB f = true) : tokS f.1 = true ∧ f.2.all txB = true ∧ trimL f.2 = f.2 := by
  unfold fldB valB at h
  rw [Bool.and_eq_true, Bool.and_eq_true] at h
  exact ⟨h.1, h.2.1, of_decide_eq_true h.2.2⟩
theorem fld_mk {f : Fld} (h1 : tokS f.1 = true) (h2 : f.2.all txB = true) (h3 : trimL f.2 = f.2) : fldB f = true := by
  unfold fldB valB
  rw [h1, h2, decide_eq_true h3]; rfl
theorem tok_no {l : List UInt8} (h : tokS l = true) (a : UInt8) (ha : a.toNat < 33 ∨ a.toNat = 58) : a ∉ l := fun hm => by
  have := tokS_mem h hm
  omega
/-- A name, a colon, blanks, a value, blanks. -/
theorem trim_pad {p q v : List UInt8} (hp : ∀ c ∈ p, bl c = true) (hq : ∀ c ∈ q, bl c = true) (hv : trimL v = v) : trimL (p ++ v ++ q) = v := by
  have h1 : ∀ p : List UInt8, (∀ c ∈ p, bl c = true) → ∀ l, trimL (p ++ l) = trimL l := by
    intro p
    induction p with
    | nil => intro _ l; rfl
    | cons c p ih =>
      intro h l
      rw [List.cons_append, trimL_cons _ _ (h c (List.mem_cons_self ..)), ih fun x hx => h x (List.mem_cons_of_mem _ hx)]
  have h2 : ∀ q : List UInt8, (∀ c ∈ q, bl c = true) → ∀ l, trimL (l ++ q) = trimL l := by
    intro q
    induction q with
    | nil => intro _ l; rw [List.append_nil]
    | cons c q ih =>
      intro h l
      rw [show l ++ c :: q = (l ++ [c]) ++ q by simp, ih (fun x hx => h x (List.mem_cons_of_mem _ hx)), trimL_snoc _ _ (h c (List.mem_cons_self ..))]
  rw [h2 q hq, h1 p hp, hv]
theorem fld_line {f : Fld} (h : fldB f = true) {p q : List UInt8} (hp : ∀ c ∈ p, bl c = true) (hq : ∀ c ∈ q, bl c = true) : fldD (f.1 ++ [58] ++ (p ++ f.2 ++ q)) = some f := by
  obtain ⟨h1, h2, h3⟩ := fld_parts h
  have hc : Lib.cut (f.1 ++ [58] ++ (p ++ f.2 ++ q)) [58] = (f.1, p ++ f.2 ++ q, true) := by
    have := cut_one 58 f.1 (p ++ f.2 ++ q) (tok_no h1 58 (.inr rfl))
    rw [List.append_assoc]; exact this
  unfold fldD fldV
  rw [hc]
  show (if true = true ∧ fldB (f.1, trimL (p ++ f.2 ++ q)) = true then some (f.1, trimL (p ++ f.2 ++ q)) else none) = some f
  rw [trim_pad hp hq h3, if_pos ⟨rfl, h⟩]
theorem fld_put {f : Fld} (h : fldB f = true) : fldD (lineF f) = some f := by
  have := fld_line h (p := [32]) (q := []) (by intro c hc; rw [List.mem_singleton.1 hc]; rfl) (fun _ h => (by cases h))
  have e : f.1 ++ [58] ++ ([32] ++ f.2 ++ []) = lineF f := by simp [lineF]
  rwa [e] at this
theorem gath_all : ∀ (L : List (List UInt8)) (F G : List Fld), L.length = F.length → (∀ (i : Nat) l f, L[i]? = some l → F[i]? = some f → fldD l = some f) → gath L G = some (G ++ F)
  | [], [], G, _, _ => by simp [gath]
  | [], _ :: _, _, h, _ => by cases h
  | _ :: _, [], _, h, _ => by cases h
  | l :: L, f :: F, G, h, hf => by
    unfold gath
    rw [hf 0 l f rfl rfl]
    show gath L (G ++ [f]) = _
    rw [gath_all L F (G ++ [f]) (by simpa using h) fun i l' f' h1 h2 => hf (i + 1) l' f' h1 h2]
    simp
theorem gath_map (lf : Fld → List UInt8) (F : List Fld) (h : ∀ f ∈ F, fldD (lf f) = some f) : gath (F.map lf) [] = some F := by
  rw [gath_all (F.map lf) F [] (by simp), List.nil_append]
  intro i l f h1 h2
  rw [List.getElem?_map, h2] at h1
  cases h1
  exact h f (List.mem_of_getElem? h2)
theorem all_mem {l : List UInt8} {p : UInt8 → Bool} (h : l.all p = true) {c : UInt8} (hc : c ∈ l) : p c = true := List.all_eq_true.1 h c hc
/-- A request's first line. -/
theorem req_put {m t : List UInt8} (hm : tokS m = true) (ht : tgtB t = true) : reqD (lineR m t) = some (m, t, 0) := by
  unfold tgtB at ht
  have ht2 := (Bool.and_eq_true _ _ ▸ ht).2
  have h32 : (32 : UInt8) ∉ t := fun hc => by
    have := sg_iff.1 (all_mem ht2 hc)
    have e : (32 : UInt8).toNat = 32 := rfl
    omega
  have c1 : Lib.cut (lineR m t) [32] = (m, t ++ 32 :: http1, true) := by
    have := cut_one 32 m (t ++ 32 :: http1) (tok_no hm 32 (.inl (by decide)))
    have e : lineR m t = m ++ 32 :: (t ++ 32 :: http1) := by simp [lineR]
    rw [e]; exact this
  have c2 := cut_one 32 t http1 h32
  unfold reqD resV resG resW
  rw [c1, c2, if_pos ⟨hm, by unfold tgtB; exact ht, rfl⟩]
theorem msgD_cons (rd : List UInt8 → Option Fst12) (l : List UInt8) (r : List (List UInt8)) : msgD rd (l :: r) = (rd l).bind fun x => (gath r []).map fun F => (x, F) := by
  unfold msgD
  cases h : rd l with
  | none => simp [h]
  | some x => cases hg : gath r [] <;> simp [h, hg]
theorem put_parts {m t : List UInt8} {F : List Fld} (h : putOk m t F = true) : tokS m = true ∧ tgtB t = true ∧ ∀ f ∈ F, fldB f = true := by
  unfold putOk at h
  rw [Bool.and_eq_true, Bool.and_eq_true, List.all_eq_true] at h
  exact ⟨h.1.1, h.1.2, h.2⟩
theorem lineR_cl {m t : List UInt8} (hm : tokS m = true) (ht : tgtB t = true) : (13 : UInt8) ∉ lineR m t ∧ lineR m t ≠ [] := by
  unfold tgtB at ht
  have ht2 := (Bool.and_eq_true _ _ ▸ ht).2
  have h13 : (13 : UInt8) ∉ t := fun hc => by
    have := sg_iff.1 (all_mem ht2 hc)
    have e : (13 : UInt8).toNat = 13 := rfl
    omega
  have h1 := tok_no hm 13 (.inl (by decide))
  refine ⟨?_, by simp [lineR]⟩
  unfold lineR
  simp only [List.mem_append, not_or]
  exact ⟨⟨⟨⟨h1, by decide⟩, h13⟩, by decide⟩, by decide⟩
theorem lineF_cl {f : Fld} (h : fldB f = true) : (13 : UInt8) ∉ lineF f ∧ lineF f ≠ [] := by
  obtain ⟨h1, h2, h3⟩ := fld_parts h
  have a1 := tok_no h1 13 (.inl (by decide))
  have a2 : (13 : UInt8) ∉ f.2 := fun hc => (tx_mem h2 hc).1 rfl
  refine ⟨?_, by simp [lineF]⟩
  unfold lineF
  simp only [List.mem_append, not_or]
  exact ⟨⟨⟨a1, by decide⟩, by decide⟩, a2⟩
theorem headP_eq (m t : List UInt8) (F : List Fld) : headP m t F = joinP (lineR m t :: F.map lineF) ++ crlf := by
  unfold headP linesP
  rw [← List.cons_append, joinP_app]; rfl
theorem putE_zero {m t : List UInt8} {F : List Fld} (h : putE m t F = 0) : putOk m t F = true ∧ F.length ≤ 256 ∧ (headP m t F).length ≤ 65536 := by
  unfold putE at h
  split at h
  · cases h
  · rename_i h1
    split at h
    · cases h
    · split at h
      · cases h
      · exact ⟨by cases hx : putOk m t F with | true => rfl | false => exact absurd hx h1, by omega, by omega⟩
theorem put_hdl {m t : List UInt8} {F : List Fld} (h : putE m t F = 0) : HdL (lineR m t :: F.map lineF) := by
  obtain ⟨h1, h2, h3⟩ := putE_zero h
  obtain ⟨p1, p2, p3⟩ := put_parts h1
  refine ⟨by simp, ?_, ?_⟩
  · intro l hl
    rcases List.mem_cons.1 hl with rfl | hl
    · exact ⟨noCL_13 (lineR_cl p1 p2).1, (lineR_cl p1 p2).2⟩
    · obtain ⟨f, hf, rfl⟩ := List.mem_map.1 hl
      exact ⟨noCL_13 (lineF_cl (p3 f hf)).1, (lineF_cl (p3 f hf)).2⟩
  · rw [headP_eq, List.length_append] at h3
    exact h3
theorem put_msg {m t : List UInt8} {F : List Fld} (h : putOk m t F = true) : msgD reqD (lineR m t :: F.map lineF) = some ((m, t, 0), F) := by
  obtain ⟨p1, p2, p3⟩ := put_parts h
  rw [msgD_cons, req_put p1 p2, gath_map lineF F fun f hf => fld_put (p3 f hf)]
  rfl
/-- A request that was put is read again. -/
theorem put_back {m t : List UInt8} {F : List Fld} (h : putE m t F = 0) (r : List UInt8) : readD reqD (headP m t F ++ r) = (((m, t, 0), F), ((headP m t F).length : Int), 0) := by
  obtain ⟨h1, h2, h3⟩ := putE_zero h
  have hl := (put_hdl h).read r reqD
  rw [put_msg h1] at hl
  rw [headP_eq, List.append_assoc, hl]
  show (if 256 < F.length then _ else _) = _
  rw [if_neg (by omega), List.length_append]
  rfl
theorem put_cut {m t : List UInt8} {F : List Fld} (h : putE m t F = 0) {k : Nat} (hk : k < (headP m t F).length) : readD reqD ((headP m t F).take k) = (msg0, 0, 7) := by
  have hs := (put_hdl h).short k (by rw [headP_eq, List.length_append] at hk; exact hk)
  rw [headP_eq]
  unfold readD
  rw [hs, if_pos (by decide)]
theorem put_size {m t : List UInt8} {F : List Fld} (h : putE m t F = 0) : 4 < (headP m t F).length ∧ (headP m t F).length ≤ 65536 := by
  have hb := (put_hdl h).big
  have := (putE_zero h).2.2
  rw [headP_eq, List.length_append] at this ⊢
  have e : crlf.length = 2 := rfl
  omega
theorem putE_not {m t : List UInt8} {F : List Fld} (h : putE m t F ≠ 0) : (putE m t F = 1 ∨ putE m t F = 3) ∧ putT m t F = [] := by
  refine ⟨?_, by unfold putT; rw [if_neg h]⟩
  unfold putE at h ⊢
  split
  · exact .inl rfl
  · rename_i h1
    rw [if_neg h1] at h
    split
    · exact .inr rfl
    · rename_i h2
      rw [if_neg h2] at h
      split
      · exact .inr rfl
      · rename_i h3
        rw [if_neg h3] at h; exact absurd rfl h

end Go.Proofs.YtbfnbjffobhllaaDoor
