/-
  Contract: the reader's six.
  Contract: Six: the document's answer.
  An array or a struct is built out of its cells.
-/
import Derived.Test.YtcphokaamkalfaaGreatDoorMaG
import Derived.Test.YtcphokaamkalfaaGreatDoorMhA
import Derived.Test.YtcphokaamkalfaaGreatDoorMaA
namespace Go.Proofs.YtcphokaamkalfaaGreatDoor
open Go.RowKit

theorem both_is : orElse rfour rpiece = rboth := by funext l; rfl
theorem two4_le {ns ms : List Nat} (h : two4 ns = some ms) (hn : ∀ n ∈ ns, n ≤ 255) : ∀ n ∈ ms, n ≤ 65535 := by
 unfold two4 at h
 split at h
 ·rename_i a b c d
  injection h with h; subst h
  have l0 := hn a (by simp)
  have l1 := hn b (by simp)
  have l2 := hn c (by simp)
  have l3 := hn d (by simp)
  intro n h
  rcases List.mem_cons.1 h with rfl | h
  ·omega
  ·rw [List.mem_singleton.1 h]; omega
 ·cases h
theorem rboth_le : ∀ l ns u, rboth l = some (ns, u) → ∀ n ∈ ns, n ≤ 4294967296 := by
 intro l ns u h n hn
 unfold rboth at h
 split at h
 ·rename_i x hx
  injection h with h; subst h
  unfold rfour at hx
  split at hx
  ·split at hx
   ·rename_i ms h2
    injection hx with hx; injection hx with h3 h4
    subst h3
    have := two4_le h2 (row_small_le 4 _ _ _ (by simp)) n hn
    omega
   ·cases hx
  ·cases hx
 ·unfold rpiece at h
  split at h
  ·injection h with h; injection h with h1 h2; subst h1
   rw [List.mem_singleton.1 hn]; exact fol_le _ _
  ·cases h

theorem both_sfx {l : List UInt8} {ns : List Nat} {u : List UInt8} (h : rboth l = some (ns, u)) : u <:+ l := by
 rw [← both_is] at h
 rcases orElse_some h with h | h
 ·obtain ⟨⟨p, hp, _⟩, _⟩ := rfour_suf h; exact ⟨p, hp.symm⟩
 ·obtain ⟨⟨p, hp, _⟩, _⟩ := rpiece_suf h; exact ⟨p, hp.symm⟩
theorem row_sfx {o : List UInt8 → Option (List Nat × List UInt8)} {sep : UInt8} {most : Nat} (ho : ∀ {l ns u}, o l = some (ns, u) → u <:+ l) : ∀ (f : Nat) (out : List Nat) (l : List UInt8), (rowG o sep most f out l).2 <:+ l
 | 0, _, _ => List.suffix_refl _
 | f + 1, out, l => by
  rw [rowG]
  split
  ·exact List.suffix_refl _
  ·split
   ·exact List.suffix_refl _
   ·rename_i ns r h2
    split
    ·exact List.suffix_refl _
    ·refine (row_sfx ho f _ _).trans ((ho h2).trans ?_)
     split
     ·exact List.suffix_refl _
     ·exact List.drop_suffix _ _
theorem Kp.then {X : Nat → Prop} {a w w' : World} (h : Kp X a w) (k : Below a.heap.size w w') : Kp X a w' :=
 ⟨k.os.trans h.os, k.tape.trans h.tape, k.output.trans h.output, Nat.le_trans h.size k.size, fun i hi hx => (k.block i hi).trans (h.block i hi hx)⟩
theorem own_nil (base : Nat) (w : World) : w.ownsRow base 3 1 (.slice none 0 0) ([] : List Nat).length (([] : List Nat).map k_iv) := ⟨rfl, .inl ⟨rfl, rfl⟩⟩

/-- What six leaves. -/
def SixPost (b : Nat) (l : List UInt8) (w : World) (e : Ending) (w' : World) : Prop :=
 ∃ r, Rd w' b (asB r) ∧ Kp (Only b) w w' ∧ ((∃ ps, ps.length = 8 ∧ e = .returned (.agg (cellsA true (pb ps))) ∧ sixP l = if r = [] then some ps else none) ∨ (e = .returned (.agg zeroA) ∧ sixP l = none))

set_option maxRecDepth 100000 in
set_option maxHeartbeats 2000000 in
theorem six_any (b : Nat) (t : ByteArray) (w : World) (h : Rd w b t) (hs : t.size ≤ 1048600) (hsm : Sml t.data.toList) :
  Calls Tryz.prog 60 #[.pointer (some ⟨b, 0, none⟩)] w (SixPost b t.data.toList w) := by
 obtain ⟨hz, hi⟩ := zero_of_info infoA
 have HI := Lib.hid hi; clear hi
 have HIz : Hid ((Tryz.prog.info? 54).map (·.size) = some zeroA.size) := Lib.hid (by rw [HI.out, zeroA_size])
 have hzs := zeroA_size
 obtain ⟨R, HR⟩ : ∃ R, Hid (rowG rboth 58 8 (t.size + 2) [] t.data.toList = R) := ⟨_, Lib.hid rfl⟩
 have HS : Hid (sixP t.data.toList = if R.1.length = 8 then (if R.2 = [] then some R.1 else none) else if [58, 58].isPrefixOf R.2 then
  (if (rowG rboth 58 (7 - R.1.length) ((R.2.drop 2).length + 2) [] (R.2.drop 2)).2 = [] then
   some (R.1 ++ List.replicate (8 - R.1.length - (rowG rboth 58 (7 - R.1.length) ((R.2.drop 2).length + 2) [] (R.2.drop 2)).1.length) 0 ++ (rowG rboth 58 (7 - R.1.length) ((R.2.drop 2).length + 2) [] (R.2.drop 2)).1) else none) else none) := Lib.hid (by rw [sixP, lenB, HR.out])
 have hRl : R.1.length ≤ 8 := by rw [← HR.out]; exact row_len _ _ _ (by simp)
 have HRle : Hid (∀ n ∈ R.1, n ≤ 4294967296) := Lib.hid (by rw [← HR.out]; exact row_le rboth_le _ _ _ (by simp))
 have Hh := Lib.hid h
 have hb := h.lt
 have hmf := mkfK
 clear h
 go_enter Tryz.func60, Tryz.ntmps60
 go_wp2_with fail
 refine (either_any _ _ _ _ _).mono ?_
 rintro e w5 ⟨rfl, h5⟩
 obtain ⟨p1, p2, z2, b2⟩ := two_new h5
 have hx := (b2.block (w.heap.size + 1) (by simp)).trans (heap_two w _ _)
 have hr := (b2.block w.heap.size (by simp; omega)).trans ((Below.heap_alloc _ _ _ (by simp)).trans (heap_alloc_new w (.cells zeroA 54)))
 have k5 : Below w.heap.size w w5 := (((Below.refl _ _).alloc (Nat.le_refl _) _).alloc (by simp) _).trans (b2.mono (by simp; omega))
 have R5 : Hid (Rd w5 b t) := Lib.hid (Hh.out.kept (Kp.of_below (X := fun _ => False) k5) id)
 have HR5 := Lib.hid hr; have K5 := Lib.hid k5
 simp only [World.size_alloc] at p1 p2 z2
 simp only [World.size_alloc]
 have hW := way_either p1 p2 hx (by omega) (by omega) (by omega) (way_four b w5) (way_piece b w5)
 rw [both_is] at hW
 have HRow := Lib.hid (row_any b _ _ _ rboth 58 8 t w5 hW R5.out hs hsm (by omega))
 rw [HR.out] at HRow
 have HW := Lib.hid hW
 have Hsuf : Hid (R.2 <:+ t.data.toList) := Lib.hid (by rw [← HR.out]; exact row_sfx both_sfx _ _ _)
 have HSm := Lib.hid hsm
 obtain ⟨A, B⟩ := R
 clear h5 p1 p2 z2 b2 hx hr k5 hW hsm
 go_wp2_with fail
 refine HRow.out.mono ?_
 rintro e w6 ⟨v, rfl, own6, r6, k6⟩
 obtain ⟨a, cap, rfl, hob⟩ := slice_own own6
 have Own6 := Lib.hid own6; have R6 := Lib.hid r6; have K6 := Lib.hid k6
 clear own6 r6 k6 hob
 simp only at Own6 R6 HS HRle Hsuf hRl
 simp only
 have HR6 : Hid (w6.heap[w.heap.size]? = some (.cells zeroA 54 (0, 0))) := Lib.hid (K6.out.at HR5.out (by unfold Only; omega))
 have K06 : Hid (Kp (Only b) w w6) := Lib.hid ((Kp.of_below K5.out).trans K6.out)
 by_cases h8 : A.length = 8
 ·have h8I : ((A.length : Int) == 8) = true := by rw [h8]; rfl
  obtain ⟨V, HV⟩ : ∃ V, Hid (cellsA true (pb (A ++ List.replicate (8 - A.length - ([] : List Nat).length) 0 ++ [])) = V) := ⟨_, Lib.hid rfl⟩
  have HVA : Hid (V = cellsA true (pb A)) := Lib.hid (by rw [← HV.out, h8]; simp)
  have HDz : Hid (V.size = 17) := Lib.hid (by rw [HVA.out, cellsA_size, pb_len]; omega)
  have HOne : Hid (V.all (·.oneCell') = true) := Lib.hid (by rw [HVA.out]; exact cellsA_one _ _)
  have HIV : Hid ((Tryz.prog.info? 54).map (·.size) = some V.size) := Lib.hid (by rw [HI.out, HDz.out])
  have HZD : Hid (zeroA.size = V.size) := Lib.hid (by rw [HDz.out, zeroA_size])
  have H8 := Lib.hid h8
  clear h8
  go_wp2_with fail
  refine (sixOf_any w5.heap.size 0 _ _ A [] w6 Own6.out (own_nil 0 w6) (by rw [H8.out]; simp) HRle.out (by simp)).mono ?_
  rw [HV.out]
  rintro e w7 ⟨rfl, b7⟩
  have B7 := Lib.hid b7
  have HR7 : Hid (w7.heap[w.heap.size]? = some (.cells zeroA 54 (0, 0))) := Lib.hid ((b7.block _ (lt_of_block HR6.out)).trans HR6.out)
  clear b7
  go_wp2_with (refine wpL_store_row rfl _ _ _ rfl w.heap.size V rfl rfl _ zeroA HR7.out HIV.out HZD.out HOne.out ?_)
  refine bodyPost_ret (v := .agg V) (results_cell_row (P := Tryz.prog) Tryz.results60 _ _ w.heap.size _ V (0, 0) _ rfl (setRow_heap _ _ zeroA V _ _ HR7.out) Tryz.underlying54 rfl HIV.out) rfl ?_
  have k7 : Kp (Only b) w w7 := K06.out.then (B7.out.mono K06.out.size)
  have bl : Below w.heap.size w7 (w7.setRow w.heap.size V) := below_setRow (Below.refl _ _) (Nat.le_refl _) _
  refine ⟨B, ?_, k7.then bl, .inl ⟨A, H8.out, by rw [HVA.out], ?_⟩⟩
  ·exact (bl.block b hb).trans ((B7.out.block b R6.out.lt).trans R6.out)
  ·rw [HS.out, if_pos H8.out]
 ·have h8I : ((A.length : Int) == 8) = false := beq_eq_false_iff_ne.2 (by omega)
  obtain ⟨q, hq⟩ : ∃ q : Nat, (7 : Int) - (A.length : Int) = (q : Int) := ⟨7 - A.length, by omega⟩
  have H8 := Lib.hid h8
  clear h8
  cases hp : [58, 58].isPrefixOf B with
  | false =>
   have HC := Lib.hid (cut_no b (asB B) ⟨#[58, 58]⟩ w6 R6.out hp)
   have HNone : Hid (sixP t.data.toList = none) := Lib.hid (by rw [HS.out, if_neg H8.out, hp]; rfl)
   clear hp
   go_wp2_with fail
   refine HC.out.mono ?_
   rintro e w7 ⟨rfl, r7, k7⟩
   have R7 := Lib.hid r7
   have K7 : Hid (Kp (Only b) w w7) := Lib.hid (K06.out.trans k7)
   have HR7 : Hid (w7.heap[w.heap.size]? = some (.cells zeroA 54 (0, 0))) := Lib.hid (k7.at HR6.out (by unfold Only; omega))
   clear r7 k7
   go_wp2_with (refine wpL_store_row rfl _ _ _ rfl w.heap.size zeroA rfl rfl _ zeroA HR7.out HIz.out rfl zeroA_one ?_)
   refine bodyPost_ret (v := .agg zeroA) (results_cell_row (P := Tryz.prog) Tryz.results60 _ _ w.heap.size _ zeroA (0, 0) _ rfl (setRow_heap _ _ zeroA zeroA _ _ HR7.out) Tryz.underlying54 rfl HIz.out) rfl ?_
   have bl : Below w.heap.size w7 (w7.setRow w.heap.size zeroA) := below_setRow (Below.refl _ _) (Nat.le_refl _) _
   exact ⟨B, (bl.block b hb).trans R7.out, K7.out.then bl, .inr ⟨rfl, HNone.out⟩⟩
  | true =>
   have HC := Lib.hid (cut_yes b (asB B) ⟨#[58, 58]⟩ w6 R6.out hp)
   have HSome := Lib.hid HS.out
   rw [if_neg H8.out, hp, if_pos rfl] at HSome
   obtain ⟨C, HCd⟩ : ∃ C, Hid (B.drop 2 = C) := ⟨_, Lib.hid rfl⟩
   have HsC : Hid (C <:+ t.data.toList) := Lib.hid (by rw [← HCd.out]; exact (List.drop_suffix _ _).trans Hsuf.out)
   obtain ⟨R2, HR2⟩ : ∃ R, Hid (rowG rboth 58 (7 - A.length) (C.length + 2) [] C = R) := ⟨_, Lib.hid rfl⟩
   rw [HCd.out, HR2.out] at HSome
   have hqn : 7 - A.length = q := by omega
   rw [hqn] at HR2
   have h2l : R2.1.length ≤ q := by rw [← HR2.out]; exact row_len _ _ _ (by simp)
   have H2le : Hid (∀ n ∈ R2.1, n ≤ 4294967296) := Lib.hid (by rw [← HR2.out]; exact row_le rboth_le _ _ _ (by simp))
   clear hp
   go_wp2_with fail
   refine HC.out.mono ?_
   rintro e w7 ⟨rfl, r7, k7⟩
   have R7 : Hid (Rd w7 b (asB C)) := Lib.hid (by rw [← HCd.out]; exact r7)
   have K7 := Lib.hid k7
   have HR7 : Hid (w7.heap[w.heap.size]? = some (.cells zeroA 54 (0, 0))) := Lib.hid (k7.at HR6.out (by unfold Only; omega))
   have HRow2 := Lib.hid (row_any b _ _ _ rboth 58 q (asB C) w7 (HW.out.later (K6.out.trans k7)) R7.out (by have := HsC.out.length_le; have := lenB t; rw [asB_size]; omega) (fun c hc => HSm.out c (HsC.out.subset hc)) (by omega))
   rw [asB_size, asB_data, HR2.out] at HRow2
   have Own7 := Lib.hid (own_kept Own6.out k7 (fun i hi e => by have := R5.out.lt; rw [show i = b from e] at hi; omega))
   clear r7 k7
   obtain ⟨A2, B2⟩ := R2
   go_wp2_with fail
   refine HRow2.out.mono ?_
   rintro e w8 ⟨v2, rfl, own8, r8, k8⟩
   obtain ⟨a2, cap2, rfl, hob⟩ := slice_own own8
   have Own8 := Lib.hid own8; have R8 := Lib.hid r8; have K8 := Lib.hid k8
   have Own78 := Lib.hid (own_kept Own7.out k8 (fun i hi e => by have := R5.out.lt; rw [show i = b from e] at hi; omega))
   have HR8 : Hid (w8.heap[w.heap.size]? = some (.cells zeroA 54 (0, 0))) := Lib.hid (k8.at HR7.out (by unfold Only; omega))
   clear own8 r8 k8 hob
   simp only at Own8 R8 HSome H2le h2l
   simp only
   obtain ⟨V, HV⟩ : ∃ V, Hid (cellsA true (pb (A ++ List.replicate (8 - A.length - A2.length) 0 ++ A2)) = V) := ⟨_, Lib.hid rfl⟩
   have HVl : Hid ((A ++ List.replicate (8 - A.length - A2.length) 0 ++ A2).length = 8) := Lib.hid (by simp; omega)
   have HDz : Hid (V.size = 17) := Lib.hid (by rw [← HV.out, cellsA_size, pb_len, HVl.out])
   have HOne : Hid (V.all (·.oneCell') = true) := Lib.hid (by rw [← HV.out]; exact cellsA_one _ _)
   have HIV : Hid ((Tryz.prog.info? 54).map (·.size) = some V.size) := Lib.hid (by rw [HI.out, HDz.out])
   have HZD : Hid (zeroA.size = V.size) := Lib.hid (by rw [HDz.out, zeroA_size])
   go_wp2_with fail
   refine (sixOf_any w5.heap.size w7.heap.size _ _ A A2 w8 Own78.out Own8.out (by omega) HRle.out H2le.out).mono ?_
   rw [HV.out]
   rintro e w9 ⟨rfl, b9⟩
   have B9 := Lib.hid b9
   have HR9 : Hid (w9.heap[w.heap.size]? = some (.cells zeroA 54 (0, 0))) := Lib.hid ((b9.block _ (lt_of_block HR8.out)).trans HR8.out)
   clear b9
   go_wp2_with (refine wpL_store_row rfl _ _ _ rfl w.heap.size V rfl rfl _ zeroA HR9.out HIV.out HZD.out HOne.out ?_)
   refine bodyPost_ret (v := .agg V) (results_cell_row (P := Tryz.prog) Tryz.results60 _ _ w.heap.size _ V (0, 0) _ rfl (setRow_heap _ _ zeroA V _ _ HR9.out) Tryz.underlying54 rfl HIV.out) rfl ?_
   have k08 : Kp (Only b) w w8 := K06.out.trans (K7.out.trans K8.out)
   have k9 : Kp (Only b) w w9 := k08.then (B9.out.mono k08.size)
   have bl : Below w.heap.size w9 (w9.setRow w.heap.size V) := below_setRow (Below.refl _ _) (Nat.le_refl _) _
   refine ⟨B2, ?_, k9.then bl, .inl ⟨_, HVl.out, by rw [HV.out], HSome.out⟩⟩
   exact (bl.block b hb).trans ((B9.out.block b R8.out.lt).trans R8.out)

end Go.Proofs.YtcphokaamkalfaaGreatDoor
namespace Go.Proofs.YtcphokaamkalfaaGreatDoor
open Go.RowKit

theorem evs_map {f g : List UInt8 → Option (List Nat)} (hf : ∀ q, f (q.map low) = f q) (hg : ∀ q, g (q.map low) = g q) : ∀ P : List (List UInt8), evs f g (P.map (List.map low)) = evs f g P
 | [] => rfl
 | [q] => hg q
 | q :: p :: P => by
  rw [List.map_cons, evs_cons _ _ _ (by simp), evs_cons _ _ _ (by simp), evs_map hf hg (p :: P), hf]
theorem pc1_low (q : List UInt8) : pc1 (q.map low) = pc1 q := by unfold pc1; rw [List.length_map, cnt_low]
theorem sm1_low (q : List UInt8) : sm1 (q.map low) = sm1 q := by
 unfold sm1
 rw [cnt_low, List.length_map]
 have h1 : (q.map low).head? = some 48 ↔ q.head? = some 48 := by
  cases q with
  | nil => simp
  | cons c l => simp [low_48]
 have h2 : q.map low = [] ↔ q = [] := by simp
 simp only [h1, h2]
theorem four1_low (q : List UInt8) : four1 (q.map low) = four1 q := by
 unfold four1; rw [pts_low 46 low_46, evs_map sm1_low sm1_low]
theorem both1_low (q : List UInt8) : both1 (q.map low) = both1 q := by unfold both1; rw [pc1_low, four1_low]
theorem piecesD_low (en : Bool) (l : List UInt8) : piecesD en (l.map low) = piecesD en l := by
 unfold piecesD
 have h2 : l.map low = [] ↔ l = [] := by simp
 simp only [h2]
 rw [pts_low 58 low_58]
 cases en
 ·simp only [Bool.false_eq_true, if_false]; rw [evs_map pc1_low pc1_low]
 ·simp only [if_true]; rw [evs_map pc1_low both1_low]
theorem pre_low (l : List UInt8) : ([58, 58] : List UInt8).isPrefixOf (l.map low) = ([58, 58] : List UInt8).isPrefixOf l := by
 have h1 : ∀ a, ((58 : UInt8) == low a) = (58 == a) := fun a => by
  rw [Bool.eq_iff_iff]; simp only [beq_iff_eq]
  exact ⟨fun e => ((low_58 a).1 e.symm).symm, fun e => ((low_58 a).2 e.symm).symm⟩
 match l with
 | [] => rfl
 | [a] => simp [List.isPrefixOf]
 | a :: b :: r => simp only [List.map_cons, List.isPrefixOf, h1]
theorem cut2_low : ∀ l : List UInt8, cut2 (l.map low) = (cut2 l).map fun p => (p.1.map low, p.2.map low)
 | [] => rfl
 | c :: l => by
  have hp := pre_low (c :: l)
  rw [List.map_cons] at hp
  rw [List.map_cons, cut2, cut2, cut2_low l, hp]
  split
  ·simp
  ·cases cut2 l with
   | none => rfl
   | some x => rfl
theorem sixD_low (l : List UInt8) : sixD (l.map low) = sixD l := by
 unfold sixD
 rw [cut2_low]
 cases cut2 l with
 | none => simp only [Option.map_none]; rw [piecesD_low]
 | some x => obtain ⟨a, b⟩ := x; simp only [Option.map_some]; rw [piecesD_low, piecesD_low]

/-- What is answered. -/
def sixV (o : Option (List Nat)) : Value := match o with
 | some ps => .tuple #[.agg (cellsA true (pb ps)), .int .i64 0]
 | none => .tuple #[.agg zeroA, .int .i64 5]

set_option maxRecDepth 100000 in
set_option maxHeartbeats 1000000 in
theorem Six_any (s : ByteArray) (w : World) (hs : s.size ≤ 1048600) :
  Calls Tryz.prog 35 #[.string s] w fun e w' => e = .returned (sixV (sixD s.data.toList)) ∧ Below w.heap.size w w' := by
 obtain ⟨hz, hi⟩ := zero_of_info infoA
 have HI := Lib.hid hi; clear hi
 have HIz : Hid ((Tryz.prog.info? 54).map (·.size) = some zeroA.size) := Lib.hid (by rw [HI.out, zeroA_size])
 have hzs := zeroA_size
 have HSx : Hid (sixP (lowS s).data.toList = sixD s.data.toList) := Lib.hid (by
  rw [sixP_eq]; exact sixD_low _)
 obtain ⟨o, HO⟩ : ∃ o, Hid (sixD s.data.toList = o) := ⟨_, Lib.hid rfl⟩
 rw [HO.out] at HSx
 rw [HO.out]
 have hls : (lowS s).size ≤ 1048600 := by rw [lowS_size]; exact hs
 have hself : ∀ w, (binOp .eql 54 (.agg zeroA) (.agg zeroA)).run Tryz.prog w = .ok (.bool true) w := fun w => eqA_self false _ (by simp) w
 go_enter Tryz.func35, Tryz.ntmps35
 go_wp2_with fail
 refine (readerOf_any s _ (by unfold maxLen; omega)).mono ?_
 rintro e w1 ⟨b, hb, rfl, r1, b1⟩
 have R1 := Lib.hid r1
 have B1 : Hid (Below w.heap.size w w1) := Lib.hid (((Below.refl _ _).alloc (Nat.le_refl _) _).trans (b1.mono (by simp)))
 have HR1 : Hid (w1.heap[w.heap.size]? = some (.cells zeroA 54 (0, 0))) := Lib.hid ((b1.block _ (by simp)).trans (heap_alloc_new w _))
 have hbw : w.heap.size < b := by simp at hb; omega
 clear b1 r1 hb
 go_wp2_with fail
 refine (six_any b (lowS s) _ R1.out hls (lowS_sml s)).mono ?_
 rintro e w2 ⟨r, r2, k2, hcase⟩
 have R2 := Lib.hid r2
 have hc2 := r2.cell
 have HR2 : Hid (w2.heap[w.heap.size]? = some (.cells zeroA 54 (0, 0))) := Lib.hid (k2.at HR1.out (by unfold Only; omega))
 have B2 : Hid (Below w.heap.size w w2) := Lib.hid (B1.out.trans (k2.below B1.out.size (fun q hq => by rw [show q = b from hq]; omega)))
 rw [HSx.out] at hcase
 clear r2 k2
 rcases hcase with ⟨ps, hps, rfl, hsx⟩ | ⟨rfl, hsx⟩
 ·obtain ⟨V, HV⟩ : ∃ V, Hid (cellsA true (pb ps) = V) := ⟨_, Lib.hid rfl⟩
  have hoth : ∀ w, (binOp .eql 54 (.agg V) (.agg zeroA)).run Tryz.prog w = .ok (.bool false) w := fun w => by rw [← HV.out]; exact eqA_other _ _ w
  have HDz : Hid (V.size = 17) := Lib.hid (by rw [← HV.out, cellsA_size, pb_len, hps])
  have HOne : Hid (V.all (·.oneCell') = true) := Lib.hid (by rw [← HV.out]; exact cellsA_one _ _)
  have HIV : Hid ((Tryz.prog.info? 54).map (·.size) = some V.size) := Lib.hid (by rw [HI.out, HDz.out])
  have HZD : Hid (zeroA.size = V.size) := Lib.hid (by rw [HDz.out, zeroA_size])
  rw [HV.out]
  have HRa : ∀ o, Hid ((w2.alloc o).heap[w.heap.size]? = some (.cells zeroA 54 (0, 0))) := fun o => Lib.hid (by rw [Below.heap_alloc _ _ _ (lt_of_block HR2.out)]; exact HR2.out)
  have hca : ∀ o, (w2.alloc o).cell? ⟨b, 0, none⟩ = some (.string (asB r)) := fun o => by
   rw [World.cell?_alloc_lt w2 o _ (block_lt_of_cell hc2)]; exact hc2
  cases r with
  | nil =>
   have HRes : Hid (sixV o = .tuple #[.agg V, .int .i64 0]) := Lib.hid (by rw [hsx, if_pos rfl, ← HV.out]; rfl)
   have hem : (asB []).toList.isEmpty = true := by rw [ByteArray.toList_eq]; rfl
   clear hsx
   go_wp2_with (first | (refine wpL_store_row rfl _ _ _ rfl w2.heap.size V rfl rfl _ zeroA (heap_alloc_new w2 _) HIV.out HZD.out HOne.out ?_; rw [World.setRow_alloc_new]) | refine wpList_load_row rfl 54 _ rfl w2.heap.size rfl 54 V (0, 0) _ (heap_alloc_new w2 _) Tryz.underlying54 rfl HIV.out ?_ | refine wpL_store_row rfl _ _ _ rfl w.heap.size V rfl rfl _ zeroA (HRa _).out HIV.out HZD.out HOne.out ?_)
   refine bodyPost_ret (v := .tuple #[.agg V, .int .i64 0]) (results_row2 Tryz.results35 _ _ w.heap.size _ V (0, 0) _ rfl (setRow_heap _ _ zeroA V _ _ (HRa _).out) Tryz.underlying54 rfl HIV.out) rfl ⟨by rw [HRes.out], ?_⟩
   exact below_setRow (B2.out.alloc B2.out.size _) (Nat.le_refl _) _
  | cons x r =>
   have HRes : Hid (sixV o = .tuple #[.agg zeroA, .int .i64 5]) := Lib.hid (by rw [hsx, if_neg (by simp)]; rfl)
   have hem : (asB (x :: r)).toList.isEmpty = false := by rw [ByteArray.toList_eq]; rfl
   clear hsx
   go_wp2_with (first | (refine wpL_store_row rfl _ _ _ rfl w2.heap.size V rfl rfl _ zeroA (heap_alloc_new w2 _) HIV.out HZD.out HOne.out ?_; rw [World.setRow_alloc_new]) | refine wpList_load_row rfl 54 _ rfl w2.heap.size rfl 54 V (0, 0) _ (heap_alloc_new w2 _) Tryz.underlying54 rfl HIV.out ?_ | refine wpL_store_row rfl _ _ _ rfl w.heap.size zeroA rfl rfl _ zeroA (HRa _).out HIz.out rfl zeroA_one ?_)
   refine bodyPost_ret (v := .tuple #[.agg zeroA, .int .i64 5]) (results_row2 Tryz.results35 _ _ w.heap.size _ zeroA (0, 0) _ rfl (setRow_heap _ _ zeroA zeroA _ _ (HRa _).out) Tryz.underlying54 rfl HIz.out) rfl ⟨by rw [HRes.out], ?_⟩
   exact below_setRow (B2.out.alloc B2.out.size _) (Nat.le_refl _) _
 ·have HRa : ∀ o, Hid ((w2.alloc o).heap[w.heap.size]? = some (.cells zeroA 54 (0, 0))) := fun o => Lib.hid (by rw [Below.heap_alloc _ _ _ (lt_of_block HR2.out)]; exact HR2.out)
  have HRes : Hid (sixV o = .tuple #[.agg zeroA, .int .i64 5]) := Lib.hid (by rw [hsx]; rfl)
  clear hsx
  go_wp2_with (first | (refine wpL_store_row rfl _ _ _ rfl w2.heap.size zeroA rfl rfl _ zeroA (heap_alloc_new w2 _) HIz.out rfl zeroA_one ?_; rw [World.setRow_alloc_new]) | refine wpList_load_row rfl 54 _ rfl w2.heap.size rfl 54 zeroA (0, 0) _ (heap_alloc_new w2 _) Tryz.underlying54 rfl HIz.out ?_ | refine wpL_store_row rfl _ _ _ rfl w.heap.size zeroA rfl rfl _ zeroA (HRa _).out HIz.out rfl zeroA_one ?_)
  refine bodyPost_ret (v := .tuple #[.agg zeroA, .int .i64 5]) (results_row2 Tryz.results35 _ _ w.heap.size _ zeroA (0, 0) _ rfl (setRow_heap _ _ zeroA zeroA _ _ (HRa _).out) Tryz.underlying54 rfl HIz.out) rfl ⟨by rw [HRes.out], ?_⟩
  exact below_setRow (B2.out.alloc B2.out.size _) (Nat.le_refl _) _

end Go.Proofs.YtcphokaamkalfaaGreatDoor
namespace Go.Proofs.YtcphokaamkalfaaGreatDoor
open Go.RowKit

theorem wpL_build {P : Program} {ops : Array Oper} {rest : List Oper} {o : Oper} {a : Act} {w : World} {Q : Exit → Act → World → Prop} (hgd : o.guard = none) (t : TypeId) (l : List (Nat × Operand)) (ho : o.op = .build t l.toArray)
  (cells : Array Value) (hc : P.built t (l.map fun p => (p.1, a.eval p.2)) = some cells)
  (h : wpList P ops Q rest (a.put o.dst (.agg cells)) w) : wpList P ops Q (o :: rest) a w := by
 have e : (l.toArray.map fun (i, x) => (i, a.eval x)).toList = l.map fun p => (p.1, a.eval p.2) := by simp
 exact wpList_plain hgd fun _ hK => wp_build t l.toArray ho (by rw [e, hc]; rfl) (by rw [e, hc]; exact hK _ _ h)

end Go.Proofs.YtcphokaamkalfaaGreatDoor
