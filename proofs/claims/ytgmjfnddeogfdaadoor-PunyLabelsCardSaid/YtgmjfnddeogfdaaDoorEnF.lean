/-
  Contract: puny.sorted: a text's plain signs, its others in order, and the tree of sums over the places of the plain ones.
-/
import Derived.Test.YtgmjfnddeogfdaaDoorEnE
import Derived.Test.YtgmjfnddeogfdaaDoorSoK
namespace Go.Proofs.YtgmjfnddeogfdaaDoor
open Go.RowKit

/-- What puny.sorted leaves. -/
structure Srtd (s : ByteArray) (SG : List Pr) (w w' : World) (vo vt : Value) (gt : Nat) (R : List Pr) : Prop where
  fen : Fen w' gt (s.size + 1) (cntAt (plA SG))
  out : w'.ownsRow w.heap.size 5 1 vo (plB SG).length ((plB SG).map bv)
  oth : (vt = .slice none 0 0 ∧ R = []) ∨ ∃ g cap, vt = .slice (some ⟨g, 0, none⟩) R.length cap ∧ Row2 w' g cap R ∧ w.heap.size ≤ g ∧ g ≠ gt ∧ vo.ownBlock ≠ some g
  gtl : w.heap.size ≤ gt ∧ vo.ownBlock ≠ some gt
  perm : R.Perm (otL SG)
  srt : Srt R
  bel : Below w.heap.size w w'
theorem Gro.grown {g : Nat} {w w' : World} (h : Gro g w w') : w.grownBy w' (some g) := ⟨h.os, h.tape, h.output, h.size, fun j hj hne => h.block j hj (fun e => hne (by rw [e]))⟩
theorem own_down {w : World} {base base' : Nat} {e : TypeId} {size : Nat} {v : Value} {n : Nat} {xs : List Value} (h : w.ownsRow base e size v n xs) (hb : base' ≤ base) : w.ownsRow base' e size v n xs := by
  obtain ⟨hl, h | ⟨g, cap, cur, hv, hg, hr⟩⟩ := h
  · exact ⟨hl, .inl h⟩
  · exact ⟨hl, .inr ⟨g, cap, cur, hv, Nat.le_trans hb hg, hr⟩⟩

set_option maxHeartbeats 1000000 in
set_option maxRecDepth 1000000 in
theorem sorted_any (s : ByteArray) (w : World) (hs : s.size ≤ 1000000) :
    Calls Tryd.prog 35 #[.string s] w fun e w' => ∃ vo vt gt R, e = .returned (.tuple #[vo, vt, .slice (some ⟨gt, 0, none⟩) (s.size + 1) (s.size + 1)]) ∧ Srtd s (sgn s s.size 0) w w' vo vt gt R := by
  have hmk := make_tally (s.size + 1) w (by omega)
  rw [show ((s.size + 1 : Nat) : Int) = (s.size : Int) + 1 by omega] at hmk
  obtain ⟨SG, HSG⟩ : ∃ SG, Hid (SG = sgn s s.size 0) := ⟨_, Lib.hid rfl⟩
  have HG0 := Lib.hid (gth_start s w)
  obtain ⟨C0, HC0⟩ : ∃ C0, Hid (C0 = madeCells (Value.int .i64 0).cells (s.size + 1)) := ⟨_, Lib.hid rfl⟩
  rw [← HC0.out] at hmk HG0
  go_enter Tryd.func35, Tryd.ntmps35
  go_wp2
  clear hmk
  go_loopw [5, 6] (fun vo vt wr => ∃ (f pos : Nat) (D : List Pr), Hid (Gth s w w.heap.size (w.heap.size + 1) (w.heap.size + 2) pos vo vt D wr) ∧ Hid (D ++ sgn s f pos = SG) ∧ s.size ≤ pos + f ∧ D.length ≤ pos ∧ D.length ≤ s.size) (fun _ _ wr => s.size - wr.iterPos (w.heap.size + 1))
  case atStart =>
    refine ⟨s.size, 0, [], Lib.hid ?_, Lib.hid (by rw [HSG.out]; rfl), by omega, Nat.zero_le _, Nat.zero_le _⟩
    exact HG0.out
  case round =>
    obtain ⟨f, pos, D, HG, HE, hf, hDp, hDs⟩ := hrel
    by_cases hp : pos < s.size
    · obtain ⟨f, rfl⟩ : ∃ q, f = q + 1 := ⟨f - 1, by omega⟩
      have hnx := fun ty => Lib.run_next_any_at (P := Tryd.prog) wr (w.heap.size + 1) s pos ty HG.out.it hp
      have hwd := width_pos s pos
      have HE2 := Lib.hid (sgn_on s f pos hp)
      have hrl := rune_bd s pos
      obtain ⟨r, Hr⟩ : ∃ r, Hid (r = (Utf8.decode s pos).1) := ⟨_, Lib.hid rfl⟩
      obtain ⟨wd, Hwd⟩ : ∃ wd, Hid (wd = (Utf8.decode s pos).2) := ⟨_, Lib.hid rfl⟩
      rw [← Hr.out, ← Hwd.out] at hnx HE2
      rw [← Hwd.out] at hwd
      rw [← Hr.out] at hrl
      have HG1 := Lib.hid (HG.out.next (pos + wd))
      have HE3 : Hid (D ++ [(r, pos)] ++ sgn s f (pos + wd) = SG) := Lib.hid (by rw [← HE.out, HE2.out]; simp)
      have HP0 := Lib.hid (iterPos_of HG.out.it)
      have hDl : (D ++ [(r, pos)]).length = D.length + 1 := by simp
      have HDl := Lib.hid hDl
      clear hDl
      have hDs2 : D.length + 1 ≤ s.size := by omega
      by_cases hr : r < 128
      · obtain ⟨vo', w1, hrun, hF1, hfin⟩ := HG1.out.plain (r, pos) (by simpa [isPl] using hr) (by omega)
        have HRun := Lib.hid hrun
        have HFin := Lib.hid hfin
        have hpl : (plA D).length ≤ D.length := by simp [plA]; exact List.length_filter_le _ _
        have HAdd := Lib.hid (add_any w.heap.size (s.size + 1) pos (plA D) w1 hF1 (by omega) (by omega) (by omega))
        clear hrun hfin hF1 hpl
        go_wp2_with (first | (at_builtin; refine Lib.wpList_append_run _ rfl _ _ _ _ rfl _ _ rfl rfl _ _ HRun.out ?_) | (go_at_call 39; refine HAdd.out.mono ?_; rintro e w2 ⟨⟨v, rfl⟩, hF2, hB2⟩; have HG2 := Lib.hid (HFin.out w2 hF2 hB2); clear hF2 hB2))
        go_roundw
        case rel => exact ⟨f, pos + wd, D ++ [(r, pos)], HG2, HE3, by omega, by rw [HDl.out]; omega, by rw [HDl.out]; exact hDs2⟩
        case measure =>
          have h1 := HP0.out
          have h2 := iterPos_of HG2.out.it
          rw [h1, h2]; omega
      · obtain ⟨vt', w1, hrun, hfin⟩ := HG1.out.other (r, pos) (by simpa [isPl] using hr) (by omega)
        have HRun := Lib.hid hrun
        have HG2 := Lib.hid hfin
        clear hrun hfin
        go_wp2_with (at_builtin; refine Lib.wpList_append_run _ rfl _ _ _ _ rfl _ _ rfl rfl _ _ HRun.out ?_)
        go_roundw
        case rel => exact ⟨f, pos + wd, D ++ [(r, pos)], HG2, HE3, by omega, by rw [HDl.out]; omega, by rw [HDl.out]; exact hDs2⟩
        case measure =>
          have h1 := HP0.out
          have h2 := iterPos_of HG2.out.it
          rw [h1, h2]; omega
    · have hnx := fun ty => Lib.run_next_end_at (P := Tryd.prog) wr (w.heap.size + 1) s pos ty HG.out.it hp
      have HD : Hid (D = SG) := Lib.hid (by have := HE.out; rw [sgn_end s f pos hp, List.append_nil] at this; exact this)
      rw [HD.out] at HG
      have HRs : Hid (Ris (otL SG)) := Lib.hid (by rw [HSG.out]; exact ot_ris (sgn_ris s _ _))
      have HOl : Hid ((otL SG).length ≤ 1000000) := Lib.hid (by
        have h1 : (otL SG).length ≤ SG.length := by simp [otL]; exact List.length_filter_le _ _
        have h2 := HD.out
        rw [← h2] at h1 ⊢
        omega)
      rcases HG.out.oth.2 with ⟨rfl, hn0⟩ | ⟨g, cap, cur, rfl, hgb, hgg, hnc, hcm, hcs, hct⟩
      · have HN0 : Hid (otL SG = []) := Lib.hid (List.eq_nil_of_length_eq_zero hn0)
        clear hn0
        go_wp2_with fail
        refine (SortStable_nil _).mono ?_
        rintro e w1 ⟨⟨v, rfl⟩, rfl⟩
        go_wp2
        go_ret3
        refine ⟨u5, .slice none 0 0, w.heap.size, [], rfl, ?_⟩
        have o := HG.out.ord
        rw [← HSG.out]
        exact { fen := HG.out.fen, out := own_down HG.out.out (by omega), oth := .inl ⟨rfl, rfl⟩, gtl := ⟨Nat.le_refl _, fun e => by have := (HG.out.out.lt _ e).1; omega⟩, perm := by rw [HN0.out], srt := .nil, bel := HG.out.bel }
      · have HRw : Hid (Row2 wr g cap (otL SG)) := Lib.hid ⟨cur, hgg, by omega, hnc, by rw [Nat.mul_comm]; exact hct⟩
        have HC := Lib.hid (SortStable_any g cap (otL SG) wr HRw.out HRs.out (by have := HOl.out; omega))
        have HGb := Lib.hid hgb
        clear hgb hgg hnc hcm hcs hct
        go_wp2_with fail
        refine HC.out.mono ?_
        rintro e w1 ⟨⟨v, rfl⟩, R, p1, s1, r1, g1⟩
        have HK : Hid (R.Perm (otL SG) ∧ Srt R ∧ Row2 w1 g cap R ∧ Gro g wr w1) := Lib.hid ⟨p1, s1, r1, g1⟩
        clear p1 s1 r1 g1
        go_wp2
        go_ret3
        obtain ⟨p1, s1, r1, g1⟩ := HK.out
        have o := HG.out.ord
        have hgbl := HGb.out
        refine ⟨u5, _, w.heap.size, R, rfl, ?_⟩
        rw [← HSG.out]
        have hne : u5.ownBlock ≠ some g := fun e => HG.out.ne g e rfl
        exact { fen := HG.out.fen.old (g1.block _ (by omega) (by omega)), out := own_down (HG.out.out.kept g1.grown (.inr hne)) (by omega),
                oth := .inr ⟨g, cap, by rw [p1.length_eq]; rfl, r1, by omega, by omega, hne⟩, gtl := ⟨Nat.le_refl _, fun e => by have := (HG.out.out.lt _ e).1; omega⟩, perm := p1, srt := s1,
                bel := HG.out.bel.grown g1.grown (by omega) (fun q hq => by cases hq; omega) }

end Go.Proofs.YtgmjfnddeogfdaaDoor
