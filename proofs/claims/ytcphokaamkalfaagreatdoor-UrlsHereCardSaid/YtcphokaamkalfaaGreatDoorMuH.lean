/-
  Of no program: addresses, seen from one that may be.
  Of no program: a text of an address, seen from another one; an empty text, a mark or a query alone, seen from an address; a scheme, a host and a port as a text.
  Of no program: what is seen from an address, at an empty path and at a path; a scheme, a host and a port as a text.
  urls: an empty text, a mark, a query, seen from an address that was answered.
-/
import Derived.Test.YtcphokaamkalfaaGreatDoorMuG
import Derived.Test.YtcphokaamkalfaaGreatDoorMuB
namespace Go.Proofs.YtcphokaamkalfaaGreatDoor
open Go.RowKit

/-- What is told of a place's text may be. -/
theorem place_made {sch r : ByteArray} {l : List UInt8} {v : UrS} (hown : ¬ ownP sch = 0) (hl : l.length ≤ 10000) (hp : placeT (tailT { u0 with sch := sch } r) l = .ok v) (hsz : (textT v).size ≤ 4096) : Gd v := by
 obtain ⟨t, ht⟩ : ∃ t, tailT { u0 with sch := sch } r = t := ⟨_, rfl⟩
 rw [ht] at hp
 unfold placeT at hp
 cases hq : hpT (usrT t (asB (placL l))) (hstT (asB (placL l))) with
 | error c => rw [hq] at hp; cases hp
 | ok w =>
  rw [hq] at hp
  dsimp only at hp
  obtain rfl : pthT w [] (restL l) = v := by injection hp
  unfold hpT at hq
  split at hq
  rotate_left
  ·cases hq
  next hh =>
  cases hpt : portT (usrT t (asB (placL l))).sch ((hstT (asB (placL l))).data.toList.drop (hEndL (hstT (asB (placL l))).data.toList false + 1)) with
  | none => rw [hpt] at hq; cases hq
  | some p =>
   rw [hpt] at hq
   dsimp only at hq
   injection hq with hq
   obtain ⟨u1, u2, u3, u4, u5, u6, u7⟩ := usr_made t (asB (placL l)) (by rw [← ht]; rfl) (by rw [← ht]; rfl)
   have hx := host_of (by
    have h5 := hst_size (asB (placL l))
    have h6 := plac_le l
    rw [asB_size] at h5
    rw [ByteArray.size_extract]; omega) hh
   have hpm := port_made hpt
   rw [u3] at hpm
   generalize (hostT ((hstT (asB (placL l))).extract 0 (hEndL (hstT (asB (placL l))).data.toList false))).1 = H at hx hq
   subst hq
   have ts : t.sch = sch := by rw [← ht]; rfl
   refine ⟨?_, u1, u2, hx, ?_, path_made _, ⟨?_, ?_⟩, ⟨?_, ?_⟩, hsz⟩
   ·show (usrT t (asB (placL l))).sch = _ ∨ (usrT t (asB (placL l))).sch = _
    rw [u3, ts]; exact own_sch hown
   ·show _ ∧ _ ∧ p ≠ (ownP (usrT t (asB (placL l))).sch : Int)
    rw [u3]; exact hpm
   ·show ∀ c ∈ (usrT t (asB (placL l))).qry.data.toList, _
    rw [u6, ← ht]; exact enc_clean 3 _
   ·show (usrT t (asB (placL l))).hq = false → (usrT t (asB (placL l))).qry = _
    rw [u6, u7, ← ht]
    intro e
    show encS 3 (cutB 63 (cutA 35 r)) = _
    rw [cut_none e]; rfl
   ·show ∀ c ∈ (usrT t (asB (placL l))).mrk.data.toList, _
    rw [u4, ← ht]; exact enc_clean 2 _
   ·show (usrT t (asB (placL l))).hm = false → (usrT t (asB (placL l))).mrk = _
    rw [u4, u5, ← ht]
    intro e
    show encS 2 (cutB 35 r) = _
    rw [cut_none e]; rfl
theorem turn_self {l : List UInt8} (h : ∀ c ∈ l, c ≠ 92) : l.map turnB = l := by
 induction l with
 | nil => rfl
 | cons c l ih =>
  rw [List.map_cons, ih (fun d hd => h d (List.mem_cons_of_mem _ hd)), turnB, if_neg (h c List.mem_cons_self)]
/-- The parts of a path that stays. -/
theorem PathX.parts {p : ByteArray} (h : PathX p) : ∃ S : List ByteArray, S ≠ [] ∧ rawB 47 p = ⟨#[]⟩ :: S ∧ ∀ x ∈ S, PartX x := by
 obtain ⟨S, hne, rfl, hS⟩ := h
 have hn : ∀ c ∈ (slJ S).data.toList, c ≠ 92 := fun c hc => by
  rw [slJ_data] at hc
  obtain ⟨x, hx, hc⟩ := List.mem_flatMap.1 hc
  rcases List.mem_cons.1 hc with rfl | hc
  ·decide
  ·rintro rfl
   exact absurd ((hS x hx).2 _ hc).2 (by decide)
 refine ⟨S, hne, ?_, hS⟩
 rw [raw_turn (slJ S) _ (turn_self hn).symm]
 have hb := ptsS_back S hne (fun x hx c hc => ((hS x hx).2 c hc).2)
 cases S with
 | nil => exact absurd rfl hne
 | cons x S =>
  rw [slJ_data, List.flatMap_cons, List.cons_append, List.tail_cons] at hb
  rw [slJ_data, List.flatMap_cons, List.cons_append, ptsS, if_pos (by decide), List.map_cons, hb]; rfl
theorem PathX.bparts {p : ByteArray} (h : PathX p) : (∀ x ∈ bparts p, PartX x) ∧ 2 ≤ (rawB 47 p).length := by
 obtain ⟨S, hne, e, hS⟩ := h.parts
 constructor
 ·intro x hx
  unfold Proofs.YtcphokaamkalfaaGreatDoor.bparts at hx
  rw [e, List.tail_cons] at hx
  exact hS x (List.dropLast_subset S hx)
 ·rw [e, List.length_cons]
  have := List.length_pos_iff.2 hne
  omega
theorem path_made2 {S : List ByteArray} (hS : ∀ x ∈ S, PartX x) (r : List UInt8) : PathX (slJ (pathB (encS 4) S ((ptsS r).map asB))) := by
 refine ⟨_, pathB_ne _ _ _ (.inl (fun e => ptsS_ne r (List.map_eq_nil_iff.1 e))), rfl, pathB_made S _ hS (fun x hx => ?_)⟩
 obtain ⟨p, hp, rfl⟩ := List.mem_map.1 hx
 exact ptsS_sl r p hp
theorem tail_made (sch r : ByteArray) : (∀ c ∈ (tailT { u0 with sch := sch } r).qry.data.toList, hasB 3 c.toNat = false) ∧ ((tailT { u0 with sch := sch } r).hq = false → (tailT { u0 with sch := sch } r).qry = ⟨#[]⟩) ∧
  (∀ c ∈ (tailT { u0 with sch := sch } r).mrk.data.toList, hasB 2 c.toNat = false) ∧ ((tailT { u0 with sch := sch } r).hm = false → (tailT { u0 with sch := sch } r).mrk = ⟨#[]⟩) := by
 refine ⟨enc_clean 3 _, fun e => ?_, enc_clean 2 _, fun e => ?_⟩
 ·show encS 3 (cutB 63 (cutA 35 r)) = _
  rw [cut_none e]; rfl
 ·show encS 2 (cutB 35 r) = _
  rw [cut_none e]; rfl
theorem rest_made {b : UrS} {q sch r : ByteArray} {x : RdS} (hb : Gd b) (hown : ¬ ownP sch = 0) (hr : r.size ≤ 10000) (hx : restS (behT (rd0 q b) sch r) = .ok x) (hsz : (textT x.u).size ≤ 4096) : Gd x.u := by
 have htr := behT_turn (rd0 q b) sch r
 have htb : (behT (rd0 q b) sch r).b = b := rfl
 have htu : (behT (rd0 q b) sch r).u = tailT { u0 with sch := sch } r := rfl
 have hls : (cutA 63 (cutA 35 r)).data.toList.length ≤ 10000 := by
  have h2 := cutA_size 63 (cutA 35 r)
  have h3 := cutA_size 35 r
  rw [lenB]; omega
 obtain ⟨m1, m2, m3, m4⟩ := tail_made sch r
 generalize (cutA 63 (cutA 35 r)).data.toList = l at htr hls
 generalize behT (rd0 q b) sch r = t at hx htr htb htu
 unfold restS at hx
 split at hx
 ·have hp := place_prog t l htr
  cases hh : hpS t with
  | error c => rw [hh] at hx; cases hx
  | ok y =>
   rw [hh] at hx hp
   injection hx with hx
   subst hx
   rw [htu] at hp
   exact place_made hown (Nat.le_trans (dropw_le l) hls) hp.symm hsz
 next hne =>
 have hsch : t.u.sch = b.sch := by
  rw [← htb]
  exact Classical.byContradiction fun e => hne (.inl e)
 have hts : t.u.sch = sch := by rw [htu]; rfl
 split at hx
 ·injection hx with hx
  subst hx
  have hrr : (slashS t).rest.data.toList = (l.dropWhile slB).map turnB := by
   show Lib.trimLeftB t.rest.data.toList 47 = _
   rw [htr, drop_turn]
  refine ⟨?_, ?_, ?_, ?_, ?_, ?_, ⟨?_, ?_⟩, ⟨?_, ?_⟩, hsz⟩
  ·show t.u.sch = _ ∨ t.u.sch = _
   rw [hsch]; exact hb.sch
  ·show ∀ c ∈ t.b.usr.data.toList, _
   rw [htb]; exact hb.usr
  ·show ∀ c ∈ t.b.pas.data.toList, _
   rw [htb]; exact hb.pas
  ·show HostX t.b.hst
   rw [htb]; exact hb.hst
  ·show (t.b.prt = -1 ∨ 0 ≤ t.b.prt) ∧ t.b.prt ≤ 65535 ∧ t.b.prt ≠ (ownP t.u.sch : Int)
   rw [hsch, htb]; exact hb.prt
  ·show PathX (slJ (pathB (encS 4) [] (rawB 47 (slashS t).rest)))
   rw [raw_turn _ _ hrr]; exact path_made _
  ·show ∀ c ∈ t.u.qry.data.toList, _
   rw [htu]; exact m1
  ·show t.u.hq = false → t.u.qry = _
   rw [htu]; exact m2
  ·show ∀ c ∈ t.u.mrk.data.toList, _
   rw [htu]; exact m3
  ·show t.u.hm = false → t.u.mrk = _
   rw [htu]; exact m4
 split at hx
 ·injection hx with hx
  subst hx
  refine ⟨?_, ?_, ?_, ?_, ?_, ?_, ⟨?_, ?_⟩, ⟨?_, ?_⟩, hsz⟩
  ·show t.u.sch = _ ∨ t.u.sch = _
   rw [hsch]; exact hb.sch
  ·show ∀ c ∈ t.b.usr.data.toList, _
   rw [htb]; exact hb.usr
  ·show ∀ c ∈ t.b.pas.data.toList, _
   rw [htb]; exact hb.pas
  ·show HostX t.b.hst
   rw [htb]; exact hb.hst
  ·show (t.b.prt = -1 ∨ 0 ≤ t.b.prt) ∧ t.b.prt ≤ 65535 ∧ t.b.prt ≠ (ownP t.u.sch : Int)
   rw [hsch, htb]; exact hb.prt
  ·show PathX (slJ (pathB (encS 4) (bparts t.b.pth) (rawB 47 t.rest)))
   rw [raw_turn _ _ htr, htb]; exact path_made2 hb.pth.bparts.1 _
  ·show ∀ c ∈ t.u.qry.data.toList, _
   rw [htu]; exact m1
  ·show t.u.hq = false → t.u.qry = _
   rw [htu]; exact m2
  ·show ∀ c ∈ t.u.mrk.data.toList, _
   rw [htu]; exact m3
  ·show t.u.hm = false → t.u.mrk = _
   rw [htu]; exact m4
 ·injection hx with hx
  subst hx
  unfold takePathS at hsz ⊢
  split at hsz
  ·next hq =>
   rw [if_pos hq]
   refine ⟨?_, ?_, ?_, ?_, ?_, ?_, ⟨?_, ?_⟩, ⟨?_, ?_⟩, hsz⟩
   ·show t.u.sch = _ ∨ t.u.sch = _
    rw [hsch]; exact hb.sch
   ·show ∀ c ∈ t.b.usr.data.toList, _
    rw [htb]; exact hb.usr
   ·show ∀ c ∈ t.b.pas.data.toList, _
    rw [htb]; exact hb.pas
   ·show HostX t.b.hst
    rw [htb]; exact hb.hst
   ·show (t.b.prt = -1 ∨ 0 ≤ t.b.prt) ∧ t.b.prt ≤ 65535 ∧ t.b.prt ≠ (ownP t.u.sch : Int)
    rw [hsch, htb]; exact hb.prt
   ·show PathX t.b.pth
    rw [htb]; exact hb.pth
   ·show ∀ c ∈ t.u.qry.data.toList, _
    rw [htu]; exact m1
   ·show t.u.hq = false → t.u.qry = _
    rw [htu]; exact m2
   ·show ∀ c ∈ t.u.mrk.data.toList, _
    rw [htu]; exact m3
   ·show t.u.hm = false → t.u.mrk = _
    rw [htu]; exact m4
  ·next hq =>
   rw [if_neg hq]
   refine ⟨?_, ?_, ?_, ?_, ?_, ?_, ⟨?_, ?_⟩, ⟨?_, ?_⟩, hsz⟩
   ·show t.u.sch = _ ∨ t.u.sch = _
    rw [hsch]; exact hb.sch
   ·show ∀ c ∈ t.b.usr.data.toList, _
    rw [htb]; exact hb.usr
   ·show ∀ c ∈ t.b.pas.data.toList, _
    rw [htb]; exact hb.pas
   ·show HostX t.b.hst
    rw [htb]; exact hb.hst
   ·show (t.b.prt = -1 ∨ 0 ≤ t.b.prt) ∧ t.b.prt ≤ 65535 ∧ t.b.prt ≠ (ownP t.u.sch : Int)
    rw [hsch, htb]; exact hb.prt
   ·show PathX t.b.pth
    rw [htb]; exact hb.pth
   ·show ∀ c ∈ t.b.qry.data.toList, _
    rw [htb]; exact hb.qry.1
   ·show t.b.hq = false → t.b.qry = _
    rw [htb]; exact hb.qry.2
   ·show ∀ c ∈ t.u.mrk.data.toList, _
    rw [htu]; exact m3
   ·show t.u.hm = false → t.u.mrk = _
    rw [htu]; exact m4
theorem host_err {s : RdS} {c : Int} (h : cutHostS s = .error c) : c = 5 := by
 unfold cutHostS at h
 dsimp only at h
 generalize hostT (s.place.extract 0 (hEndL s.place.data.toList false)) = H at h
 split at h
 ·cases h
 ·injection h with h; exact h.symm
theorem port_err {s : RdS} {c : Int} (h : cutPortS s = .error c) : c = 4 := by
 unfold cutPortS at h
 split at h
 ·cases h
 ·split at h
  ·cases h
  ·injection h with h; exact h.symm
theorem hp_err {t : RdS} {c : Int} (h : hpS t = .error c) : c ≠ 0 := by
 unfold hpS at h
 cases hc : cutHostS (cutUserS (plcS (slashS t))) with
 | error e =>
  rw [hc] at h
  obtain rfl : e = c := by injection h
  rw [host_err hc]; decide
 | ok v =>
  rw [hc] at h
  rw [port_err (show cutPortS v = .error c from h)]; decide
theorem rest_err {t : RdS} {c : Int} (h : restS t = .error c) : c ≠ 0 := by
 unfold restS at h
 split at h
 ·cases hh : hpS t with
  | ok y => rw [hh] at h; cases h
  | error d =>
   rw [hh] at h
   obtain rfl : d = c := by injection h
   exact hp_err hh
 ·split at h
  ·cases h
  ·split at h <;> cases h
theorem read_made {b : UrS} {s : ByteArray} (hb : Gd b) (hs : s.size ≤ 10000) : (∃ u, readU (rd0 s b) = (u, 0) ∧ Gd u) ∨ ∃ c, readU (rd0 s b) = (u0, c) ∧ c ≠ 0 := by
 have hds := drpS_size s 3
 have key : ∀ sch r : ByteArray, ¬ ownP sch = 0 → r.size ≤ 10000 → (∃ u, uOf ((restS (behT (rd0 s b) sch r)).bind measureS) = (u, 0) ∧ Gd u) ∨ ∃ c, uOf ((restS (behT (rd0 s b) sch r)).bind measureS) = (u0, c) ∧ c ≠ 0 := fun sch r ho hr => by
  rw [meas_prog]
  cases hx : restS (behT (rd0 s b) sch r) with
  | error c =>
   refine .inr ⟨c, rfl, ?_⟩
   exact rest_err hx
  | ok x =>
   dsimp only
   unfold measT
   dsimp only
   by_cases hz : 4096 < (textT x.u).size
   ·rw [if_pos hz]; exact .inr ⟨3, rfl, by decide⟩
   ·rw [if_neg hz]; exact .inl ⟨x.u, rfl, rest_made hb ho hr hx (by omega)⟩
 unfold readU readS
 rw [first_prog]
 have e1 : (rd0 s b).rest = s := rfl
 have e2 : (rd0 s b).b = b := rfl
 rw [e1, e2]
 split
 ·split
  ·exact .inr ⟨6, rfl, by decide⟩
  ·next ho =>
   refine key _ _ ho ?_
   have := cutB_size 58 (drpS s 3)
   omega
 ·split
  ·exact .inr ⟨4, rfl, by decide⟩
  ·refine key _ _ ?_ (by omega)
   rcases hb.sch with e | e <;> rw [e] <;> decide

end Go.Proofs.YtcphokaamkalfaaGreatDoor
namespace Go.Proofs.YtcphokaamkalfaaGreatDoor
open Go.RowKit

theorem Gd.place {u : UrS} (h : Gd u) : placeT { u0 with sch := u.sch, mrk := u.mrk, hm := u.hm, qry := u.qry, hq := u.hq } (ahdL u ++ u.pth.data.toList) = .ok u := by
 obtain ⟨p1, p2⟩ := place_cut h
 obtain ⟨w1, w2⟩ := usr_back (t := { u0 with sch := u.sch, mrk := u.mrk, hm := u.hm, qry := u.qry, hq := u.hq }) h rfl rfl
 have w3 := hp_back (t := { u0 with sch := u.sch, mrk := u.mrk, hm := u.hm, qry := u.qry, hq := u.hq, usr := u.usr, pas := u.pas }) h rfl
 unfold placeT
 rw [p1, p2, w1, w2, w3]
 show Except.ok (pthT _ [] _) = _
 unfold pthT
 rw [h.pth.again.1]
/-- The text of an address that may be says it, seen from any other one. -/
theorem seen_back {u : UrS} (h : Gd u) (b : UrS) : readU (rd0 (textT u) b) = (u, 0) := by
 obtain ⟨s1, s2, s3, s4⟩ := sch_sgn h
 obtain ⟨c1, c2, c3⟩ := cut_hit (a := 58) (text_data u) (fun c hc => (s1 c hc).1)
 obtain ⟨t1, t2⟩ := tail_back (t := { u0 with sch := u.sch }) h
 have hsc : schT (textT u) = true := by
  unfold schT
  rw [c1, c3, asB_back, s2]; rfl
 have hd : drpS (textT u) 3 = textT u := drpS_self (text_clean h)
 obtain ⟨r, hr⟩ : ∃ r, asB (47 :: 47 :: (ahdL u ++ (u.pth.data.toList ++ (qrL u ++ mkL u)))) = r := ⟨_, rfl⟩
 rw [hr] at c2 t1 t2
 unfold readU readS
 rw [first_prog]
 have e1 : (rd0 (textT u) b).rest = textT u := rfl
 have e2 : (rd0 (textT u) b).b = b := rfl
 rw [e1, e2]
 rw [hd, if_pos hsc, c1, asB_back, s3, if_neg s4, c2]
 show uOf ((restS (behT (rd0 (textT u) b) u.sch r)).bind measureS) = _
 rw [meas_prog]
 have htr := behT_turn (rd0 (textT u) b) u.sch r
 have htu : (behT (rd0 (textT u) b) u.sch r).u = tailT { u0 with sch := u.sch } r := rfl
 have hl2 : (cutA 63 (cutA 35 r)).data.toList = 47 :: 47 :: (ahdL u ++ u.pth.data.toList) := by
  rw [← hr]; exact two_cut h
 rw [t1] at htu
 generalize behT (rd0 (textT u) b) u.sch r = t at htr htu
 rw [hl2] at htr
 have hah : aheadN t = 2 := by
  unfold aheadN
  have e1 : (Lib.trimLeftB t.rest.data.toList 47).length = (ahdL u ++ u.pth.data.toList).length := by
   rw [htr, drop_turn, List.length_map]
   rw [hl2] at t2
   rw [t2]
  have e2 : t.rest.size = (ahdL u ++ u.pth.data.toList).length + 2 := by
   rw [← lenB, htr, List.length_map]; rfl
  omega
 have hp := place_prog t _ htr
 rw [hl2] at t2
 rw [t2, htu, h.place] at hp
 unfold restS
 rw [if_pos (.inr (by omega))]
 cases hh : hpS t with
 | error c => rw [hh] at hp; cases hp
 | ok y =>
  rw [hh] at hp
  dsimp only at hp ⊢
  rw [hp]
  show ansU (if 4096 < (textT u).size then Except.error 3 else Except.ok u) = _
  rw [if_neg (by have := h.siz; omega)]; rfl

end Go.Proofs.YtcphokaamkalfaaGreatDoor
namespace Go.Proofs.YtcphokaamkalfaaGreatDoor
open Go.RowKit

/-- The reading from a base, if there is no scheme. -/
theorem seen_plain {b : UrS} {s : ByteArray} (hb : b.sch.size ≠ 0) (hs : schT (drpS s 3) = false) : readU (rd0 s b) = ansU (measT (match restS (behT (rd0 s b) b.sch (drpS s 3)) with | .ok x => .ok x.u | .error c => .error c)) := by
 unfold readU readS
 rw [first_prog]
 have e1 : (rd0 s b).rest = s := rfl
 have e2 : (rd0 s b).b = b := rfl
 rw [e1, e2, if_neg (by rw [hs]; simp), if_neg hb]
 exact meas_prog _
theorem sch_ne {b : UrS} (h : Gd b) : b.sch.size ≠ 0 := by
 rcases h.sch with e | e <;> rw [e] <;> decide
/-- Nothing stands ahead of a query and a mark. -/
theorem seen_here {b : UrS} (hb : Gd b) {s : ByteArray} (hs : schT (drpS s 3) = false) (he : (cutA 63 (cutA 35 (drpS s 3))).size = 0) :
  readU (rd0 s b) = ansU (measT (.ok (if cutF 63 (cutA 35 (drpS s 3)) = true then { b with qry := encS 3 (cutB 63 (cutA 35 (drpS s 3))), hq := true, mrk := encS 2 (cutB 35 (drpS s 3)), hm := cutF 35 (drpS s 3) }
   else { b with mrk := encS 2 (cutB 35 (drpS s 3)), hm := cutF 35 (drpS s 3) }))) := by
 rw [seen_plain (sch_ne hb) hs]
 generalize drpS s 3 = r at he
 have htr := behT_turn (rd0 s b) b.sch r
 have htb : (behT (rd0 s b) b.sch r).b = b := rfl
 have htu : (behT (rd0 s b) b.sch r).u = tailT { u0 with sch := b.sch } r := rfl
 rw [nil_of he] at htr
 generalize behT (rd0 s b) b.sch r = t at htr htb htu
 have hz : t.rest.size = 0 := by rw [← lenB, htr]; rfl
 have hsc : t.u.sch = t.b.sch := by rw [htu, htb]; rfl
 have hah : aheadN t = 0 := by unfold aheadN; omega
 have hr : restS t = .ok (takePathS (takePlaceS t)) := by
  unfold restS
  rw [if_neg (by rw [hah]; exact fun e => e.elim (fun h => h hsc) (by omega)), if_neg (by omega), if_neg (by omega)]
 rw [hr]
 dsimp only
 congr 2
 unfold takePathS
 have hq : (takePlaceS t).u.hq = cutF 63 (cutA 35 r) := by
  show t.u.hq = _
  rw [htu]; rfl
 rw [hq]
 congr 1
 split
 ·next h =>
  show { t.u with usr := t.b.usr, pas := t.b.pas, hst := t.b.hst, prt := t.b.prt, pth := t.b.pth } = _
  rw [htu, htb]
  show ({ sch := b.sch, usr := b.usr, pas := b.pas, hst := b.hst, prt := b.prt, pth := b.pth, qry := _, hq := cutF 63 (cutA 35 r), mrk := _, hm := _ } : UrS) = _
  rw [h]; rfl
 ·show { t.u with usr := t.b.usr, pas := t.b.pas, hst := t.b.hst, prt := t.b.prt, pth := t.b.pth, qry := t.b.qry, hq := t.b.hq } = _
  rw [htu, htb]; rfl
/-- A path, seen from an address. -/
theorem seen_path {b : UrS} (hb : Gd b) {s : ByteArray} (hc : ∀ c ∈ s.data.toList, 33 ≤ c.toNat ∧ c ≠ 35 ∧ c ≠ 58 ∧ c ≠ 63) (h1 : ∀ c, s.data.toList.head? = some c → slB c = false) (h0 : s.size ≠ 0) :
  readU (rd0 s b) = ansU (measT (.ok { b with pth := slJ (pathB (encS 4) (bparts b.pth) ((ptsS s.data.toList).map asB)), qry := ⟨#[]⟩, hq := false, mrk := ⟨#[]⟩, hm := false })) := by
 have hd : drpS s 3 = s := drpS_self (fun c h => (hc c h).1)
 obtain ⟨a1, a2, a3⟩ := cut_miss (a := 58) (s := s) (fun c h => (hc c h).2.2.1)
 obtain ⟨b1, b2, b3⟩ := cut_miss (a := 35) (s := s) (fun c h => (hc c h).2.1)
 obtain ⟨c1, c2, c3⟩ := cut_miss (a := 63) (s := s) (fun c h => (hc c h).2.2.2)
 have hs : schT (drpS s 3) = false := by unfold schT; rw [hd, a3]; rfl
 rw [seen_plain (sch_ne hb) hs, hd]
 have htr := behT_turn (rd0 s b) b.sch s
 have htb : (behT (rd0 s b) b.sch s).b = b := rfl
 have htu : (behT (rd0 s b) b.sch s).u = { u0 with sch := b.sch, mrk := ⟨#[]⟩, hm := false, qry := ⟨#[]⟩, hq := false } := by
  show tailT { u0 with sch := b.sch } s = _
  unfold tailT
  rw [b1, b2, b3, c2, c3]; rfl
 rw [b1, c1] at htr
 generalize behT (rd0 s b) b.sch s = t at htr htb htu
 have hz : t.rest.size = s.size := by rw [← lenB, htr, List.length_map, lenB]
 have hsc : t.u.sch = t.b.sch := by rw [htu, htb]
 have hah : aheadN t = 0 := by
  unfold aheadN
  have hdr : s.data.toList.dropWhile slB = s.data.toList := by
   cases hl : s.data.toList with
   | nil => rfl
   | cons c l =>
    rw [List.dropWhile_cons, if_neg (by rw [h1 c (by rw [hl]; rfl)]; simp)]
  rw [htr, drop_turn, hdr, List.length_map, lenB]; omega
 have hr : restS t = .ok (pathS (takePlaceS t) (bparts t.b.pth)) := by
  unfold restS
  rw [if_neg (by rw [hah]; exact fun e => e.elim (fun h => h hsc) (by omega)), if_neg (by omega), if_pos (by omega)]
 rw [hr]
 dsimp only
 congr 3
 show { t.u with usr := t.b.usr, pas := t.b.pas, hst := t.b.hst, prt := t.b.prt, pth := slJ (pathB (encS 4) (bparts t.b.pth) (rawB 47 t.rest)) } = _
 rw [raw_turn _ _ htr, htu, htb]
/-- A scheme, a host, a port and a slash. -/
theorem port_alone {sch host : ByteArray} {q : List UInt8} (hs : sch = ⟨#[104, 116, 116, 112]⟩ ∨ sch = ⟨#[104, 116, 116, 112, 115]⟩) (hh : HostX host) (hq : ∀ c ∈ q, 48 ≤ c.toNat ∧ c.toNat ≤ 57) :
  aloneT (asB (sch.data.toList ++ 58 :: (47 :: 47 :: (host.data.toList ++ 58 :: (q ++ [47]))))) = measT (match portT sch q with | some p => .ok ⟨sch, ⟨#[]⟩, ⟨#[]⟩, host, p, ⟨#[47]⟩, ⟨#[]⟩, false, ⟨#[]⟩, false⟩ | none => .error 4) ∧
  drpS (asB (sch.data.toList ++ 58 :: (47 :: 47 :: (host.data.toList ++ 58 :: (q ++ [47]))))) 3 = asB (sch.data.toList ++ 58 :: (47 :: 47 :: (host.data.toList ++ 58 :: (q ++ [47])))) := by
 obtain ⟨x1, x2, x3, x4, x5⟩ := hh.out
 have s1 : (∀ c ∈ sch.data.toList, c ≠ 58 ∧ 33 ≤ c.toNat) ∧ schOk sch.data.toList = true ∧ lowS sch = sch ∧ ownP sch ≠ 0 := by
  rcases hs with e | e
  all_goals
   rw [e]
   decide +kernel
 obtain ⟨s1, s2, s3, s4⟩ := s1
 have dig : ∀ c : UInt8, 48 ≤ c.toNat ∧ c.toNat ≤ 57 → 33 ≤ c.toNat ∧ c ≠ 35 ∧ c ≠ 47 ∧ c ≠ 63 ∧ c ≠ 64 ∧ c ≠ 92 := fun c hc => by
  have h35 : (35 : UInt8).toNat = 35 := rfl
  have h47 : (47 : UInt8).toNat = 47 := rfl
  have h63 : (63 : UInt8).toNat = 63 := rfl
  have h64 : (64 : UInt8).toNat = 64 := rfl
  have h92 : (92 : UInt8).toNat = 92 := rfl
  exact ⟨by omega, toN (by omega), toN (by omega), toN (by omega), toN (by omega), toN (by omega)⟩
 have pl : ∀ c ∈ host.data.toList ++ 58 :: q, 33 ≤ c.toNat ∧ c ≠ 35 ∧ c ≠ 47 ∧ c ≠ 63 ∧ c ≠ 64 ∧ c ≠ 92 := fun c hc => by
  rcases List.mem_append.1 hc with hc | hc
  ·exact x1 c hc
  rcases List.mem_cons.1 hc with rfl | hc
  ·decide
  ·exact dig c (hq c hc)
 have all : ∀ c ∈ 47 :: 47 :: (host.data.toList ++ 58 :: (q ++ [47])), 33 ≤ c.toNat ∧ c ≠ 35 ∧ c ≠ 63 := fun c hc => by
  rcases List.mem_cons.1 hc with rfl | hc
  ·decide
  rcases List.mem_cons.1 hc with rfl | hc
  ·decide
  rw [show host.data.toList ++ 58 :: (q ++ [47]) = (host.data.toList ++ 58 :: q) ++ [47] by simp] at hc
  rcases List.mem_append.1 hc with hc | hc
  ·have := pl c hc
   exact ⟨this.1, this.2.1, this.2.2.2.1⟩
  ·rw [List.mem_singleton.1 hc]; decide
 refine ⟨?_, drpS_self (fun c hc => ?_)⟩
 rotate_left
 ·rw [asB_data] at hc
  rcases List.mem_append.1 hc with hc | hc
  ·exact (s1 c hc).2
  rcases List.mem_cons.1 hc with rfl | hc
  ·decide
  ·exact (all c hc).1
 obtain ⟨c1, c2, c3⟩ := cut_hit (a := 58) (s := asB (sch.data.toList ++ 58 :: (47 :: 47 :: (host.data.toList ++ 58 :: (q ++ [47]))))) (asB_data _) (fun c hc => (s1 c hc).1)
 obtain ⟨b1, b2, b3⟩ := cut_miss (a := 35) (s := asB (47 :: 47 :: (host.data.toList ++ 58 :: (q ++ [47])))) (fun c hc => (all c hc).2.1)
 obtain ⟨d1, d2, d3⟩ := cut_miss (a := 63) (s := asB (47 :: 47 :: (host.data.toList ++ 58 :: (q ++ [47])))) (fun c hc => (all c hc).2.2)
 have hsc : schT (asB (sch.data.toList ++ 58 :: (47 :: 47 :: (host.data.toList ++ 58 :: (q ++ [47]))))) = true := by
  unfold schT
  rw [c1, c3, asB_back, s2]; rfl
 have ht : tailT { u0 with sch := sch } (asB (47 :: 47 :: (host.data.toList ++ 58 :: (q ++ [47])))) = { u0 with sch := sch } := by
  unfold tailT
  rw [b1, b2, b3, d2, d3]; rfl
 have hdw : (asB (47 :: 47 :: (host.data.toList ++ 58 :: (q ++ [47])))).data.toList.dropWhile slB = (host.data.toList ++ 58 :: q) ++ [47] := by
  rw [asB_data, List.dropWhile_cons, if_pos (by decide), List.dropWhile_cons, if_pos (by decide)]
  cases hl : host.data.toList with
  | nil => exact absurd hl x4
  | cons c l =>
   have hc := x1 c (by rw [hl]; exact List.mem_cons_self)
   rw [List.cons_append, List.dropWhile_cons, if_neg (by rw [sl_no hc.2.2.1 hc.2.2.2.2.2]; simp)]
   simp
 have htw := take_while (q := fun c => !slB c) (x := host.data.toList ++ 58 :: q) (y := [47]) (fun c hc => by
  have := pl c hc
  rw [sl_no this.2.2.1 this.2.2.2.2.2]; rfl) (fun c hc => by
  rw [← Option.some.inj hc]; rfl)
 have p1 : placL ((host.data.toList ++ 58 :: q) ++ [47]) = host.data.toList ++ 58 :: q := htw.1
 have p2 : restL ((host.data.toList ++ 58 :: q) ++ [47]) = [] := by unfold restL; rw [htw.2]; rfl
 have ha := at_miss (p := asB (host.data.toList ++ 58 :: q)) (fun c hc => (pl c hc).2.2.2.2.1)
 have w1 : usrT { u0 with sch := sch } (asB (host.data.toList ++ 58 :: q)) = { u0 with sch := sch } := by
  unfold usrT; rw [ha, if_pos (by decide)]
 have w2 : hstT (asB (host.data.toList ++ 58 :: q)) = asB (host.data.toList ++ 58 :: q) := by
  unfold hstT; rw [ha, if_pos (by decide)]
 have he : hEndL (asB (host.data.toList ++ 58 :: q)).data.toList false = host.data.toList.length := by rw [asB_data]; exact x5 _ (.inr rfl)
 have hxx : (asB (host.data.toList ++ 58 :: q)).extract 0 host.data.toList.length = host := ba_of (by
  rw [extract_data, asB_data]; simp)
 have hd : (asB (host.data.toList ++ 58 :: q)).data.toList.drop (host.data.toList.length + 1) = q := by
  rw [asB_data, List.drop_append, List.drop_of_length_le (by omega), List.nil_append, show host.data.toList.length + 1 - host.data.toList.length = 1 by omega]; rfl
 unfold aloneT
 rw [if_pos hsc, c1, asB_back, s3, if_neg s4, c2, ht, b1, d1, hdw]
 unfold placeT
 rw [p1, p2, w1, w2]
 unfold hpT
 rw [he, hxx, x2, if_pos rfl, hd]
 dsimp only
 cases portT sch q with
 | none => rfl
 | some p =>
  dsimp only
  congr 1

end Go.Proofs.YtcphokaamkalfaaGreatDoor
namespace Go.Proofs.YtcphokaamkalfaaGreatDoor
open Go.RowKit

def noMark (u : UrS) : UrS := { u with mrk := ⟨#[]⟩, hm := false }
def mMark (u : UrS) : UrS := { u with mrk := ⟨#[109]⟩, hm := true }
def qQry (u : UrS) : UrS := { u with mrk := ⟨#[]⟩, hm := false, qry := ⟨#[113]⟩, hq := true }
theorem here_gd {u : UrS} (h : Gd u) (hb : bodyN u ≤ 3001) : Gd (noMark u) ∧ Gd (mMark u) ∧ Gd (qQry u) := by
 have sz : ∀ v : UrS, v.sch = u.sch → v.hst = u.hst → v.prt = u.prt → bodyN v ≤ 3002 → (textT v).size ≤ 4096 := fun v a b c d => by
  have := text_len (u := v) (by rw [a]; exact h.sch5) (by rw [b]; exact h.hst.out.2.2.1) (by rw [c]; exact h.prt.2.1)
  omega
 have b1 : bodyN (noMark u) ≤ 3002 := by
  have e : (⟨#[]⟩ : ByteArray).size = 0 := rfl
  show u.usr.size + u.pas.size + u.pth.size + u.qry.size + (⟨#[]⟩ : ByteArray).size ≤ 3002
  unfold bodyN at hb; omega
 have b2 : bodyN (mMark u) ≤ 3002 := by
  have e : (⟨#[109]⟩ : ByteArray).size = 1 := rfl
  show u.usr.size + u.pas.size + u.pth.size + u.qry.size + (⟨#[109]⟩ : ByteArray).size ≤ 3002
  unfold bodyN at hb; omega
 have b3 : bodyN (qQry u) ≤ 3002 := by
  have e : (⟨#[]⟩ : ByteArray).size = 0 := rfl
  have f : (⟨#[113]⟩ : ByteArray).size = 1 := rfl
  show u.usr.size + u.pas.size + u.pth.size + (⟨#[113]⟩ : ByteArray).size + (⟨#[]⟩ : ByteArray).size ≤ 3002
  unfold bodyN at hb; omega
 refine ⟨⟨h.sch, h.usr, h.pas, h.hst, h.prt, h.pth, h.qry, ⟨fun c hc => (by cases hc), fun _ => rfl⟩, sz _ rfl rfl rfl b1⟩,
  ⟨h.sch, h.usr, h.pas, h.hst, h.prt, h.pth, h.qry, ⟨?_, fun e => by cases e⟩, sz _ rfl rfl rfl b2⟩,
  ⟨h.sch, h.usr, h.pas, h.hst, h.prt, h.pth, ⟨?_, fun e => by cases e⟩, ⟨fun c hc => (by cases hc), fun _ => rfl⟩, sz _ rfl rfl rfl b3⟩⟩
 ·show ∀ c ∈ [(109 : UInt8)], hasB 2 c.toNat = false
  decide +kernel
 ·show ∀ c ∈ [(113 : UInt8)], hasB 3 c.toNat = false
  decide +kernel
theorem meas_gd {u : UrS} (h : Gd u) : ansU (measT (.ok u)) = (u, 0) := by
 unfold measT
 dsimp only
 rw [if_neg (by have := h.siz; omega)]; rfl
theorem here_empty {u : UrS} (h : Gd u) (hb : bodyN u ≤ 3001) : seenU ⟨#[]⟩ u = (noMark u, 0) := by
 unfold seenU
 rw [if_neg (by decide), if_pos h.may, seen_here h (by decide +kernel) (by decide +kernel), if_neg (by decide +kernel)]
 exact meas_gd (here_gd h hb).1
theorem here_mark {u : UrS} (h : Gd u) (hb : bodyN u ≤ 3001) : seenU ⟨#[35, 109]⟩ u = (mMark u, 0) := by
 unfold seenU
 rw [if_neg (by decide), if_pos h.may, seen_here h (by decide +kernel) (by decide +kernel), if_neg (by decide +kernel)]
 rw [show cutF 35 (drpS ⟨#[35, 109]⟩ 3) = true by decide +kernel, show encS 2 (cutB 35 (drpS ⟨#[35, 109]⟩ 3)) = ⟨#[109]⟩ by decide +kernel]
 exact meas_gd (here_gd h hb).2.1
theorem here_qry {u : UrS} (h : Gd u) (hb : bodyN u ≤ 3001) : seenU ⟨#[63, 113]⟩ u = (qQry u, 0) := by
 unfold seenU
 rw [if_neg (by decide), if_pos h.may, seen_here h (by decide +kernel) (by decide +kernel), if_pos (by decide +kernel)]
 rw [show cutF 35 (drpS ⟨#[63, 113]⟩ 3) = false by decide +kernel, show encS 2 (cutB 35 (drpS ⟨#[63, 113]⟩ 3)) = ⟨#[]⟩ by decide +kernel, show encS 3 (cutB 63 (cutA 35 (drpS ⟨#[63, 113]⟩ 3))) = ⟨#[113]⟩ by decide +kernel]
 exact meas_gd (here_gd h hb).2.2
/-- Parse, seen from an address that may be. -/
theorem SeenGd_any {u v : UrS} {s : ByteArray} (h : Gd u) (hs : s.size ≤ 4096) (e : seenU s u = (v, 0)) (w : World) (hW : Uw w) :
  Calls Tryz.prog 7 #[.string s, .agg u.cells.toArray, .bool true] w fun e w' => e = .returned (.tuple #[.agg v.cells.toArray, .int .i64 0]) ∧ Below w.heap.size w w' := by
 have hp : u.pth.size ≤ 4096 := by
  have hz := h.siz
  rw [← lenB, text_data] at hz
  simp only [List.length_append, List.length_cons, lenB] at hz
  omega
 have := ParseSeen_any s u w h.small.1 (paOk _) (fun _ _ => ⟨seen_ok s u (by omega) h.small.1 (by omega) h.pth.bparts.2, by omega⟩) hW
 rwa [e] at this
theorem alone_err {r : ByteArray} {c : Int} (h : aloneT r = .error c) : c ≠ 0 := by
 unfold aloneT at h
 split at h
 ·split at h
  ·injection h with h; rw [← h]; decide
  ·unfold measT at h
   split at h
   ·split at h
    ·injection h with h; rw [← h]; decide
    ·cases h
   ·next c2 hp =>
    obtain rfl : c2 = c := by injection h
    unfold placeT at hp
    split at hp
    ·cases hp
    ·next c3 hq =>
     obtain rfl : c3 = c2 := by injection hp
     unfold hpT at hq
     generalize hostT _ = H at hq
     split at hq
     ·split at hq
      ·cases hq
      ·injection hq with hq; rw [← hq]; decide
     ·injection hq with hq; rw [← hq]; decide
 ·injection h with h; rw [← h]; decide
/-- What is answered of a text alone: an address that may be, or none. -/
theorem pa_two (s : ByteArray) : (∃ u, paT s = (u, 0) ∧ Gd u) ∨ ∃ c, paT s = (u0, c) ∧ c ≠ 0 := by
 unfold paT
 split
 ·exact .inr ⟨3, rfl, by decide⟩
 ·next hs =>
  have hd := drpS_size s 3
  cases e : aloneT (drpS s 3) with
  | ok v => exact .inl ⟨v, rfl, alone_made (by omega) e⟩
  | error c => exact .inr ⟨c, rfl, alone_err e⟩

end Go.Proofs.YtcphokaamkalfaaGreatDoor
