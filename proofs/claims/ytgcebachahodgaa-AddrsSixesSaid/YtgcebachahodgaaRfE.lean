/-
  Contract: the document's four bytes.
-/
import Derived.Test.YtgcebachahodgaaRfC
import Derived.Test.YtgcebachahodgaaAdU
import Derived.Test.YtgcebachahodgaaAdV
import Derived.Deep.DeepCutAuto
namespace Go.Proofs.Ytgcebachahodgaa
open Go.RowKit

theorem infoB : (Try.prog.info? 5).map (fun i => (i.zero, i.size, i.bytes)) = some (some (.int .u8 0), 1, 1) := by kernel_rfl
/-- Bytes are put behind a row. -/
theorem appU8 (base q m c : Nat) (v : Value) (D news : List Value) (w : World) (hown : w.ownsRow base 5 1 v D.length D) (hl : news.length = m) (hnews : ∀ j (hj : j < news.length), w.cell? ⟨q, j, none⟩ = some news[j]) (h1 : ∀ u ∈ news, u.oneCell' = true) (hD : D.length + m ≤ 10000000) (hb : base ≤ w.heap.size) :
    ∃ v' w1, (Builtin.append_ #[46, 46] 46 #[v, .slice (some ⟨q, 0, none⟩) m c]).run Try.prog w = .ok v' w1 ∧ w1.ownsRow base 5 1 v' (D ++ news).length (D ++ news) ∧ ∀ w0 B, B ≤ base → Below B w0 w → Below B w0 w1 := by
  obtain ⟨i0, hi, hz0, hz1, hz2⟩ := info_parts infoB
  have hn : ∀ j u, news[j]? = some u → w.cell? ((⟨q, 0, none⟩ : Addr).add j) = some u := by
    intro j u h
    obtain ⟨hj, rfl⟩ := List.getElem?_eq_some_iff.1 h
    rw [← hnews j hj, Addr.add_lit, Nat.zero_add]
  obtain ⟨v', w1, hrun, hown', hgrow, _⟩ := run_append_own (P := Try.prog) w base 46 46 5 i0 (.int .u8 0) 1 1 Try.underlying46 hi hz0 hz1 hz2 rfl (by decide)
    v D.length D hown ⟨q, 0, none⟩ m c news (by omega) hn h1 (by unfold maxLen; omega) (by omega) hb
  refine ⟨v', w1, hrun, ?_, fun w0 B hB0 hB => hB.grown hgrow (by omega) (fun q hq => by have := (hown.lt q hq).1; omega)⟩
  rw [List.length_append, hl]; exact hown'

theorem own_base {w : World} {base base' : Nat} {e : TypeId} {size : Nat} {v : Value} {n : Nat} {xs : List Value} (h : w.ownsRow base e size v n xs) (hb : base' ≤ base) : w.ownsRow base' e size v n xs := by
  obtain ⟨h1, h2⟩ := h
  refine ⟨h1, ?_⟩
  rcases h2 with h2 | ⟨g, cap, cur, rfl, hg, r⟩
  · exact .inl h2
  · exact .inr ⟨g, cap, cur, rfl, Nat.le_trans hb hg, r⟩

/-- What is answered of four bytes. -/
def BytPost (o : Option (List Nat)) (w : World) (e : Ending) (w' : World) : Prop :=
  Below w.heap.size w w' ∧ match o with
  | some ns => ∃ v, e = .returned (.tuple #[v, .bool true]) ∧ w'.ownsRow w.heap.size 5 1 v 4 (ns.map u8v)
  | none => e = .returned (.tuple #[.slice none 0 0, .bool false])
theorem BytPost.no {o : Option (List Nat)} {w w' : World} (h : o = none) (b : Below w.heap.size w w') : BytPost o w (.returned (.tuple #[.slice none 0 0, .bool false])) w' := by subst h; exact ⟨b, rfl⟩

set_option maxRecDepth 100000 in
set_option maxHeartbeats 1000000 in
theorem RefBytes_any (s : ByteArray) (w : World) (hs : s.size ≤ 1048600) :
    Calls Try.prog 35 #[.string s] w (BytPost (byt s.data.toList) w) := by
  have HPs : Hid (∀ w, Calls Try.prog 16 #[.string s, .int .u8 46] w fun e w' => ∃ (v : Value) (D : List ByteArray), e = .returned v ∧ D.map (·.data.toList) = pts 46 s.data.toList ∧ w'.ownsRow w.heap.size 9 1 v D.length (D.map Value.string) ∧ Below w.heap.size w w') := Lib.hid (fun w => RefParts_any s 46 w hs)
  go_enter Try.func35, Try.ntmps35
  go_wp2_with fail
  refine (HPs.out _).mono ?_
  rintro e w1 ⟨v, D, rfl, hD, own1, b1⟩
  have B1 := Lib.hid b1
  have HD := Lib.hid hD
  rcases own1.2 with ⟨_, h0⟩ | ⟨g, cap, cur, rfl, hg, hgb, hcap, _⟩
  · exfalso
    have h1 := congrArg List.length hD
    rw [List.length_map] at h1
    have : 0 < (pts 46 s.data.toList).length := List.length_pos_iff.2 (pts_ne _ _)
    omega
  have HCs : Hid (∀ j, (hj : j < D.length) → w1.cell? ⟨g, j, none⟩ = some (.string D[j])) := Lib.hid (fun j hj => by
    rw [own1.cellAt j (by omega), List.getElem?_map, List.getElem?_eq_getElem hj]; rfl)
  have HGb := Lib.hid (lt_of_block hgb)
  have HSz : Hid (∀ q ∈ D, q.size ≤ 1048600) := Lib.hid (fun q hqD => by
    have h2 : q.data.toList ∈ pts 46 s.data.toList := by
      rw [← hD]
      exact List.mem_map_of_mem hqD
    have h3 := pts_mem_len _ _ _ h2
    rw [lenB, lenB] at h3; omega)
  clear own1 b1 hgb hD hcap
  by_cases h4 : D.length = 4
  · have h4I : ((D.length : Int) != 4) = false := by rw [h4]; rfl
    have H4 := Lib.hid h4
    go_wp2
    clear h4 h4I
    go_loopw [5, 6, 7, 8] (fun v i _ _ wr => ∃ (k : Nat) (ns : List Nat), k ≤ 4 ∧ i = .int .i64 k ∧ ns.length = k ∧ Hid (((pts 46 s.data.toList).take k).map sm1 = ns.map (fun n => some [n])) ∧ Hid (wr.ownsRow w1.heap.size 5 1 v ns.length (ns.map u8v)) ∧ Hid (Below w1.heap.size w1 wr) ∧ Hid (Below w.heap.size w wr)) (fun _ i _ _ _ => 4 - (intOf i).toNat)
    case atStart => exact ⟨0, [], by omega, rfl, rfl, Lib.hid rfl, Lib.hid ⟨rfl, .inl ⟨rfl, rfl⟩⟩, Lib.hid (Below.refl _ _), B1⟩
    case round =>
      obtain ⟨k, ns, hk, rfl, hns, HM, HO, HB1, HB⟩ := hrel
      have hPl : (pts 46 s.data.toList).length = 4 := by rw [← HD.out, List.length_map]; exact H4.out
      by_cases hlt : k < 4
      · have hkD : k < D.length := by have := H4.out; omega
        obtain ⟨p, HP⟩ : ∃ p, Hid (D[k] = p) := ⟨_, Lib.hid rfl⟩
        have hck : wr.cell? ⟨g, k, none⟩ = some (.string p) := by
          rw [HB1.out.cell (p := ⟨g, k, none⟩) HGb.out, HCs.out k hkD, HP.out]
        have hps : p.size ≤ 1048600 := HSz.out p (by rw [← HP.out]; exact List.getElem_mem hkD)
        have HPq : Hid ((pts 46 s.data.toList)[k]? = some p.data.toList) := Lib.hid (by
          rw [← HD.out, List.getElem?_map, List.getElem?_eq_getElem hkD, HP.out]; rfl)
        obtain ⟨N, HNv⟩ : ∃ N, Hid ((cnt 10 p.data.toList).getD 0 = N) := ⟨_, Lib.hid rfl⟩
        obtain ⟨K, HKv⟩ : ∃ K, Hid ((cnt 10 p.data.toList).isSome = K) := ⟨_, Lib.hid rfl⟩
        have HNk : Hid (∀ w, Calls Try.prog 30 #[.string p, .int .i64 10] w fun e w' => e = .returned (.tuple #[.int .i64 (N : Int), .bool K]) ∧ w = w') := Lib.hid (fun w => by
          have := RefCount_any p 10 w hps (by omega)
          rw [optV_two, HNv.out, HKv.out] at this; exact this)
        go_upto_region 9 with (first | (go_at_call 30; refine (HNk.out _).mono ?_; rintro e w' ⟨rfl, rfl⟩))
        obtain ⟨bd, HBd⟩ : ∃ bd, Hid ((sm1 p.data.toList).isNone = bd) := ⟨_, Lib.hid rfl⟩
        have HK1 : Hid (K = true → cnt 10 p.data.toList = some N) := Lib.hid (fun e => by
          have h1 := HKv.out
          have h2 := HNv.out
          rw [e] at h1
          cases h : cnt 10 p.data.toList with
          | none => rw [h] at h1; cases h1
          | some n => rw [h] at h2; rw [show n = N from h2])
        have HL := Lib.hid (lenB p)
        go_cut [55] (fun s55 wx => s55 = .bool bd ∧ wr = wx)
        case first =>
          cases K with
          | false =>
            have Hb : Hid (bd = true) := Lib.hid (by
              rw [← HBd.out, sm1_bad1]; rfl
              cases h : cnt 10 p.data.toList with
              | none => rfl
              | some n => have := HKv.out; rw [h] at this; cases this)
            go_wp2
            go_meet
            exact ⟨by rw [Hb.out], rfl⟩
          | true =>
            have HC := Lib.hid (HK1.out rfl)
            by_cases h0 : p.size = 0
            · have h0I : ((p.size : Int) == 0) = true := by rw [h0]; rfl
              have Hb : Hid (bd = true) := Lib.hid (by
                rw [← HBd.out, sm1_bad2 (List.eq_nil_of_length_eq_zero (by rw [HL.out]; exact h0))]; rfl)
              clear h0
              go_wp2
              go_meet
              exact ⟨by rw [Hb.out], rfl⟩
            · have h0I : ((p.size : Int) == 0) = false := beq_eq_false_iff_ne.2 (by omega)
              have g0 : 0 < p.size := by omega
              have hh : Hid (p.data.toList.head? = some (p[0]'g0)) := Lib.hid (by
                rw [List.head?_eq_getElem?, List.getElem?_eq_getElem (by rw [HL.out]; exact g0)]; rfl)
              have HNe : Hid (p.data.toList ≠ []) := Lib.hid (by intro e; have := HL.out; rw [e] at this; simp at this; omega)
              by_cases h1 : 1 < p.size
              · have h1I : (1 : Int) < (p.size : Int) := by omega
                by_cases h48 : (p[0]'g0).toNat = 48
                · have h48I : (((p[0]'g0).toNat : Int) == 48) = true := by rw [h48]; rfl
                  have Hb : Hid (bd = true) := Lib.hid (by
                    rw [← HBd.out, sm1_bad3 (by rw [HL.out]; exact h1) (by rw [hh.out]; exact congrArg some (UInt8.toNat_inj.1 h48))]; rfl)
                  clear h0 h1 h48
                  go_wp2
                  go_meet
                  exact ⟨by rw [Hb.out], rfl⟩
                · have h48I : (((p[0]'g0).toNat : Int) == 48) = false := beq_eq_false_iff_ne.2 (by omega)
                  have HH : Hid (¬ (1 < p.data.toList.length ∧ p.data.toList.head? = some 48)) := Lib.hid (fun ⟨_, e⟩ => by
                    rw [hh.out] at e; injection e with e; exact h48 (by rw [e]; rfl))
                  clear h0 h1 h48
                  by_cases h255 : 255 < N
                  · have hI : (255 : Int) < (N : Int) := by omega
                    have Hb : Hid (bd = true) := Lib.hid (by rw [← HBd.out, sm1_bad4 HC.out h255]; rfl)
                    go_wp2
                    go_meet
                    exact ⟨by rw [Hb.out], rfl⟩
                  · have hI : ¬ (255 : Int) < (N : Int) := by omega
                    have Hb : Hid (bd = false) := Lib.hid (by rw [← HBd.out, sm1_good HNe.out HH.out HC.out h255]; rfl)
                    go_wp2
                    go_meet
                    exact ⟨by rw [Hb.out], rfl⟩
              · have h1I : ¬ (1 : Int) < (p.size : Int) := by omega
                have HH : Hid (¬ (1 < p.data.toList.length ∧ p.data.toList.head? = some 48)) := Lib.hid (fun ⟨e, _⟩ => by
                  rw [HL.out] at e; exact h1 e)
                clear h0 h1
                by_cases h255 : 255 < N
                · have hI : (255 : Int) < (N : Int) := by omega
                  have Hb : Hid (bd = true) := Lib.hid (by rw [← HBd.out, sm1_bad4 HC.out h255]; rfl)
                  go_wp2
                  go_meet
                  exact ⟨by rw [Hb.out], rfl⟩
                · have hI : ¬ (255 : Int) < (N : Int) := by omega
                  have Hb : Hid (bd = false) := Lib.hid (by rw [← HBd.out, sm1_good HNe.out HH.out HC.out h255]; rfl)
                  go_wp2
                  go_meet
                  exact ⟨by rw [Hb.out], rfl⟩
        case rest =>
        obtain ⟨rfl, rfl⟩ := hcut
        cases bd with
        | true =>
          have HN := Lib.hid (byt_none (q := s.data.toList) ⟨p.data.toList, List.mem_of_getElem? HPq.out, by
            have := HBd.out
            cases h : sm1 p.data.toList with
            | none => rfl
            | some ms => rw [h] at this; cases this⟩)
          go_wp2
          go_ret2
          exact BytPost.no HN.out HB.out
        | false =>
          obtain ⟨ms, hms⟩ : ∃ ms, sm1 p.data.toList = some ms := by
            have := HBd.out
            cases h : sm1 p.data.toList with
            | none => rw [h] at this; cases this
            | some ms => exact ⟨ms, rfl⟩
          obtain ⟨n, hn1, rfl, hn2⟩ := sm1_val hms
          obtain rfl : n = N := by have := HNv.out; rw [hn1] at this; exact this
          have HMs := Lib.hid hms
          clear hms hn1
          obtain ⟨v', w1', hrun, hown, hbel⟩ := appU8 w1.heap.size wr.heap.size 1 1 _ (ns.map u8v) [.int .u8 (n : Int)] (wr.alloc (.cells #[.int .u8 (n : Int)] 5)) (by rw [List.length_map]; exact HO.out.alloc _) rfl
            (fun j hj => by
              obtain rfl : j = 0 := by simp at hj; exact hj
              exact (Holds1.new wr _ _).cell) (by intro u hu; rw [List.mem_singleton.1 hu]; rfl) (by simp; omega) (by have := HB1.out.size; simp; omega)
          have HRun := Lib.hid hrun
          have HO1 : Hid (w1'.ownsRow w1.heap.size 5 1 v' (ns ++ [n]).length ((ns ++ [n]).map u8v)) := Lib.hid (by
            have e1 : ns.map u8v ++ [Value.int .u8 (n : Int)] = (ns ++ [n]).map u8v := by
              rw [List.map_append, List.map_cons, List.map_nil, u8v]
            rw [e1] at hown
            rw [List.length_map] at hown; exact hown)
          have hbW := hbel w w.heap.size B1.out.size (HB.out.alloc HB.out.size _)
          have HM1 : Hid (((pts 46 s.data.toList).take (k + 1)).map sm1 = (ns ++ [n]).map (fun n => some [n])) := Lib.hid (by
            have e : (pts 46 s.data.toList).take (k + 1) = (pts 46 s.data.toList).take k ++ [p.data.toList] := by
              rw [List.take_add_one, HPq.out]; rfl
            rw [e, List.map_append, HM.out, List.map_append, List.map_cons, HMs.out]; rfl)
          have HBW := Lib.hid hbW
          clear hrun hown hbW
          go_wp2_with (at_builtin; refine Lib.wpList_append_run _ rfl _ _ _ _ rfl _ _ rfl rfl _ _ HRun.out ?_)
          exact ⟨⟨k + 1, ns ++ [n], by omega, by go_num, by simp [hns], HM1, HO1, Lib.hid (hbel w1 w1.heap.size (Nat.le_refl _) (HB1.out.alloc HB1.out.size _)), HBW⟩, by simp [intOf]; omega⟩
      · obtain rfl : k = 4 := by omega
        have HY := Lib.hid (byt_some (q := s.data.toList) (ns := ns) hns (by
          rw [← HM.out, List.take_of_length_le (by omega)]))
        go_wp2
        go_ret2
        refine ⟨HB.out, ?_⟩
        rw [HY.out]
        exact ⟨_, rfl, by have := own_base HO.out B1.out.size; rwa [hns] at this⟩
  · have h4I : ((D.length : Int) != 4) = true := by simp; omega
    have HN := Lib.hid (byt_few (q := s.data.toList) (by rw [← HD.out, List.length_map]; exact h4))
    clear h4
    go_wp2
    go_ret2
    exact BytPost.no HN.out B1.out

end Go.Proofs.Ytgcebachahodgaa
