/-
  Contract: the document's pieces.
-/
import Derived.Test.YtgcebachahodgaaRfE
import Derived.Test.YtgcebachahodgaaRdM
import Derived.Test.YtgcebachahodgaaAdQ
namespace Go.Proofs.Ytgcebachahodgaa
open Go.RowKit

theorem evs_le {f : List UInt8 → Option (List Nat)} {B : Nat} (hf : ∀ q ns, f q = some ns → ∀ n ∈ ns, n ≤ B) : ∀ (Q : List (List UInt8)) (ns : List Nat), evs f f Q = some ns → ∀ n ∈ ns, n ≤ B
  | [], ns, h => by cases h
  | [q], ns, h => hf q ns h
  | q :: p :: Q, ns, h => by
    rw [evs_cons _ _ _ (by simp)] at h
    cases h1 : f q with
    | none => rw [h1] at h; cases h
    | some a =>
      rw [h1] at h
      cases h2 : evs f f (p :: Q) with
      | none => rw [h2] at h; cases h
      | some b =>
        rw [h2] at h
        have h := Option.some.inj h
        subst h
        intro n hn
        rcases List.mem_append.1 hn with hn | hn
        · exact hf q a h1 n hn
        · exact evs_le hf (p :: Q) b h2 n hn
theorem byt_is {q : List UInt8} {ns : List Nat} (h : byt q = some ns) : ∃ a b c d, ns = [a, b, c, d] ∧ a ≤ 255 ∧ b ≤ 255 ∧ c ≤ 255 ∧ d ≤ 255 := by
  unfold byt at h
  split at h
  · rename_i ms hms
    split at h
    · rename_i h4
      injection h with h; subst h
      have hle := evs_le (f := sm1) (B := 255) (fun q ns h => by obtain ⟨n, rfl, hn⟩ := sm1_is h; intro m hm; rw [List.mem_singleton.1 hm]; exact hn) _ _ hms
      match ms, h4 with
      | [a, b, c, d], _ => exact ⟨a, b, c, d, rfl, hle a (by simp), hle b (by simp), hle c (by simp), hle d (by simp)⟩
    · cases h
  · cases h
theorem pb_two {a b c d : Nat} (ha : a ≤ 255) (hb : b ≤ 255) (hc : c ≤ 255) (hd : d ≤ 255) : pb [256 * a + b, 256 * c + d] = [a, b, c, d] := by
  show [(256 * a + b) / 256 % 256, (256 * a + b) % 256, (256 * c + d) / 256 % 256, (256 * c + d) % 256] = _
  rw [show (256 * a + b) / 256 % 256 = a by omega, show (256 * a + b) % 256 = b by omega, show (256 * c + d) / 256 % 256 = c by omega, show (256 * c + d) % 256 = d by omega]
theorem pb_one (n : Nat) : pb [n] = [n / 256 % 256, n % 256] := rfl
theorem pc1_val {q : List UInt8} {ms : List Nat} (h : pc1 q = some ms) : ∃ n, cnt 16 q = some n ∧ ms = [n] := by
  unfold pc1 at h
  split at h
  · split at h
    · rename_i n hn; injection h with h; exact ⟨n, hn, h.symm⟩
    · cases h
  · cases h
theorem pc1_bad1 {q : List UInt8} (h : cnt 16 q = none) : pc1 q = none := by unfold pc1; rw [h]; split <;> rfl
theorem pc1_bad2 {q : List UInt8} (h : ¬ (1 ≤ q.length ∧ q.length ≤ 4)) : pc1 q = none := by unfold pc1; rw [if_neg h]
theorem pc1_good {q : List UInt8} {n : Nat} (h : 1 ≤ q.length ∧ q.length ≤ 4) (h2 : cnt 16 q = some n) : pc1 q = some [n] := by unfold pc1; rw [if_pos h, h2]
/-- The last piece. -/
def lastP (en : Bool) : List UInt8 → Option (List Nat) := if en then both1 else pc1
theorem lastP_pc {en : Bool} {q : List UInt8} {ms : List Nat} (h : pc1 q = some ms) : lastP en q = some ms := by
  cases en
  · exact h
  · show both1 q = _; unfold both1; rw [h]
theorem lastP_none {q : List UInt8} (h : pc1 q = none) (h2 : byt q = none) (en : Bool) : lastP en q = none := by
  cases en
  · exact h
  · show both1 q = _; unfold both1; rw [h, four1_byt, h2]
theorem lastP_four {q : List UInt8} {ns : List Nat} (h : pc1 q = none) (h2 : byt q = some ns) : lastP true q = two4 ns := by
  show both1 q = _; unfold both1; rw [h, four1_byt, h2]

/-- What is answered of pieces. -/
def PcsPost (o : Option (List Nat)) (w : World) (e : Ending) (w' : World) : Prop :=
  Below w.heap.size w w' ∧ match o with
  | some ns => ∃ v, e = .returned (.tuple #[v, .bool true]) ∧ w'.ownsRow w.heap.size 5 1 v (pb ns).length ((pb ns).map u8v)
  | none => e = .returned (.tuple #[.slice none 0 0, .bool false])
theorem PcsPost.no {o : Option (List Nat)} {w w' : World} (h : o = none) (b : Below w.heap.size w w') : PcsPost o w (.returned (.tuple #[.slice none 0 0, .bool false])) w' := by subst h; exact ⟨b, rfl⟩

set_option maxRecDepth 100000 in
set_option maxHeartbeats 1000000 in
theorem RefPieces_any (s : ByteArray) (en : Bool) (w : World) (hs : s.size ≤ 1048600) :
    Calls Try.prog 20 #[.string s, .bool en] w (PcsPost (piecesD en s.data.toList) w) := by
  have HPs : Hid (∀ w, Calls Try.prog 16 #[.string s, .int .u8 58] w fun e w' => ∃ (v : Value) (D : List ByteArray), e = .returned v ∧ D.map (·.data.toList) = pts 58 s.data.toList ∧ w'.ownsRow w.heap.size 9 1 v D.length (D.map Value.string) ∧ Below w.heap.size w w') := Lib.hid (fun w => RefParts_any s 58 w hs)
  by_cases hz : s.data.toList = []
  · have hem : s.toList.isEmpty = true := by rw [ByteArray.toList_eq, hz]; rfl
    have HP : Hid (piecesD en s.data.toList = some []) := Lib.hid (by rw [hz]; rfl)
    clear hz
    go_enter Try.func20, Try.ntmps20
    go_wp2
    go_ret2
    refine ⟨Below.refl _ _, ?_⟩
    rw [HP.out]
    exact ⟨_, rfl, ⟨rfl, .inl ⟨rfl, rfl⟩⟩⟩
  have hem : s.toList.isEmpty = false := by rw [ByteArray.toList_eq, List.isEmpty_eq_false_iff]; exact hz
  obtain ⟨Q, HQ⟩ : ∃ Q, Hid (pts 58 s.data.toList = Q) := ⟨_, Lib.hid rfl⟩
  have HPD : Hid (piecesD en s.data.toList = evs pc1 (lastP en) Q) := Lib.hid (by rw [piecesD, if_neg hz, HQ.out]; rfl)
  obtain ⟨O, HO0⟩ : ∃ O, Hid (piecesD en s.data.toList = O) := ⟨_, Lib.hid rfl⟩
  rw [HO0.out] at HPD
  rw [HO0.out]
  clear hz
  go_enter Try.func20, Try.ntmps20
  go_wp2_with fail
  refine (HPs.out _).mono ?_
  rintro e w1 ⟨v, D, rfl, hD, own1, b1⟩
  have B1 := Lib.hid b1
  rw [HQ.out] at hD
  have HD := Lib.hid hD
  have hQne : Q ≠ [] := by rw [← HQ.out]; exact pts_ne _ _
  rcases own1.2 with ⟨_, h0⟩ | ⟨g, cap, cur, rfl, hg, hgb, hcap, _⟩
  · exfalso
    have h1 := congrArg List.length hD
    rw [List.length_map] at h1
    have : 0 < Q.length := List.length_pos_iff.2 hQne
    omega
  have HCs : Hid (∀ j, (hj : j < D.length) → w1.cell? ⟨g, j, none⟩ = some (.string D[j])) := Lib.hid (fun j hj => by
    rw [own1.cellAt j (by omega), List.getElem?_map, List.getElem?_eq_getElem hj]; rfl)
  have HGb := Lib.hid (lt_of_block hgb)
  have hDl : D.length ≤ 1048601 := by
    have h1 := pts_len 58 s.data.toList
    rw [HQ.out, ← hD, List.length_map, lenB] at h1; omega
  have HSz : Hid (∀ q ∈ D, q.size ≤ 1048600) := Lib.hid (fun q hqD => by
    have h2 : q.data.toList ∈ pts 58 s.data.toList := by
      rw [HQ.out, ← hD]
      exact List.mem_map_of_mem hqD
    have h3 := pts_mem_len _ _ _ h2
    rw [lenB, lenB] at h3; omega)
  have HQl : Hid (Q.length = D.length) := Lib.hid (by rw [← hD, List.length_map])
  have HS0 := Lib.hid (pcS_zero (f := pc1) (g := lastP en) hQne)
  clear own1 b1 hgb hD hcap hQne
  go_wp2
  go_loopw [7, 8, 9, 10, 11] (fun v i _ _ _ wr => ∃ (k : Nat) (ns : List Nat), k ≤ D.length ∧ i = .int .i64 k ∧ (pb ns).length ≤ 4 * k ∧ Hid (PcS pc1 (lastP en) Q k ns) ∧ Hid (wr.ownsRow w1.heap.size 5 1 v (pb ns).length ((pb ns).map u8v)) ∧ Hid (Below w1.heap.size w1 wr) ∧ Hid (Below w.heap.size w wr)) (fun _ i _ _ _ _ => D.length - (intOf i).toNat)
  case atStart => exact ⟨0, [], by omega, rfl, Nat.le_refl _, HS0, Lib.hid ⟨rfl, .inl ⟨rfl, rfl⟩⟩, Lib.hid (Below.refl _ _), B1⟩
  case round =>
    obtain ⟨k, ns, hk, rfl, hnl, HS, HO, HB1, HB⟩ := hrel
    by_cases hlt : k < D.length
    · obtain ⟨p, HP⟩ : ∃ p, Hid (D[k] = p) := ⟨_, Lib.hid rfl⟩
      have hck : wr.cell? ⟨g, k, none⟩ = some (.string p) := by
        rw [HB1.out.cell (p := ⟨g, k, none⟩) HGb.out, HCs.out k hlt, HP.out]
      have hps : p.size ≤ 1048600 := HSz.out p (by rw [← HP.out]; exact List.getElem_mem hlt)
      have HkQ : Hid (k < Q.length) := Lib.hid (by have := HQl.out; omega)
      have HPq : Hid (∀ h : k < Q.length, Q[k] = p.data.toList) := Lib.hid (fun h => by
        have : Q[k]? = some p.data.toList := by
          rw [← HD.out, List.getElem?_map, List.getElem?_eq_getElem hlt, HP.out]; rfl
        rw [List.getElem?_eq_getElem h] at this
        exact Option.some.inj this)
      obtain ⟨N, HNv⟩ : ∃ N, Hid ((cnt 16 p.data.toList).getD 0 = N) := ⟨_, Lib.hid rfl⟩
      obtain ⟨K, HKv⟩ : ∃ K, Hid ((cnt 16 p.data.toList).isSome = K) := ⟨_, Lib.hid rfl⟩
      have HNk : Hid (∀ w, Calls Try.prog 30 #[.string p, .int .i64 16] w fun e w' => e = .returned (.tuple #[.int .i64 (N : Int), .bool K]) ∧ w = w') := Lib.hid (fun w => by
        have := RefCount_any p 16 w hps (by omega)
        rw [optV_two, HNv.out, HKv.out] at this; exact this)
      go_upto_region 9 with (first | (go_at_call 30; refine (HNk.out _).mono ?_; rintro e w' ⟨rfl, rfl⟩))
      obtain ⟨pk, HPk⟩ : ∃ pk, Hid ((pc1 p.data.toList).isSome = pk) := ⟨_, Lib.hid rfl⟩
      have HK1 : Hid (K = true → cnt 16 p.data.toList = some N) := Lib.hid (fun e => by
        have h1 := HKv.out
        have h2 := HNv.out
        rw [e] at h1
        cases h : cnt 16 p.data.toList with
        | none => rw [h] at h1; cases h1
        | some n => rw [h] at h2; rw [show n = N from h2])
      have HL := Lib.hid (lenB p)
      go_cut [46] (fun s46 wx => s46 = .bool pk ∧ wr = wx)
      case first =>
        cases K with
        | false =>
          have Hb : Hid (pk = false) := Lib.hid (by
            rw [← HPk.out, pc1_bad1]; rfl
            cases h : cnt 16 p.data.toList with
            | none => rfl
            | some n => have := HKv.out; rw [h] at this; cases this)
          go_wp2
          go_meet
          exact ⟨by rw [Hb.out], rfl⟩
        | true =>
          have HC := Lib.hid (HK1.out rfl)
          by_cases h0 : 1 ≤ p.size
          · have h0I : (1 : Int) ≤ (p.size : Int) := by omega
            by_cases h4 : p.size ≤ 4
            · have h4I : (p.size : Int) ≤ 4 := by omega
              have Hb : Hid (pk = true) := Lib.hid (by rw [← HPk.out, pc1_good (by rw [HL.out]; exact ⟨h0, h4⟩) HC.out]; rfl)
              clear h0 h4
              go_wp2
              go_meet
              exact ⟨by rw [Hb.out], rfl⟩
            · have h4I : ¬ (p.size : Int) ≤ 4 := by omega
              have Hb : Hid (pk = false) := Lib.hid (by rw [← HPk.out, pc1_bad2 (by rw [HL.out]; exact fun h => h4 h.2)]; rfl)
              clear h0 h4
              go_wp2
              go_meet
              exact ⟨by rw [Hb.out], rfl⟩
          · have h0I : ¬ (1 : Int) ≤ (p.size : Int) := by omega
            have Hb : Hid (pk = false) := Lib.hid (by rw [← HPk.out, pc1_bad2 (by rw [HL.out]; exact fun h => h0 h.1)]; rfl)
            clear h0
            go_wp2
            go_meet
            exact ⟨by rw [Hb.out], rfl⟩
      case rest =>
      obtain ⟨rfl, rfl⟩ := hcut
      cases pk with
      | true =>
        obtain ⟨ms, hms⟩ : ∃ ms, pc1 p.data.toList = some ms := by
          have := HPk.out
          cases h : pc1 p.data.toList with
          | none => rw [h] at this; cases this
          | some ms => exact ⟨ms, rfl⟩
        obtain ⟨n, hn1, rfl⟩ := pc1_val hms
        obtain rfl : n = N := by have := HNv.out; rw [hn1] at this; exact this
        have hnB : n ≤ 4294967296 := by
          have h := hn1
          unfold cnt at h
          split at h
          · injection h with h; rw [← h]; exact fol_le _ _
          · cases h
        have HS1 : Hid (PcS pc1 (lastP en) Q (k + 1) (ns ++ [n])) := Lib.hid (pcS_on HS.out HkQ.out (fun _ => by rw [HPq.out HkQ.out]; exact hms) (fun _ => by rw [HPq.out HkQ.out]; exact lastP_pc hms))
        clear hms hn1
        obtain ⟨v', w1', hrun, hown, hbel⟩ := appU8 w1.heap.size wr.heap.size 2 2 _ ((pb ns).map u8v) [.int .u8 ((n : Int) / 256 % 256), .int .u8 ((n : Int) % 256)] (wr.alloc (.cells #[.int .u8 ((n : Int) / 256 % 256), .int .u8 ((n : Int) % 256)] 5)) (by rw [List.length_map]; exact HO.out.alloc _) rfl
          (fun j hj => by
            have hb := heap_alloc_new wr (.cells #[.int .u8 ((n : Int) / 256 % 256), .int .u8 ((n : Int) % 256)] 5)
            obtain rfl | rfl : j = 0 ∨ j = 1 := by simp at hj; omega
            · rw [World.cell?, hb]; rfl
            · rw [World.cell?, hb]; rfl) (by intro u hu; simp at hu; rcases hu with rfl | rfl <;> rfl) (by rw [List.length_map]; omega) (by have := HB1.out.size; simp; omega)
        have HRun := Lib.hid hrun
        have hpl : (pb (ns ++ [n])).length = (pb ns).length + 2 := by rw [pb_append, List.length_append]; rfl
        have HO1 : Hid (w1'.ownsRow w1.heap.size 5 1 v' (pb (ns ++ [n])).length ((pb (ns ++ [n])).map u8v)) := Lib.hid (by
          have e1 : (pb ns).map u8v ++ [Value.int .u8 ((n : Int) / 256 % 256), .int .u8 ((n : Int) % 256)] = (pb (ns ++ [n])).map u8v := by
            rw [pb_append, List.map_append, pb_one]; rfl
          rw [e1, List.length_map] at hown; exact hown)
        have HBW := Lib.hid (hbel w w.heap.size B1.out.size (HB.out.alloc HB.out.size _))
        have HBX := Lib.hid (hbel w1 w1.heap.size (Nat.le_refl _) (HB1.out.alloc HB1.out.size _))
        clear hrun hown hbel
        go_wp2_with (at_builtin; refine Lib.wpList_append_run _ rfl _ _ _ _ rfl _ _ rfl rfl _ _ HRun.out ?_)
        exact ⟨⟨k + 1, ns ++ [n], by omega, by go_num, by omega, HS1, HO1, HBX, HBW⟩, by simp [intOf]; omega⟩
      | false =>
        have HNn : Hid (pc1 p.data.toList = none) := Lib.hid (by
          have := HPk.out
          cases h : pc1 p.data.toList with
          | none => rfl
          | some ms => rw [h] at this; cases this)
        obtain ⟨o, HOo⟩ : ∃ o, Hid (byt p.data.toList = o) := ⟨_, Lib.hid rfl⟩
        have HBt : Hid (Calls Try.prog 35 #[.string p] wr (BytPost o wr)) := Lib.hid (by
          have := RefBytes_any p wr hps
          rwa [HOo.out] at this)
        go_wp2_with fail
        refine HBt.out.mono ?_
        rintro e w2 ⟨b2, h2⟩
        have HB2 : Hid (Below w.heap.size w w2) := Lib.hid (HB.out.trans (b2.mono HB.out.size))
        cases o with
        | none =>
          obtain rfl := h2
          have HNo : Hid (O = none) := Lib.hid (by
            rw [HPD.out]
            exact pcS_no HS.out HkQ.out (fun _ => by rw [HPq.out HkQ.out]; exact HNn.out) (fun _ => by rw [HPq.out HkQ.out]; exact lastP_none HNn.out HOo.out en))
          clear b2
          go_wp2
          go_ret2
          exact PcsPost.no HNo.out HB2.out
        | some ns4 =>
          obtain ⟨v4, rfl, own4⟩ := h2
          obtain ⟨a, b, c, d, rfl, ha, hb, hc, hd⟩ := byt_is HOo.out
          rcases own4.2 with ⟨_, h0⟩ | ⟨g4, cap4, cur4, rfl, hg4, hgb4, _⟩
          · simp at h0
          have HG4 := Lib.hid own4
          by_cases hlast : en = true ∧ k + 1 = D.length
          · obtain ⟨rfl, hl⟩ := hlast
            have hkI : ¬ (k : Int) < (D.length : Int) - 1 := by omega
            have HS1 : Hid (PcS pc1 (lastP true) Q (k + 1) (ns ++ [256 * a + b, 256 * c + d])) := Lib.hid (pcS_on HS.out HkQ.out (fun h => by have := HQl.out; omega) (fun _ => by rw [HPq.out HkQ.out, lastP_four HNn.out HOo.out]; rfl))
            obtain ⟨v', w1', hrun, hown, hbel⟩ := appU8 w1.heap.size g4 4 cap4 _ ((pb ns).map u8v) ([a, b, c, d].map u8v) w2 (by rw [List.length_map]; exact own_kept HO.out (Kp.of_below (X := fun _ => False) b2) (fun _ _ => id)) rfl
              (fun j hj => by
                have := HG4.out.cellAt j (by simpa using hj)
                rw [this, List.getElem?_eq_getElem hj]) (by intro u hu; obtain ⟨x, _, rfl⟩ := List.mem_map.1 hu; rfl) (by rw [List.length_map]; omega) (by have := HB1.out.size; have := b2.size; omega)
            have HRun := Lib.hid hrun
            have hpl : (pb (ns ++ [256 * a + b, 256 * c + d])).length = (pb ns).length + 4 := by rw [pb_append, List.length_append]; rfl
            have HO1 : Hid (w1'.ownsRow w1.heap.size 5 1 v' (pb (ns ++ [256 * a + b, 256 * c + d])).length ((pb (ns ++ [256 * a + b, 256 * c + d])).map u8v)) := Lib.hid (by
              have e1 : (pb ns).map u8v ++ [a, b, c, d].map u8v = (pb (ns ++ [256 * a + b, 256 * c + d])).map u8v := by
                rw [pb_append, List.map_append, pb_two ha hb hc hd]
              rw [e1, List.length_map] at hown; exact hown)
            have HBW := Lib.hid (hbel w w.heap.size B1.out.size HB2.out)
            have HBX := Lib.hid (hbel w1 w1.heap.size (Nat.le_refl _) (HB1.out.trans (b2.mono HB1.out.size)))
            clear hrun hown hbel own4 hgb4 b2
            go_wp2_with (at_builtin; refine Lib.wpList_append_run _ rfl _ _ _ _ rfl _ _ rfl rfl _ _ HRun.out ?_)
            exact ⟨⟨k + 1, ns ++ [256 * a + b, 256 * c + d], by omega, by go_num, by omega, HS1, HO1, HBX, HBW⟩, by simp [intOf]; omega⟩
          · have HNo : Hid (O = none) := Lib.hid (by
              rw [HPD.out]
              exact pcS_no HS.out HkQ.out (fun _ => by rw [HPq.out HkQ.out]; exact HNn.out) (fun h => by
                rw [HPq.out HkQ.out]
                cases en with
                | false => exact HNn.out
                | true => exact absurd ⟨rfl, by have := HQl.out; omega⟩ hlast))
            clear own4 hgb4 b2
            cases en with
            | false =>
              go_wp2
              go_ret2
              exact PcsPost.no HNo.out HB2.out
            | true =>
              have hkI : (k : Int) < (D.length : Int) - 1 := by
                have : ¬ (k + 1 = D.length) := fun e => hlast ⟨rfl, e⟩
                omega
              clear hlast
              go_wp2
              go_ret2
              exact PcsPost.no HNo.out HB2.out
    · obtain rfl : k = D.length := by omega
      have HY : Hid (O = some ns) := Lib.hid (by rw [HPD.out]; exact HS.out.2 HQl.out.symm)
      go_wp2
      go_ret2
      refine ⟨HB.out, ?_⟩
      rw [HY.out]
      exact ⟨_, rfl, own_base HO.out B1.out.size⟩

end Go.Proofs.Ytgcebachahodgaa
