/-
  Contract: the document's Bytes: the text of signs.
-/
import Derived.Test.YtdifdikfgkiocaaGreatDoorMpC
namespace Go.Proofs.YtdifdikfgkiocaaGreatDoor
open Go.RowKit

def iv (n : Nat) : Value := .int .i64 (n : Int)
def bv (c : UInt8) : Value := .int .u8 (c.toNat : Int)
/-- The bytes of a sign. -/
def encN (x : Nat) : List UInt8 := (Utf8.encode (Int.ofNat x)).data.toList
theorem utf_nil : (utf []).data.toList = [] := rfl
theorem runesBytes_snoc (l : List Int) (x : Int) : runesBytes (l ++ [x]) = runesBytes l ++ Utf8.encode x := by
  unfold runesBytes
  rw [List.foldl_append]
  rfl
set_option maxRecDepth 100000 in
theorem utf_snoc (l : List Nat) (x : Nat) : (utf (l ++ [x])).data.toList = (utf l).data.toList ++ encN x := by
  unfold utf encN
  rw [List.map_append, List.map_cons, List.map_nil, runesBytes_snoc, ByteArray.data_append, Array.toList_append]
set_option maxRecDepth 100000 in
theorem valid_of {x : Nat} (h : badS x = false) : Utf8.valid (Int.ofNat x) = true := by
  rw [badS_false] at h
  unfold Utf8.valid
  have e : Int.ofNat x = (x : Int) := rfl
  rw [e]
  simp; omega
theorem enc_eq {x : Nat} (h : badS x = false) : Utf8.encode (Int.ofNat x) = (if x < 0x80 then ⟨#[UInt8.ofNat x]⟩
    else if x < 0x800 then ⟨#[UInt8.ofNat (0xC0 + x / 64), UInt8.ofNat (0x80 + x % 64)]⟩
    else if x < 0x10000 then ⟨#[UInt8.ofNat (0xE0 + x / 4096), UInt8.ofNat (0x80 + x / 64 % 64), UInt8.ofNat (0x80 + x % 64)]⟩
    else ⟨#[UInt8.ofNat (0xF0 + x / 262144), UInt8.ofNat (0x80 + x / 4096 % 64), UInt8.ofNat (0x80 + x / 64 % 64), UInt8.ofNat (0x80 + x % 64)]⟩ : ByteArray) := by
  unfold Utf8.encode
  rw [valid_of h]
  rfl
theorem enc1 {x : Nat} (h : x < 128) : encN x = [UInt8.ofNat x] := by
  rw [encN, enc_eq (badS_false.2 (by omega)), if_pos h]
theorem enc2 {x : Nat} (h0 : 128 ≤ x) (h : x < 2048) : encN x = [UInt8.ofNat (192 + x / 64), UInt8.ofNat (128 + x % 64)] := by
  rw [encN, enc_eq (badS_false.2 (by omega)), if_neg (by omega), if_pos h]
theorem enc3 {x : Nat} (hb : badS x = false) (h0 : 2048 ≤ x) (h : x < 65536) : encN x = [UInt8.ofNat (224 + x / 4096), UInt8.ofNat (128 + x / 64 % 64), UInt8.ofNat (128 + x % 64)] := by
  rw [encN, enc_eq hb, if_neg (by omega), if_neg (by omega), if_pos h]
theorem enc4 {x : Nat} (hb : badS x = false) (h0 : 65536 ≤ x) : encN x = [UInt8.ofNat (240 + x / 262144), UInt8.ofNat (128 + x / 4096 % 64), UInt8.ofNat (128 + x / 64 % 64), UInt8.ofNat (128 + x % 64)] := by
  rw [encN, enc_eq hb, if_neg (by omega), if_neg (by omega), if_neg (by omega)]
set_option maxRecDepth 100000 in
theorem encN_len (x : Nat) : (encN x).length ≤ 4 := by
  have := encode_size_le (Int.ofNat x)
  unfold encN
  rw [dLen]; exact this
theorem bvN {n : Nat} (h : n < 256) : bv (UInt8.ofNat n) = .int .u8 (n : Int) := by
  simp [bv, Nat.mod_eq_of_lt h]
theorem utf_len (l : List Nat) : (utf l).data.toList.length ≤ 4 * l.length := by
  refine snocInd (P := fun l => (utf l).data.toList.length ≤ 4 * l.length) (by simp [utf_nil]) (fun l c ih => ?_) l
  rw [utf_snoc, List.length_append, List.length_append, List.length_singleton]
  have := encN_len c
  omega

theorem infoB : (Tryz.prog.info? 5).map (fun i => (i.zero, i.size, i.bytes)) = some (some (.int .u8 0), 1, 1) := by kernel_rfl
theorem infoI : (Tryz.prog.info? 3).map (fun i => (i.zero, i.size, i.bytes)) = some (some (.int .i64 0), 1, 8) := by kernel_rfl

/-- Bytes that lie in a block of their own are put behind a row. -/
theorem appB (base : Nat) (v : Value) (D : List Value) (cs : Array Value) (w w0 : World) (hown : w.ownsRow base 5 1 v D.length D) (hD : D.length + cs.size ≤ 10000000) (h1 : ∀ u ∈ cs.toList, u.oneCell' = true) (hb : base ≤ w.heap.size) (hB : Below base w0 w) :
    ∃ v' w1, (Builtin.append_ #[34, 34] 34 #[v, .slice (some ⟨w.heap.size, 0, none⟩) cs.size cs.size]).run Tryz.prog (w.alloc (.cells cs 5)) = .ok v' w1 ∧ w1.ownsRow base 5 1 v' (D ++ cs.toList).length (D ++ cs.toList) ∧ Below base w0 w1 := by
  obtain ⟨i0, hi, hz0, hz1, hz2⟩ := info_parts infoB
  have hnews : ∀ j u, cs.toList[j]? = some u → (w.alloc (.cells cs 5)).cell? ((⟨w.heap.size, 0, none⟩ : Addr).add j) = some u :=
    World.news_of_block (cs := cs) (t := 5) (fr := (0, 0)) (heap_alloc_new w _)
  obtain ⟨v', w1, hrun, hown', hgrow, _⟩ := run_append_own (P := Tryz.prog) (w.alloc (.cells cs 5)) base 34 34 5 i0 (.int .u8 0) 1 1 Tryz.underlying34 hi hz0 hz1 hz2 rfl (by decide)
    v D.length D (hown.alloc _) ⟨w.heap.size, 0, none⟩ cs.size cs.size cs.toList (by simp) hnews h1 (by unfold maxLen; omega) (by omega) (by simp; omega)
  refine ⟨v', w1, hrun, ?_, (hB.alloc hb _).grown hgrow (by simp; omega) (fun q hq => (hown.lt q hq).1)⟩
  rw [List.length_append, Array.length_toList]; exact hown'

theorem bytes_back (base : Nat) (v : Value) (l : List UInt8) (w : World) (hown : w.ownsRow base 5 1 v l.length (l.map bv)) : (convert 34 9 v).run Tryz.prog w = .ok (.string ⟨l.toArray⟩) w := by
  rcases hown.2 with ⟨rfl, hn⟩ | ⟨g, cap, cur, rfl, hgb, hg, hnc, hcm, hcs, hct⟩
  · obtain rfl : l = [] := List.eq_nil_of_length_eq_zero hn
    simp [convert, run_underlying Tryz.underlying34, run_underlying Tryz.underlying9, run_underlying Tryz.underlying5]
    rfl
  · refine run_convert_bytes_back (P := Tryz.prog) w 34 9 5 ⟨g, 0, none⟩ cap l Tryz.underlying34 Tryz.underlying5 Tryz.underlying9 (fun j hj => ?_)
    have h := hown.cellAt j (by omega)
    rw [Addr.add_lit, Nat.zero_add, h, List.getElem?_map, List.getElem?_eq_getElem hj]; rfl

set_option maxRecDepth 1000000 in
set_option maxHeartbeats 2000000 in
theorem RefBytes_any (b0 : Nat) (v : Value) (L : List Nat) (w : World) (hown : w.ownsRow b0 3 1 v L.length (L.map iv)) (hL : L.length ≤ 1000000) (hbad : ∀ x ∈ L, badS x = false) :
    Calls Tryz.prog 145 #[v] w fun e w' => e = .returned (.string (utf L)) ∧ Below w.heap.size w w' := by
  have HOwn := Lib.hid hown
  have HBad := Lib.hid hbad
  obtain ⟨a, cap, rfl⟩ : ∃ a cap, v = .slice a L.length cap := by
    rcases hown.2 with ⟨rfl, hn⟩ | ⟨g, cap, cur, rfl, hgb, hg, hnc, hcm, hcs, hct⟩
    · exact ⟨none, 0, by rw [hn]⟩
    · exact ⟨_, _, rfl⟩
  clear hown hbad
  go_enter Tryz.func145, Tryz.ntmps145
  go_wp2
  go_loopw [3, 4] (fun b i wr => ∃ k : Nat, k ≤ L.length ∧ i = .int .i64 k ∧ Hid (wr.ownsRow w.heap.size 5 1 b (utf (L.take k)).data.toList.length ((utf (L.take k)).data.toList.map bv)) ∧ Hid (Below w.heap.size w wr)) (fun _ i _ => L.length - (intOf i).toNat)
  case atStart => exact ⟨0, Nat.zero_le _, rfl, Lib.hid (by rw [List.take_zero]; exact World.ownsRow_nil _ _ _ _), Lib.hid (Below.refl _ _)⟩
  case round =>
    obtain ⟨k, hk, rfl, HR, HB⟩ := hrel
    by_cases hlt : k < L.length
    · obtain ⟨x, Hx⟩ : ∃ x, Hid (L[k] = x) := ⟨_, Lib.hid rfl⟩
      have hbx : badS x = false := HBad.out x (by rw [← Hx.out]; exact List.getElem_mem hlt)
      have hxl : x ≤ 1114111 := (badS_false.1 hbx).1
      have HBx := Lib.hid hbx
      obtain ⟨g, Hg⟩ : ∃ g, Hid (a = some ⟨g, 0, none⟩ ∧ g < w.heap.size) := by
        rcases HOwn.out.2 with ⟨hv, hn⟩ | ⟨g, cap, cur, hv, hgb, hg, hnc, hcm, hcs, hct⟩
        · omega
        · cases hv
          exact ⟨g, Lib.hid ⟨rfl, (Array.getElem?_eq_some_iff.1 hg).1⟩⟩
      obtain ⟨hga, hgl⟩ := Hg.out
      subst hga
      have hcell : wr.cell? ⟨g, k, none⟩ = some (.int .i64 (x : Int)) := by
        rw [HB.out.cell (p := ⟨g, k, none⟩) hgl, HOwn.out.cellAt k (by omega), List.getElem?_map, List.getElem?_eq_getElem hlt, Hx.out]; rfl
      have HTk : Hid (L.take (k + 1) = L.take k ++ [x]) := Lib.hid (by rw [List.take_succ_eq_append_getElem hlt, Hx.out])
      have hlen := utf_len (L.take k)
      rw [List.length_take] at hlen
      have HLen := Lib.hid hlen
      clear hlen hbx
      have HStep : Hid (∀ cs : Array Value, cs.toList = (encN x).map bv → ∃ v' w1, (Builtin.append_ #[34, 34] 34 #[u3, .slice (some ⟨wr.heap.size, 0, none⟩) cs.size cs.size]).run Tryz.prog (wr.alloc (.cells cs 5)) = .ok v' w1 ∧
          Hid (w1.ownsRow w.heap.size 5 1 v' (utf (L.take (k + 1))).data.toList.length ((utf (L.take (k + 1))).data.toList.map bv)) ∧ Hid (Below w.heap.size w w1)) := Lib.hid (fun cs hcs => by
        have hl2 := encN_len x
        have hz : cs.size = (encN x).length := by rw [← Array.length_toList, hcs, List.length_map]
        obtain ⟨v', w1, h1, h2, h3⟩ := appB w.heap.size u3 ((utf (L.take k)).data.toList.map bv) cs wr w (by rw [List.length_map]; exact HR.out) (by rw [List.length_map]; have := HLen.out; omega) (by
          rw [hcs]; intro u hu; obtain ⟨c, _, rfl⟩ := List.mem_map.1 hu; rfl) HB.out.size HB.out
        refine ⟨v', w1, h1, Lib.hid ?_, Lib.hid h3⟩
        rw [HTk.out, utf_snoc, List.map_append, ← hcs]
        simpa [hcs] using h2)
      by_cases h1 : x < 128
      · obtain ⟨v', w1, hrun, H1, H2⟩ := HStep.out #[.int .u8 (x : Int)] (by rw [enc1 h1]; simp only [List.map_cons, List.map_nil]; rw [bvN (by omega)]; try simp)
        have HRun := Lib.hid hrun
        clear hrun
        go_wp2_with (at_builtin; refine Lib.wpList_append_run _ rfl _ _ _ _ rfl _ _ rfl rfl _ _ HRun.out ?_)
        exact ⟨⟨k + 1, by omega, by go_num, H1, H2⟩, by simp [intOf]; omega⟩
      · by_cases h2 : x < 2048
        · obtain ⟨v', w1, hrun, H1, H2⟩ := HStep.out #[.int .u8 (192 + (x : Int) / 64), .int .u8 (128 + (x : Int) % 64)] (by rw [enc2 (by omega) h2]; simp only [List.map_cons, List.map_nil]; rw [bvN (by omega), bvN (by omega)]; simp)
          have HRun := Lib.hid hrun
          clear hrun
          go_wp2_with (at_builtin; refine Lib.wpList_append_run _ rfl _ _ _ _ rfl _ _ rfl rfl _ _ HRun.out ?_)
          exact ⟨⟨k + 1, by omega, by go_num, H1, H2⟩, by simp [intOf]; omega⟩
        · by_cases h3 : x < 65536
          · obtain ⟨v', w1, hrun, H1, H2⟩ := HStep.out #[.int .u8 (224 + (x : Int) / 4096), .int .u8 (128 + (x : Int) / 64 % 64), .int .u8 (128 + (x : Int) % 64)] (by rw [enc3 HBx.out (by omega) h3]; simp only [List.map_cons, List.map_nil]; rw [bvN (by omega), bvN (by omega), bvN (by omega)]; simp)
            have HRun := Lib.hid hrun
            clear hrun
            go_wp2_with (at_builtin; refine Lib.wpList_append_run _ rfl _ _ _ _ rfl _ _ rfl rfl _ _ HRun.out ?_)
            exact ⟨⟨k + 1, by omega, by go_num, H1, H2⟩, by simp [intOf]; omega⟩
          · obtain ⟨v', w1, hrun, H1, H2⟩ := HStep.out #[.int .u8 (240 + (x : Int) / 262144), .int .u8 (128 + (x : Int) / 4096 % 64), .int .u8 (128 + (x : Int) / 64 % 64), .int .u8 (128 + (x : Int) % 64)] (by rw [enc4 HBx.out (by omega)]; simp only [List.map_cons, List.map_nil]; rw [bvN (by omega), bvN (by omega), bvN (by omega), bvN (by omega)]; simp)
            have HRun := Lib.hid hrun
            clear hrun
            go_wp2_with (at_builtin; refine Lib.wpList_append_run _ rfl _ _ _ _ rfl _ _ rfl rfl _ _ HRun.out ?_)
            exact ⟨⟨k + 1, by omega, by go_num, H1, H2⟩, by simp [intOf]; omega⟩
    · have HE : Hid (L.take k = L) := Lib.hid (List.take_of_length_le (by omega))
      rw [HE.out] at HR
      have hcv := bytes_back _ _ _ _ HR.out
      go_wp2
      go_ret
      exact ⟨rfl, HB.out⟩

end Go.Proofs.YtdifdikfgkiocaaGreatDoor
