/-
  Plain facts: the parts of a text, and of two with such a byte between.
-/
import Derived.Test.YtjeejpgkhjblnaaDoorSplM
import Derived.Test.YtjeejpgkhjblnaaDoorTrmM
namespace Go.Proofs.YtjeejpgkhjblnaaDoor

theorem trimL_sub (l : List UInt8) (c : UInt8) (h : c ∈ trimL l) : c ∈ l := by
  rw [trimL_eq, cutL, cutR] at h
  have h1 := (List.dropWhile_sublist bl (l := (l.reverse.dropWhile bl).reverse)).subset h
  have h2 := (List.dropWhile_sublist bl (l := l.reverse)).subset (List.mem_reverse.1 h1)
  exact List.mem_reverse.1 h2
theorem partsA_trim (a : UInt8) (s p : ByteArray) (h : p ∈ partsA a s) : trimA p = p := by
  obtain ⟨r, _, rfl⟩ := List.mem_map.1 h
  exact trimA_trimA r
theorem partsA_size (a : UInt8) (s p : ByteArray) (h : p ∈ partsA a s) : p.size ≤ s.size := by
  obtain ⟨r, hr, rfl⟩ := List.mem_map.1 h
  exact Nat.le_trans (trimA_le r) (rawP_size a s r hr)
theorem partsA_no (a : UInt8) (s p : ByteArray) (h : p ∈ partsA a s) (k : Nat) (hk : k < p.size) : p[k] ≠ a := by
  have h1 : p.data.toList ∈ (parts a s.data.toList).map trimL := by rw [← partsA_data]; exact List.mem_map_of_mem h
  obtain ⟨l, hl, he⟩ := List.mem_map.1 h1
  have hm : p[k] ∈ p.data.toList := by
    have e : p[k] = p.data[k]'hk := rfl
    rw [e]; simp
  rw [← he] at hm
  exact (parts_mem a _ l hl _ (trimL_sub l _ hm)).2
theorem partsA_count (a : UInt8) (s : ByteArray) : (partsA a s).length = s.data.toList.count a + 1 := by
  rw [partsA_len, parts_count]
theorem data_inj {x y : List ByteArray} (h : x.map (·.data.toList) = y.map (·.data.toList)) : x = y := by
  induction x generalizing y with
  | nil => cases y with
    | nil => rfl
    | cons b y => cases h
  | cons b x ih => cases y with
    | nil => cases h
    | cons c y =>
      simp only [List.map_cons, List.cons.injEq] at h
      rw [text_ext h.1, ih h.2]
theorem partsA_cat (a : UInt8) (s t : ByteArray) : partsA a (s ++ ⟨#[a]⟩ ++ t) = partsA a s ++ partsA a t := data_inj (by
  rw [List.map_append, partsA_data, partsA_data, partsA_data, cat_toList, cat_toList]
  have e : (⟨#[a]⟩ : ByteArray).data.toList = [a] := rfl
  rw [e, List.append_assoc, List.singleton_append, parts_append, List.map_append])
theorem count_take (l : List UInt8) (a : UInt8) (k : Nat) (h : k < l.length) : (l.take (k + 1)).count a = (l.take k).count a + if l[k] = a then 1 else 0 := by
  rw [List.take_succ_eq_append_getElem h, List.count_append, List.count_singleton]
  simp
theorem partsA_pos (a : UInt8) (s : ByteArray) : 0 < (partsA a s).length := by rw [partsA_count]; omega
theorem partsA_len_le (a : UInt8) (s : ByteArray) : (partsA a s).length ≤ s.size + 1 := by
  rw [partsA_count]
  have h := List.count_le_length (a := a) (l := s.data.toList)
  have e : s.data.toList.length = s.size := by simp
  omega

end Go.Proofs.YtjeejpgkhjblnaaDoor
