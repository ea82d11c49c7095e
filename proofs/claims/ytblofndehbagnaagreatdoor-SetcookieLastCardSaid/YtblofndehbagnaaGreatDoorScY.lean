/-
  What comes last is told: more parts behind a text.
-/
import Derived.Test.YtblofndehbagnaaGreatDoorScT
namespace Go.Proofs.YtblofndehbagnaaGreatDoor
open Go.RowKit

theorem last_app {l X : List UInt8} {t : Cki} (h : prsL l = (t, 0)) (hl : l.length ≤ 60000) (hc : X.any ctlB = false) (hx : X.length ≤ 5000) :
    prsL (l ++ 59 :: X) = (((parts 59 X).map asB).foldl heard t, 0) := by
  unfold prsL at h ⊢
  rw [if_neg (by omega)] at h
  rw [if_neg (by rw [List.length_append, List.length_cons]; omega)]
  split at h
  · cases h
  · rename_i h1
    have h59 : ctlB 59 = false := by decide
    rw [if_neg (by rw [List.any_append, List.any_cons, hc, h59]; simpa using h1), parts_append, List.map_append]
    exact prsF_more (by simp [parts_ne]) _ h
def say0 (n v : List UInt8) : Prop := (∀ c ∈ n, c ≠ 61) ∧ ∀ t : Cki, say t ((trimL n).map low) (asB (trimL v)) = t
theorem heard_idle {n v : List UInt8} (h : say0 n v) (t : Cki) : heard t (asB (n ++ 61 :: v)) = t := by
  rw [heard_at t n v h.1]
  split
  · exact h.2 t
  · rfl
theorem tailA_idle (t : Cki) : ((parts 59 [32, 120, 59, 32, 121, 61, 122, 59, 59, 32, 61, 59, 32, 77, 97, 120, 45, 65, 103, 101, 61, 97, 59, 32, 69, 120, 112, 105, 114, 101, 115, 61, 98]).map asB).foldl heard t = t := by
  have e : parts 59 [32, 120, 59, 32, 121, 61, 122, 59, 59, 32, 61, 59, 32, 77, 97, 120, 45, 65, 103, 101, 61, 97, 59, 32, 69, 120, 112, 105, 114, 101, 115, 61, 98] = [[32, 120], [32, 121] ++ 61 :: [122], [], [32] ++ 61 :: [], [32, 77, 97, 120, 45, 65, 103, 101] ++ 61 :: [97], [32, 69, 120, 112, 105, 114, 101, 115] ++ 61 :: [98]] := by decide
  rw [e]
  simp only [List.map_cons, List.map_nil, List.foldl_cons, List.foldl_nil]
  rw [heard_not t [32, 120] (by decide), show say t ((trimL [32, 120]).map low) noB = t from rfl]
  rw [heard_idle (n := [32, 121]) (v := [122]) ⟨by decide, fun t => rfl⟩]
  rw [heard_not t [] (by decide), show say t ((trimL []).map low) noB = t from rfl]
  rw [heard_idle (n := [32]) (v := []) ⟨by decide, fun t => rfl⟩]
  rw [heard_idle (n := [32, 77, 97, 120, 45, 65, 103, 101]) (v := [97]) ⟨by decide, fun t => rfl⟩]
  rw [heard_idle (n := [32, 69, 120, 112, 105, 114, 101, 115]) (v := [98]) ⟨by decide, fun t => by
    rw [show (trimL [32, 69, 120, 112, 105, 114, 101, 115]).map low = kEx from rfl]
    unfold say
    rw [if_pos rfl]
    unfold sayEx
    rw [if_neg (by decide +kernel)]⟩]

/-- The tail that tells. -/
def tlR (k : Nat) : List UInt8 := [32, 112, 65, 84, 72, 61, 47, 112, 59, 32, 68, 111, 109, 97, 105, 110, 61, 46, 68, 59, 32, 115, 101, 99, 117, 114, 101, 61, 120, 59, 32, 72, 84, 84, 80, 111, 110, 108, 121, 59, 32, 83, 97, 109, 101, 83, 105, 116, 101, 61] ++ (if k = 0 then [63] else if k = 1 then [83, 84, 82, 73, 67, 84] else if k = 2 then [108, 97, 120] else [78, 111, 110, 101])
def tlB (d : List UInt8) (k : Nat) : List UInt8 := ([32, 77, 65, 88, 45, 97, 103, 101, 32] ++ 61 :: (32 :: (d ++ [32]))) ++ 59 :: tlR k
def lastC (t : Cki) (n : Int) (k : Nat) : Cki := { t with ag := n, ha := true, pa := asB [47, 112], dm := asB [100], se := true, hi := true, si := k }
theorem heard_say {n v : List UInt8} (hn : ∀ c ∈ n, c ≠ 61) (hl : (trimL v).length ≤ 1024) (u u' : Cki) (h : say u ((trimL n).map low) (asB (trimL v)) = u') : heard u (asB (n ++ 61 :: v)) = u' := by
  rw [heard_at u n v hn, if_pos hl, h]
theorem dig_bl {c : UInt8} (h : inR 48 57 c.toNat = true) : bl c = false := by
  obtain ⟨h0, h1⟩ := inR_true.1 h
  have : c ≠ 32 ∧ c ≠ 9 := ⟨fun e => by subst e; exact absurd h0 (by decide), fun e => by subst e; exact absurd h0 (by decide)⟩
  unfold bl
  simp [this]
theorem dig_trim {d : List UInt8} (h : allR 48 57 d = true) : trimL (32 :: (d ++ [32])) = d := by
  have hd : ∀ c ∈ d, bl c = false := fun c hc => dig_bl (List.all_eq_true.1 h c hc)
  rw [trimL_cons _ _ (by decide), trimL_snoc _ _ (by decide)]
  exact trimL_of (fun c hc => hd c (List.mem_of_mem_head? hc)) (fun c hc => hd c (List.mem_of_getLast? hc))
theorem tailB_says (t : Cki) (d : List UInt8) (n : Int) (k : Nat) (hk : k < 4) (hd : allR 48 57 d = true) (h0 : d ≠ []) (hl : d.length ≤ 1024) (hn : num d = n) (hm : n ≤ 2147483647) :
    ((parts 59 (tlB d k)).map asB).foldl heard t = lastC t n k := by
  have h59 : ∀ c ∈ [32, 77, 65, 88, 45, 97, 103, 101, 32] ++ 61 :: (32 :: (d ++ [32])), c ≠ 59 := fun c hc e => by
    subst e
    rcases List.mem_append.1 hc with hc | hc
    · exact absurd hc (by decide)
    · rcases List.mem_cons.1 hc with hc | hc
      · exact absurd hc (by decide)
      · rcases List.mem_cons.1 hc with hc | hc
        · exact absurd hc (by decide)
        · rcases List.mem_append.1 hc with hc | hc
          · have := List.all_eq_true.1 hd 59 hc
            exact absurd this (by decide)
          · exact absurd hc (by decide)
  unfold tlB
  rw [parts_append, parts_none 59 _ h59, List.cons_append, List.nil_append, List.map_cons, List.foldl_cons]
  have e1 : heard t (asB ([32, 77, 65, 88, 45, 97, 103, 101, 32] ++ 61 :: (32 :: (d ++ [32])))) = { t with ag := n, ha := true } := by
    refine heard_say (by decide) (by rw [dig_trim hd]; exact hl) _ _ ?_
    rw [dig_trim hd, show (trimL [32, 77, 65, 88, 45, 97, 103, 101, 32]).map low = kAg from rfl]
    unfold say
    rw [if_neg (by decide), if_pos rfl]
    unfold sayAg
    have h45 : ¬ d.head? = some 45 := fun e => by
      have := List.all_eq_true.1 hd 45 (List.mem_of_mem_head? e)
      exact absurd this (by decide)
    have hag : ageL d = d := by unfold ageL; rw [if_neg h45]
    have hb : ageB d = true := by
      unfold ageB
      rw [hag, hd]
      cases d with
      | nil => exact absurd rfl h0
      | cons => rfl
    have hv : ageV d = n := by
      unfold ageV
      rw [if_neg h45, hag, hn]
      omega
    rw [show (asB d).data.toList = d from rfl, hb, if_pos rfl, hv]
  rw [e1]
  rcases (show k = 0 ∨ k = 1 ∨ k = 2 ∨ k = 3 by omega) with rfl | rfl | rfl | rfl
  · have e : parts 59 (tlR 0) = [[32, 112, 65, 84, 72] ++ 61 :: [47, 112], [32, 68, 111, 109, 97, 105, 110] ++ 61 :: [46, 68], [32, 115, 101, 99, 117, 114, 101] ++ 61 :: [120], [32, 72, 84, 84, 80, 111, 110, 108, 121], [32, 83, 97, 109, 101, 83, 105, 116, 101] ++ 61 :: [63]] := by decide
    rw [e]
    simp only [List.map_cons, List.map_nil, List.foldl_cons, List.foldl_nil]
    rw [heard_say (n := [32, 112, 65, 84, 72]) (v := [47, 112]) (by decide) (by decide) _ _ rfl]
    rw [heard_say (n := [32, 68, 111, 109, 97, 105, 110]) (v := [46, 68]) (by decide) (by decide) _ _ rfl]
    rw [heard_say (n := [32, 115, 101, 99, 117, 114, 101]) (v := [120]) (by decide) (by decide) _ _ rfl]
    rw [heard_not _ [32, 72, 84, 84, 80, 111, 110, 108, 121] (by decide)]
    rw [heard_say (n := [32, 83, 97, 109, 101, 83, 105, 116, 101]) (v := [63]) (by decide) (by decide) _ _ rfl]
    rfl
  · have e : parts 59 (tlR 1) = [[32, 112, 65, 84, 72] ++ 61 :: [47, 112], [32, 68, 111, 109, 97, 105, 110] ++ 61 :: [46, 68], [32, 115, 101, 99, 117, 114, 101] ++ 61 :: [120], [32, 72, 84, 84, 80, 111, 110, 108, 121], [32, 83, 97, 109, 101, 83, 105, 116, 101] ++ 61 :: [83, 84, 82, 73, 67, 84]] := by decide
    rw [e]
    simp only [List.map_cons, List.map_nil, List.foldl_cons, List.foldl_nil]
    rw [heard_say (n := [32, 112, 65, 84, 72]) (v := [47, 112]) (by decide) (by decide) _ _ rfl]
    rw [heard_say (n := [32, 68, 111, 109, 97, 105, 110]) (v := [46, 68]) (by decide) (by decide) _ _ rfl]
    rw [heard_say (n := [32, 115, 101, 99, 117, 114, 101]) (v := [120]) (by decide) (by decide) _ _ rfl]
    rw [heard_not _ [32, 72, 84, 84, 80, 111, 110, 108, 121] (by decide)]
    rw [heard_say (n := [32, 83, 97, 109, 101, 83, 105, 116, 101]) (v := [83, 84, 82, 73, 67, 84]) (by decide) (by decide) _ _ rfl]
    rfl
  · have e : parts 59 (tlR 2) = [[32, 112, 65, 84, 72] ++ 61 :: [47, 112], [32, 68, 111, 109, 97, 105, 110] ++ 61 :: [46, 68], [32, 115, 101, 99, 117, 114, 101] ++ 61 :: [120], [32, 72, 84, 84, 80, 111, 110, 108, 121], [32, 83, 97, 109, 101, 83, 105, 116, 101] ++ 61 :: [108, 97, 120]] := by decide
    rw [e]
    simp only [List.map_cons, List.map_nil, List.foldl_cons, List.foldl_nil]
    rw [heard_say (n := [32, 112, 65, 84, 72]) (v := [47, 112]) (by decide) (by decide) _ _ rfl]
    rw [heard_say (n := [32, 68, 111, 109, 97, 105, 110]) (v := [46, 68]) (by decide) (by decide) _ _ rfl]
    rw [heard_say (n := [32, 115, 101, 99, 117, 114, 101]) (v := [120]) (by decide) (by decide) _ _ rfl]
    rw [heard_not _ [32, 72, 84, 84, 80, 111, 110, 108, 121] (by decide)]
    rw [heard_say (n := [32, 83, 97, 109, 101, 83, 105, 116, 101]) (v := [108, 97, 120]) (by decide) (by decide) _ _ rfl]
    rfl
  · have e : parts 59 (tlR 3) = [[32, 112, 65, 84, 72] ++ 61 :: [47, 112], [32, 68, 111, 109, 97, 105, 110] ++ 61 :: [46, 68], [32, 115, 101, 99, 117, 114, 101] ++ 61 :: [120], [32, 72, 84, 84, 80, 111, 110, 108, 121], [32, 83, 97, 109, 101, 83, 105, 116, 101] ++ 61 :: [78, 111, 110, 101]] := by decide
    rw [e]
    simp only [List.map_cons, List.map_nil, List.foldl_cons, List.foldl_nil]
    rw [heard_say (n := [32, 112, 65, 84, 72]) (v := [47, 112]) (by decide) (by decide) _ _ rfl]
    rw [heard_say (n := [32, 68, 111, 109, 97, 105, 110]) (v := [46, 68]) (by decide) (by decide) _ _ rfl]
    rw [heard_say (n := [32, 115, 101, 99, 117, 114, 101]) (v := [120]) (by decide) (by decide) _ _ rfl]
    rw [heard_not _ [32, 72, 84, 84, 80, 111, 110, 108, 121] (by decide)]
    rw [heard_say (n := [32, 83, 97, 109, 101, 83, 105, 116, 101]) (v := [78, 111, 110, 101]) (by decide) (by decide) _ _ rfl]
    rfl

end Go.Proofs.YtblofndehbagnaaGreatDoor
