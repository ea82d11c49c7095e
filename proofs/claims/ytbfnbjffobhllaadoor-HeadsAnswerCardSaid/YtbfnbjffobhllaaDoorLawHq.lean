/-
  footmanlaw12.HeadsAnswer: a response that may be, in every form.
-/
import Derived.Test.YtbfnbjffobhllaaDoorHdY
import Derived.Test.YtbfnbjffobhllaaDoorHdR
import Derived.Test.YtbfnbjffobhllaaDoorHdQ
import Derived.Test.YtbfnbjffobhllaaDoorDrw
namespace Go.Proofs.YtbfnbjffobhllaaDoor
open Go.RowKit

/-- What is known of what an operation answers. -/
inductive Wd where
  | val (v : Value)
  | row (n : Nat) (cs : Array Value) (t : TypeId)
  | ptr (u : Value)
def Wd.ok : Wd → Value → World → Prop
  | .val u, v, _ => v = u
  | .row n cs t, v, w => ∃ g, v = .slice (some ⟨g, 0, none⟩) n n ∧ w.heap[g]? = some (.cells cs t (0, 0))
  | .ptr u, v, w => ∃ p, v = .pointer (some p) ∧ w.cell? p = some u
theorem Wd.mono {d : Wd} {v : Value} {w w' : World} (hb : Below w.heap.size w w') (h : d.ok v w) : d.ok v w' := by
  cases d with
  | val u => exact h
  | row n cs t =>
    obtain ⟨g, h1, h2⟩ := h
    exact ⟨g, h1, (hb.block g (lt_of_block h2)).trans h2⟩
  | ptr u =>
    obtain ⟨p, h1, h2⟩ := h
    exact ⟨p, h1, (hb.cell (p := p) (block_lt_of_cell h2)).trans h2⟩
def verA (h : Nat) : ByteArray := if h % 2 = 0 then ⟨#[48]⟩ else ⟨#[49]⟩
def verL (h : Nat) : List UInt8 := if h % 2 = 0 then http0 else http1
def wrdL (h : Nat) : List UInt8 := if h / 2 % 3 = 0 then [] else if h / 2 % 3 = 1 then [32] else [32, 110, 111, 116, 32, 115, 111, 58, 32, 128]
def wrdA (h : Nat) : ByteArray := asB (wrdL h)
def preL (h : Nat) : List UInt8 := if h / 8 % 3 = 0 then [] else if h / 8 % 3 = 1 then [32] else [9, 32, 9]
def pstL (h : Nat) : List UInt8 := if h / 32 % 2 = 0 then [] else [32, 9]
theorem two_of {n : Nat} (h : n < 2) : n = 0 ∨ n = 1 := by omega
theorem three_of {n : Nat} (h : n < 3) : n = 0 ∨ n = 1 ∨ n = 2 := by omega
theorem verA_at (h : Nat) : (#[.string ⟨#[48]⟩, .string ⟨#[49]⟩] : Array Value)[h % 2]? = some (.string (verA h)) := by
  unfold verA
  rcases two_of (Nat.mod_lt h (show 0 < 2 by decide)) with e | e <;> rw [e] <;> rfl
theorem wrdA_at (h : Nat) : (#[.string ⟨#[]⟩, .string ⟨#[32]⟩, .string ⟨#[32, 110, 111, 116, 32, 115, 111, 58, 32, 128]⟩] : Array Value)[h / 2 % 3]? = some (.string (wrdA h)) := by
  unfold wrdA wrdL
  rcases three_of (Nat.mod_lt (h / 2) (show 0 < 3 by decide)) with e | e | e <;> rw [e] <;> rfl
theorem preL_at (h : Nat) : (#[.string ⟨#[]⟩, .string ⟨#[32]⟩, .string ⟨#[9, 32, 9]⟩] : Array Value)[h / 8 % 3]? = some (.string (asB (preL h))) := by
  unfold preL
  rcases three_of (Nat.mod_lt (h / 8) (show 0 < 3 by decide)) with e | e | e <;> rw [e] <;> rfl
theorem pstL_at (h : Nat) : (#[.string ⟨#[]⟩, .string ⟨#[32, 9]⟩] : Array Value)[h / 32 % 2]? = some (.string (asB (pstL h))) := by
  unfold pstL
  rcases two_of (Nat.mod_lt (h / 32) (show 0 < 2 by decide)) with e | e <;> rw [e] <;> rfl
theorem wrdL_len (h : Nat) : (wrdL h).length ≤ 10 := by unfold wrdL; split <;> (try split) <;> decide
theorem preL_len (h : Nat) : (preL h).length ≤ 3 := by unfold preL; split <;> (try split) <;> decide
theorem pstL_len (h : Nat) : (pstL h).length ≤ 2 := by unfold pstL; split <;> decide
theorem verA_size (h : Nat) : (verA h).size = 1 := by unfold verA; split <;> rfl
theorem evc (a : Act) (v : Value) : a.eval (.const v) = v := rfl
theorem dr_mv {a : Act} {o : Oper} {w : World} (x : Operand) (ho : o.op = .move x ∨ o.op = .assign x) (u : Value) (hx : a.eval x = u) : (execOp a.eval o).run Tryd.prog w = .ok (.value u) w := by
  subst hx
  rcases ho with ho | ho <;> simp [execOp, ho]
theorem dr_guard (b : BinOp) (hb : b = .add ∨ b = .quo ∨ b = .rem) (t : TypeId) (x y : Operand) (u v : Value) (w : World) : (eqGuard b t x y u v).run Tryd.prog w = .ok () w := by
  rcases hb with rfl | rfl | rfl <;> simp [eqGuard]
theorem dr_bin {a : Act} {o : Oper} {w : World} (b : BinOp) (t t2 : TypeId) (x y : Operand) (ho : o.op = .binOp b t x y t2) (u v r : Value) (hx : a.eval x = u) (hy : a.eval y = v) (hb : b = .add ∨ b = .quo ∨ b = .rem)
    (hr : (binOp b t u v).run Tryd.prog w = .ok r w) : (execOp a.eval o).run Tryd.prog w = .ok (.value r) w := by
  subst hx hy
  have hg := dr_guard b hb t x y (a.eval x) (a.eval y) w
  simp [execOp, ho, hg, hr, Result.andThen]
theorem dr_cvt {a : Act} {o : Oper} {w : World} (t u : TypeId) (x : Operand) (ho : o.op = .convert t u x) (v r : Value) (hx : a.eval x = v) (hr : (convert t u v).run Tryd.prog w = .ok r w) : (execOp a.eval o).run Tryd.prog w = .ok (.value r) w := by
  subst hx
  simp [execOp, ho, hr, Result.andThen]
theorem dr_w8 (n : Nat) (h : n < 256) : IntKind.u8.wrap (n : Int) = (n : Int) := by
  have h1 : IntKind.min .u8 = 0 := by decide
  have h2 : IntKind.max .u8 = 255 := by decide
  have h3 : IntKind.u8.bits = 8 := rfl
  first | go_num | (unfold IntKind.wrap; have h4 : IntKind.u8.signed = false := rfl; simp [h3, h4]; omega)
theorem dr_w64 (n : Nat) (h : n < 10000) : IntKind.i64.wrap (n : Int) = (n : Int) := by
  have h3 : IntKind.i64.bits = 64 := rfl
  first | go_num | (unfold IntKind.wrap; simp [h3]; omega)
theorem dr_rem8 (h m : Nat) (M : Int) (hM : M = (m : Int)) (hh : h < 256) (hm : 0 < m) (hm2 : m < 256) (w : World) : (binOp .rem 5 (.int .u8 (h : Int)) (.int .u8 M)).run Tryd.prog w = .ok (.int .u8 ((h % m : Nat) : Int)) w := by
  subst hM
  have h0 : ¬ m = 0 := by omega
  go_simp
  rw [Int.tmod_eq_emod_of_nonneg (by omega)]
theorem dr_quo8 (h m : Nat) (M : Int) (hM : M = (m : Int)) (hh : h < 256) (hm : 0 < m) (hm2 : m < 256) (w : World) : (binOp .quo 5 (.int .u8 (h : Int)) (.int .u8 M)).run Tryd.prog w = .ok (.int .u8 ((h / m : Nat) : Int)) w := by
  subst hM
  have h0 : ¬ m = 0 := by omega
  go_simp
  have := dr_w8 (h / m) (Nat.lt_of_le_of_lt (Nat.div_le_self _ _) hh)
  simpa using this
theorem dr_quo64 (h m : Nat) (M : Int) (hM : M = (m : Int)) (hh : h < 1000) (hm : 0 < m) (hm2 : m < 256) (w : World) : (binOp .quo 3 (.int .i64 (h : Int)) (.int .i64 M)).run Tryd.prog w = .ok (.int .i64 ((h / m : Nat) : Int)) w := by
  subst hM
  have h0 : ¬ m = 0 := by omega
  go_simp
  have := dr_w64 (h / m) (Nat.lt_of_le_of_lt (Nat.div_le_self _ _) (by omega))
  simpa using this
theorem dr_rem64 (h m : Nat) (M : Int) (hM : M = (m : Int)) (hh : h < 1000) (hm : 0 < m) (hm2 : m < 256) (w : World) : (binOp .rem 3 (.int .i64 (h : Int)) (.int .i64 M)).run Tryd.prog w = .ok (.int .i64 ((h % m : Nat) : Int)) w := by
  subst hM
  have h0 : ¬ m = 0 := by omega
  go_simp
  rw [Int.tmod_eq_emod_of_nonneg (by omega)]
theorem dr_add64 (_h : Nat) (m : Nat) (hm : m < 1000) (w : World) : (binOp .add 3 (.int .i64 48) (.int .i64 (m : Int))).run Tryd.prog w = .ok (.int .i64 ((48 + m : Nat) : Int)) w := by
  go_simp
  have := dr_w64 (48 + m) (by omega)
  simpa using this
theorem dr_cv (k : Nat) (hk : k < 256) (w : World) : (convert 3 5 (.int .i64 (k : Int))).run Tryd.prog w = .ok (.int .u8 (k : Int)) w := by
  go_simp
  exact dr_w8 k hk
theorem dr_ix (a : Act) (g n j : Nat) (hj : j < n) (x y : Tmp) (w : World) (hx : a.eval (.tmp x) = .slice (some ⟨g, 0, none⟩) n n) (hy : a.eval (.tmp y) = .int .u8 (j : Int)) (o : Oper) (ho : o.op = .indexAddr 29 (.tmp x) (.tmp y)) :
   (execOp a.eval o).run Tryd.prog w = .ok (.value (.pointer (some ⟨g, j, none⟩))) w := by
  have hji : (j : Int) < (n : Int) := by omega
  unfold execOp
  rw [ho]
  simp only [hx, hy]
  go_simp
theorem dr_ixF (a : Act) (b o n c i : Nat) (hi : i < n) (x y : Tmp) (w : World) (hx : a.eval (.tmp x) = .slice (some ⟨b, o, none⟩) n c) (hy : a.eval (.tmp y) = .int .i64 (i : Int)) (q : Oper) (ho : q.op = .indexAddr 22 (.tmp x) (.tmp y)) :
   (execOp a.eval q).run Tryd.prog w = .ok (.value (.pointer (some ⟨b, o + i * 2, none⟩))) w := by
  have hji : (i : Int) < (n : Int) := by omega
  unfold execOp
  rw [ho]
  simp only [hx, hy]
  go_simp
theorem dr_fa0 (a : Act) (b o : Nat) (x : Tmp) (w : World) (hx : a.eval (.tmp x) = .pointer (some ⟨b, o, none⟩)) (q : Oper) (ho : q.op = .fieldAddr 57 (.tmp x) 0) :
   (execOp a.eval q).run Tryd.prog w = .ok (.value (.pointer (some ⟨b, o, none⟩))) w := by
  unfold execOp
  rw [ho]
  simp only [hx]
  go_simp
theorem dr_fa1 (a : Act) (b o : Nat) (x : Tmp) (w : World) (hx : a.eval (.tmp x) = .pointer (some ⟨b, o, none⟩)) (q : Oper) (ho : q.op = .fieldAddr 57 (.tmp x) 1) :
   (execOp a.eval q).run Tryd.prog w = .ok (.value (.pointer (some ⟨b, o + 1, none⟩))) w := by
  unfold execOp
  rw [ho]
  simp only [hx]
  go_simp
theorem dr_ld (a : Act) (p : Addr) (u : Value) (x : Tmp) (w : World) (hx : a.eval (.tmp x) = .pointer (some p)) (hc : w.cell? p = some u) (o : Oper) (ho : o.op = .load 9 (.tmp x)) :
   (execOp a.eval o).run Tryd.prog w = .ok (.value u) w := by
  unfold execOp
  rw [ho]
  simp only [hx]
  go_simp
theorem dr_add (s t : ByteArray) (h : s.size + t.size ≤ 10000000) (w : World) : (binOp .add 9 (.string s) (.string t)).run Tryd.prog w = .ok (.string (s ++ t)) w := by
  rw [binOp_string_add]
  simp [Op.stringOp]
  omega
theorem dr_row2 (w : World) : (Instr.buildSlice 29 2 #[(0, .string ⟨#[48]⟩), (1, .string ⟨#[49]⟩)]).run Tryd.prog w = .ok (.slice (some ⟨w.heap.size, 0, none⟩) 2 2) (w.alloc (.cells #[.string ⟨#[48]⟩, .string ⟨#[49]⟩] 9)) := by kernel_rfl
theorem dr_row3 (w : World) : (Instr.buildSlice 29 3 #[(0, .string ⟨#[]⟩), (1, .string ⟨#[32]⟩), (2, .string ⟨#[32, 110, 111, 116, 32, 115, 111, 58, 32, 128]⟩)]).run Tryd.prog w = .ok (.slice (some ⟨w.heap.size, 0, none⟩) 3 3) (w.alloc (.cells #[.string ⟨#[]⟩, .string ⟨#[32]⟩, .string ⟨#[32, 110, 111, 116, 32, 115, 111, 58, 32, 128]⟩] 9)) := by kernel_rfl
theorem dr_rowp (w : World) : (Instr.buildSlice 29 3 #[(0, .string ⟨#[]⟩), (1, .string ⟨#[32]⟩), (2, .string ⟨#[9, 32, 9]⟩)]).run Tryd.prog w = .ok (.slice (some ⟨w.heap.size, 0, none⟩) 3 3) (w.alloc (.cells #[.string ⟨#[]⟩, .string ⟨#[32]⟩, .string ⟨#[9, 32, 9]⟩] 9)) := by kernel_rfl
theorem dr_rowq (w : World) : (Instr.buildSlice 29 2 #[(0, .string ⟨#[]⟩), (1, .string ⟨#[32, 9]⟩)]).run Tryd.prog w = .ok (.slice (some ⟨w.heap.size, 0, none⟩) 2 2) (w.alloc (.cells #[.string ⟨#[]⟩, .string ⟨#[32, 9]⟩] 9)) := by kernel_rfl
theorem dr_rowd (a b c : Int) (w : World) : (Instr.buildSlice 24 3 #[(0, .int .u8 a), (1, .int .u8 b), (2, .int .u8 c)]).run Tryd.prog w = .ok (.slice (some ⟨w.heap.size, 0, none⟩) 3 3) (w.alloc (.cells #[.int .u8 a, .int .u8 b, .int .u8 c] 5)) := by kernel_rfl
theorem dr_cvd (g k : Nat) (hk : k < 1000) (w : World) (h : w.heap[g]? = some (.cells #[.int .u8 ((48 + k / 100 : Nat) : Int), .int .u8 ((48 + k / 10 % 10 : Nat) : Int), .int .u8 ((48 + k % 10 : Nat) : Int)] 5 (0, 0))) :
    (convert 24 9 (.slice (some ⟨g, 0, none⟩) 3 3)).run Tryd.prog w = .ok (.string (asB (dig3 k))) w :=
  run_convert_bytes_back (P := Tryd.prog) w 24 9 5 ⟨g, 0, none⟩ 3 (dig3 k) Tryd.underlying24 Tryd.underlying5 Tryd.underlying9 (fun j hj => by
    have e : ∀ m : Nat, m < 256 → (UInt8.ofNat m).toNat = m := fun m hm => by simp; omega
    have hj3 : j = 0 ∨ j = 1 ∨ j = 2 := by
      have : j < 3 := hj
      omega
    rw [add_spot, Nat.zero_add, cell_of_row w g _ _ _ _ h]
    rcases hj3 with rfl | rfl | rfl
    · show _ = some (Value.int .u8 ((UInt8.ofNat (48 + k / 100)).toNat : Int))
      rw [e _ (by omega)]; rfl
    · show _ = some (Value.int .u8 ((UInt8.ofNat (48 + k / 10 % 10)).toNat : Int))
      rw [e _ (by omega)]; rfl
    · show _ = some (Value.int .u8 ((UInt8.ofNat (48 + k % 10)).toNat : Int))
      rw [e _ (by omega)]; rfl)
theorem dr_s5 (h : Nat) : (⟨#[72, 84, 84, 80, 47, 49, 46]⟩ : ByteArray).size + (verA h).size ≤ 10000000 := by
  rw [verA_size]; decide
theorem sz_lit (l : List UInt8) : (asB l).size = l.length := rfl
theorem dr_sz5 (h : Nat) : ((⟨#[72, 84, 84, 80, 47, 49, 46]⟩ : ByteArray) ++ verA h).size = 8 := by
  rw [ByteArray.size_append, verA_size]; rfl
theorem dr_s6 (h : Nat) : ((⟨#[72, 84, 84, 80, 47, 49, 46]⟩ : ByteArray) ++ verA h).size + (⟨#[32]⟩ : ByteArray).size ≤ 10000000 := by
  rw [dr_sz5]; decide
theorem dr_sz6 (h : Nat) : ((⟨#[72, 84, 84, 80, 47, 49, 46]⟩ : ByteArray) ++ verA h ++ (⟨#[32]⟩ : ByteArray)).size = 9 := by
  rw [ByteArray.size_append, dr_sz5]; rfl
theorem dr_s22 (h k : Nat) : ((⟨#[72, 84, 84, 80, 47, 49, 46]⟩ : ByteArray) ++ verA h ++ (⟨#[32]⟩ : ByteArray)).size + (asB (dig3 k)).size ≤ 10000000 := by
  rw [dr_sz6]; show 9 + 3 ≤ _; decide
theorem dr_sz22 (h k : Nat) : ((⟨#[72, 84, 84, 80, 47, 49, 46]⟩ : ByteArray) ++ verA h ++ (⟨#[32]⟩ : ByteArray) ++ asB (dig3 k)).size = 12 := by
  rw [ByteArray.size_append, dr_sz6]; rfl
theorem wrdA_size (h : Nat) : (wrdA h).size ≤ 10 := wrdL_len h
theorem dr_s29 (h k : Nat) : ((⟨#[72, 84, 84, 80, 47, 49, 46]⟩ : ByteArray) ++ verA h ++ (⟨#[32]⟩ : ByteArray) ++ asB (dig3 k)).size + (wrdA h).size ≤ 10000000 := by
  rw [dr_sz22]; have := wrdA_size h; omega
theorem dr_s30 (h k : Nat) : ((⟨#[72, 84, 84, 80, 47, 49, 46]⟩ : ByteArray) ++ verA h ++ (⟨#[32]⟩ : ByteArray) ++ asB (dig3 k) ++ wrdA h).size + (⟨#[13, 10]⟩ : ByteArray).size ≤ 10000000 := by
  rw [ByteArray.size_append, dr_sz22]
  have := wrdA_size h
  have e : (⟨#[13, 10]⟩ : ByteArray).size = 2 := rfl
  omega
def L7 (k h : Nat) : List Wd :=
  [.row 2 #[.string ⟨#[48]⟩, .string ⟨#[49]⟩] 9,
   .val (.int .u8 ((h : Nat) : Int)),
   .val (.int .u8 ((h % 2 : Nat) : Int)),
   .ptr (.string (verA h)),
   .val (.string (verA h)),
   .val (.string ((⟨#[72, 84, 84, 80, 47, 49, 46]⟩ : ByteArray) ++ verA h)),
   .val (.string (((⟨#[72, 84, 84, 80, 47, 49, 46]⟩ : ByteArray) ++ verA h) ++ (⟨#[32]⟩ : ByteArray))),
   .val (.int .i64 ((k : Nat) : Int)),
   .val (.int .i64 ((k / 100 : Nat) : Int)),
   .val (.int .i64 ((48 + k / 100 : Nat) : Int)),
   .val (.int .u8 ((48 + k / 100 : Nat) : Int)),
   .val (.int .i64 ((k : Nat) : Int)),
   .val (.int .i64 ((k / 10 : Nat) : Int)),
   .val (.int .i64 ((k / 10 % 10 : Nat) : Int)),
   .val (.int .i64 ((48 + k / 10 % 10 : Nat) : Int)),
   .val (.int .u8 ((48 + k / 10 % 10 : Nat) : Int)),
   .val (.int .i64 ((k : Nat) : Int)),
   .val (.int .i64 ((k % 10 : Nat) : Int)),
   .val (.int .i64 ((48 + k % 10 : Nat) : Int)),
   .val (.int .u8 ((48 + k % 10 : Nat) : Int)),
   .row 3 #[.int .u8 ((48 + k / 100 : Nat) : Int), .int .u8 ((48 + k / 10 % 10 : Nat) : Int), .int .u8 ((48 + k % 10 : Nat) : Int)] 5,
   .val (.string (asB (dig3 k))),
   .val (.string ((((⟨#[72, 84, 84, 80, 47, 49, 46]⟩ : ByteArray) ++ verA h) ++ (⟨#[32]⟩ : ByteArray)) ++ asB (dig3 k))),
   .row 3 #[.string ⟨#[]⟩, .string ⟨#[32]⟩, .string ⟨#[32, 110, 111, 116, 32, 115, 111, 58, 32, 128]⟩] 9,
   .val (.int .u8 ((h : Nat) : Int)),
   .val (.int .u8 ((h / 2 : Nat) : Int)),
   .val (.int .u8 ((h / 2 % 3 : Nat) : Int)),
   .ptr (.string (wrdA h)),
   .val (.string (wrdA h)),
   .val (.string (((((⟨#[72, 84, 84, 80, 47, 49, 46]⟩ : ByteArray) ++ verA h) ++ (⟨#[32]⟩ : ByteArray)) ++ asB (dig3 k)) ++ wrdA h)),
   .val (.string ((((((⟨#[72, 84, 84, 80, 47, 49, 46]⟩ : ByteArray) ++ verA h) ++ (⟨#[32]⟩ : ByteArray)) ++ asB (dig3 k)) ++ wrdA h) ++ (⟨#[13, 10]⟩ : ByteArray)))]
def L11 (TL : List UInt8) (x y : ByteArray) (bF oF nF cF i h : Nat) : List Wd :=
  [.val (.string (asB TL)),
   .val (.slice (some ⟨bF, oF, none⟩) nF cF),
   .val (.int .i64 ((i : Nat) : Int)),
   .val (.pointer (some ⟨bF, oF + i * 2, none⟩)),
   .val (.pointer (some ⟨bF, oF + i * 2, none⟩)),
   .val (.string x),
   .val (.string (asB TL ++ x)),
   .val (.string ((asB TL ++ x) ++ (⟨#[58]⟩ : ByteArray))),
   .row 3 #[.string ⟨#[]⟩, .string ⟨#[32]⟩, .string ⟨#[9, 32, 9]⟩] 9,
   .val (.int .u8 ((h : Nat) : Int)),
   .val (.int .u8 ((h / 8 : Nat) : Int)),
   .val (.int .u8 ((h / 8 % 3 : Nat) : Int)),
   .ptr (.string (asB (preL h))),
   .val (.string (asB (preL h))),
   .val (.string (((asB TL ++ x) ++ (⟨#[58]⟩ : ByteArray)) ++ asB (preL h))),
   .val (.slice (some ⟨bF, oF, none⟩) nF cF),
   .val (.int .i64 ((i : Nat) : Int)),
   .val (.pointer (some ⟨bF, oF + i * 2, none⟩)),
   .val (.pointer (some ⟨bF, oF + i * 2 + 1, none⟩)),
   .val (.string y),
   .val (.string ((((asB TL ++ x) ++ (⟨#[58]⟩ : ByteArray)) ++ asB (preL h)) ++ y)),
   .row 2 #[.string ⟨#[]⟩, .string ⟨#[32, 9]⟩] 9,
   .val (.int .u8 ((h : Nat) : Int)),
   .val (.int .u8 ((h / 32 : Nat) : Int)),
   .val (.int .u8 ((h / 32 % 2 : Nat) : Int)),
   .ptr (.string (asB (pstL h))),
   .val (.string (asB (pstL h))),
   .val (.string (((((asB TL ++ x) ++ (⟨#[58]⟩ : ByteArray)) ++ asB (preL h)) ++ y) ++ asB (pstL h))),
   .val (.string ((((((asB TL ++ x) ++ (⟨#[58]⟩ : ByteArray)) ++ asB (preL h)) ++ y) ++ asB (pstL h)) ++ (⟨#[13, 10]⟩ : ByteArray)))]
theorem asB_app12 (a b : List UInt8) : asB (a ++ b) = asB a ++ asB b := by
  apply ByteArray.ext
  simp [asB]

theorem ans_len (p q : List UInt8) (hp : p.length ≤ 3) (hq : q.length ≤ 2) : ∀ (F : List BF) (n : Nat), (joinP ((flL F).map (ansF p q))).length + n ≤ grN n F + 6 * F.length
  | [], n => by simp [joinP, flL, grN]
  | f :: F, n => by
    have ih := ans_len p q hp hq F (n + 2 + f.1.size + f.2.size)
    have e : joinP ((flL (f :: F)).map (ansF p q)) = ansF p q (flB f) ++ crlf ++ joinP ((flL F).map (ansF p q)) := by
      show joinP (ansF p q (flB f) :: (flL F).map (ansF p q)) = _
      rw [joinP_cons]
    have e2 : (ansF p q (flB f)).length = f.1.size + 1 + (p.length + f.2.size + q.length) := by
      unfold ansF flB
      simp only [List.length_append, lenB, List.length_cons, List.length_nil]
    have e3 : crlf.length = 2 := rfl
    rw [e, List.length_append, List.length_append, e2, e3]
    show _ ≤ grN (n + 2 + f.1.size + f.2.size) F + 6 * (F.length + 1)
    omega
/-- The response's text, as far as its lines are written. -/
def ansL (h k : Nat) (F : List BF) : List UInt8 := joinP (ansR (verL h) k (wrdL h) :: (flL F).map (ansF (preL h) (pstL h)))
theorem ansL_zero (h k : Nat) : (⟨#[72, 84, 84, 80, 47, 49, 46]⟩ : ByteArray) ++ verA h ++ (⟨#[32]⟩ : ByteArray) ++ asB (dig3 k) ++ wrdA h ++ (⟨#[13, 10]⟩ : ByteArray) = asB (ansL h k []) := by
  have e : asB [72, 84, 84, 80, 47, 49, 46] ++ verA h = asB (verL h) := by unfold verA verL; split <;> rfl
  have e1 : (⟨#[72, 84, 84, 80, 47, 49, 46]⟩ : ByteArray) = asB [72, 84, 84, 80, 47, 49, 46] := rfl
  have e2 : (⟨#[32]⟩ : ByteArray) = asB [32] := rfl
  have e3 : (⟨#[13, 10]⟩ : ByteArray) = asB [13, 10] := rfl
  rw [e1, e, e2, e3]
  unfold wrdA
  rw [← asB_app12, ← asB_app12, ← asB_app12, ← asB_app12]
  simp [ansL, flL, joinP, ansR, crlf]
theorem ansL_step (h k : Nat) (F : List BF) (x y : ByteArray) : asB (ansL h k F) ++ x ++ (⟨#[58]⟩ : ByteArray) ++ asB (preL h) ++ y ++ asB (pstL h) ++ (⟨#[13, 10]⟩ : ByteArray) = asB (ansL h k (F ++ [(x, y)])) := by
  have e1 : (⟨#[58]⟩ : ByteArray) = asB [58] := rfl
  have e3 : (⟨#[13, 10]⟩ : ByteArray) = asB [13, 10] := rfl
  have ex : x = asB x.data.toList := by unfold asB; simp
  have ey : y = asB y.data.toList := by unfold asB; simp
  rw [e1, e3]
  conv => lhs; rw [ex, ey]
  rw [← asB_app12, ← asB_app12, ← asB_app12, ← asB_app12, ← asB_app12, ← asB_app12]
  have e : ansL h k (F ++ [(x, y)]) = ansL h k F ++ (ansF (preL h) (pstL h) (flB (x, y)) ++ crlf) := by
    unfold ansL
    have : flL (F ++ [(x, y)]) = flL F ++ [flB (x, y)] := by unfold flL; simp
    rw [this, List.map_append, ← List.cons_append, joinP_app]
    simp [joinP]
  rw [e]
  congr 1
  simp [ansF, flB, crlf]
theorem ansL_len (h k : Nat) (F : List BF) : (ansL h k F).length ≤ 100 + grN 0 F + 6 * F.length := by
  unfold ansL
  rw [joinP_cons, List.length_append, List.length_append]
  have h1 := ans_len (preL h) (pstL h) (preL_len h) (pstL_len h) F 0
  have h2 : (ansR (verL h) k (wrdL h)).length ≤ 30 := by
    unfold ansR
    simp only [List.length_append]
    have := wrdL_len h
    have : (verL h).length = 8 := by unfold verL; split <;> rfl
    have : (dig3 k).length = 3 := rfl
    simp only [List.length_cons, List.length_nil]
    omega
  have e3 : crlf.length = 2 := rfl
  omega
theorem ansL_text (h k : Nat) (F : List BF) : ansL h k F ++ crlf = ansT (verL h) k (wrdL h) (preL h) (pstL h) (flL F) := rfl
theorem ver_or (h : Nat) : verL h = http0 ∨ verL h = http1 := by unfold verL; split; exact .inl rfl; exact .inr rfl
theorem wrd_tail (h : Nat) : tailB (wrdL h) = true := by unfold wrdL; split; rfl; split <;> decide
theorem pre_bl (h : Nat) : ∀ c ∈ preL h, bl c = true := by unfold preL; split; (intro c h; cases h); split <;> decide
theorem pst_bl (h : Nat) : ∀ c ∈ pstL h, bl c = true := by unfold pstL; split; (intro c h; cases h); decide
theorem putAll_eval (t : Nat → Value) (a : Act) (n : Nat) (D : List Nat) (hn : n ∈ D) (hl : n < 138) (hs : a.tmps.size = 138 := by rfl) : (putAll t a D).eval (.tmp n) = t n := by
  obtain ⟨_, _, h3⟩ := putAll_at t D a
  show (putAll t a D).tmps.getD n undef = t n
  rw [Array.getD_eq_getD_getElem?, h3, if_pos ⟨hn, by omega⟩]; rfl
theorem dr_last {a : Act} {o : Oper} {w : World} {Q : Exit → Act → World → Prop} {K : Act → World → Prop} {x : Operand} {u : Value} {d : Tmp} (hd : o.dst = some d) (ho : o.op = .move x ∨ o.op = .assign x) (hx : a.eval x = u) (h : K (a.put (some d) u) w) : o.wp Tryd.prog a w K Q := by
  unfold Oper.wp
  rw [dr_mv x ho u hx, Oper.upon_value, hd]
  exact h
set_option maxRecDepth 1000000 in
set_option maxHeartbeats 16000000 in
theorem hans_walk (n h : Nat) (aF : Option Addr) (cF bF oF : Nat) (F : List BF) (m : Int) (w : World) (hn : n < 65536) (hh : h < 256) (hF : FxAt F aF bF oF w) (hFn : F.length ≤ 140737488355328)
    (hFs : ∀ f ∈ F, f.1.size ≤ 140737488355328 ∧ f.2.size ≤ 140737488355328) (hw : MxAt m w) :
    Calls Tryd.prog 6 #[.int .u16 (n : Int), .slice aF F.length cF, .int .u8 (h : Int)] w fun e w' => e = .returned (.bool true) ∧ Below w.heap.size w w' := by
  have HA := Lib.hid fun w' (h : Below w.heap.size w w') => alive12_any m w' (hw.later h)
  have HM := Lib.hid hw
  have HFx := Lib.hid hF
  have HGa : Hid (∀ w', Below w.heap.size w w' → Calls Tryd.prog 10 #[.agg #[.string ⟨#[]⟩, .string ⟨#[]⟩, .int .i64 0, .slice aF F.length cF, .slice none 0 0]] w' fun e w'' => e = .returned (.bool (decide (200000 < grN 0 F))) ∧ Below w'.heap.size w' w'') := Lib.hid fun w' h => great12_any ⟨#[]⟩ ⟨#[]⟩ 0 aF cF bF oF F none 0 0 w' (hF.later h) (by decide) (by decide) (by decide) hFs hFn
  obtain ⟨N, HN⟩ : ∃ N, Hid (grN 0 F = N) := ⟨_, Lib.hid rfl⟩
  rw [HN.out] at HGa
  have HSm : Hid (N ≤ 200000 → ∀ f ∈ F, f.1.size ≤ 250000 ∧ f.2.size ≤ 250000) := Lib.hid fun h f hf => by
    have h2 := grN_mem F 0 f hf
    rw [HN.out] at h2
    omega
  have HPt0 : Hid (∀ w', Below w.heap.size w w' → N ≤ 200000 → F.length ≤ 1000000 → Calls Tryd.prog 21 #[.agg #[.string ⟨#[77]⟩, .string ⟨#[116]⟩, .int .i64 0, .slice aF F.length cF, .slice none 0 0]] w' (PutR w' (putT [77] [116] (flL F)) (putE [77] [116] (flL F)))) := Lib.hid fun w' h h1 h2 => Put_any ⟨#[77]⟩ ⟨#[116]⟩ 0 aF cF bF oF F (.slice none 0 0) w' (hF.later h) (by decide) (by decide) (HSm.out h1) h2
  obtain ⟨nF, HnF⟩ : ∃ n, Hid (F.length = n) := ⟨_, Lib.hid rfl⟩
  rw [HnF.out] at hFn HGa HPt0 ⊢
  have HA0 := Lib.hid (HA.out w (Below.refl _ _))
  clear hF hFs hw
  go_enter Tryd.func6, Tryd.ntmps6
  go_wp2_with fail
  refine HA0.out.mono ?_
  rintro e w1 ⟨rfl, b1⟩
  have HB1 := Lib.hid b1
  clear b1
  by_cases h50 : 50 < nF
  · have h50I : (50 : Int) < (nF : Int) := by omega
    go_wp2_with fail
    refine (HA.out _ HB1.out).mono ?_
    rintro e w2 ⟨rfl, b2⟩
    go_wp2
    go_ret
    exact ⟨rfl, HB1.out.trans (b2.mono HB1.out.size)⟩
  have h50I : ¬ (50 : Int) < (nF : Int) := by omega
  go_wp2_with fail
  refine (HGa.out _ HB1.out).mono ?_
  rintro e w2 ⟨rfl, b2⟩
  have HB2 := Lib.hid (HB1.out.trans (b2.mono HB1.out.size))
  clear b2
  by_cases hga : 200000 < N
  · have hgd : decide (200000 < N) = true := decide_eq_true hga
    go_wp2_with fail
    refine (HA.out _ HB2.out).mono ?_
    rintro e w3 ⟨rfl, b3⟩
    go_wp2
    go_ret
    exact ⟨rfl, HB2.out.trans (b3.mono HB2.out.size)⟩
  have hgd : decide (200000 < N) = false := decide_eq_false hga
  go_wp2_with fail
  refine (HPt0.out _ HB2.out (by omega) (by omega)).mono ?_
  rintro e w3 ⟨v3, rfl, o3, b3⟩
  have HB3 := Lib.hid (HB2.out.trans (b3.mono HB2.out.size))
  obtain ⟨p3, n3, c3, rfl⟩ := ownB_shape o3
  clear o3 b3
  obtain ⟨r, hr, hre⟩ : ∃ r : Nat, r < 900 ∧ (n : Int) % 900 = (r : Int) := ⟨n % 900, Nat.mod_lt _ (by decide), by omega⟩
  by_cases hE : putE [77] [116] (flL F) = 0
  · rw [hE]
    obtain ⟨q1, q2, -⟩ := putE_zero hE
    have HFl : Hid (∀ f ∈ flL F, fldB f = true) := Lib.hid (by
      unfold putOk at q1
      rw [Bool.and_eq_true] at q1
      exact List.all_eq_true.1 q1.2)
    obtain ⟨k, hk, hk1, hkr⟩ : ∃ k : Nat, k < 1000 ∧ 100 ≤ k ∧ (k : Int) = (r : Int) + 100 := ⟨r + 100, by omega, by omega, by omega⟩
    clear q1 q2
    go_upto_region 7 with (fail)
    rw [← hkr]
    clear hkr
    refine wp_region_last (by kernel_rfl) [40, 41, 42, 43, 44, 45, 46, 47, 48, 49, 50, 51, 52, 53, 54, 55, 56, 57, 58, 59, 60, 61, 62, 63, 64, 65, 66, 67, 68, 69, 70] (by kernel_rfl) (by kernel_rfl) (by decide) (by intro d hd; show d < 138; revert d; decide) (fun jj => ((L7 k h).getD jj (.val undef)).ok) (fun jj v w w' hb h => Wd.mono hb h) ?_ ?_
    · intro a w' j o hj ho hbw hout hdep
      rcases (show j = 0 ∨ j = 1 ∨ j = 2 ∨ j = 3 ∨ j = 4 ∨ j = 5 ∨ j = 6 ∨ j = 7 ∨ j = 8 ∨ j = 9 ∨ j = 10 ∨ j = 11 ∨ j = 12 ∨ j = 13 ∨ j = 14 ∨ j = 15 ∨ j = 16 ∨ j = 17 ∨ j = 18 ∨ j = 19 ∨ j = 20 ∨ j = 21 ∨ j = 22 ∨ j = 23 ∨ j = 24 ∨ j = 25 ∨ j = 26 ∨ j = 27 ∨ j = 28 ∨ j = 29 ∨ j = 30 by have : j < 31 := hj; omega) with rfl | rfl | rfl | rfl | rfl | rfl | rfl | rfl | rfl | rfl | rfl | rfl | rfl | rfl | rfl | rfl | rfl | rfl | rfl | rfl | rfl | rfl | rfl | rfl | rfl | rfl | rfl | rfl | rfl | rfl | rfl
      all_goals (obtain rfl := Option.some.inj ho)
      · refine ⟨.slice (some ⟨w'.heap.size, 0, none⟩) 2 2, w'.alloc (.cells #[.string ⟨#[48]⟩, .string ⟨#[49]⟩] 9), ?_, ⟨_, rfl, heap_alloc_new w' _⟩, (Below.refl _ _).alloc (Nat.le_refl _) _⟩
        simp [execOp, evc, dr_row2]
      · refine ⟨(.int .u8 ((h : Nat) : Int)), w', ?_, rfl, Below.refl _ _⟩
        exact dr_mv (.tmp 2) (.inl rfl) _ (hout 2 (by decide))
      · have e41 : a.eval (.tmp 41) = (.int .u8 ((h : Nat) : Int)) := hdep ⟨1, .data⟩ (by simp) rfl
        refine ⟨(.int .u8 ((h % 2 : Nat) : Int)), w', ?_, rfl, Below.refl _ _⟩
        exact dr_bin _ _ _ _ _ rfl _ _ _ e41 rfl (.inr (.inr rfl)) (dr_rem8 h 2 2 rfl hh (by decide) (by decide) _)
      · obtain ⟨g40, e40, c40⟩ : ∃ g, a.eval (.tmp 40) = .slice (some ⟨g, 0, none⟩) 2 2 ∧ w'.heap[g]? = some (.cells #[.string ⟨#[48]⟩, .string ⟨#[49]⟩] 9 (0, 0)) := hdep ⟨0, .data⟩ (by simp) rfl
        have e42 : a.eval (.tmp 42) = (.int .u8 ((h % 2 : Nat) : Int)) := hdep ⟨2, .data⟩ (by simp) rfl
        refine ⟨.pointer (some ⟨g40, h % 2, none⟩), w', dr_ix a g40 2 (h % 2) (by omega) 40 42 w' e40 e42 _ rfl, ⟨_, rfl, by rw [cell_of_row _ _ _ _ _ _ c40]; exact verA_at h⟩, Below.refl _ _⟩
      · obtain ⟨p43, e43, c43⟩ : ∃ p, a.eval (.tmp 43) = .pointer (some p) ∧ w'.cell? p = some (.string (verA h)) := hdep ⟨3, .data⟩ (by simp) rfl
        refine ⟨(.string (verA h)), w', ?_, rfl, Below.refl _ _⟩
        exact dr_ld a p43 _ 43 w' e43 c43 _ rfl
      · have e44 : a.eval (.tmp 44) = (.string (verA h)) := hdep ⟨4, .data⟩ (by simp) rfl
        refine ⟨(.string ((⟨#[72, 84, 84, 80, 47, 49, 46]⟩ : ByteArray) ++ verA h)), w', ?_, rfl, Below.refl _ _⟩
        exact dr_bin _ _ _ _ _ rfl _ _ _ rfl e44 (.inl rfl) (dr_add _ _ (dr_s5 h) _)
      · have e45 : a.eval (.tmp 45) = (.string ((⟨#[72, 84, 84, 80, 47, 49, 46]⟩ : ByteArray) ++ verA h)) := hdep ⟨5, .data⟩ (by simp) rfl
        refine ⟨(.string (((⟨#[72, 84, 84, 80, 47, 49, 46]⟩ : ByteArray) ++ verA h) ++ (⟨#[32]⟩ : ByteArray))), w', ?_, rfl, Below.refl _ _⟩
        exact dr_bin _ _ _ _ _ rfl _ _ _ e45 rfl (.inl rfl) (dr_add _ _ (dr_s6 h) _)
      · refine ⟨(.int .i64 ((k : Nat) : Int)), w', ?_, rfl, Below.refl _ _⟩
        exact dr_mv (.tmp 9) (.inl rfl) _ (hout 9 (by decide))
      · have e47 : a.eval (.tmp 47) = (.int .i64 ((k : Nat) : Int)) := hdep ⟨7, .data⟩ (by simp) rfl
        refine ⟨(.int .i64 ((k / 100 : Nat) : Int)), w', ?_, rfl, Below.refl _ _⟩
        exact dr_bin _ _ _ _ _ rfl _ _ _ e47 rfl (.inr (.inl rfl)) (dr_quo64 k 100 100 rfl hk (by decide) (by decide) _)
      · have e48 : a.eval (.tmp 48) = (.int .i64 ((k / 100 : Nat) : Int)) := hdep ⟨8, .data⟩ (by simp) rfl
        refine ⟨(.int .i64 ((48 + k / 100 : Nat) : Int)), w', ?_, rfl, Below.refl _ _⟩
        exact dr_bin _ _ _ _ _ rfl _ _ _ rfl e48 (.inl rfl) (dr_add64 48 (k / 100) (by omega) _)
      · have e49 : a.eval (.tmp 49) = (.int .i64 ((48 + k / 100 : Nat) : Int)) := hdep ⟨9, .data⟩ (by simp) rfl
        refine ⟨(.int .u8 ((48 + k / 100 : Nat) : Int)), w', ?_, rfl, Below.refl _ _⟩
        exact dr_cvt _ _ _ rfl _ _ e49 (dr_cv (48 + k / 100) (by omega) _)
      · refine ⟨(.int .i64 ((k : Nat) : Int)), w', ?_, rfl, Below.refl _ _⟩
        exact dr_mv (.tmp 9) (.inl rfl) _ (hout 9 (by decide))
      · have e51 : a.eval (.tmp 51) = (.int .i64 ((k : Nat) : Int)) := hdep ⟨11, .data⟩ (by simp) rfl
        refine ⟨(.int .i64 ((k / 10 : Nat) : Int)), w', ?_, rfl, Below.refl _ _⟩
        exact dr_bin _ _ _ _ _ rfl _ _ _ e51 rfl (.inr (.inl rfl)) (dr_quo64 k 10 10 rfl hk (by decide) (by decide) _)
      · have e52 : a.eval (.tmp 52) = (.int .i64 ((k / 10 : Nat) : Int)) := hdep ⟨12, .data⟩ (by simp) rfl
        refine ⟨(.int .i64 ((k / 10 % 10 : Nat) : Int)), w', ?_, rfl, Below.refl _ _⟩
        exact dr_bin _ _ _ _ _ rfl _ _ _ e52 rfl (.inr (.inr rfl)) (dr_rem64 (k / 10) 10 10 rfl (by omega) (by decide) (by decide) _)
      · have e53 : a.eval (.tmp 53) = (.int .i64 ((k / 10 % 10 : Nat) : Int)) := hdep ⟨13, .data⟩ (by simp) rfl
        refine ⟨(.int .i64 ((48 + k / 10 % 10 : Nat) : Int)), w', ?_, rfl, Below.refl _ _⟩
        exact dr_bin _ _ _ _ _ rfl _ _ _ rfl e53 (.inl rfl) (dr_add64 48 (k / 10 % 10) (by omega) _)
      · have e54 : a.eval (.tmp 54) = (.int .i64 ((48 + k / 10 % 10 : Nat) : Int)) := hdep ⟨14, .data⟩ (by simp) rfl
        refine ⟨(.int .u8 ((48 + k / 10 % 10 : Nat) : Int)), w', ?_, rfl, Below.refl _ _⟩
        exact dr_cvt _ _ _ rfl _ _ e54 (dr_cv (48 + k / 10 % 10) (by omega) _)
      · refine ⟨(.int .i64 ((k : Nat) : Int)), w', ?_, rfl, Below.refl _ _⟩
        exact dr_mv (.tmp 9) (.inl rfl) _ (hout 9 (by decide))
      · have e56 : a.eval (.tmp 56) = (.int .i64 ((k : Nat) : Int)) := hdep ⟨16, .data⟩ (by simp) rfl
        refine ⟨(.int .i64 ((k % 10 : Nat) : Int)), w', ?_, rfl, Below.refl _ _⟩
        exact dr_bin _ _ _ _ _ rfl _ _ _ e56 rfl (.inr (.inr rfl)) (dr_rem64 k 10 10 rfl hk (by decide) (by decide) _)
      · have e57 : a.eval (.tmp 57) = (.int .i64 ((k % 10 : Nat) : Int)) := hdep ⟨17, .data⟩ (by simp) rfl
        refine ⟨(.int .i64 ((48 + k % 10 : Nat) : Int)), w', ?_, rfl, Below.refl _ _⟩
        exact dr_bin _ _ _ _ _ rfl _ _ _ rfl e57 (.inl rfl) (dr_add64 48 (k % 10) (by omega) _)
      · have e58 : a.eval (.tmp 58) = (.int .i64 ((48 + k % 10 : Nat) : Int)) := hdep ⟨18, .data⟩ (by simp) rfl
        refine ⟨(.int .u8 ((48 + k % 10 : Nat) : Int)), w', ?_, rfl, Below.refl _ _⟩
        exact dr_cvt _ _ _ rfl _ _ e58 (dr_cv (48 + k % 10) (by omega) _)
      · have e50 : a.eval (.tmp 50) = (.int .u8 ((48 + k / 100 : Nat) : Int)) := hdep ⟨10, .data⟩ (by simp) rfl
        have e55 : a.eval (.tmp 55) = (.int .u8 ((48 + k / 10 % 10 : Nat) : Int)) := hdep ⟨15, .data⟩ (by simp) rfl
        have e59 : a.eval (.tmp 59) = (.int .u8 ((48 + k % 10 : Nat) : Int)) := hdep ⟨19, .data⟩ (by simp) rfl
        refine ⟨.slice (some ⟨w'.heap.size, 0, none⟩) 3 3, w'.alloc (.cells #[.int .u8 ((48 + k / 100 : Nat) : Int), .int .u8 ((48 + k / 10 % 10 : Nat) : Int), .int .u8 ((48 + k % 10 : Nat) : Int)] 5), ?_, ⟨_, rfl, heap_alloc_new w' _⟩, (Below.refl _ _).alloc (Nat.le_refl _) _⟩
        simp [execOp, e50, e55, e59, dr_rowd]
      · obtain ⟨g60, e60, c60⟩ : ∃ g, a.eval (.tmp 60) = .slice (some ⟨g, 0, none⟩) 3 3 ∧ w'.heap[g]? = some (.cells #[.int .u8 ((48 + k / 100 : Nat) : Int), .int .u8 ((48 + k / 10 % 10 : Nat) : Int), .int .u8 ((48 + k % 10 : Nat) : Int)] 5 (0, 0)) := hdep ⟨20, .data⟩ (by simp) rfl
        refine ⟨(.string (asB (dig3 k))), w', ?_, rfl, Below.refl _ _⟩
        exact dr_cvt _ _ _ rfl _ _ e60 (dr_cvd g60 k hk w' c60)
      · have e46 : a.eval (.tmp 46) = (.string (((⟨#[72, 84, 84, 80, 47, 49, 46]⟩ : ByteArray) ++ verA h) ++ (⟨#[32]⟩ : ByteArray))) := hdep ⟨6, .data⟩ (by simp) rfl
        have e61 : a.eval (.tmp 61) = (.string (asB (dig3 k))) := hdep ⟨21, .data⟩ (by simp) rfl
        refine ⟨(.string ((((⟨#[72, 84, 84, 80, 47, 49, 46]⟩ : ByteArray) ++ verA h) ++ (⟨#[32]⟩ : ByteArray)) ++ asB (dig3 k))), w', ?_, rfl, Below.refl _ _⟩
        exact dr_bin _ _ _ _ _ rfl _ _ _ e46 e61 (.inl rfl) (dr_add _ _ (dr_s22 h k) _)
      · refine ⟨.slice (some ⟨w'.heap.size, 0, none⟩) 3 3, w'.alloc (.cells #[.string ⟨#[]⟩, .string ⟨#[32]⟩, .string ⟨#[32, 110, 111, 116, 32, 115, 111, 58, 32, 128]⟩] 9), ?_, ⟨_, rfl, heap_alloc_new w' _⟩, (Below.refl _ _).alloc (Nat.le_refl _) _⟩
        simp [execOp, evc, dr_row3]
      · refine ⟨(.int .u8 ((h : Nat) : Int)), w', ?_, rfl, Below.refl _ _⟩
        exact dr_mv (.tmp 2) (.inl rfl) _ (hout 2 (by decide))
      · have e64 : a.eval (.tmp 64) = (.int .u8 ((h : Nat) : Int)) := hdep ⟨24, .data⟩ (by simp) rfl
        refine ⟨(.int .u8 ((h / 2 : Nat) : Int)), w', ?_, rfl, Below.refl _ _⟩
        exact dr_bin _ _ _ _ _ rfl _ _ _ e64 rfl (.inr (.inl rfl)) (dr_quo8 h 2 2 rfl hh (by decide) (by decide) _)
      · have e65 : a.eval (.tmp 65) = (.int .u8 ((h / 2 : Nat) : Int)) := hdep ⟨25, .data⟩ (by simp) rfl
        refine ⟨(.int .u8 ((h / 2 % 3 : Nat) : Int)), w', ?_, rfl, Below.refl _ _⟩
        exact dr_bin _ _ _ _ _ rfl _ _ _ e65 rfl (.inr (.inr rfl)) (dr_rem8 (h / 2) 3 3 rfl (by omega) (by decide) (by decide) _)
      · obtain ⟨g63, e63, c63⟩ : ∃ g, a.eval (.tmp 63) = .slice (some ⟨g, 0, none⟩) 3 3 ∧ w'.heap[g]? = some (.cells #[.string ⟨#[]⟩, .string ⟨#[32]⟩, .string ⟨#[32, 110, 111, 116, 32, 115, 111, 58, 32, 128]⟩] 9 (0, 0)) := hdep ⟨23, .data⟩ (by simp) rfl
        have e66 : a.eval (.tmp 66) = (.int .u8 ((h / 2 % 3 : Nat) : Int)) := hdep ⟨26, .data⟩ (by simp) rfl
        refine ⟨.pointer (some ⟨g63, h / 2 % 3, none⟩), w', dr_ix a g63 3 (h / 2 % 3) (by omega) 63 66 w' e63 e66 _ rfl, ⟨_, rfl, by rw [cell_of_row _ _ _ _ _ _ c63]; exact wrdA_at h⟩, Below.refl _ _⟩
      · obtain ⟨p67, e67, c67⟩ : ∃ p, a.eval (.tmp 67) = .pointer (some p) ∧ w'.cell? p = some (.string (wrdA h)) := hdep ⟨27, .data⟩ (by simp) rfl
        refine ⟨(.string (wrdA h)), w', ?_, rfl, Below.refl _ _⟩
        exact dr_ld a p67 _ 67 w' e67 c67 _ rfl
      · have e62 : a.eval (.tmp 62) = (.string ((((⟨#[72, 84, 84, 80, 47, 49, 46]⟩ : ByteArray) ++ verA h) ++ (⟨#[32]⟩ : ByteArray)) ++ asB (dig3 k))) := hdep ⟨22, .data⟩ (by simp) rfl
        have e68 : a.eval (.tmp 68) = (.string (wrdA h)) := hdep ⟨28, .data⟩ (by simp) rfl
        refine ⟨(.string (((((⟨#[72, 84, 84, 80, 47, 49, 46]⟩ : ByteArray) ++ verA h) ++ (⟨#[32]⟩ : ByteArray)) ++ asB (dig3 k)) ++ wrdA h)), w', ?_, rfl, Below.refl _ _⟩
        exact dr_bin _ _ _ _ _ rfl _ _ _ e62 e68 (.inl rfl) (dr_add _ _ (dr_s29 h k) _)
      · have e69 : a.eval (.tmp 69) = (.string (((((⟨#[72, 84, 84, 80, 47, 49, 46]⟩ : ByteArray) ++ verA h) ++ (⟨#[32]⟩ : ByteArray)) ++ asB (dig3 k)) ++ wrdA h)) := hdep ⟨29, .data⟩ (by simp) rfl
        refine ⟨(.string ((((((⟨#[72, 84, 84, 80, 47, 49, 46]⟩ : ByteArray) ++ verA h) ++ (⟨#[32]⟩ : ByteArray)) ++ asB (dig3 k)) ++ wrdA h) ++ (⟨#[13, 10]⟩ : ByteArray))), w', ?_, rfl, Below.refl _ _⟩
        exact dr_bin _ _ _ _ _ rfl _ _ _ e69 rfl (.inl rfl) (dr_add _ _ (dr_s30 h k) _)
    · intro t w4 o ho hB4 hP
      obtain rfl := Option.some.inj ho
      have e70 : t 70 = .string (((((⟨#[72, 84, 84, 80, 47, 49, 46]⟩ : ByteArray) ++ verA h) ++ (⟨#[32]⟩ : ByteArray)) ++ asB (dig3 k)) ++ wrdA h ++ (⟨#[13, 10]⟩ : ByteArray)) := hP 30 (by decide)
      rw [ansL_zero] at e70
      refine dr_last (d := 10) rfl (.inr rfl) (putAll_eval t _ 70 _ (by decide) (by decide)) ?_
      rw [e70]
      have HB4 := Lib.hid (HB3.out.trans (hB4.mono HB3.out.size))
      clear ho hP hB4 e70
      simp only [putAll, Act.put, List.setIfInBounds_toArray, List.set_cons_succ, List.set_cons_zero]
      go_wp2
      go_loopw [10, 11] (fun sv iv wr => ∃ i : Nat, i ≤ nF ∧ iv = .int .i64 (i : Int) ∧ sv = .string (asB (ansL h k (F.take i))) ∧ Hid (Below w.heap.size w wr)) (fun _ iv _ => nF - (intOf iv).toNat)
      case atStart => exact ⟨0, Nat.zero_le _, rfl, rfl, HB4⟩
      case round =>
        obtain ⟨i, hi0, rfl, rfl, HBr⟩ := hrel
        by_cases hi : i < nF
        · have hiI : (i : Int) < (nF : Int) := by omega
          have hkF : i < F.length := by rw [HnF.out]; exact hi
          have HXr := Lib.hid (HFx.out.later HBr.out)
          obtain ⟨x, y, hx⟩ := nx_of HXr.out hkF
          have HX := Lib.hid hx
          obtain rfl := HXr.out.at0 (by omega)
          have hbel : Hid (∀ w', Below wr.heap.size wr w' → w'.cell? ⟨bF, oF + i * 2, none⟩ = some (.string x) ∧ w'.cell? ⟨bF, oF + i * 2 + 1, none⟩ = some (.string y)) := Lib.hid fun w' hb => by
            have h0 := HX.out.r 0 _ rfl
            have h1 := HX.out.r 1 _ rfl
            exact ⟨(hb.cell (p := ⟨bF, oF + i * 2, none⟩) (block_lt_of_cell h0)).trans h0, (hb.cell (p := ⟨bF, oF + i * 2 + 1, none⟩) (block_lt_of_cell h1)).trans h1⟩
          obtain ⟨TL, HTL⟩ : ∃ l, Hid (ansL h k (F.take i) = l) := ⟨_, Lib.hid rfl⟩
          have HTn : Hid (asB TL ++ x ++ (⟨#[58]⟩ : ByteArray) ++ asB (preL h) ++ y ++ asB (pstL h) ++ (⟨#[13, 10]⟩ : ByteArray) = asB (ansL h k (F.take (i + 1)))) := Lib.hid (by
            rw [← HTL.out, ansL_step, List.take_add_one, HX.out.e]; rfl)
          have hxs : x.size ≤ 250000 ∧ y.size ≤ 250000 := HSm.out (by omega) _ (List.mem_of_getElem? HX.out.e)
          have hTs : (asB TL).size ≤ 300000 := by
            have h1 := ansL_len h k (F.take i)
            have h2 := grN_take F 0 i
            have h3 : (F.take i).length ≤ 50 := by rw [List.length_take, HnF.out]; omega
            rw [HN.out] at h2
            rw [HTL.out] at h1
            show TL.length ≤ _
            omega
          have hpl := preL_len h
          have hql := pstL_len h
          have z1 : (⟨#[58]⟩ : ByteArray).size = 1 := rfl
          have z2 : (asB (preL h)).size ≤ 3 := hpl
          have z3 : (asB (pstL h)).size ≤ 2 := hql
          have z4 : (⟨#[13, 10]⟩ : ByteArray).size = 2 := rfl
          have hz1 : (asB TL).size + x.size ≤ 10000000 := by omega
          have hz2 : (asB TL ++ x).size + (⟨#[58]⟩ : ByteArray).size ≤ 10000000 := by simp only [ByteArray.size_append]; omega
          have hz3 : (asB TL ++ x ++ (⟨#[58]⟩ : ByteArray)).size + (asB (preL h)).size ≤ 10000000 := by simp only [ByteArray.size_append]; omega
          have hz4 : (asB TL ++ x ++ (⟨#[58]⟩ : ByteArray) ++ asB (preL h)).size + y.size ≤ 10000000 := by simp only [ByteArray.size_append]; omega
          have hz5 : (asB TL ++ x ++ (⟨#[58]⟩ : ByteArray) ++ asB (preL h) ++ y).size + (asB (pstL h)).size ≤ 10000000 := by simp only [ByteArray.size_append]; omega
          have hz6 : (asB TL ++ x ++ (⟨#[58]⟩ : ByteArray) ++ asB (preL h) ++ y ++ asB (pstL h)).size + (⟨#[13, 10]⟩ : ByteArray).size ≤ 10000000 := by simp only [ByteArray.size_append]; omega
          rw [HTL.out]
          clear hx hkF hpl hql z1 z2 z3 z4 hxs hTs
          go_upto_region 11 with (fail)
          refine wp_region_last (by kernel_rfl) [77, 78, 79, 80, 81, 82, 83, 84, 85, 86, 87, 88, 89, 90, 91, 92, 93, 94, 95, 96, 97, 98, 99, 100, 101, 102, 103, 104, 105] (by kernel_rfl) (by kernel_rfl) (by decide) (by intro d hd; show d < 138; revert d; decide) (fun jj => ((L11 TL x y bF oF nF cF i h).getD jj (.val undef)).ok) (fun jj v w w' hb h => Wd.mono hb h) ?_ ?_
          · intro a w' j o hj ho hbw hout hdep
            rcases (show j = 0 ∨ j = 1 ∨ j = 2 ∨ j = 3 ∨ j = 4 ∨ j = 5 ∨ j = 6 ∨ j = 7 ∨ j = 8 ∨ j = 9 ∨ j = 10 ∨ j = 11 ∨ j = 12 ∨ j = 13 ∨ j = 14 ∨ j = 15 ∨ j = 16 ∨ j = 17 ∨ j = 18 ∨ j = 19 ∨ j = 20 ∨ j = 21 ∨ j = 22 ∨ j = 23 ∨ j = 24 ∨ j = 25 ∨ j = 26 ∨ j = 27 ∨ j = 28 by have : j < 29 := hj; omega) with rfl | rfl | rfl | rfl | rfl | rfl | rfl | rfl | rfl | rfl | rfl | rfl | rfl | rfl | rfl | rfl | rfl | rfl | rfl | rfl | rfl | rfl | rfl | rfl | rfl | rfl | rfl | rfl | rfl
            all_goals (obtain rfl := Option.some.inj ho)
            · refine ⟨(.string (asB TL)), w', ?_, rfl, Below.refl _ _⟩
              exact dr_mv (.tmp 10) (.inl rfl) _ (hout 10 (by decide))
            · refine ⟨(.slice (some ⟨bF, oF, none⟩) nF cF), w', ?_, rfl, Below.refl _ _⟩
              exact dr_mv (.tmp 1) (.inl rfl) _ (hout 1 (by decide))
            · refine ⟨(.int .i64 ((i : Nat) : Int)), w', ?_, rfl, Below.refl _ _⟩
              exact dr_mv (.tmp 11) (.inl rfl) _ (hout 11 (by decide))
            · have e78 : a.eval (.tmp 78) = (.slice (some ⟨bF, oF, none⟩) nF cF) := hdep ⟨1, .data⟩ (by simp) rfl
              have e79 : a.eval (.tmp 79) = (.int .i64 ((i : Nat) : Int)) := hdep ⟨2, .data⟩ (by simp) rfl
              refine ⟨(.pointer (some ⟨bF, oF + i * 2, none⟩)), w', ?_, rfl, Below.refl _ _⟩
              exact dr_ixF a bF oF nF cF i hi 78 79 w' e78 e79 _ rfl
            · have e80 : a.eval (.tmp 80) = (.pointer (some ⟨bF, oF + i * 2, none⟩)) := hdep ⟨3, .data⟩ (by simp) rfl
              refine ⟨(.pointer (some ⟨bF, oF + i * 2, none⟩)), w', ?_, rfl, Below.refl _ _⟩
              exact dr_fa0 a bF (oF + i * 2) 80 w' e80 _ rfl
            · have e81 : a.eval (.tmp 81) = (.pointer (some ⟨bF, oF + i * 2, none⟩)) := hdep ⟨4, .data⟩ (by simp) rfl
              refine ⟨(.string x), w', ?_, rfl, Below.refl _ _⟩
              exact dr_ld a _ _ 81 w' e81 (hbel.out w' hbw).1 _ rfl
            · have e77 : a.eval (.tmp 77) = (.string (asB TL)) := hdep ⟨0, .data⟩ (by simp) rfl
              have e82 : a.eval (.tmp 82) = (.string x) := hdep ⟨5, .data⟩ (by simp) rfl
              refine ⟨(.string (asB TL ++ x)), w', ?_, rfl, Below.refl _ _⟩
              exact dr_bin _ _ _ _ _ rfl _ _ _ e77 e82 (.inl rfl) (dr_add _ _ hz1 _)
            · have e83 : a.eval (.tmp 83) = (.string (asB TL ++ x)) := hdep ⟨6, .data⟩ (by simp) rfl
              refine ⟨(.string ((asB TL ++ x) ++ (⟨#[58]⟩ : ByteArray))), w', ?_, rfl, Below.refl _ _⟩
              exact dr_bin _ _ _ _ _ rfl _ _ _ e83 rfl (.inl rfl) (dr_add _ _ hz2 _)
            · refine ⟨.slice (some ⟨w'.heap.size, 0, none⟩) 3 3, w'.alloc (.cells #[.string ⟨#[]⟩, .string ⟨#[32]⟩, .string ⟨#[9, 32, 9]⟩] 9), ?_, ⟨_, rfl, heap_alloc_new w' _⟩, (Below.refl _ _).alloc (Nat.le_refl _) _⟩
              simp [execOp, evc, dr_rowp]
            · refine ⟨(.int .u8 ((h : Nat) : Int)), w', ?_, rfl, Below.refl _ _⟩
              exact dr_mv (.tmp 2) (.inl rfl) _ (hout 2 (by decide))
            · have e86 : a.eval (.tmp 86) = (.int .u8 ((h : Nat) : Int)) := hdep ⟨9, .data⟩ (by simp) rfl
              refine ⟨(.int .u8 ((h / 8 : Nat) : Int)), w', ?_, rfl, Below.refl _ _⟩
              exact dr_bin _ _ _ _ _ rfl _ _ _ e86 rfl (.inr (.inl rfl)) (dr_quo8 h 8 8 rfl hh (by decide) (by decide) _)
            · have e87 : a.eval (.tmp 87) = (.int .u8 ((h / 8 : Nat) : Int)) := hdep ⟨10, .data⟩ (by simp) rfl
              refine ⟨(.int .u8 ((h / 8 % 3 : Nat) : Int)), w', ?_, rfl, Below.refl _ _⟩
              exact dr_bin _ _ _ _ _ rfl _ _ _ e87 rfl (.inr (.inr rfl)) (dr_rem8 (h / 8) 3 3 rfl (by omega) (by decide) (by decide) _)
            · obtain ⟨g85, e85, c85⟩ : ∃ g, a.eval (.tmp 85) = .slice (some ⟨g, 0, none⟩) 3 3 ∧ w'.heap[g]? = some (.cells #[.string ⟨#[]⟩, .string ⟨#[32]⟩, .string ⟨#[9, 32, 9]⟩] 9 (0, 0)) := hdep ⟨8, .data⟩ (by simp) rfl
              have e88 : a.eval (.tmp 88) = (.int .u8 ((h / 8 % 3 : Nat) : Int)) := hdep ⟨11, .data⟩ (by simp) rfl
              refine ⟨.pointer (some ⟨g85, h / 8 % 3, none⟩), w', dr_ix a g85 3 (h / 8 % 3) (by omega) 85 88 w' e85 e88 _ rfl, ⟨_, rfl, by rw [cell_of_row _ _ _ _ _ _ c85]; exact preL_at h⟩, Below.refl _ _⟩
            · obtain ⟨p89, e89, c89⟩ : ∃ p, a.eval (.tmp 89) = .pointer (some p) ∧ w'.cell? p = some (.string (asB (preL h))) := hdep ⟨12, .data⟩ (by simp) rfl
              refine ⟨(.string (asB (preL h))), w', ?_, rfl, Below.refl _ _⟩
              exact dr_ld a p89 _ 89 w' e89 c89 _ rfl
            · have e84 : a.eval (.tmp 84) = (.string ((asB TL ++ x) ++ (⟨#[58]⟩ : ByteArray))) := hdep ⟨7, .data⟩ (by simp) rfl
              have e90 : a.eval (.tmp 90) = (.string (asB (preL h))) := hdep ⟨13, .data⟩ (by simp) rfl
              refine ⟨(.string (((asB TL ++ x) ++ (⟨#[58]⟩ : ByteArray)) ++ asB (preL h))), w', ?_, rfl, Below.refl _ _⟩
              exact dr_bin _ _ _ _ _ rfl _ _ _ e84 e90 (.inl rfl) (dr_add _ _ hz3 _)
            · refine ⟨(.slice (some ⟨bF, oF, none⟩) nF cF), w', ?_, rfl, Below.refl _ _⟩
              exact dr_mv (.tmp 1) (.inl rfl) _ (hout 1 (by decide))
            · refine ⟨(.int .i64 ((i : Nat) : Int)), w', ?_, rfl, Below.refl _ _⟩
              exact dr_mv (.tmp 11) (.inl rfl) _ (hout 11 (by decide))
            · have e92 : a.eval (.tmp 92) = (.slice (some ⟨bF, oF, none⟩) nF cF) := hdep ⟨15, .data⟩ (by simp) rfl
              have e93 : a.eval (.tmp 93) = (.int .i64 ((i : Nat) : Int)) := hdep ⟨16, .data⟩ (by simp) rfl
              refine ⟨(.pointer (some ⟨bF, oF + i * 2, none⟩)), w', ?_, rfl, Below.refl _ _⟩
              exact dr_ixF a bF oF nF cF i hi 92 93 w' e92 e93 _ rfl
            · have e94 : a.eval (.tmp 94) = (.pointer (some ⟨bF, oF + i * 2, none⟩)) := hdep ⟨17, .data⟩ (by simp) rfl
              refine ⟨(.pointer (some ⟨bF, oF + i * 2 + 1, none⟩)), w', ?_, rfl, Below.refl _ _⟩
              exact dr_fa1 a bF (oF + i * 2) 94 w' e94 _ rfl
            · have e95 : a.eval (.tmp 95) = (.pointer (some ⟨bF, oF + i * 2 + 1, none⟩)) := hdep ⟨18, .data⟩ (by simp) rfl
              refine ⟨(.string y), w', ?_, rfl, Below.refl _ _⟩
              exact dr_ld a _ _ 95 w' e95 (hbel.out w' hbw).2 _ rfl
            · have e91 : a.eval (.tmp 91) = (.string (((asB TL ++ x) ++ (⟨#[58]⟩ : ByteArray)) ++ asB (preL h))) := hdep ⟨14, .data⟩ (by simp) rfl
              have e96 : a.eval (.tmp 96) = (.string y) := hdep ⟨19, .data⟩ (by simp) rfl
              refine ⟨(.string ((((asB TL ++ x) ++ (⟨#[58]⟩ : ByteArray)) ++ asB (preL h)) ++ y)), w', ?_, rfl, Below.refl _ _⟩
              exact dr_bin _ _ _ _ _ rfl _ _ _ e91 e96 (.inl rfl) (dr_add _ _ hz4 _)
            · refine ⟨.slice (some ⟨w'.heap.size, 0, none⟩) 2 2, w'.alloc (.cells #[.string ⟨#[]⟩, .string ⟨#[32, 9]⟩] 9), ?_, ⟨_, rfl, heap_alloc_new w' _⟩, (Below.refl _ _).alloc (Nat.le_refl _) _⟩
              simp [execOp, evc, dr_rowq]
            · refine ⟨(.int .u8 ((h : Nat) : Int)), w', ?_, rfl, Below.refl _ _⟩
              exact dr_mv (.tmp 2) (.inl rfl) _ (hout 2 (by decide))
            · have e99 : a.eval (.tmp 99) = (.int .u8 ((h : Nat) : Int)) := hdep ⟨22, .data⟩ (by simp) rfl
              refine ⟨(.int .u8 ((h / 32 : Nat) : Int)), w', ?_, rfl, Below.refl _ _⟩
              exact dr_bin _ _ _ _ _ rfl _ _ _ e99 rfl (.inr (.inl rfl)) (dr_quo8 h 32 32 rfl hh (by decide) (by decide) _)
            · have e100 : a.eval (.tmp 100) = (.int .u8 ((h / 32 : Nat) : Int)) := hdep ⟨23, .data⟩ (by simp) rfl
              refine ⟨(.int .u8 ((h / 32 % 2 : Nat) : Int)), w', ?_, rfl, Below.refl _ _⟩
              exact dr_bin _ _ _ _ _ rfl _ _ _ e100 rfl (.inr (.inr rfl)) (dr_rem8 (h / 32) 2 2 rfl (by omega) (by decide) (by decide) _)
            · obtain ⟨g98, e98, c98⟩ : ∃ g, a.eval (.tmp 98) = .slice (some ⟨g, 0, none⟩) 2 2 ∧ w'.heap[g]? = some (.cells #[.string ⟨#[]⟩, .string ⟨#[32, 9]⟩] 9 (0, 0)) := hdep ⟨21, .data⟩ (by simp) rfl
              have e101 : a.eval (.tmp 101) = (.int .u8 ((h / 32 % 2 : Nat) : Int)) := hdep ⟨24, .data⟩ (by simp) rfl
              refine ⟨.pointer (some ⟨g98, h / 32 % 2, none⟩), w', dr_ix a g98 2 (h / 32 % 2) (by omega) 98 101 w' e98 e101 _ rfl, ⟨_, rfl, by rw [cell_of_row _ _ _ _ _ _ c98]; exact pstL_at h⟩, Below.refl _ _⟩
            · obtain ⟨p102, e102, c102⟩ : ∃ p, a.eval (.tmp 102) = .pointer (some p) ∧ w'.cell? p = some (.string (asB (pstL h))) := hdep ⟨25, .data⟩ (by simp) rfl
              refine ⟨(.string (asB (pstL h))), w', ?_, rfl, Below.refl _ _⟩
              exact dr_ld a p102 _ 102 w' e102 c102 _ rfl
            · have e97 : a.eval (.tmp 97) = (.string ((((asB TL ++ x) ++ (⟨#[58]⟩ : ByteArray)) ++ asB (preL h)) ++ y)) := hdep ⟨20, .data⟩ (by simp) rfl
              have e103 : a.eval (.tmp 103) = (.string (asB (pstL h))) := hdep ⟨26, .data⟩ (by simp) rfl
              refine ⟨(.string (((((asB TL ++ x) ++ (⟨#[58]⟩ : ByteArray)) ++ asB (preL h)) ++ y) ++ asB (pstL h))), w', ?_, rfl, Below.refl _ _⟩
              exact dr_bin _ _ _ _ _ rfl _ _ _ e97 e103 (.inl rfl) (dr_add _ _ hz5 _)
            · have e104 : a.eval (.tmp 104) = (.string (((((asB TL ++ x) ++ (⟨#[58]⟩ : ByteArray)) ++ asB (preL h)) ++ y) ++ asB (pstL h))) := hdep ⟨27, .data⟩ (by simp) rfl
              refine ⟨(.string ((((((asB TL ++ x) ++ (⟨#[58]⟩ : ByteArray)) ++ asB (preL h)) ++ y) ++ asB (pstL h)) ++ (⟨#[13, 10]⟩ : ByteArray))), w', ?_, rfl, Below.refl _ _⟩
              exact dr_bin _ _ _ _ _ rfl _ _ _ e104 rfl (.inl rfl) (dr_add _ _ hz6 _)
          · intro t w5 o ho hB5 hP
            obtain rfl := Option.some.inj ho
            have e105 : t 105 = .string (asB TL ++ x ++ (⟨#[58]⟩ : ByteArray) ++ asB (preL h) ++ y ++ asB (pstL h) ++ (⟨#[13, 10]⟩ : ByteArray)) := hP 28 (by decide)
            rw [HTn.out] at e105
            refine dr_last (d := 10) rfl (.inr rfl) (putAll_eval t _ 105 _ (by decide) (by decide)) ?_
            rw [e105]
            have HB5 := Lib.hid (HBr.out.trans (hB5.mono HBr.out.size))
            clear ho hP hB5 e105
            simp only [putAll, Act.put, List.setIfInBounds_toArray, List.set_cons_succ, List.set_cons_zero]
            go_wp2
            go_roundw
            case rel => exact ⟨i + 1, by omega, by go_num, rfl, HB5⟩
            case measure => simp [intOf]; omega
        · have hge : ¬ (i : Int) < (nF : Int) := by omega
          have hFi : F.take i = F := List.take_of_length_le (by rw [HnF.out]; omega)
          rw [hFi]
          obtain ⟨S0, HS0⟩ : ∃ S, Hid (asB (ansL h k F) = S) := ⟨_, Lib.hid rfl⟩
          have hS0 : S0.size ≤ 300500 := by
            rw [← HS0.out]
            have h1 := ansL_len h k F
            rw [HN.out, HnF.out] at h1
            show (ansL h k F).length ≤ _
            omega
          obtain ⟨S1, HS1⟩ : ∃ S, Hid (S0 ++ (⟨#[13, 10]⟩ : ByteArray) = S) := ⟨_, Lib.hid rfl⟩
          have HSd : Hid (S1.data.toList = ansT (verL h) k (wrdL h) (preL h) (pstL h) (flL F)) := Lib.hid (by
            rw [← HS1.out, ← HS0.out, ← ansL_text]
            simp [asB, crlf])
          have hS1 : S1.size ≤ 300600 := by
            rw [← HS1.out, ByteArray.size_append]
            have : (⟨#[13, 10]⟩ : ByteArray).size = 2 := rfl
            omega
          rw [HS0.out]
          clear hFi
          by_cases hbig : 65536 < S1.size
          · have hbigI : (65536 : Int) < (S1.size : Int) := by omega
            go_upto_region 13 with (fail)
            rw [HS1.out]
            go_wp2
            go_ret
            exact ⟨rfl, HBr.out⟩
          have hbigI : ¬ (65536 : Int) < (S1.size : Int) := by omega
          have hcv := run_bytes_of_string (P := Tryd.prog) wr 9 24 5 S1 Tryd.underlying9 Tryd.underlying24 Tryd.underlying5
          have hgg := grownCap_ge wr S1.size 0 5
          have hle : grownCap wr S1.size 0 5 ≤ maxLen := grownCap_le_maxLen wr S1.size 0 _ (by unfold maxLen; omega)
          generalize grownCap wr S1.size 0 5 = cap at *
          rw [br_size12 S1 cap hgg] at hcv
          obtain ⟨W, HW⟩ : ∃ W, Hid (wr.drew.alloc (.cells (bytesRow S1 cap) 5 (cap, cap + 1)) = W) := ⟨_, Lib.hid rfl⟩
          have HBl : Hid (Below wr.heap.size wr W) := Lib.hid (by rw [← HW.out]; exact (Below.refl _ _).drew.alloc (Nat.le_refl _) _)
          have HBW := Lib.hid (HBr.out.trans (HBl.out.mono HBr.out.size))
          have HGW : Hid (W.heap[wr.heap.size]? = some (.cells (bytesRow S1 cap) 5 (cap, cap + 1))) := Lib.hid (by rw [← HW.out]; exact heap_alloc_new wr.drew _)
          have HC := Lib.hid (Get_any S1.data.toList (some ⟨wr.heap.size, 0, none⟩) cap wr.heap.size 0 m W (br_at12 S1 _ cap _ W hgg HGW.out) hle (HM.out.later HBW.out))
          have HRd : Hid (readD resD S1.data.toList = ((([], [], (k : Int)), flL F), (S1.size : Int), 0)) := Lib.hid (by
            have h1 := ans_read (k := k) (ver_or h) hk1 hk (wrd_tail h) (pre_bl h) (pst_bl h) HFl.out (by rw [flL_len, HnF.out]; omega) (by rw [← HSd.out, lenB]; omega)
            rw [← HSd.out, lenB] at h1
            exact h1)
          rw [HRd.out, lenB] at HC
          rw [HW.out] at hcv
          have Hcv := Lib.hid hcv
          clear hgg hle hcv
          go_upto_region 13 with (fail)
          rw [HS1.out]
          have hcv := Hcv.out
          go_wp2_with fail
          refine HC.out.mono ?_
          rintro e w6 ⟨v6, F6, hF6, rfl, ho6, b6⟩
          obtain rfl : F = F6 := flL_inj hF6.symm
          obtain ⟨p6, c6, q6, rfl, hx6, -⟩ := ownF_at ho6
          have HB6 := Lib.hid (HBW.out.trans (b6.mono HBW.out.size))
          obtain ⟨W7, HW7⟩ : ∃ W, Hid (w6.alloc (.cells (msC ([], [], (k : Int)) (.slice p6 F.length c6)) 26) = W) := ⟨_, Lib.hid rfl⟩
          have HBl7 : Hid (Below w6.heap.size w6 W7) := Lib.hid (by rw [← HW7.out]; exact (Below.refl _ _).alloc (Nat.le_refl _) _)
          have HB7 := Lib.hid (HB6.out.trans (HBl7.out.mono HB6.out.size))
          have hN7 : W7.heap[w6.heap.size]? = some (.cells (msC ([], [], (k : Int)) (.slice p6 F.length c6)) 26 (0, 0)) := by rw [← HW7.out]; exact heap_alloc_new w6 _
          have d2 : W7.cell? ⟨w6.heap.size, 2, none⟩ = some (.int .i64 (k : Int)) := by rw [cell_of_row W7 _ 2 _ _ _ hN7]; rfl
          have d3 : W7.cell? ⟨w6.heap.size, 3, none⟩ = some (.slice p6 F.length c6) := by rw [cell_of_row W7 _ 3 _ _ _ hN7]; rfl
          have HSF := Lib.hid (SameFields_eq p6 aF c6 cF q6 0 bF oF F W7 (hx6.later HBl7.out) (HFx.out.later HB7.out) (by rw [HnF.out]; unfold maxLen; omega))
          have HnF' := HnF.out
          rw [HnF.out] at d3 HSF
          clear hN7 hx6 hF6 ho6 b6 hcv HnF'
          go_wp2_with (refine wpL_store_row rfl 26 _ _ rfl w6.heap.size (msC ([], [], (k : Int)) (.slice p6 F.length c6)) ?_ ?_ 26 (msC fst0 (.slice none 0 0)) (heap_alloc_new _ _) infoMs rfl (msC_one _ _ rfl) ?_; (exact rfl); (exact rfl); (rw [World.setRow_alloc_new, HW7.out]))
          refine HSF.out.mono ?_
          rintro e w8 ⟨rfl, b8⟩
          go_wp2
          go_ret
          exact ⟨rfl, HB7.out.trans (b8.mono HB7.out.size)⟩
  · have hEb : (putE [77] [116] (flL F) != 0) = true := bne_iff_ne.2 hE
    go_wp2
    go_ret
    exact ⟨rfl, HB3.out⟩

end Go.Proofs.YtbfnbjffobhllaaDoor
