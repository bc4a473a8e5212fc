/-
  Several texts in one (a claim has room for 60 files): Row, Math, Rot, Get, ShaMath.
-/
import Derived.Test.YtpndccoikhejgaaDoorRows
import Derived.WalkKit
import Derived.WalkSpells
import Derived.WalkLawsBesides
import Derived.Lib.Strings
import Derived.Lib.Slices
import Derived.Lib.Small
import Derived.Lib.Walk
import Derived.Lib.BitFns
import Derived.Lib.Hide
import Derived.Handy
import Derived.Below
import Derived.Laws.Rows
import Derived.Laws.Tables
import Derived.Deep.WholeRow
import Derived.Deep.QuietTactic
import Derived.BigQuiet
import Derived.Laws.MathBits
import Derived.Laws.BitsAllLaws
namespace Go.Proofs.YtpndccoikhejgaaDoor
open Go.RowKit
set_option linter.unusedVariables false
set_option maxRecDepth 100000

/-- Block g holds just the cells cs, of type t; none is frozen. -/
def Row (w : World) (g : Nat) (t : TypeId) (cs : Array Value) : Prop := w.heap[g]? = some (.cells cs t (0, 0))
section
variable {w w' : World} {g B : Nat} {t : TypeId} {cs : Array Value}
theorem Row.lt (h : Row w g t cs) : g < w.heap.size := by
  unfold Row at h
  exact (Array.getElem?_eq_some_iff.1 h).1
theorem Row.cell (h : Row w g t cs) (i : Nat) : w.cell? ⟨g, i, none⟩ = cs[i]? := cell_of_row w g i cs t (0, 0) h
theorem Row.free (h : Row w g t cs) (i : Nat) : w.frozen? ⟨g, i, none⟩ = false := frozen_of_row w g i cs t h
theorem Row.made (w : World) (t : TypeId) (cs : Array Value) : Row (w.alloc (.cells cs t)) w.heap.size t cs := heap_alloc_new w _
theorem Row.made2 (w : World) (A : Obj) (t : TypeId) (cs : Array Value) : Row ((w.alloc A).alloc (.cells cs t)) (w.heap.size + 1) t cs := heap_alloc2_new w A _
theorem Row.drewN (h : Row w g t cs) (n : Nat) : Row (w.drewN n) g t cs := h
theorem Row.drew (h : Row w g t cs) : Row w.drew g t cs := h
theorem Row.alloc (h : Row w g t cs) (o : Obj) : Row (w.alloc o) g t cs := (Below.heap_alloc w o g h.lt).trans h
theorem Row.below (h : Row w g t cs) (hb : Below B w w') (hg : g < B) : Row w' g t cs := (hb.block g hg).trans h
theorem Row.next (h : Row w g t cs) (hb : Below w.heap.size w w') : Row w' g t cs := h.below hb h.lt
theorem Row.put (h : Row w g t cs) (i : Nat) (v : Value) : Row (w.setCell ⟨g, i, none⟩ v) g t (cs.setIfInBounds i v) := heap_setCell_same w g i cs t v h
theorem Row.far (h : Row w g t cs) {p : Addr} (hp : g ≠ p.block) (v : Value) : Row (w.setCell p v) g t cs := (heap_setCell_other w p g v hp).trans h
theorem Row.whole (h : Row w g t cs) (ds : Array Value) : Row (w.setRow g ds) g t ds := setRow_heap w g cs ds t (0, 0) h
theorem Row.wfar {g' : Nat} (h : Row w g t cs) (hg : g ≠ g') (ds : Array Value) : Row (w.setRow g' ds) g t cs := (setRow_other w g' g ds hg).trans h
end
theorem below_setRow {B g : Nat} {a w : World} {cs : Array Value} (h : Below B a w) (hg : B ≤ g) : Below B a (w.setRow g cs) :=
  ⟨h.os, h.tape, h.output, by simpa using h.size, fun i hi => (setRow_other w g i cs (by omega)).trans (h.block i hi)⟩
theorem below_drewN {B : Nat} {a w : World} (h : Below B a w) (n : Nat) : Below B a (w.drewN n) := ⟨h.os, h.tape, h.output, h.size, h.block⟩
theorem below_new {a w w1 : World} (h : Below a.heap.size a w) (h1 : Below w.heap.size w w1) : Below a.heap.size a w1 := h.trans (h1.mono h.size)
theorem below_cell {a w : World} (h : Below a.heap.size a w) {g i : Nat} {v : Value} (hc : a.cell? ⟨g, i, none⟩ = some v) : w.cell? ⟨g, i, none⟩ = some v :=
  (h.cell (p := ⟨g, i, none⟩) (block_lt_of_cell hc)).trans hc

/-- Numbers as cells. -/
def nums (k : IntKind) (l : List Int) : Array Value := (l.map (Value.int k)).toArray
theorem nums_size (k : IntKind) (l : List Int) : (nums k l).size = l.length := by simp [nums]
theorem nums_get (k : IntKind) (l : List Int) (i : Nat) (h : i < l.length) : (nums k l)[i]? = some (.int k (l.getD i 0)) := by
  simp [nums, List.getD, List.getElem?_eq_getElem h]
theorem nums_set (k : IntKind) (l : List Int) (i : Nat) (x : Int) : (nums k l).setIfInBounds i (.int k x) = nums k (l.set i x) := by
  simp [nums, List.map_set]
theorem nums_one (k : IntKind) (l : List Int) : (nums k l).all (·.oneCell') = true := by
  rw [Array.all_eq_true_iff_forall_mem]
  intro v hv
  simp [nums] at hv
  obtain ⟨x, _, rfl⟩ := hv
  rfl
theorem Row.num {w : World} {g : Nat} {t : TypeId} {k : IntKind} {l : List Int} (h : Row w g t (nums k l)) {i : Nat} (hi : i < l.length) : w.cell? ⟨g, i, none⟩ = some (.int k (l.getD i 0)) :=
  (h.cell i).trans (nums_get k l i hi)
theorem Row.numPut {w : World} {g : Nat} {t : TypeId} {k : IntKind} {l : List Int} (h : Row w g t (nums k l)) (i : Nat) (x : Int) : Row (w.setCell ⟨g, i, none⟩ (.int k x)) g t (nums k (l.set i x)) := by
  have := h.put i (.int k x)
  rwa [nums_set] at this
/-- A whole array into a block that was just made. -/
theorem wpList_store_fresh {P : Program} {ops : Array Oper} {rest : List Oper} {o : Oper} {a : Act} {w1 : World} {Q : Exit → Act → World → Prop} (hgd : o.guard = none) (ty : TypeId) (x y : Operand) (ho : o.op = .store ty x y)
    (cells : Array Value) (hx : a.eval x = .pointer (some ⟨w1.heap.size, 0, none⟩)) (hy : a.eval y = .agg cells) (t : TypeId) (old : Array Value) (hi : (P.info? ty).map (·.size) = some cells.size)
    (hold : old.size = cells.size) (h1 : cells.all (·.oneCell') = true)
    (h : ∀ w2, Row w2 w1.heap.size t cells → Below w1.heap.size w1 w2 → wpList P ops Q rest (a.put o.dst undef) w2) : wpList P ops Q (o :: rest) a (w1.alloc (.cells old t)) :=
  wpList_store_row hgd ty x y ho w1.heap.size cells hx hy t old (heap_alloc_new _ _) hi hold h1 (h _ ((Row.made w1 t old).whole cells) (below_setRow ((Below.refl _ _).alloc (Nat.le_refl _) _) (Nat.le_refl _)))
/-- A quiet call in a world behind draws, by a contract that leaves the world alone. -/
theorem still_more {P : Program} {f : FuncId} {args : Array Value} {w : World} {a n : Nat} {v : Value} (h : Calls P f args (w.drewN (a + n)) fun e w' => e = .returned v ∧ w.drewN (a + n) = w') :
    Calls P f args (w.drewN (a + n)) fun e w'' => e = .returned v ∧ ∃ m, w'' = w.drewN (a + m) := h.mono fun _ _ hh => ⟨hh.1, n, hh.2.symm⟩
theorem still {P : Program} {f : FuncId} {args : Array Value} {w : World} {n : Nat} {v : Value} (h : Calls P f args (w.drewN n) fun e w' => e = .returned v ∧ w.drewN n = w') :
    Calls P f args (w.drewN n) fun e w'' => e = .returned v ∧ ∃ m, w'' = w.drewN m := h.mono fun _ _ hh => ⟨hh.1, n, hh.2.symm⟩
end Go.Proofs.YtpndccoikhejgaaDoor
namespace Go.Proofs.YtpndccoikhejgaaDoor.Math
set_option linter.unusedVariables false

/-! ### turned numbers -/
def rot1 (x : Nat) : Nat := x * 2 % 4294967296 + x / 2147483648
def rotI : Nat → Nat → Nat
  | 0, x => x
  | k + 1, x => rot1 (rotI k x)
def rotC (k x : Nat) : Nat := x * 2 ^ k % 4294967296 + x / 2 ^ (32 - k)

theorem rot1_lt (x : Nat) (h : x < 4294967296) : rot1 x < 4294967296 := by unfold rot1; omega
theorem rotI_lt (k x : Nat) (h : x < 4294967296) : rotI k x < 4294967296 := by
  induction k with
  | zero => exact h
  | succ k ih => exact rot1_lt _ ih
theorem rotI_add (a b x : Nat) : rotI (a + b) x = rotI b (rotI a x) := by
  induction b with
  | zero => rfl
  | succ b ih => show rot1 (rotI (a + b) x) = rot1 (rotI b (rotI a x)); rw [ih]
theorem part (M x : Nat) (hM : 0 < M) : ∃ a c d, c < 2 ∧ d < M ∧ x = M * (2 * a + c) + d := by
  refine ⟨x / M / 2, x / M % 2, x % M, by omega, Nat.mod_lt _ hM, ?_⟩
  rw [show 2 * (x / M / 2) + x / M % 2 = x / M by omega]
  exact (Nat.div_add_mod x M).symm
theorem turn_step (P M a c d : Nat) (hPM : P * M = 2147483648) (hc : c < 2) (hd : d < M) (ha : a < P) :
    rot1 ((M * (2 * a + c) + d) * P % 4294967296 + (M * (2 * a + c) + d) / (2 * M)) = (M * (2 * a + c) + d) * (2 * P) % 4294967296 + (M * (2 * a + c) + d) / M := by
  have e : M * (2 * a + c) * P = 2147483648 * (2 * a + c) := by rw [← hPM, Nat.mul_comm P M, Nat.mul_assoc, Nat.mul_assoc, Nat.mul_comm P]
  have ey : d * P + P ≤ 2147483648 := by
    rw [← hPM, Nat.mul_comm P M]
    have := Nat.mul_le_mul_right P (show d + 1 ≤ M from hd)
    rw [Nat.succ_mul] at this; exact this
  have e1 : (M * (2 * a + c) + d) * P = 2147483648 * (2 * a + c) + d * P := by rw [Nat.add_mul, e]
  have e2 : (M * (2 * a + c) + d) * (2 * P) = 2 * (2147483648 * (2 * a + c) + d * P) := by rw [Nat.mul_left_comm, e1]
  have e3 : (M * (2 * a + c) + d) / M = 2 * a + c := by
    rw [Nat.mul_comm M, Nat.add_comm, Nat.add_mul_div_right _ _ (by omega), Nat.div_eq_of_lt hd]; omega
  have e4 : (M * (2 * a + c) + d) / (2 * M) = a := by rw [Nat.mul_comm 2 M, ← Nat.div_div_eq_div_mul, e3]; omega
  rw [e1, e2, e3, e4]
  generalize d * P = y at *
  unfold rot1
  have : c = 0 ∨ c = 1 := by omega
  rcases this with rfl | rfl <;> omega
theorem rotC_step (k x : Nat) (hk : k < 32) (h : x < 4294967296) : rot1 (rotC k x) = rotC (k + 1) x := by
  have hPM : 2 ^ k * 2 ^ (31 - k) = 2147483648 := by rw [← Nat.pow_add, show k + (31 - k) = 31 by omega]
  obtain ⟨a, c, d, hc, hd, rfl⟩ := part (2 ^ (31 - k)) x (Nat.pow_pos (by omega))
  have ha : a < 2 ^ k := by
    have h1 : 2 ^ (31 - k) * (2 * a + c) < 2 ^ (31 - k) * (2 * 2 ^ k) := by
      rw [Nat.mul_left_comm, Nat.mul_comm _ (2 ^ k), hPM]; omega
    have := Nat.lt_of_mul_lt_mul_left h1
    omega
  unfold rotC
  rw [show 32 - k = (31 - k) + 1 by omega, show 32 - (k + 1) = 31 - k by omega, Nat.pow_succ 2 (31 - k), Nat.mul_comm (2 ^ (31 - k)) 2, Nat.pow_succ 2 k, Nat.mul_comm (2 ^ k) 2]
  exact turn_step (2 ^ k) (2 ^ (31 - k)) a c d hPM hc hd ha
theorem rotI_eq (k x : Nat) (hk : k ≤ 32) (h : x < 4294967296) : rotI k x = rotC k x := by
  induction k with
  | zero => unfold rotI rotC; simp only [Nat.reducePow, Nat.reduceSub]; omega
  | succ k ih => show rot1 (rotI k x) = _; rw [ih (by omega), rotC_step k x (by omega) h]
theorem rotI_32 (x : Nat) (h : x < 4294967296) : rotI 32 x = x := by
  rw [rotI_eq 32 x (by omega) h]; unfold rotC; simp only [Nat.reducePow, Nat.reduceSub]; omega
theorem rotI_mul32 (j x : Nat) (h : x < 4294967296) : rotI (32 * j) x = x := by
  induction j with
  | zero => rfl
  | succ j ih => rw [Nat.mul_succ, rotI_add, ih, rotI_32 x h]
theorem rotI_mod (k x : Nat) (h : x < 4294967296) : rotI k x = rotI (k % 32) x := by
  have : k = 32 * (k / 32) + k % 32 := by omega
  conv => lhs; rw [this, rotI_add, rotI_mul32 _ _ h]

/-- A number turned by any number of places. -/
def rot (x k : Int) : Int := (rotI (k % 32).toNat x.toNat : Nat)
theorem rot_lo (x k : Int) : 0 ≤ rot x k := by unfold rot; omega
theorem rot_hi (x k : Int) (h : 0 ≤ x ∧ x < 4294967296) : rot x k < 4294967296 := by
  unfold rot; have := rotI_lt (k % 32).toNat x.toNat (by omega); omega
theorem rot_rot (x a b : Int) (h : 0 ≤ x ∧ x < 4294967296) : rot (rot x a) b = rot x (a + b) := by
  unfold rot
  have hx : x.toNat < 4294967296 := by omega
  rw [Int.toNat_natCast, ← rotI_add, rotI_mod _ _ hx]
  congr 2; omega
theorem rot_zero (x k : Int) (h : 0 ≤ x ∧ x < 4294967296) (hk : k % 32 = 0) : rot x k = x := by
  unfold rot; rw [hk]; show ((x.toNat : Nat) : Int) = x; omega
theorem rot_congr (x a b : Int) (h : a % 32 = b % 32) : rot x a = rot x b := by unfold rot; rw [h]
theorem rot_nat (x : Nat) (s : Nat) : rot (x : Int) (s : Int) = (rotI (s % 32) x : Nat) := by
  unfold rot; congr 2

/-! ### how many bits are 1 -/
def popF : Nat → Nat → Nat
  | 0, _ => 0
  | k + 1, n => n % 2 + popF k (n / 2)
theorem popF_le (k n : Nat) : popF k n ≤ k := by
  induction k generalizing n with
  | zero => simp [popF]
  | succ k ih => have := ih (n / 2); simp only [popF]; omega
theorem popF_zero (k : Nat) : popF k 0 = 0 := by
  induction k with
  | zero => rfl
  | succ k ih => simp [popF, ih]
theorem popF_add (a b n : Nat) : popF (a + b) n = popF a n + popF b (n / 2 ^ a) := by
  induction a generalizing n with
  | zero => simp [popF]
  | succ a ih =>
    rw [show a + 1 + b = (a + b) + 1 by omega]
    simp only [popF]
    rw [ih, Nat.div_div_eq_div_mul, show 2 * 2 ^ a = 2 ^ (a + 1) by rw [Nat.pow_succ]; omega]
    omega
theorem popF_mod (a n : Nat) : popF a (n % 2 ^ a) = popF a n := by
  induction a generalizing n with
  | zero => rfl
  | succ a ih =>
    simp only [popF]
    have e : n % 2 ^ (a + 1) / 2 = n / 2 % 2 ^ a := by
      rw [Nat.pow_succ, Nat.mul_comm, Nat.mod_mul_right_div_self]
    have e2 : n % 2 ^ (a + 1) % 2 = n % 2 := by
      rw [Nat.pow_succ]; exact Nat.mod_mod_of_dvd _ (Nat.dvd_mul_left _ _)
    rw [e, e2, ih]
theorem popF_small (a b n : Nat) (h : n < 2 ^ a) : popF (a + b) n = popF a n := by
  rw [popF_add, Nat.div_eq_of_lt h, popF_zero]; rfl
theorem popF_rot1 (x : Nat) (h : x < 4294967296) : popF 32 (rot1 x) = popF 32 x := by
  have e1 : popF 32 (rot1 x) = x / 2147483648 + popF 31 (x % 2147483648) := by
    show rot1 x % 2 + popF 31 (rot1 x / 2) = _
    have a : rot1 x % 2 = x / 2147483648 := by unfold rot1; omega
    have b : rot1 x / 2 = x % 2147483648 := by unfold rot1; omega
    rw [a, b]
  have e2 : popF 32 x = popF 31 x + popF 1 (x / 2 ^ 31) := popF_add 31 1 x
  have e3 : popF 31 (x % 2 ^ 31) = popF 31 x := popF_mod 31 x
  have e4 : popF 1 (x / 2 ^ 31) = x / 2 ^ 31 % 2 := by simp [popF]
  simp only [Nat.reducePow] at e2 e3 e4
  rw [e1, e2, e3, e4]; omega
theorem popF_rotI (k x : Nat) (h : x < 4294967296) : popF 32 (rotI k x) = popF 32 x := by
  induction k with
  | zero => rfl
  | succ k ih => show popF 32 (rot1 (rotI k x)) = _; rw [popF_rot1 _ (rotI_lt k x h), ih]
theorem popF_rot (x k : Int) (h : 0 ≤ x ∧ x < 4294967296) : popF 64 (rot x k).toNat = popF 64 x.toNat := by
  have hx : x.toNat < 2 ^ 32 := by omega
  have hr : (rot x k).toNat < 2 ^ 32 := by have := rot_lo x k; have := rot_hi x k h; omega
  rw [show (64 : Nat) = 32 + 32 by rfl, popF_small 32 32 _ hx, popF_small 32 32 _ hr]
  unfold rot
  rw [Int.toNat_natCast]
  exact popF_rotI _ _ (by omega)
theorem popF_pow (k : Nat) (h : k < 64) : popF 64 (2 ^ k) = 1 := by
  have : ∀ j : Nat, j < 64 → popF 64 (2 ^ j) = 1 := by decide +kernel
  exact this k h

/-! ### the same, as the library counts it: in fields of 2, 4, 8 bits -/
/-- A mask that lies byte by byte, over a number that is moved down by less than the mask leaves free. -/
theorem chunk (s b y m M : Nat) (hs : s ≤ 8) (hb : b < 256) (hm : m < 2 ^ (8 - s)) :
    ((b + 256 * y) >>> s) &&& (m + 256 * M) = ((b >>> s) &&& m) + 256 * ((y >>> s) &&& M) := by
  have hp : 2 ^ (8 - s) ≤ 2 ^ 8 := Nat.pow_le_pow_right (by omega) (by omega)
  have hm8 : m < 2 ^ 8 := by omega
  have hl : ((b >>> s) &&& m) < 2 ^ 8 := Nat.lt_of_le_of_lt Nat.and_le_right hm8
  apply Nat.eq_of_testBit_eq
  intro i
  rw [Nat.add_comm b, Nat.add_comm m, Nat.add_comm ((b >>> s) &&& m)]
  rw [show (256 : Nat) = 2 ^ 8 by rfl]
  rw [Nat.testBit_and, Nat.testBit_shiftRight, Nat.testBit_two_pow_mul_add _ (show b < 2 ^ 8 from hb), Nat.testBit_two_pow_mul_add _ hm8, Nat.testBit_two_pow_mul_add _ hl]
  by_cases h1 : i < 8
  · simp only [h1, if_true]
    rw [Nat.testBit_and, Nat.testBit_shiftRight]
    by_cases h2 : s + i < 8
    · simp only [h2, if_true]
    · simp only [h2, if_false]
      have : m.testBit i = false := Nat.testBit_lt_two_pow (Nat.lt_of_lt_of_le hm (Nat.pow_le_pow_right (by omega) (by omega)))
      simp [this]
  · have h2 : ¬ s + i < 8 := by omega
    simp only [h1, h2, if_false]
    rw [Nat.testBit_and, Nat.testBit_shiftRight]
    congr 2; omega

/-- Eight bytes in a row. -/
def row8 (b0 b1 b2 b3 b4 b5 b6 b7 : Nat) : Nat := b0 + 256 * (b1 + 256 * (b2 + 256 * (b3 + 256 * (b4 + 256 * (b5 + 256 * (b6 + 256 * b7))))))
theorem row8_of (x : Nat) (h : x < 18446744073709551616) : ∃ b0 b1 b2 b3 b4 b5 b6 b7 : Nat, b0 < 256 ∧ b1 < 256 ∧ b2 < 256 ∧ b3 < 256 ∧ b4 < 256 ∧ b5 < 256 ∧ b6 < 256 ∧ b7 < 256 ∧ x = row8 b0 b1 b2 b3 b4 b5 b6 b7 :=
  ⟨x % 256, x / 256 % 256, x / 65536 % 256, x / 16777216 % 256, x / 4294967296 % 256, x / 1099511627776 % 256, x / 281474976710656 % 256, x / 72057594037927936 % 256, by omega, by omega, by omega, by omega, by omega, by omega, by omega, by omega, by unfold row8; omega⟩
theorem mask8 (s m : Nat) (hs : s ≤ 8) (hm : m < 2 ^ (8 - s)) (b0 b1 b2 b3 b4 b5 b6 b7 : Nat) (h0 : b0 < 256) (h1 : b1 < 256) (h2 : b2 < 256) (h3 : b3 < 256) (h4 : b4 < 256) (h5 : b5 < 256) (h6 : b6 < 256) (h7 : b7 < 256) :
    (row8 b0 b1 b2 b3 b4 b5 b6 b7 >>> s) &&& row8 m m m m m m m m = row8 ((b0 >>> s) &&& m) ((b1 >>> s) &&& m) ((b2 >>> s) &&& m) ((b3 >>> s) &&& m) ((b4 >>> s) &&& m) ((b5 >>> s) &&& m) ((b6 >>> s) &&& m) ((b7 >>> s) &&& m) := by
  unfold row8
  rw [chunk s b0 _ m _ hs h0 hm, chunk s b1 _ m _ hs h1 hm, chunk s b2 _ m _ hs h2 hm, chunk s b3 _ m _ hs h3 hm, chunk s b4 _ m _ hs h4 hm, chunk s b5 _ m _ hs h5 hm, chunk s b6 _ m _ hs h6 hm]
theorem row8_add (a0 a1 a2 a3 a4 a5 a6 a7 b0 b1 b2 b3 b4 b5 b6 b7 : Nat) : row8 a0 a1 a2 a3 a4 a5 a6 a7 + row8 b0 b1 b2 b3 b4 b5 b6 b7 = row8 (a0 + b0) (a1 + b1) (a2 + b2) (a3 + b3) (a4 + b4) (a5 + b5) (a6 + b6) (a7 + b7) := by
  unfold row8; omega

/-- What the library's first two steps make of a byte. -/
def by1 (b : Nat) : Nat := ((b >>> 1) &&& 85) + ((b >>> 0) &&& 85)
def by2 (b : Nat) : Nat := ((b >>> 2) &&& 51) + ((b >>> 0) &&& 51)
theorem by_ok : ∀ b : Nat, b < 256 → by1 b < 256 ∧ by2 (by1 b) < 256 ∧ by2 (by1 b) % 16 + by2 (by1 b) / 16 = popF 8 b ∧ by2 (by1 b) % 16 ≤ 4 ∧ by2 (by1 b) / 16 ≤ 4 := by
  decide +kernel

def swar1 (x : Nat) : Nat := ((x / 2) &&& 6148914691236517205) + (x &&& 6148914691236517205)
def swar2 (x : Nat) : Nat := ((x / 4) &&& 3689348814741910323) + (x &&& 3689348814741910323)
def swar3 (x : Nat) : Nat := (x / 16 + x) &&& 1085102592571150095
theorem swar1_row (b0 b1 b2 b3 b4 b5 b6 b7 : Nat) (h0 : b0 < 256) (h1 : b1 < 256) (h2 : b2 < 256) (h3 : b3 < 256) (h4 : b4 < 256) (h5 : b5 < 256) (h6 : b6 < 256) (h7 : b7 < 256) :
    swar1 (row8 b0 b1 b2 b3 b4 b5 b6 b7) = row8 (by1 b0) (by1 b1) (by1 b2) (by1 b3) (by1 b4) (by1 b5) (by1 b6) (by1 b7) := by
  unfold swar1 by1
  rw [← row8_add, ← mask8 1 85 (by omega) (by decide) _ _ _ _ _ _ _ _ h0 h1 h2 h3 h4 h5 h6 h7, ← mask8 0 85 (by omega) (by decide) _ _ _ _ _ _ _ _ h0 h1 h2 h3 h4 h5 h6 h7]
  rw [Nat.shiftRight_eq_div_pow, Nat.shiftRight_zero]; rfl
theorem swar2_row (b0 b1 b2 b3 b4 b5 b6 b7 : Nat) (h0 : b0 < 256) (h1 : b1 < 256) (h2 : b2 < 256) (h3 : b3 < 256) (h4 : b4 < 256) (h5 : b5 < 256) (h6 : b6 < 256) (h7 : b7 < 256) :
    swar2 (row8 b0 b1 b2 b3 b4 b5 b6 b7) = row8 (by2 b0) (by2 b1) (by2 b2) (by2 b3) (by2 b4) (by2 b5) (by2 b6) (by2 b7) := by
  unfold swar2 by2
  rw [← row8_add, ← mask8 2 51 (by omega) (by decide) _ _ _ _ _ _ _ _ h0 h1 h2 h3 h4 h5 h6 h7, ← mask8 0 51 (by omega) (by decide) _ _ _ _ _ _ _ _ h0 h1 h2 h3 h4 h5 h6 h7]
  rw [Nat.shiftRight_eq_div_pow, Nat.shiftRight_zero]; rfl
/-- The third step: the low field of each byte bears the sum of its two. -/
theorem swar3_row (b0 b1 b2 b3 b4 b5 b6 b7 : Nat) (h0 : b0 % 16 ≤ 4 ∧ b0 / 16 ≤ 4) (h1 : b1 % 16 ≤ 4 ∧ b1 / 16 ≤ 4) (h2 : b2 % 16 ≤ 4 ∧ b2 / 16 ≤ 4) (h3 : b3 % 16 ≤ 4 ∧ b3 / 16 ≤ 4) (h4 : b4 % 16 ≤ 4 ∧ b4 / 16 ≤ 4) (h5 : b5 % 16 ≤ 4 ∧ b5 / 16 ≤ 4) (h6 : b6 % 16 ≤ 4 ∧ b6 / 16 ≤ 4) (h7 : b7 % 16 ≤ 4 ∧ b7 / 16 ≤ 4) :
    swar3 (row8 b0 b1 b2 b3 b4 b5 b6 b7) = row8 (b0 % 16 + b0 / 16) (b1 % 16 + b1 / 16) (b2 % 16 + b2 / 16) (b3 % 16 + b3 / 16) (b4 % 16 + b4 / 16) (b5 % 16 + b5 / 16) (b6 % 16 + b6 / 16) (b7 % 16 + b7 / 16) := by
  have e : row8 b0 b1 b2 b3 b4 b5 b6 b7 / 16 + row8 b0 b1 b2 b3 b4 b5 b6 b7 = row8 ((b0 % 16 + b0 / 16) + 16 * (b0 / 16 + b1 % 16)) ((b1 % 16 + b1 / 16) + 16 * (b1 / 16 + b2 % 16)) ((b2 % 16 + b2 / 16) + 16 * (b2 / 16 + b3 % 16)) ((b3 % 16 + b3 / 16) + 16 * (b3 / 16 + b4 % 16)) ((b4 % 16 + b4 / 16) + 16 * (b4 / 16 + b5 % 16)) ((b5 % 16 + b5 / 16) + 16 * (b5 / 16 + b6 % 16)) ((b6 % 16 + b6 / 16) + 16 * (b6 / 16 + b7 % 16)) ((b7 % 16 + b7 / 16) + 16 * (b7 / 16)) := by
    unfold row8; omega
  unfold swar3
  rw [e]
  have hm : (1085102592571150095 : Nat) = row8 15 15 15 15 15 15 15 15 := rfl
  rw [hm, ← Nat.shiftRight_zero (n := row8 ((b0 % 16 + b0 / 16) + 16 * (b0 / 16 + b1 % 16)) _ _ _ _ _ _ _), mask8 0 15 (by omega) (by decide) _ _ _ _ _ _ _ _ (by omega) (by omega) (by omega) (by omega) (by omega) (by omega) (by omega) (by omega)]
  simp only [Nat.shiftRight_zero]
  have k : ∀ a c : Nat, a ≤ 8 → (a + 16 * c) &&& 15 = a := fun a c h => by rw [show (15 : Nat) = 2 ^ 4 - 1 by rfl, Nat.and_two_pow_sub_one_eq_mod]; omega
  rw [k _ _ (by omega), k _ _ (by omega), k _ _ (by omega), k _ _ (by omega), k _ _ (by omega), k _ _ (by omega), k _ _ (by omega), k _ _ (by omega)]
theorem pop_row (b0 b1 b2 b3 b4 b5 b6 b7 : Nat) (h0 : b0 < 256) (h1 : b1 < 256) (h2 : b2 < 256) (h3 : b3 < 256) (h4 : b4 < 256) (h5 : b5 < 256) (h6 : b6 < 256) (h7 : b7 < 256) :
    popF 64 (row8 b0 b1 b2 b3 b4 b5 b6 b7) = popF 8 b0 + popF 8 b1 + popF 8 b2 + popF 8 b3 + popF 8 b4 + popF 8 b5 + popF 8 b6 + popF 8 b7 := by
  have step : ∀ (k b y : Nat), b < 256 → popF (8 + k) (b + 256 * y) = popF 8 b + popF k y := fun k b y hb => by
    rw [popF_add, ← popF_mod 8 (b + 256 * y)]
    congr 2
    · show (b + 256 * y) % 256 = b; omega
    · show (b + 256 * y) / 256 = y; omega
  unfold row8
  rw [show (64 : Nat) = 8 + (8 + (8 + (8 + (8 + (8 + (8 + 8)))))) by rfl, step _ _ _ h0, step _ _ _ h1, step _ _ _ h2, step _ _ _ h3, step _ _ _ h4, step _ _ _ h5, step _ _ _ h6]
  omega
def swar4 (x : Nat) : Nat := x + x / 256
def swar5 (x : Nat) : Nat := x + x / 65536
def swar6 (x : Nat) : Nat := x + x / 4294967296
theorem row8_lt (b0 b1 b2 b3 b4 b5 b6 b7 : Nat) (h0 : b0 < 256) (h1 : b1 < 256) (h2 : b2 < 256) (h3 : b3 < 256) (h4 : b4 < 256) (h5 : b5 < 256) (h6 : b6 < 256) (h7 : b7 < 256) : row8 b0 b1 b2 b3 b4 b5 b6 b7 < 18446744073709551616 := by unfold row8; omega
theorem swar4_row (p0 p1 p2 p3 p4 p5 p6 p7 : Nat) (h0 : p0 ≤ 8) (h1 : p1 ≤ 8) (h2 : p2 ≤ 8) (h3 : p3 ≤ 8) (h4 : p4 ≤ 8) (h5 : p5 ≤ 8) (h6 : p6 ≤ 8) (h7 : p7 ≤ 8) :
    swar4 (row8 p0 p1 p2 p3 p4 p5 p6 p7) = row8 (p0 + p1) (p1 + p2) (p2 + p3) (p3 + p4) (p4 + p5) (p5 + p6) (p6 + p7) p7 := by unfold swar4 row8; omega
theorem swar5_row (p0 p1 p2 p3 p4 p5 p6 p7 : Nat) (h0 : p0 ≤ 16) (h1 : p1 ≤ 16) (h2 : p2 ≤ 16) (h3 : p3 ≤ 16) (h4 : p4 ≤ 16) (h5 : p5 ≤ 16) (h6 : p6 ≤ 16) (h7 : p7 ≤ 16) :
    swar5 (row8 p0 p1 p2 p3 p4 p5 p6 p7) = row8 (p0 + p2) (p1 + p3) (p2 + p4) (p3 + p5) (p4 + p6) (p5 + p7) p6 p7 := by unfold swar5 row8; omega
theorem swar6_row (p0 p1 p2 p3 p4 p5 p6 p7 : Nat) (h0 : p0 ≤ 32) (h1 : p1 ≤ 32) (h2 : p2 ≤ 32) (h3 : p3 ≤ 32) (h4 : p4 ≤ 32) (h5 : p5 ≤ 32) (h6 : p6 ≤ 32) (h7 : p7 ≤ 32) :
    swar6 (row8 p0 p1 p2 p3 p4 p5 p6 p7) = row8 (p0 + p4) (p1 + p5) (p2 + p6) (p3 + p7) p4 p5 p6 p7 := by
  have e6 : row8 p0 p1 p2 p3 p4 p5 p6 p7 / 4294967296 = p4 + 256 * (p5 + 256 * (p6 + 256 * p7)) := by unfold row8; omega
  unfold swar6
  rw [e6]
  unfold row8; omega
theorem swar_last (p0 p1 p2 p3 p4 p5 p6 p7 : Nat) (h0 : p0 ≤ 8) (h1 : p1 ≤ 8) (h2 : p2 ≤ 8) (h3 : p3 ≤ 8) (h4 : p4 ≤ 8) (h5 : p5 ≤ 8) (h6 : p6 ≤ 8) (h7 : p7 ≤ 8) :
    swar6 (swar5 (swar4 (row8 p0 p1 p2 p3 p4 p5 p6 p7))) % 128 = p0 + p1 + p2 + p3 + p4 + p5 + p6 + p7 ∧ swar4 (row8 p0 p1 p2 p3 p4 p5 p6 p7) < 18446744073709551616 ∧ swar5 (swar4 (row8 p0 p1 p2 p3 p4 p5 p6 p7)) < 18446744073709551616 ∧ swar6 (swar5 (swar4 (row8 p0 p1 p2 p3 p4 p5 p6 p7))) < 18446744073709551616 := by
  rw [swar4_row _ _ _ _ _ _ _ _ h0 h1 h2 h3 h4 h5 h6 h7]
  rw [swar5_row _ _ _ _ _ _ _ _ (by omega) (by omega) (by omega) (by omega) (by omega) (by omega) (by omega) (by omega)]
  rw [swar6_row _ _ _ _ _ _ _ _ (by omega) (by omega) (by omega) (by omega) (by omega) (by omega) (by omega) (by omega)]
  refine ⟨?_, row8_lt _ _ _ _ _ _ _ _ (by omega) (by omega) (by omega) (by omega) (by omega) (by omega) (by omega) (by omega), row8_lt _ _ _ _ _ _ _ _ (by omega) (by omega) (by omega) (by omega) (by omega) (by omega) (by omega) (by omega), row8_lt _ _ _ _ _ _ _ _ (by omega) (by omega) (by omega) (by omega) (by omega) (by omega) (by omega) (by omega)⟩
  generalize e : p0 + p1 + (p2 + p3) + (p4 + p5 + (p6 + p7)) = t
  have : t ≤ 64 := by omega
  have e0 : p0 + p1 + p2 + p3 + p4 + p5 + p6 + p7 = t := by omega
  rw [e0]
  unfold row8
  clear e e0
  omega
/-- The sum of a number and a sixteenth of it stays below 2 ^ 64 if the highest byte's halves are small. -/
theorem sum_lt (b0 b1 b2 b3 b4 b5 b6 b7 : Nat) (h0 : b0 < 256) (h1 : b1 < 256) (h2 : b2 < 256) (h3 : b3 < 256) (h4 : b4 < 256) (h5 : b5 < 256) (h6 : b6 < 256) (h7 : b7 / 16 ≤ 4) :
    row8 b0 b1 b2 b3 b4 b5 b6 b7 / 16 + row8 b0 b1 b2 b3 b4 b5 b6 b7 < 18446744073709551616 := by
  have : row8 b0 b1 b2 b3 b4 b5 b6 b7 < 6000000000000000000 := by unfold row8; omega
  omega
theorem swar_all (x : Nat) (h : x < 18446744073709551616) :
    swar6 (swar5 (swar4 (swar3 (swar2 (swar1 x))))) % 128 = popF 64 x ∧ swar1 x < 18446744073709551616 ∧ swar2 (swar1 x) < 18446744073709551616 ∧ swar2 (swar1 x) / 16 + swar2 (swar1 x) < 18446744073709551616 ∧ swar4 (swar3 (swar2 (swar1 x))) < 18446744073709551616 ∧ swar5 (swar4 (swar3 (swar2 (swar1 x)))) < 18446744073709551616 ∧ swar6 (swar5 (swar4 (swar3 (swar2 (swar1 x))))) < 18446744073709551616 := by
  obtain ⟨b0, b1, b2, b3, b4, b5, b6, b7, h0, h1, h2, h3, h4, h5, h6, h7, rfl⟩ := row8_of x h
  obtain ⟨u0, v0, s0, t0, r0⟩ := by_ok b0 h0
  obtain ⟨u1, v1, s1, t1, r1⟩ := by_ok b1 h1
  obtain ⟨u2, v2, s2, t2, r2⟩ := by_ok b2 h2
  obtain ⟨u3, v3, s3, t3, r3⟩ := by_ok b3 h3
  obtain ⟨u4, v4, s4, t4, r4⟩ := by_ok b4 h4
  obtain ⟨u5, v5, s5, t5, r5⟩ := by_ok b5 h5
  obtain ⟨u6, v6, s6, t6, r6⟩ := by_ok b6 h6
  obtain ⟨u7, v7, s7, t7, r7⟩ := by_ok b7 h7
  rw [swar1_row _ _ _ _ _ _ _ _ h0 h1 h2 h3 h4 h5 h6 h7, swar2_row _ _ _ _ _ _ _ _ u0 u1 u2 u3 u4 u5 u6 u7, swar3_row _ _ _ _ _ _ _ _ ⟨t0, r0⟩ ⟨t1, r1⟩ ⟨t2, r2⟩ ⟨t3, r3⟩ ⟨t4, r4⟩ ⟨t5, r5⟩ ⟨t6, r6⟩ ⟨t7, r7⟩, s0, s1, s2, s3, s4, s5, s6, s7]
  have q : ∀ b, popF 8 b ≤ 8 := popF_le 8
  obtain ⟨l0, l1, l2, l3⟩ := swar_last _ _ _ _ _ _ _ _ (q b0) (q b1) (q b2) (q b3) (q b4) (q b5) (q b6) (q b7)
  refine ⟨?_, row8_lt _ _ _ _ _ _ _ _ u0 u1 u2 u3 u4 u5 u6 u7, row8_lt _ _ _ _ _ _ _ _ v0 v1 v2 v3 v4 v5 v6 v7, sum_lt _ _ _ _ _ _ _ _ v0 v1 v2 v3 v4 v5 v6 r7, l1, l2, l3⟩
  rw [l0, pop_row _ _ _ _ _ _ _ _ h0 h1 h2 h3 h4 h5 h6 h7]
end Go.Proofs.YtpndccoikhejgaaDoor.Math
namespace Go.Proofs.YtpndccoikhejgaaDoor
open Go.RowKit
set_option linter.unusedVariables false

theorem ret_u32 {a b : Int} (h : a = b) : Ending.returned (.int .u32 a) = .returned (.int .u32 b) := by rw [h]
theorem ret_i64 {a b : Int} (h : a = b) : Ending.returned (.int .i64 a) = .returned (.int .i64 b) := by rw [h]
theorem ret_u64 {a b : Int} (h : a = b) : Ending.returned (.int .u64 a) = .returned (.int .u64 b) := by rw [h]

theorem mask31 (k : Int) : ∃ s : Nat, s ≤ 31 ∧ k % 32 = s ∧ bits .and .u64 (IntKind.u64.wrap k) 31 = (s : Int) := by
  refine ⟨(k % 32).toNat, by omega, by omega, ?_⟩
  have e : IntKind.u64.wrap k = ((k % 18446744073709551616).toNat : Nat) := by rw [IntKind.wrap_u64]; omega
  rw [e, show (31 : Int) = ((31 : Nat) : Int) by rfl, u64_and_nat _ _ (by omega) (by omega), nat_mask5]
  omega
theorem rot_of (x k : Int) (s : Nat) (h : 0 ≤ x ∧ x < 4294967296) (hs : s ≤ 31) (hk : k % 32 = s) :
    bits .or .u32 (x * 2 ^ s % 4294967296) (x / 2 ^ (32 - s)) = Math.rot x k := by
  obtain ⟨n, rfl⟩ : ∃ n : Nat, x = n := ⟨x.toNat, by omega⟩
  have hn : n < 4294967296 := by omega
  have e1 : (n : Int) * 2 ^ s % 4294967296 = ((n * 2 ^ s % 4294967296 : Nat) : Int) := by
    rw [Int.natCast_emod, Int.natCast_mul, Int.natCast_pow]; rfl
  have e2 : (n : Int) / 2 ^ (32 - s) = ((n / 2 ^ (32 - s) : Nat) : Int) := by
    rw [Int.natCast_ediv, Int.natCast_pow]; rfl
  have l2 : n / 2 ^ (32 - s) < 2 ^ s := by
    apply Nat.div_lt_of_lt_mul
    rw [← Nat.pow_add, show 32 - s + s = 32 by omega]; exact hn
  have m1 : n * 2 ^ s % 4294967296 % 2 ^ s = 0 := by
    rw [Nat.mod_mod_of_dvd _ (show 2 ^ s ∣ 4294967296 from ⟨2 ^ (32 - s), by rw [← Nat.pow_add, show s + (32 - s) = 32 by omega]⟩)]
    exact Nat.mul_mod_left _ _
  have l3 : 2 ^ s ≤ 2 ^ 31 := Nat.pow_le_pow_right (by omega) hs
  rw [e1, e2, u32_or_nat _ _ (by omega) (by omega), nat_join s _ _ m1 l2]
  unfold Math.rot
  rw [hk, Int.toNat_natCast, Int.toNat_natCast, Math.rotI_eq s n (by omega) hn]
  rfl
set_option maxHeartbeats 400000 in
theorem rotate_any (x k : Int) (w : World) (h : 0 ≤ x ∧ x < 4294967296) :
    Calls Tryd.prog 100 #[.int .u32 x, .int .i64 k] w fun e w' => e = .returned (.int .u32 (Math.rot x k)) ∧ w = w' := by
  obtain ⟨s, hs, hk, hm⟩ := mask31 k
  have ho := rot_of x k s h hs hk
  have HO := Lib.hid ho
  clear ho
  go_enter Tryd.func100, Tryd.ntmps100
  go_wp2
  go_ret
  refine ⟨ret_u32 ?_, rfl⟩
  exact HO.out
set_option maxHeartbeats 400000 in
theorem right_any (x k : Int) (w : World) (h : 0 ≤ x ∧ x < 4294967296) :
    Calls Tryd.prog 91 #[.int .u32 x, .int .i64 k] w fun e w' => e = .returned (.int .u32 (Math.rot x (-k))) ∧ w = w' := by
  have hk : Math.rot x (wrap64 (-k)) = Math.rot x (-k) := Math.rot_congr _ _ _ (by unfold wrap64; omega)
  have HK := Lib.hid hk
  clear hk
  go_enter Tryd.func91, Tryd.ntmps91
  go_wp2_with (go_at_call 100; refine (rotate_any _ _ _ h).mono ?_; rintro e w' ⟨rfl, rfl⟩)
  go_ret
  exact ⟨ret_u32 HK.out, rfl⟩
theorem rot_bd (x k : Int) (h : 0 ≤ x ∧ x < 4294967296) : 0 ≤ Math.rot x k ∧ Math.rot x k < 4294967296 := ⟨Math.rot_lo x k, Math.rot_hi x k h⟩
end Go.Proofs.YtpndccoikhejgaaDoor
namespace Go.Proofs.YtpndccoikhejgaaDoor
open Go.RowKit
set_option linter.unusedVariables false

theorem byte_lt (c : UInt8) : c.toNat < 256 := c.toNat_lt
/-! ### the number of bytes -/
/-- The number of the first k bytes. -/
def getN (s : ByteArray) : Nat → Nat
  | 0 => 0
  | k + 1 => getN s k * 256 + (s.get! k).toNat
theorem getN_lt (s : ByteArray) (k : Nat) : getN s k < 256 ^ k := by
  induction k with
  | zero => simp [getN]
  | succ k ih =>
    have := byte_lt (s.get! k)
    rw [Nat.pow_succ]; simp only [getN]; omega
theorem getN_lt8 (s : ByteArray) (k : Nat) (h : k ≤ 8) : getN s k < 18446744073709551616 :=
  Nat.lt_of_lt_of_le (getN_lt s k) (Nat.pow_le_pow_right (n := 256) (by omega) h)
theorem getN_lt7 (s : ByteArray) (k : Nat) (h : k < 8) : getN s k < 72057594037927936 :=
  Nat.lt_of_lt_of_le (getN_lt s k) (Nat.pow_le_pow_right (n := 256) (by omega) (show k ≤ 7 by omega))
theorem get_elem (s : ByteArray) (k : Nat) (h : k < s.size) : s.get! k = s[k] := by
  show s.data[k]! = s.data[k]
  exact getElem!_pos s.data k h
theorem get_next (s : ByteArray) (k : Nat) (h : k < s.size) : getN s (k + 1) = getN s k * 256 + s[k].toNat := by
  simp only [getN]; rw [get_elem s k h]
theorem or_next (n : Nat) (c : UInt8) (h : n < 72057594037927936) : bits .or .u64 (IntKind.u64.wrap ((n : Int) * 256)) (c.toNat : Int) = ((n * 256 + c.toNat : Nat) : Int) := by
  have hc := byte_lt c
  have e : IntKind.u64.wrap ((n : Int) * 256) = ((n * 256 : Nat) : Int) := by rw [IntKind.wrap_u64]; omega
  rw [e, u64_or_nat _ _ (by omega) (by omega), nat_join 8 _ _ (by omega) (by omega)]
set_option maxHeartbeats 400000 in
theorem get_any (s : ByteArray) (w : World) (hs : s.size ≤ maxLen) :
    Calls Tryd.prog 90 #[.string s] w fun e w' => e = .returned (.int .u64 (getN s (min s.size 8) : Nat)) ∧ w = w' := by
  unfold maxLen at hs
  obtain ⟨N, hN, hN1, hN2, hN3⟩ : ∃ N : Nat, min (s.size : Int) 8 = (N : Int) ∧ N ≤ s.size ∧ N ≤ 8 ∧ Hid (min s.size 8 = N) := ⟨min s.size 8, by omega, by omega, by omega, Lib.hid rfl⟩
  go_enter Tryd.func90, Tryd.ntmps90
  go_wp2
  go_loop [3, 8] (fun t i => ∃ j : Nat, j ≤ N ∧ i = .int .i64 j ∧ t = .int .u64 (getN s j : Nat)) (fun _ i => (N - intOf i).toNat)
  case atStart => exact ⟨0, by omega, rfl, rfl⟩
  case round =>
    obtain ⟨j, hj, rfl, rfl⟩ := hrel
    by_cases h1 : j < N
    · have h2 : j < s.size := by omega
      have HN := Lib.hid (get_next s j h2)
      have hb := byte_lt s[j]
      have HO := Lib.hid (or_next (getN s j) s[j] (getN_lt7 s j (by omega)))
      go_wp2
      go_round
      case rel => exact ⟨j + 1, by omega, by go_num, by rw [HN.out, ← HO.out]⟩
      case measure => simp [intOf]; omega
    · obtain rfl : N = j := by omega
      go_wp2
      go_ret
      exact ⟨ret_u64 (by rw [hN3.out]), rfl⟩
end Go.Proofs.YtpndccoikhejgaaDoor
namespace Go.Proofs.YtpndccoikhejgaaDoor
open Go.RowKit
set_option linter.unusedVariables false

namespace Sha
/-- What is xor-ed to turn a number's bits. -/
def ones : Int := if IntKind.u32.signed = true then -1 else IntKind.u32.max
def S1 (e : Int) : Int := bits .xor .u32 (bits .xor .u32 (Math.rot e (-6)) (Math.rot e (-11))) (Math.rot e (-25))
def S0 (a : Int) : Int := bits .xor .u32 (bits .xor .u32 (Math.rot a (-2)) (Math.rot a (-13))) (Math.rot a (-22))
def ch (e f g : Int) : Int := bits .xor .u32 (bits .and .u32 e f) (bits .and .u32 (bits .xor .u32 ones e) g)
def maj (a b c : Int) : Int := bits .xor .u32 (bits .xor .u32 (bits .and .u32 a b) (bits .and .u32 a c)) (bits .and .u32 b c)
def t1 (e f g h k w : Int) : Int := (h + S1 e + ch e f g + k + w) % 4294967296
def t2 (a b c : Int) : Int := (S0 a + maj a b c) % 4294967296
/-- The eight numbers. -/
structure St where
  (a b c d e f g h : Int)
def St.step (s : St) (k w : Int) : St := ⟨(t1 s.e s.f s.g s.h k w + t2 s.a s.b s.c) % 4294967296, s.a, s.b, s.c, (s.d + t1 s.e s.f s.g s.h k w) % 4294967296, s.e, s.f, s.g⟩
def rnd (K W : List Int) (s : St) : Nat → St
  | 0 => s
  | n + 1 => (rnd K W s n).step (K.getD n 0) (W.getD n 0)
def St.list (s : St) : List Int := [s.a, s.b, s.c, s.d, s.e, s.f, s.g, s.h]
def St.cells (s : St) : Array Value := #[.int .u32 s.a, .int .u32 s.b, .int .u32 s.c, .int .u32 s.d, .int .u32 s.e, .int .u32 s.f, .int .u32 s.g, .int .u32 s.h]
def St.ok (s : St) : Prop := (0 ≤ s.a ∧ s.a < 4294967296) ∧ (0 ≤ s.b ∧ s.b < 4294967296) ∧ (0 ≤ s.c ∧ s.c < 4294967296) ∧ (0 ≤ s.d ∧ s.d < 4294967296) ∧ (0 ≤ s.e ∧ s.e < 4294967296) ∧ (0 ≤ s.f ∧ s.f < 4294967296) ∧ (0 ≤ s.g ∧ s.g < 4294967296) ∧ (0 ≤ s.h ∧ s.h < 4294967296)
theorem md (x : Int) : 0 ≤ x % 4294967296 ∧ x % 4294967296 < 4294967296 := by omega
theorem St.step_ok (s : St) (k w : Int) (h : s.ok) : (s.step k w).ok := ⟨md _, h.1, h.2.1, h.2.2.1, md _, h.2.2.2.2.1, h.2.2.2.2.2.1, h.2.2.2.2.2.2.1⟩
theorem rnd_ok (K W : List Int) (s : St) (h : s.ok) (n : Nat) : (rnd K W s n).ok := by
  induction n with
  | zero => exact h
  | succ n ih => exact St.step_ok _ _ _ ih
/-- The numbers behind the rounds, and those ahead of them, together. -/
def St.plus (s r : St) : St := ⟨(s.a + r.a) % 4294967296, (s.b + r.b) % 4294967296, (s.c + r.c) % 4294967296, (s.d + r.d) % 4294967296, (s.e + r.e) % 4294967296, (s.f + r.f) % 4294967296, (s.g + r.g) % 4294967296, (s.h + r.h) % 4294967296⟩
theorem St.plus_ok (s r : St) : (s.plus r).ok := ⟨md _, md _, md _, md _, md _, md _, md _, md _⟩
def s0 (x : Int) : Int := bits .xor .u32 (bits .xor .u32 (Math.rot x (-7)) (Math.rot x (-18))) (x / 8)
def s1 (x : Int) : Int := bits .xor .u32 (bits .xor .u32 (Math.rot x (-17)) (Math.rot x (-19))) (x / 1024)
/-- The word that comes behind l. -/
def more (l : List Int) : Int := (l.getD (l.length - 16) 0 + s0 (l.getD (l.length - 15) 0) + l.getD (l.length - 7) 0 + s1 (l.getD (l.length - 2) 0)) % 4294967296
/-- The first word's four bytes. -/
def word (s : ByteArray) (p : Nat) : Nat := (((s.get! p).toNat * 256 + (s.get! (p + 1)).toNat) * 256 + (s.get! (p + 2)).toNat) * 256 + (s.get! (p + 3)).toNat
def first (s : ByteArray) (at_ : Nat) : Nat → List Int
  | 0 => []
  | n + 1 => first s at_ n ++ [((word s (at_ + 4 * n) : Nat) : Int)]
def sched (s : ByteArray) (at_ : Nat) : Nat → List Int
  | 0 => first s at_ 16
  | n + 1 => sched s at_ n ++ [more (sched s at_ n)]
def block (K : List Int) (s : St) (b : ByteArray) (at_ : Nat) : St := s.plus (rnd K (sched b at_ 48) s 64)
def blocks (K : List Int) (s : St) (b : ByteArray) : Nat → St
  | 0 => s
  | n + 1 => block K (blocks K s b n) b (64 * n)
theorem blocks_ok (K : List Int) (s : St) (b : ByteArray) (h : s.ok) (n : Nat) : (blocks K s b n).ok := by
  cases n with
  | zero => exact h
  | succ n => exact St.plus_ok _ _
theorem word_bd (s : ByteArray) (p : Nat) : word s p < 4294967296 := by
  have h0 := byte_lt (s.get! p); have h1 := byte_lt (s.get! (p + 1)); have h2 := byte_lt (s.get! (p + 2)); have h3 := byte_lt (s.get! (p + 3))
  unfold word; omega
theorem first_length (s : ByteArray) (at_ n : Nat) : (first s at_ n).length = n := by
  induction n with
  | zero => rfl
  | succ n ih => simp [first, ih]
theorem sched_length (s : ByteArray) (at_ n : Nat) : (sched s at_ n).length = 16 + n := by
  induction n with
  | zero => exact first_length s at_ 16
  | succ n ih => simp [sched, ih]; omega
def small (l : List Int) : Prop := ∀ i, 0 ≤ l.getD i 0 ∧ l.getD i 0 < 4294967296
theorem small_nil : small [] := fun i => by simp [List.getD]
theorem small_snoc (l : List Int) (x : Int) (h : small l) (hx : 0 ≤ x ∧ x < 4294967296) : small (l ++ [x]) := fun i => by
  have := h i
  rcases Nat.lt_trichotomy i l.length with hi | hi | hi
  · simpa [List.getD, List.getElem?_append_left hi] using this
  · subst hi; simpa [List.getD] using hx
  · simp [List.getD, List.getElem?_append_right (Nat.le_of_lt hi), List.getElem?_eq_none (show [x].length ≤ i - l.length by simp; omega)]
theorem first_small (s : ByteArray) (at_ n : Nat) : small (first s at_ n) := by
  induction n with
  | zero => exact small_nil
  | succ n ih => exact small_snoc _ _ ih (by have := word_bd s (at_ + 4 * n); omega)
theorem sched_small (s : ByteArray) (at_ n : Nat) : small (sched s at_ n) := by
  induction n with
  | zero => exact first_small s at_ 16
  | succ n ih => exact small_snoc _ _ ih (md _)
/-- Two texts that have the same bytes there have the same words there. -/
theorem word_congr (s t : ByteArray) (p q : Nat) (h : ∀ i, i < 4 → s.get! (p + i) = t.get! (q + i)) : word s p = word t q := by
  have h0 := h 0 (by omega); have h1 := h 1 (by omega); have h2 := h 2 (by omega); have h3 := h 3 (by omega)
  simp only [Nat.add_zero] at h0
  unfold word; rw [h0, h1, h2, h3]
theorem first_congr (s t : ByteArray) (p q : Nat) (n : Nat) (hn : n ≤ 16) (h : ∀ i, i < 64 → s.get! (p + i) = t.get! (q + i)) : first s p n = first t q n := by
  induction n with
  | zero => rfl
  | succ n ih =>
    simp only [first]
    rw [ih (by omega), word_congr s t (p + 4 * n) (q + 4 * n) (fun i hi => by have := h (4 * n + i) (by omega); simpa [Nat.add_assoc] using this)]
theorem sched_congr (s t : ByteArray) (p q : Nat) (n : Nat) (h : ∀ i, i < 64 → s.get! (p + i) = t.get! (q + i)) : sched s p n = sched t q n := by
  induction n with
  | zero => exact first_congr s t p q 16 (by omega) h
  | succ n ih => simp only [sched]; rw [ih]
theorem block_congr (K : List Int) (st : St) (s t : ByteArray) (p q : Nat) (h : ∀ i, i < 64 → s.get! (p + i) = t.get! (q + i)) : block K st s p = block K st t q := by
  unfold block; rw [sched_congr s t p q 48 h]
theorem blocks_congr (K : List Int) (st : St) (s t : ByteArray) (n : Nat) (h : ∀ i, i < 64 * n → s.get! i = t.get! i) : blocks K st s n = blocks K st t n := by
  induction n with
  | zero => rfl
  | succ n ih =>
    simp only [blocks]
    rw [ih (fun i hi => h i (by omega)), block_congr K _ s t (64 * n) (64 * n) (fun i hi => h _ (by omega))]
/-- Blocks of one text, then those of what stands behind it. -/
theorem blocks_add (K : List Int) (st : St) (s t : ByteArray) (m n : Nat) (h : ∀ i, i < 64 * n → s.get! (64 * m + i) = t.get! i) : blocks K st s (m + n) = blocks K (blocks K st s m) t n := by
  induction n with
  | zero => rfl
  | succ n ih =>
    rw [← Nat.add_assoc]
    simp only [blocks]
    rw [ih (fun i hi => h i (by omega)), block_congr K _ s t (64 * (m + n)) (64 * n) (fun i hi => by have := h (64 * n + i) (by omega); rwa [← Nat.add_assoc, ← Nat.mul_add] at this)]
end Sha
end Go.Proofs.YtpndccoikhejgaaDoor
