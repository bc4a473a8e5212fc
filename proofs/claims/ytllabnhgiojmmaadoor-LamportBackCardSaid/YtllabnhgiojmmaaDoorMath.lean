/-
  Plain arithmetic of layer 1 (bits): turned numbers, how many bits are 1, bytes of a number. No dump is imported.
-/
import Derived.Laws.MathBits
import Derived.Laws.BitsAllLaws
namespace Go.Proofs.YtllabnhgiojmmaaDoor.Math
set_option linter.unusedVariables false

/-! ### turned numbers -/
def rot1 (x : Nat) : Nat := x * 2 % 4294967296 + x / 2147483648
def rotI : Nat → Nat → Nat
  | 0, x => x
  | k + 1, x => rot1 (rotI k x)
def rotC (k x : Nat) : Nat := x * 2 ^ k % 4294967296 + x / 2 ^ (32 - k)

theorem rot1_lt (x : Nat) (h : x < 4294967296) : rot1 x < 4294967296 := by unfold rot1; omega
theorem rotI_lt (k x : Nat) (h : x < 4294967296) : rotI k x < 4294967296 := by
  induction k with
  | zero => exact h
  | succ k ih => exact rot1_lt _ ih
theorem rotI_add (a b x : Nat) : rotI (a + b) x = rotI b (rotI a x) := by
  induction b with
  | zero => rfl
  | succ b ih => show rot1 (rotI (a + b) x) = rot1 (rotI b (rotI a x)); rw [ih]
theorem part (M x : Nat) (hM : 0 < M) : ∃ a c d, c < 2 ∧ d < M ∧ x = M * (2 * a + c) + d := by
  refine ⟨x / M / 2, x / M % 2, x % M, by omega, Nat.mod_lt _ hM, ?_⟩
  rw [show 2 * (x / M / 2) + x / M % 2 = x / M by omega]
  exact (Nat.div_add_mod x M).symm
theorem turn_step (P M a c d : Nat) (hPM : P * M = 2147483648) (hc : c < 2) (hd : d < M) (ha : a < P) :
    rot1 ((M * (2 * a + c) + d) * P % 4294967296 + (M * (2 * a + c) + d) / (2 * M)) = (M * (2 * a + c) + d) * (2 * P) % 4294967296 + (M * (2 * a + c) + d) / M := by
  have e : M * (2 * a + c) * P = 2147483648 * (2 * a + c) := by rw [← hPM, Nat.mul_comm P M, Nat.mul_assoc, Nat.mul_assoc, Nat.mul_comm P]
  have ey : d * P + P ≤ 2147483648 := by
    rw [← hPM, Nat.mul_comm P M]
    have := Nat.mul_le_mul_right P (show d + 1 ≤ M from hd)
    rw [Nat.succ_mul] at this; exact this
  have e1 : (M * (2 * a + c) + d) * P = 2147483648 * (2 * a + c) + d * P := by rw [Nat.add_mul, e]
  have e2 : (M * (2 * a + c) + d) * (2 * P) = 2 * (2147483648 * (2 * a + c) + d * P) := by rw [Nat.mul_left_comm, e1]
  have e3 : (M * (2 * a + c) + d) / M = 2 * a + c := by
    rw [Nat.mul_comm M, Nat.add_comm, Nat.add_mul_div_right _ _ (by omega), Nat.div_eq_of_lt hd]; omega
  have e4 : (M * (2 * a + c) + d) / (2 * M) = a := by rw [Nat.mul_comm 2 M, ← Nat.div_div_eq_div_mul, e3]; omega
  rw [e1, e2, e3, e4]
  generalize d * P = y at *
  unfold rot1
  have : c = 0 ∨ c = 1 := by omega
  rcases this with rfl | rfl <;> omega
theorem rotC_step (k x : Nat) (hk : k < 32) (h : x < 4294967296) : rot1 (rotC k x) = rotC (k + 1) x := by
  have hPM : 2 ^ k * 2 ^ (31 - k) = 2147483648 := by rw [← Nat.pow_add, show k + (31 - k) = 31 by omega]
  obtain ⟨a, c, d, hc, hd, rfl⟩ := part (2 ^ (31 - k)) x (Nat.pow_pos (by omega))
  have ha : a < 2 ^ k := by
    have h1 : 2 ^ (31 - k) * (2 * a + c) < 2 ^ (31 - k) * (2 * 2 ^ k) := by
      rw [Nat.mul_left_comm, Nat.mul_comm _ (2 ^ k), hPM]; omega
    have := Nat.lt_of_mul_lt_mul_left h1
    omega
  unfold rotC
  rw [show 32 - k = (31 - k) + 1 by omega, show 32 - (k + 1) = 31 - k by omega, Nat.pow_succ 2 (31 - k), Nat.mul_comm (2 ^ (31 - k)) 2, Nat.pow_succ 2 k, Nat.mul_comm (2 ^ k) 2]
  exact turn_step (2 ^ k) (2 ^ (31 - k)) a c d hPM hc hd ha
theorem rotI_eq (k x : Nat) (hk : k ≤ 32) (h : x < 4294967296) : rotI k x = rotC k x := by
  induction k with
  | zero => unfold rotI rotC; simp only [Nat.reducePow, Nat.reduceSub]; omega
  | succ k ih => show rot1 (rotI k x) = _; rw [ih (by omega), rotC_step k x (by omega) h]
theorem rotI_32 (x : Nat) (h : x < 4294967296) : rotI 32 x = x := by
  rw [rotI_eq 32 x (by omega) h]; unfold rotC; simp only [Nat.reducePow, Nat.reduceSub]; omega
theorem rotI_mul32 (j x : Nat) (h : x < 4294967296) : rotI (32 * j) x = x := by
  induction j with
  | zero => rfl
  | succ j ih => rw [Nat.mul_succ, rotI_add, ih, rotI_32 x h]
theorem rotI_mod (k x : Nat) (h : x < 4294967296) : rotI k x = rotI (k % 32) x := by
  have : k = 32 * (k / 32) + k % 32 := by omega
  conv => lhs; rw [this, rotI_add, rotI_mul32 _ _ h]

/-- A number turned by any number of places. -/
def rot (x k : Int) : Int := (rotI (k % 32).toNat x.toNat : Nat)
theorem rot_lo (x k : Int) : 0 ≤ rot x k := by unfold rot; omega
theorem rot_hi (x k : Int) (h : 0 ≤ x ∧ x < 4294967296) : rot x k < 4294967296 := by
  unfold rot; have := rotI_lt (k % 32).toNat x.toNat (by omega); omega
theorem rot_rot (x a b : Int) (h : 0 ≤ x ∧ x < 4294967296) : rot (rot x a) b = rot x (a + b) := by
  unfold rot
  have hx : x.toNat < 4294967296 := by omega
  rw [Int.toNat_natCast, ← rotI_add, rotI_mod _ _ hx]
  congr 2; omega
theorem rot_zero (x k : Int) (h : 0 ≤ x ∧ x < 4294967296) (hk : k % 32 = 0) : rot x k = x := by
  unfold rot; rw [hk]; show ((x.toNat : Nat) : Int) = x; omega
theorem rot_congr (x a b : Int) (h : a % 32 = b % 32) : rot x a = rot x b := by unfold rot; rw [h]
theorem rot_nat (x : Nat) (s : Nat) : rot (x : Int) (s : Int) = (rotI (s % 32) x : Nat) := by
  unfold rot; congr 2

/-! ### how many bits are 1 -/
def popF : Nat → Nat → Nat
  | 0, _ => 0
  | k + 1, n => n % 2 + popF k (n / 2)
theorem popF_le (k n : Nat) : popF k n ≤ k := by
  induction k generalizing n with
  | zero => simp [popF]
  | succ k ih => have := ih (n / 2); simp only [popF]; omega
theorem popF_zero (k : Nat) : popF k 0 = 0 := by
  induction k with
  | zero => rfl
  | succ k ih => simp [popF, ih]
theorem popF_add (a b n : Nat) : popF (a + b) n = popF a n + popF b (n / 2 ^ a) := by
  induction a generalizing n with
  | zero => simp [popF]
  | succ a ih =>
    rw [show a + 1 + b = (a + b) + 1 by omega]
    simp only [popF]
    rw [ih, Nat.div_div_eq_div_mul, show 2 * 2 ^ a = 2 ^ (a + 1) by rw [Nat.pow_succ]; omega]
    omega
theorem popF_mod (a n : Nat) : popF a (n % 2 ^ a) = popF a n := by
  induction a generalizing n with
  | zero => rfl
  | succ a ih =>
    simp only [popF]
    have e : n % 2 ^ (a + 1) / 2 = n / 2 % 2 ^ a := by
      rw [Nat.pow_succ, Nat.mul_comm, Nat.mod_mul_right_div_self]
    have e2 : n % 2 ^ (a + 1) % 2 = n % 2 := by
      rw [Nat.pow_succ]; exact Nat.mod_mod_of_dvd _ (Nat.dvd_mul_left _ _)
    rw [e, e2, ih]
theorem popF_small (a b n : Nat) (h : n < 2 ^ a) : popF (a + b) n = popF a n := by
  rw [popF_add, Nat.div_eq_of_lt h, popF_zero]; rfl
theorem popF_rot1 (x : Nat) (h : x < 4294967296) : popF 32 (rot1 x) = popF 32 x := by
  have e1 : popF 32 (rot1 x) = x / 2147483648 + popF 31 (x % 2147483648) := by
    show rot1 x % 2 + popF 31 (rot1 x / 2) = _
    have a : rot1 x % 2 = x / 2147483648 := by unfold rot1; omega
    have b : rot1 x / 2 = x % 2147483648 := by unfold rot1; omega
    rw [a, b]
  have e2 : popF 32 x = popF 31 x + popF 1 (x / 2 ^ 31) := popF_add 31 1 x
  have e3 : popF 31 (x % 2 ^ 31) = popF 31 x := popF_mod 31 x
  have e4 : popF 1 (x / 2 ^ 31) = x / 2 ^ 31 % 2 := by simp [popF]
  simp only [Nat.reducePow] at e2 e3 e4
  rw [e1, e2, e3, e4]; omega
theorem popF_rotI (k x : Nat) (h : x < 4294967296) : popF 32 (rotI k x) = popF 32 x := by
  induction k with
  | zero => rfl
  | succ k ih => show popF 32 (rot1 (rotI k x)) = _; rw [popF_rot1 _ (rotI_lt k x h), ih]
theorem popF_rot (x k : Int) (h : 0 ≤ x ∧ x < 4294967296) : popF 64 (rot x k).toNat = popF 64 x.toNat := by
  have hx : x.toNat < 2 ^ 32 := by omega
  have hr : (rot x k).toNat < 2 ^ 32 := by have := rot_lo x k; have := rot_hi x k h; omega
  rw [show (64 : Nat) = 32 + 32 by rfl, popF_small 32 32 _ hx, popF_small 32 32 _ hr]
  unfold rot
  rw [Int.toNat_natCast]
  exact popF_rotI _ _ (by omega)
theorem popF_pow (k : Nat) (h : k < 64) : popF 64 (2 ^ k) = 1 := by
  have : ∀ j : Nat, j < 64 → popF 64 (2 ^ j) = 1 := by decide +kernel
  exact this k h

/-! ### the same, as the library counts it: in fields of 2, 4, 8 bits -/
/-- A mask that lies byte by byte, over a number that is moved down by less than the mask leaves free. -/
theorem chunk (s b y m M : Nat) (hs : s ≤ 8) (hb : b < 256) (hm : m < 2 ^ (8 - s)) :
    ((b + 256 * y) >>> s) &&& (m + 256 * M) = ((b >>> s) &&& m) + 256 * ((y >>> s) &&& M) := by
  have hp : 2 ^ (8 - s) ≤ 2 ^ 8 := Nat.pow_le_pow_right (by omega) (by omega)
  have hm8 : m < 2 ^ 8 := by omega
  have hl : ((b >>> s) &&& m) < 2 ^ 8 := Nat.lt_of_le_of_lt Nat.and_le_right hm8
  apply Nat.eq_of_testBit_eq
  intro i
  rw [Nat.add_comm b, Nat.add_comm m, Nat.add_comm ((b >>> s) &&& m)]
  rw [show (256 : Nat) = 2 ^ 8 by rfl]
  rw [Nat.testBit_and, Nat.testBit_shiftRight, Nat.testBit_two_pow_mul_add _ (show b < 2 ^ 8 from hb), Nat.testBit_two_pow_mul_add _ hm8, Nat.testBit_two_pow_mul_add _ hl]
  by_cases h1 : i < 8
  · simp only [h1, if_true]
    rw [Nat.testBit_and, Nat.testBit_shiftRight]
    by_cases h2 : s + i < 8
    · simp only [h2, if_true]
    · simp only [h2, if_false]
      have : m.testBit i = false := Nat.testBit_lt_two_pow (Nat.lt_of_lt_of_le hm (Nat.pow_le_pow_right (by omega) (by omega)))
      simp [this]
  · have h2 : ¬ s + i < 8 := by omega
    simp only [h1, h2, if_false]
    rw [Nat.testBit_and, Nat.testBit_shiftRight]
    congr 2; omega

/-- Eight bytes in a row. -/
def row8 (b0 b1 b2 b3 b4 b5 b6 b7 : Nat) : Nat := b0 + 256 * (b1 + 256 * (b2 + 256 * (b3 + 256 * (b4 + 256 * (b5 + 256 * (b6 + 256 * b7))))))
theorem row8_of (x : Nat) (h : x < 18446744073709551616) : ∃ b0 b1 b2 b3 b4 b5 b6 b7 : Nat, b0 < 256 ∧ b1 < 256 ∧ b2 < 256 ∧ b3 < 256 ∧ b4 < 256 ∧ b5 < 256 ∧ b6 < 256 ∧ b7 < 256 ∧ x = row8 b0 b1 b2 b3 b4 b5 b6 b7 :=
  ⟨x % 256, x / 256 % 256, x / 65536 % 256, x / 16777216 % 256, x / 4294967296 % 256, x / 1099511627776 % 256, x / 281474976710656 % 256, x / 72057594037927936 % 256, by omega, by omega, by omega, by omega, by omega, by omega, by omega, by omega, by unfold row8; omega⟩
theorem mask8 (s m : Nat) (hs : s ≤ 8) (hm : m < 2 ^ (8 - s)) (b0 b1 b2 b3 b4 b5 b6 b7 : Nat) (h0 : b0 < 256) (h1 : b1 < 256) (h2 : b2 < 256) (h3 : b3 < 256) (h4 : b4 < 256) (h5 : b5 < 256) (h6 : b6 < 256) (h7 : b7 < 256) :
    (row8 b0 b1 b2 b3 b4 b5 b6 b7 >>> s) &&& row8 m m m m m m m m = row8 ((b0 >>> s) &&& m) ((b1 >>> s) &&& m) ((b2 >>> s) &&& m) ((b3 >>> s) &&& m) ((b4 >>> s) &&& m) ((b5 >>> s) &&& m) ((b6 >>> s) &&& m) ((b7 >>> s) &&& m) := by
  unfold row8
  rw [chunk s b0 _ m _ hs h0 hm, chunk s b1 _ m _ hs h1 hm, chunk s b2 _ m _ hs h2 hm, chunk s b3 _ m _ hs h3 hm, chunk s b4 _ m _ hs h4 hm, chunk s b5 _ m _ hs h5 hm, chunk s b6 _ m _ hs h6 hm]
theorem row8_add (a0 a1 a2 a3 a4 a5 a6 a7 b0 b1 b2 b3 b4 b5 b6 b7 : Nat) : row8 a0 a1 a2 a3 a4 a5 a6 a7 + row8 b0 b1 b2 b3 b4 b5 b6 b7 = row8 (a0 + b0) (a1 + b1) (a2 + b2) (a3 + b3) (a4 + b4) (a5 + b5) (a6 + b6) (a7 + b7) := by
  unfold row8; omega

/-- What the library's first two steps make of a byte. -/
def by1 (b : Nat) : Nat := ((b >>> 1) &&& 85) + ((b >>> 0) &&& 85)
def by2 (b : Nat) : Nat := ((b >>> 2) &&& 51) + ((b >>> 0) &&& 51)
theorem by_ok : ∀ b : Nat, b < 256 → by1 b < 256 ∧ by2 (by1 b) < 256 ∧ by2 (by1 b) % 16 + by2 (by1 b) / 16 = popF 8 b ∧ by2 (by1 b) % 16 ≤ 4 ∧ by2 (by1 b) / 16 ≤ 4 := by
  decide +kernel

def swar1 (x : Nat) : Nat := ((x / 2) &&& 6148914691236517205) + (x &&& 6148914691236517205)
def swar2 (x : Nat) : Nat := ((x / 4) &&& 3689348814741910323) + (x &&& 3689348814741910323)
def swar3 (x : Nat) : Nat := (x / 16 + x) &&& 1085102592571150095
theorem swar1_row (b0 b1 b2 b3 b4 b5 b6 b7 : Nat) (h0 : b0 < 256) (h1 : b1 < 256) (h2 : b2 < 256) (h3 : b3 < 256) (h4 : b4 < 256) (h5 : b5 < 256) (h6 : b6 < 256) (h7 : b7 < 256) :
    swar1 (row8 b0 b1 b2 b3 b4 b5 b6 b7) = row8 (by1 b0) (by1 b1) (by1 b2) (by1 b3) (by1 b4) (by1 b5) (by1 b6) (by1 b7) := by
  unfold swar1 by1
  rw [← row8_add, ← mask8 1 85 (by omega) (by decide) _ _ _ _ _ _ _ _ h0 h1 h2 h3 h4 h5 h6 h7, ← mask8 0 85 (by omega) (by decide) _ _ _ _ _ _ _ _ h0 h1 h2 h3 h4 h5 h6 h7]
  rw [Nat.shiftRight_eq_div_pow, Nat.shiftRight_zero]; rfl
theorem swar2_row (b0 b1 b2 b3 b4 b5 b6 b7 : Nat) (h0 : b0 < 256) (h1 : b1 < 256) (h2 : b2 < 256) (h3 : b3 < 256) (h4 : b4 < 256) (h5 : b5 < 256) (h6 : b6 < 256) (h7 : b7 < 256) :
    swar2 (row8 b0 b1 b2 b3 b4 b5 b6 b7) = row8 (by2 b0) (by2 b1) (by2 b2) (by2 b3) (by2 b4) (by2 b5) (by2 b6) (by2 b7) := by
  unfold swar2 by2
  rw [← row8_add, ← mask8 2 51 (by omega) (by decide) _ _ _ _ _ _ _ _ h0 h1 h2 h3 h4 h5 h6 h7, ← mask8 0 51 (by omega) (by decide) _ _ _ _ _ _ _ _ h0 h1 h2 h3 h4 h5 h6 h7]
  rw [Nat.shiftRight_eq_div_pow, Nat.shiftRight_zero]; rfl
/-- The third step: the low field of each byte bears the sum of its two. -/
theorem swar3_row (b0 b1 b2 b3 b4 b5 b6 b7 : Nat) (h0 : b0 % 16 ≤ 4 ∧ b0 / 16 ≤ 4) (h1 : b1 % 16 ≤ 4 ∧ b1 / 16 ≤ 4) (h2 : b2 % 16 ≤ 4 ∧ b2 / 16 ≤ 4) (h3 : b3 % 16 ≤ 4 ∧ b3 / 16 ≤ 4) (h4 : b4 % 16 ≤ 4 ∧ b4 / 16 ≤ 4) (h5 : b5 % 16 ≤ 4 ∧ b5 / 16 ≤ 4) (h6 : b6 % 16 ≤ 4 ∧ b6 / 16 ≤ 4) (h7 : b7 % 16 ≤ 4 ∧ b7 / 16 ≤ 4) :
    swar3 (row8 b0 b1 b2 b3 b4 b5 b6 b7) = row8 (b0 % 16 + b0 / 16) (b1 % 16 + b1 / 16) (b2 % 16 + b2 / 16) (b3 % 16 + b3 / 16) (b4 % 16 + b4 / 16) (b5 % 16 + b5 / 16) (b6 % 16 + b6 / 16) (b7 % 16 + b7 / 16) := by
  have e : row8 b0 b1 b2 b3 b4 b5 b6 b7 / 16 + row8 b0 b1 b2 b3 b4 b5 b6 b7 = row8 ((b0 % 16 + b0 / 16) + 16 * (b0 / 16 + b1 % 16)) ((b1 % 16 + b1 / 16) + 16 * (b1 / 16 + b2 % 16)) ((b2 % 16 + b2 / 16) + 16 * (b2 / 16 + b3 % 16)) ((b3 % 16 + b3 / 16) + 16 * (b3 / 16 + b4 % 16)) ((b4 % 16 + b4 / 16) + 16 * (b4 / 16 + b5 % 16)) ((b5 % 16 + b5 / 16) + 16 * (b5 / 16 + b6 % 16)) ((b6 % 16 + b6 / 16) + 16 * (b6 / 16 + b7 % 16)) ((b7 % 16 + b7 / 16) + 16 * (b7 / 16)) := by
    unfold row8; omega
  unfold swar3
  rw [e]
  have hm : (1085102592571150095 : Nat) = row8 15 15 15 15 15 15 15 15 := rfl
  rw [hm, ← Nat.shiftRight_zero (n := row8 ((b0 % 16 + b0 / 16) + 16 * (b0 / 16 + b1 % 16)) _ _ _ _ _ _ _), mask8 0 15 (by omega) (by decide) _ _ _ _ _ _ _ _ (by omega) (by omega) (by omega) (by omega) (by omega) (by omega) (by omega) (by omega)]
  simp only [Nat.shiftRight_zero]
  have k : ∀ a c : Nat, a ≤ 8 → (a + 16 * c) &&& 15 = a := fun a c h => by rw [show (15 : Nat) = 2 ^ 4 - 1 by rfl, Nat.and_two_pow_sub_one_eq_mod]; omega
  rw [k _ _ (by omega), k _ _ (by omega), k _ _ (by omega), k _ _ (by omega), k _ _ (by omega), k _ _ (by omega), k _ _ (by omega), k _ _ (by omega)]
theorem pop_row (b0 b1 b2 b3 b4 b5 b6 b7 : Nat) (h0 : b0 < 256) (h1 : b1 < 256) (h2 : b2 < 256) (h3 : b3 < 256) (h4 : b4 < 256) (h5 : b5 < 256) (h6 : b6 < 256) (h7 : b7 < 256) :
    popF 64 (row8 b0 b1 b2 b3 b4 b5 b6 b7) = popF 8 b0 + popF 8 b1 + popF 8 b2 + popF 8 b3 + popF 8 b4 + popF 8 b5 + popF 8 b6 + popF 8 b7 := by
  have step : ∀ (k b y : Nat), b < 256 → popF (8 + k) (b + 256 * y) = popF 8 b + popF k y := fun k b y hb => by
    rw [popF_add, ← popF_mod 8 (b + 256 * y)]
    congr 2
    · show (b + 256 * y) % 256 = b; omega
    · show (b + 256 * y) / 256 = y; omega
  unfold row8
  rw [show (64 : Nat) = 8 + (8 + (8 + (8 + (8 + (8 + (8 + 8)))))) by rfl, step _ _ _ h0, step _ _ _ h1, step _ _ _ h2, step _ _ _ h3, step _ _ _ h4, step _ _ _ h5, step _ _ _ h6]
  omega
def swar4 (x : Nat) : Nat := x + x / 256
def swar5 (x : Nat) : Nat := x + x / 65536
def swar6 (x : Nat) : Nat := x + x / 4294967296
theorem row8_lt (b0 b1 b2 b3 b4 b5 b6 b7 : Nat) (h0 : b0 < 256) (h1 : b1 < 256) (h2 : b2 < 256) (h3 : b3 < 256) (h4 : b4 < 256) (h5 : b5 < 256) (h6 : b6 < 256) (h7 : b7 < 256) : row8 b0 b1 b2 b3 b4 b5 b6 b7 < 18446744073709551616 := by unfold row8; omega
theorem swar4_row (p0 p1 p2 p3 p4 p5 p6 p7 : Nat) (h0 : p0 ≤ 8) (h1 : p1 ≤ 8) (h2 : p2 ≤ 8) (h3 : p3 ≤ 8) (h4 : p4 ≤ 8) (h5 : p5 ≤ 8) (h6 : p6 ≤ 8) (h7 : p7 ≤ 8) :
    swar4 (row8 p0 p1 p2 p3 p4 p5 p6 p7) = row8 (p0 + p1) (p1 + p2) (p2 + p3) (p3 + p4) (p4 + p5) (p5 + p6) (p6 + p7) p7 := by unfold swar4 row8; omega
theorem swar5_row (p0 p1 p2 p3 p4 p5 p6 p7 : Nat) (h0 : p0 ≤ 16) (h1 : p1 ≤ 16) (h2 : p2 ≤ 16) (h3 : p3 ≤ 16) (h4 : p4 ≤ 16) (h5 : p5 ≤ 16) (h6 : p6 ≤ 16) (h7 : p7 ≤ 16) :
    swar5 (row8 p0 p1 p2 p3 p4 p5 p6 p7) = row8 (p0 + p2) (p1 + p3) (p2 + p4) (p3 + p5) (p4 + p6) (p5 + p7) p6 p7 := by unfold swar5 row8; omega
theorem swar6_row (p0 p1 p2 p3 p4 p5 p6 p7 : Nat) (h0 : p0 ≤ 32) (h1 : p1 ≤ 32) (h2 : p2 ≤ 32) (h3 : p3 ≤ 32) (h4 : p4 ≤ 32) (h5 : p5 ≤ 32) (h6 : p6 ≤ 32) (h7 : p7 ≤ 32) :
    swar6 (row8 p0 p1 p2 p3 p4 p5 p6 p7) = row8 (p0 + p4) (p1 + p5) (p2 + p6) (p3 + p7) p4 p5 p6 p7 := by
  have e6 : row8 p0 p1 p2 p3 p4 p5 p6 p7 / 4294967296 = p4 + 256 * (p5 + 256 * (p6 + 256 * p7)) := by unfold row8; omega
  unfold swar6
  rw [e6]
  unfold row8; omega
theorem swar_last (p0 p1 p2 p3 p4 p5 p6 p7 : Nat) (h0 : p0 ≤ 8) (h1 : p1 ≤ 8) (h2 : p2 ≤ 8) (h3 : p3 ≤ 8) (h4 : p4 ≤ 8) (h5 : p5 ≤ 8) (h6 : p6 ≤ 8) (h7 : p7 ≤ 8) :
    swar6 (swar5 (swar4 (row8 p0 p1 p2 p3 p4 p5 p6 p7))) % 128 = p0 + p1 + p2 + p3 + p4 + p5 + p6 + p7 ∧ swar4 (row8 p0 p1 p2 p3 p4 p5 p6 p7) < 18446744073709551616 ∧ swar5 (swar4 (row8 p0 p1 p2 p3 p4 p5 p6 p7)) < 18446744073709551616 ∧ swar6 (swar5 (swar4 (row8 p0 p1 p2 p3 p4 p5 p6 p7))) < 18446744073709551616 := by
  rw [swar4_row _ _ _ _ _ _ _ _ h0 h1 h2 h3 h4 h5 h6 h7]
  rw [swar5_row _ _ _ _ _ _ _ _ (by omega) (by omega) (by omega) (by omega) (by omega) (by omega) (by omega) (by omega)]
  rw [swar6_row _ _ _ _ _ _ _ _ (by omega) (by omega) (by omega) (by omega) (by omega) (by omega) (by omega) (by omega)]
  refine ⟨?_, row8_lt _ _ _ _ _ _ _ _ (by omega) (by omega) (by omega) (by omega) (by omega) (by omega) (by omega) (by omega), row8_lt _ _ _ _ _ _ _ _ (by omega) (by omega) (by omega) (by omega) (by omega) (by omega) (by omega) (by omega), row8_lt _ _ _ _ _ _ _ _ (by omega) (by omega) (by omega) (by omega) (by omega) (by omega) (by omega) (by omega)⟩
  generalize e : p0 + p1 + (p2 + p3) + (p4 + p5 + (p6 + p7)) = t
  have : t ≤ 64 := by omega
  have e0 : p0 + p1 + p2 + p3 + p4 + p5 + p6 + p7 = t := by omega
  rw [e0]
  unfold row8
  clear e e0
  omega
/-- The sum of a number and a sixteenth of it stays below 2 ^ 64 if the highest byte's halves are small. -/
theorem sum_lt (b0 b1 b2 b3 b4 b5 b6 b7 : Nat) (h0 : b0 < 256) (h1 : b1 < 256) (h2 : b2 < 256) (h3 : b3 < 256) (h4 : b4 < 256) (h5 : b5 < 256) (h6 : b6 < 256) (h7 : b7 / 16 ≤ 4) :
    row8 b0 b1 b2 b3 b4 b5 b6 b7 / 16 + row8 b0 b1 b2 b3 b4 b5 b6 b7 < 18446744073709551616 := by
  have : row8 b0 b1 b2 b3 b4 b5 b6 b7 < 6000000000000000000 := by unfold row8; omega
  omega
theorem swar_all (x : Nat) (h : x < 18446744073709551616) :
    swar6 (swar5 (swar4 (swar3 (swar2 (swar1 x))))) % 128 = popF 64 x ∧ swar1 x < 18446744073709551616 ∧ swar2 (swar1 x) < 18446744073709551616 ∧ swar2 (swar1 x) / 16 + swar2 (swar1 x) < 18446744073709551616 ∧ swar4 (swar3 (swar2 (swar1 x))) < 18446744073709551616 ∧ swar5 (swar4 (swar3 (swar2 (swar1 x)))) < 18446744073709551616 ∧ swar6 (swar5 (swar4 (swar3 (swar2 (swar1 x))))) < 18446744073709551616 := by
  obtain ⟨b0, b1, b2, b3, b4, b5, b6, b7, h0, h1, h2, h3, h4, h5, h6, h7, rfl⟩ := row8_of x h
  obtain ⟨u0, v0, s0, t0, r0⟩ := by_ok b0 h0
  obtain ⟨u1, v1, s1, t1, r1⟩ := by_ok b1 h1
  obtain ⟨u2, v2, s2, t2, r2⟩ := by_ok b2 h2
  obtain ⟨u3, v3, s3, t3, r3⟩ := by_ok b3 h3
  obtain ⟨u4, v4, s4, t4, r4⟩ := by_ok b4 h4
  obtain ⟨u5, v5, s5, t5, r5⟩ := by_ok b5 h5
  obtain ⟨u6, v6, s6, t6, r6⟩ := by_ok b6 h6
  obtain ⟨u7, v7, s7, t7, r7⟩ := by_ok b7 h7
  rw [swar1_row _ _ _ _ _ _ _ _ h0 h1 h2 h3 h4 h5 h6 h7, swar2_row _ _ _ _ _ _ _ _ u0 u1 u2 u3 u4 u5 u6 u7, swar3_row _ _ _ _ _ _ _ _ ⟨t0, r0⟩ ⟨t1, r1⟩ ⟨t2, r2⟩ ⟨t3, r3⟩ ⟨t4, r4⟩ ⟨t5, r5⟩ ⟨t6, r6⟩ ⟨t7, r7⟩, s0, s1, s2, s3, s4, s5, s6, s7]
  have q : ∀ b, popF 8 b ≤ 8 := popF_le 8
  obtain ⟨l0, l1, l2, l3⟩ := swar_last _ _ _ _ _ _ _ _ (q b0) (q b1) (q b2) (q b3) (q b4) (q b5) (q b6) (q b7)
  refine ⟨?_, row8_lt _ _ _ _ _ _ _ _ u0 u1 u2 u3 u4 u5 u6 u7, row8_lt _ _ _ _ _ _ _ _ v0 v1 v2 v3 v4 v5 v6 v7, sum_lt _ _ _ _ _ _ _ _ v0 v1 v2 v3 v4 v5 v6 r7, l1, l2, l3⟩
  rw [l0, pop_row _ _ _ _ _ _ _ _ h0 h1 h2 h3 h4 h5 h6 h7]
end Go.Proofs.YtllabnhgiojmmaaDoor.Math
