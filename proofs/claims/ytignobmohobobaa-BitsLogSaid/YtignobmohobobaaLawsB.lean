/-
  The walk of the statement BitsBack: it returns true, for every number of 64 bits, every number of 32 bits and every two numbers of 16 bits; what it makes is new memory, nothing that was there changes.
-/
import Derived.Test.YtignobmohobobaaLawsA
import Derived.Deep.QuietTactic
import Derived.BigQuiet
namespace Go.Proofs.Ytignobmohobobaa
open Go.RowKit
set_option linter.unusedVariables false

theorem strOfNums_get (xs : List Int) (i : Nat) (h : i < xs.length) (hb : 0 ≤ xs[i] ∧ xs[i] < 256) : ((strOfNums xs).get! i).toNat = xs[i].toNat := by
  have hs : i < (strOfNums xs).size := by rw [strOfNums_size]; exact h
  rw [get_elem _ i hs]
  show ((xs.map fun n => UInt8.ofNat n.toNat).toArray[i]'(by simpa using h)).toNat = _
  simp
  omega
theorem putL_get (n : Int) (k i : Nat) (h : i < k) : (putL n k)[i]'(by rw [putL_length]; exact h) = n / 2 ^ (8 * (k - 1 - i)) % 256 := by
  induction k generalizing i with
  | zero => omega
  | succ k ih =>
    cases i with
    | zero => simp [putL]
    | succ i =>
      simp only [putL, List.getElem_cons_succ]
      rw [ih i (by omega)]
      congr 3; omega
theorem putS_byte (n : Int) (k i : Nat) (hk : 1 ≤ k ∧ k ≤ 8) (h : i < k) : ((putS n k).get! i).toNat = (n / 2 ^ (8 * (k - 1 - i)) % 256).toNat := by
  rw [putS_some n k (by omega), Int.toNat_natCast, strOfNums_get _ i (by rw [putL_length]; exact h) (by rw [putL_get n k i h]; omega), putL_get n k i h]
theorem putS_size (n : Int) (k : Nat) (hk : 1 ≤ k ∧ k ≤ 8) : (putS n k).size = k := by
  rw [putS_some n k (by omega), strOfNums_size, putL_length]; omega
theorem putS_small (n k : Int) : (putS n k).size ≤ 8 := by
  by_cases h : 1 ≤ k ∧ k ≤ 8
  · rw [putS_some n k h, strOfNums_size, putL_length]; omega
  · rw [putS_none n k h]; exact Nat.zero_le _
theorem getN_put (n : Int) (z k : Nat) (hz : 1 ≤ z ∧ z ≤ 8) (hk : k ≤ z) (h : 0 ≤ n ∧ n < 2 ^ (8 * z)) : ((getN (putS n z) k : Nat) : Int) = n / 2 ^ (8 * (z - k)) := by
  induction k with
  | zero => rw [Nat.sub_zero, Int.ediv_eq_zero_of_lt h.1 h.2]; rfl
  | succ k ih =>
    have e := ih (by omega)
    have d := down8 n (z - (k + 1))
    rw [show z - (k + 1) + 1 = z - k by omega] at d
    have b := putS_byte n z k hz (by omega)
    rw [show z - 1 - k = z - (k + 1) by omega] at b
    simp only [getN]
    rw [b, Int.natCast_add, Int.natCast_mul, e, ← d]
    generalize n / 2 ^ (8 * (z - (k + 1))) = m
    omega
theorem get_of_put (n : Int) (h : 0 ≤ n ∧ n < 18446744073709551616) : ((getN (putS n 8) (min (putS n 8).size 8) : Nat) : Int) = n := by
  have e := getN_put n 8 8 (by omega) (by omega) h
  rw [show (putS n 8).size = 8 from putS_size n 8 (by omega), Nat.min_self]
  exact e.trans (by simp)
theorem get_put (n : Int) (w : World) (h : 0 ≤ n ∧ n < 18446744073709551616) :
    Calls Try.prog 20 #[.string (putS n 8)] w fun e w' => e = .returned (.int .u64 n) ∧ w = w' :=
  (get_any (putS n 8) w (by have := putS_small n 8; unfold maxLen; omega)).mono fun e w' ⟨h1, h2⟩ => ⟨h1.trans (ret_u64 (get_of_put n h)), h2⟩
theorem rot_bd (x k : Int) (h : 0 ≤ x ∧ x < 4294967296) : 0 ≤ Math.rot x k ∧ Math.rot x k < 4294967296 := ⟨Math.rot_lo x k, Math.rot_hi x k h⟩
theorem right_left (x a : Int) (w : World) (h : 0 ≤ x ∧ x < 4294967296) :
    Calls Try.prog 11 #[.int .u32 (Math.rot x a), .int .i64 a] w fun e w' => e = .returned (.int .u32 x) ∧ w = w' :=
  (right_any _ a w (rot_bd x a h)).mono fun e w' ⟨h1, h2⟩ => ⟨h1.trans (ret_u32 (by rw [Math.rot_rot x a (-a) h, Math.rot_zero x (a + -a) h (by omega)])), h2⟩
theorem left_left (x a b : Int) (w : World) (h : 0 ≤ x ∧ x < 4294967296) :
    Calls Try.prog 9 #[.int .u32 (Math.rot x a), .int .i64 b] w fun e w' => e = .returned (.int .u32 (Math.rot x (a + b))) ∧ w = w' :=
  (left_any _ b w (rot_bd x a h)).mono fun e w' ⟨h1, h2⟩ => ⟨h1.trans (ret_u32 (by rw [Math.rot_rot x a b h])), h2⟩
theorem left_32 (x : Int) (w : World) (h : 0 ≤ x ∧ x < 4294967296) :
    Calls Try.prog 9 #[.int .u32 x, .int .i64 32] w fun e w' => e = .returned (.int .u32 x) ∧ w = w' :=
  (left_any x 32 w h).mono fun e w' ⟨h1, h2⟩ => ⟨h1.trans (ret_u32 (Math.rot_zero x 32 h (by omega))), h2⟩
theorem ones_rot (x a : Int) (w : World) (h : 0 ≤ x ∧ x < 4294967296) :
    Calls Try.prog 13 #[.int .i64 (Math.rot x a)] w fun e w' => e = .returned (.int .i64 (Math.popF 64 x.toNat)) ∧ w = w' :=
  (ones_any (Math.rot x a) w (by have := rot_bd x a h; omega)).mono fun e w' ⟨h1, h2⟩ => ⟨h1.trans (ret_i64 (by rw [Math.popF_rot x a h])), h2⟩

theorem below_drewN {B : Nat} {a w : World} (h : Below B a w) (n : Nat) : Below B a (w.drewN n) := by
  exact ⟨h.os, h.tape, h.output, h.size, h.block⟩
set_option maxHeartbeats 1000000 in
theorem back_walk (n x p q : Int) (w : World) (hn : 0 ≤ n ∧ n < 18446744073709551616) (hx : 0 ≤ x ∧ x < 4294967296) (hp : 0 ≤ p ∧ p ≤ 65535) (hq : 0 ≤ q ∧ q ≤ 65535) :
    Calls Try.prog 5 #[.int .u64 n, .int .u32 x, .agg #[.int .u16 p, .int .u16 q]] w fun e w' => e = .returned (.bool true) ∧ Below w.heap.size w w' := by
  have hr := rot_bd x p hx
  go_enter Try.func5, Try.ntmps5
  go_wp2
  go_quiet (fail)
  go_wp2_with (first
    | (go_at_call 7; (with_reducible refine (put_any _ _ _ hn).mono ?_); rintro e w1 ⟨rfl, hb1⟩)
    | (go_at_call 20; (with_reducible refine (get_put _ _ hn).mono ?_); rintro e w' ⟨rfl, rfl⟩)
    | (go_at_call 9; (first | ((with_reducible refine (left_left _ _ _ _ hx).mono ?_); rintro e w' ⟨rfl, rfl⟩) | ((with_reducible refine (left_32 _ _ hx).mono ?_); rintro e w' ⟨rfl, rfl⟩) | ((with_reducible refine (left_any _ _ _ hx).mono ?_); rintro e w' ⟨rfl, rfl⟩)))
    | (go_at_call 11; (first | ((with_reducible refine (right_left _ _ _ hx).mono ?_); rintro e w' ⟨rfl, rfl⟩) | ((with_reducible refine (right_any _ _ _ hx).mono ?_); rintro e w' ⟨rfl, rfl⟩)))
    | (go_at_call 13; (first | ((with_reducible refine (ones_rot _ _ _ hx).mono ?_); rintro e w' ⟨rfl, rfl⟩) | ((with_reducible refine (ones_any _ _ (by omega)).mono ?_); rintro e w' ⟨rfl, rfl⟩)))
    | (go_at_call 17; (with_reducible refine (turned_any _).mono ?_); rintro e w2 ⟨rfl, hb2⟩))
  go_ret
  refine ⟨rfl, ?_⟩
  have h0 : Below w.heap.size w ((w.alloc (Obj.cells #[Value.int .u16 p, Value.int .u16 q] 33)).drewN nq) := below_drewN ((Below.refl _ _).alloc (Nat.le_refl _) _) nq
  have h1 := h0.trans (hb1.mono h0.size)
  exact h1.trans (hb2.mono h1.size)
end Go.Proofs.Ytignobmohobobaa
