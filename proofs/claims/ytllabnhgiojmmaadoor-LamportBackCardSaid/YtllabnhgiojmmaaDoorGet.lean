/-
  The walk of bits.Get (layer 1): the number of the bytes, for every text; the world stays. Condition: the text is not longer than a text can be.
-/
import Derived.Test.YtllabnhgiojmmaaDoorRot
namespace Go.Proofs.YtllabnhgiojmmaaDoor
open Go.RowKit
set_option linter.unusedVariables false

theorem byte_lt (c : UInt8) : c.toNat < 256 := c.toNat_lt
/-! ### the number of bytes -/
/-- The number of the first k bytes. -/
def getN (s : ByteArray) : Nat → Nat
  | 0 => 0
  | k + 1 => getN s k * 256 + (s.get! k).toNat
theorem getN_lt (s : ByteArray) (k : Nat) : getN s k < 256 ^ k := by
  induction k with
  | zero => simp [getN]
  | succ k ih =>
    have := byte_lt (s.get! k)
    rw [Nat.pow_succ]; simp only [getN]; omega
theorem getN_lt8 (s : ByteArray) (k : Nat) (h : k ≤ 8) : getN s k < 18446744073709551616 :=
  Nat.lt_of_lt_of_le (getN_lt s k) (Nat.pow_le_pow_right (n := 256) (by omega) h)
theorem getN_lt7 (s : ByteArray) (k : Nat) (h : k < 8) : getN s k < 72057594037927936 :=
  Nat.lt_of_lt_of_le (getN_lt s k) (Nat.pow_le_pow_right (n := 256) (by omega) (show k ≤ 7 by omega))
theorem get_elem (s : ByteArray) (k : Nat) (h : k < s.size) : s.get! k = s[k] := by
  show s.data[k]! = s.data[k]
  exact getElem!_pos s.data k h
theorem get_next (s : ByteArray) (k : Nat) (h : k < s.size) : getN s (k + 1) = getN s k * 256 + s[k].toNat := by
  simp only [getN]; rw [get_elem s k h]
theorem or_next (n : Nat) (c : UInt8) (h : n < 72057594037927936) : bits .or .u64 (IntKind.u64.wrap ((n : Int) * 256)) (c.toNat : Int) = ((n * 256 + c.toNat : Nat) : Int) := by
  have hc := byte_lt c
  have e : IntKind.u64.wrap ((n : Int) * 256) = ((n * 256 : Nat) : Int) := by rw [IntKind.wrap_u64]; omega
  rw [e, u64_or_nat _ _ (by omega) (by omega), nat_join 8 _ _ (by omega) (by omega)]
set_option maxHeartbeats 400000 in
theorem get_any (s : ByteArray) (w : World) (hs : s.size ≤ maxLen) :
    Calls Tryd.prog 47 #[.string s] w fun e w' => e = .returned (.int .u64 (getN s (min s.size 8) : Nat)) ∧ w = w' := by
  unfold maxLen at hs
  obtain ⟨N, hN, hN1, hN2, hN3⟩ : ∃ N : Nat, min (s.size : Int) 8 = (N : Int) ∧ N ≤ s.size ∧ N ≤ 8 ∧ Hid (min s.size 8 = N) := ⟨min s.size 8, by omega, by omega, by omega, Lib.hid rfl⟩
  go_enter Tryd.func47, Tryd.ntmps47
  go_wp2
  go_loop [3, 8] (fun t i => ∃ j : Nat, j ≤ N ∧ i = .int .i64 j ∧ t = .int .u64 (getN s j : Nat)) (fun _ i => (N - intOf i).toNat)
  case atStart => exact ⟨0, by omega, rfl, rfl⟩
  case round =>
    obtain ⟨j, hj, rfl, rfl⟩ := hrel
    by_cases h1 : j < N
    · have h2 : j < s.size := by omega
      have HN := Lib.hid (get_next s j h2)
      have hb := byte_lt s[j]
      have HO := Lib.hid (or_next (getN s j) s[j] (getN_lt7 s j (by omega)))
      go_wp2
      go_round
      case rel => exact ⟨j + 1, by omega, by go_num, by rw [HN.out, ← HO.out]⟩
      case measure => simp [intOf]; omega
    · obtain rfl : N = j := by omega
      go_wp2
      go_ret
      exact ⟨ret_u64 (by rw [hN3.out]), rfl⟩
end Go.Proofs.YtllabnhgiojmmaaDoor
