/-
  The walks of layer 1 (bits), second part: a bit of bytes, the number of bytes; none of these calls changes the world. Conditions: the text is not longer than a text can be; the place is a number of its kind.
-/
import Derived.Test.YtignobmohobobaaWalkA
namespace Go.Proofs.Ytignobmohobobaa
open Go.RowKit
set_option linter.unusedVariables false

theorem and_one (v : Nat) (h : v < 256) : bits .and .i64 (wrap64 (v : Int)) 1 = ((v % 2 : Nat) : Int) := by
  have e : wrap64 (v : Int) = v := by unfold wrap64; omega
  have m := bits_mask .i64 62 (by decide) (fun n h0 h1 => by rw [IntKind.wrap_i64]; omega) 1 (by omega) (v : Int) (by omega) (by omega)
  rw [e]
  exact m.trans (by omega)
theorem byte_shift (c : UInt8) (k : Nat) : ((c.toNat : Int) / 2 ^ k) = ((c.toNat / 2 ^ k : Nat) : Int) := by rw [Int.natCast_ediv, Int.natCast_pow]; rfl
theorem byte_lt (c : UInt8) : c.toNat < 256 := c.toNat_lt
theorem shifted_lt (c : UInt8) (k : Nat) : c.toNat / 2 ^ k < 256 := Nat.lt_of_le_of_lt (Nat.div_le_self _ _) (byte_lt c)

/-- The bit of bytes, as a number. -/
def bitAt (s : ByteArray) (i : Int) : Int := if h : 0 ≤ i ∧ (i / 8).toNat < s.size then ((s[(i / 8).toNat]'h.2).toNat / 2 ^ (7 - i % 8).toNat % 2 : Nat) else 0
theorem bitAt_bd (s : ByteArray) (i : Int) : 0 ≤ bitAt s i ∧ bitAt s i ≤ 1 := by unfold bitAt; split <;> omega
set_option maxHeartbeats 400000 in
theorem bit_any (s : ByteArray) (i : Int) (w : World) (hs : s.size ≤ maxLen) (h : -9223372036854775808 ≤ i ∧ i ≤ 9223372036854775807) :
    Calls Try.prog 18 #[.string s, .int .i64 i] w fun e w' => e = .returned (.int .i64 (bitAt s i)) ∧ w = w' := by
  unfold maxLen at hs
  by_cases hneg : i < 0
  · have HZ := Lib.hid (show bitAt s i = 0 by unfold bitAt; rw [dif_neg (by omega)])
    go_enter Try.func18, Try.ntmps18
    go_wp2
    go_ret
    exact ⟨ret_i64 HZ.out.symm, rfl⟩
  · by_cases hbig : (s.size : Int) ≤ i / 8
    · have HZ := Lib.hid (show bitAt s i = 0 by unfold bitAt; rw [dif_neg (by omega)])
      go_enter Try.func18, Try.ntmps18
      go_wp2
      go_ret
      exact ⟨ret_i64 HZ.out.symm, rfl⟩
    · have hlt : (i / 8).toNat < s.size := by omega
      go_enter Try.func18, Try.ntmps18
      go_wp2
      go_ret
      refine ⟨ret_i64 ?_, rfl⟩
      unfold bitAt
      rw [dif_pos ⟨by omega, hlt⟩, byte_shift, and_one _ (shifted_lt _ _)]
/-- A byte, moved down. -/
def sh (c : UInt8) (j : Nat) : Nat := c.toNat / 2 ^ j
theorem sh_lt (c : UInt8) (j : Nat) : sh c j < 256 := shifted_lt c j
theorem halved (c : UInt8) (j : Nat) : ((sh c j : Nat) : Int) / 2 = ((sh c (j + 1) : Nat) : Int) := by
  unfold sh; rw [Nat.pow_succ, ← Nat.div_div_eq_div_mul]; omega
set_option maxHeartbeats 400000 in
theorem refBit_any (s : ByteArray) (i : Int) (w : World) (hs : s.size ≤ maxLen) (h : -9223372036854775808 ≤ i ∧ i ≤ 9223372036854775807) :
    Calls Try.prog 19 #[.string s, .int .i64 i] w fun e w' => e = .returned (.int .i64 (bitAt s i)) ∧ w = w' := by
  unfold maxLen at hs
  by_cases hneg : i < 0
  · have HZ := Lib.hid (show bitAt s i = 0 by unfold bitAt; rw [dif_neg (by omega)])
    go_enter Try.func19, Try.ntmps19
    go_wp2
    go_ret
    exact ⟨ret_i64 HZ.out.symm, rfl⟩
  · by_cases hbig : (s.size : Int) ≤ i / 8
    · have HZ := Lib.hid (show bitAt s i = 0 by unfold bitAt; rw [dif_neg (by omega)])
      go_enter Try.func19, Try.ntmps19
      go_wp2
      go_ret
      exact ⟨ret_i64 HZ.out.symm, rfl⟩
    · have hlt : (i / 8).toNat < s.size := by omega
      obtain ⟨c, hc⟩ : ∃ c : UInt8, c = s[(i / 8).toNat] := ⟨_, rfl⟩
      have HB := Lib.hid (show bitAt s i = (sh c (7 - i % 8).toNat % 2 : Nat) by unfold bitAt sh; rw [dif_pos ⟨by omega, hlt⟩, hc])
      have HC := Lib.hid hc
      clear hc
      go_enter Try.func19, Try.ntmps19
      go_wp2
      go_loop [5, 6] (fun t k => ∃ j : Nat, j ≤ (7 - i % 8).toNat ∧ k = .int .i64 (i % 8 + j) ∧ t = .int .u8 (sh c j : Nat)) (fun _ k => (7 - intOf k).toNat)
      case atStart => exact ⟨0, by omega, by simp, by rw [← HC.out]; simp [sh]⟩
      case round =>
        obtain ⟨j, hj, rfl, rfl⟩ := hrel
        have hl := sh_lt c j
        by_cases hlt2 : j < (7 - i % 8).toNat
        · have HH := Lib.hid (halved c j)
          go_wp2
          go_round
          case rel => exact ⟨j + 1, by omega, by first | go_num | (congr 1; omega), by rw [← HH.out]⟩
          case measure => simp [intOf]; omega
        · obtain rfl : j = (7 - i % 8).toNat := by omega
          go_wp2
          go_ret
          exact ⟨ret_i64 (by rw [HB.out]; omega), rfl⟩

/-! ### the number of bytes -/
/-- The number of the first k bytes. -/
def getN (s : ByteArray) : Nat → Nat
  | 0 => 0
  | k + 1 => getN s k * 256 + (s.get! k).toNat
theorem getN_lt (s : ByteArray) (k : Nat) : getN s k < 256 ^ k := by
  induction k with
  | zero => simp [getN]
  | succ k ih =>
    have := byte_lt (s.get! k)
    rw [Nat.pow_succ]; simp only [getN]; omega
theorem getN_lt8 (s : ByteArray) (k : Nat) (h : k ≤ 8) : getN s k < 18446744073709551616 :=
  Nat.lt_of_lt_of_le (getN_lt s k) (Nat.pow_le_pow_right (n := 256) (by omega) h)
theorem getN_lt7 (s : ByteArray) (k : Nat) (h : k < 8) : getN s k < 72057594037927936 :=
  Nat.lt_of_lt_of_le (getN_lt s k) (Nat.pow_le_pow_right (n := 256) (by omega) (show k ≤ 7 by omega))
theorem get_elem (s : ByteArray) (k : Nat) (h : k < s.size) : s.get! k = s[k] := by
  show s.data[k]! = s.data[k]
  exact getElem!_pos s.data k h
theorem get_next (s : ByteArray) (k : Nat) (h : k < s.size) : getN s (k + 1) = getN s k * 256 + s[k].toNat := by
  simp only [getN]; rw [get_elem s k h]
theorem or_next (n : Nat) (c : UInt8) (h : n < 72057594037927936) : bits .or .u64 (IntKind.u64.wrap ((n : Int) * 256)) (c.toNat : Int) = ((n * 256 + c.toNat : Nat) : Int) := by
  have hc := byte_lt c
  have e : IntKind.u64.wrap ((n : Int) * 256) = ((n * 256 : Nat) : Int) := by rw [IntKind.wrap_u64]; omega
  rw [e, u64_or_nat _ _ (by omega) (by omega), nat_join 8 _ _ (by omega) (by omega)]
set_option maxHeartbeats 400000 in
theorem get_any (s : ByteArray) (w : World) (hs : s.size ≤ maxLen) :
    Calls Try.prog 20 #[.string s] w fun e w' => e = .returned (.int .u64 (getN s (min s.size 8) : Nat)) ∧ w = w' := by
  unfold maxLen at hs
  obtain ⟨N, hN, hN1, hN2, hN3⟩ : ∃ N : Nat, min (s.size : Int) 8 = (N : Int) ∧ N ≤ s.size ∧ N ≤ 8 ∧ Hid (min s.size 8 = N) := ⟨min s.size 8, by omega, by omega, by omega, Lib.hid rfl⟩
  go_enter Try.func20, Try.ntmps20
  go_wp2
  go_loop [3, 8] (fun t i => ∃ j : Nat, j ≤ N ∧ i = .int .i64 j ∧ t = .int .u64 (getN s j : Nat)) (fun _ i => (N - intOf i).toNat)
  case atStart => exact ⟨0, by omega, rfl, rfl⟩
  case round =>
    obtain ⟨j, hj, rfl, rfl⟩ := hrel
    by_cases h1 : j < N
    · have h2 : j < s.size := by omega
      have HN := Lib.hid (get_next s j h2)
      have hb := byte_lt s[j]
      have HO := Lib.hid (or_next (getN s j) s[j] (getN_lt7 s j (by omega)))
      go_wp2
      go_round
      case rel => exact ⟨j + 1, by omega, by go_num, by rw [HN.out, ← HO.out]⟩
      case measure => simp [intOf]; omega
    · obtain rfl : N = j := by omega
      go_wp2
      go_ret
      exact ⟨ret_u64 (by rw [hN3.out]), rfl⟩
set_option maxHeartbeats 400000 in
theorem refGet_any (s : ByteArray) (w : World) (hs : s.size ≤ maxLen) :
    Calls Try.prog 21 #[.string s] w fun e w' => e = .returned (.int .u64 (getN s (min s.size 8) : Nat)) ∧ w = w' := by
  unfold maxLen at hs
  go_enter Try.func21, Try.ntmps21
  go_wp2
  go_loop [3, 4] (fun t i => ∃ j : Nat, j ≤ s.size ∧ j ≤ 8 ∧ i = .int .i64 j ∧ t = .int .u64 (getN s j : Nat)) (fun _ i => (8 - intOf i).toNat)
  case atStart => exact ⟨0, by omega, by omega, rfl, rfl⟩
  case round =>
    obtain ⟨j, hj, hj8, rfl, rfl⟩ := hrel
    have hl8 := getN_lt8 s j hj8
    by_cases h1 : j < s.size
    · by_cases h2 : j < 8
      · have HN := Lib.hid (get_next s j h1)
        have hl := getN_lt7 s j h2
        have hb := byte_lt s[j]
        go_wp2
        go_round
        case rel => exact ⟨j + 1, by omega, by omega, by go_num, by rw [HN.out]; go_num⟩
        case measure => simp [intOf]; omega
      · have hm : min s.size 8 = j := by omega
        have HM := Lib.hid hm
        clear hm
        go_wp2
        go_ret
        exact ⟨ret_u64 (by rw [HM.out]), rfl⟩
    · have hm : min s.size 8 = j := by omega
      have HM := Lib.hid hm
      clear hm
      go_wp2
      go_ret
      exact ⟨ret_u64 (by rw [HM.out]), rfl⟩
end Go.Proofs.Ytignobmohobobaa
