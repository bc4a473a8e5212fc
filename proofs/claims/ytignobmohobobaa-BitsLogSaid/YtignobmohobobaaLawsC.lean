/-
  The walk of the statement BitsLog: it returns true, for every number of 32 bits; what it makes is new memory, nothing that was there changes.
-/
import Derived.Test.YtignobmohobobaaLawsB
namespace Go.Proofs.Ytignobmohobobaa
open Go.RowKit
set_option linter.unusedVariables false

theorem bitLen_pos (x : Nat) (h0 : x ≠ 0) (hx : x < 18446744073709551616) : 1 ≤ Lib.bitLen x := by
  rw [Lib.bitLen_half x h0 hx]; omega
theorem bitLen_two (b : Nat) : ∀ x : Nat, Lib.bitLen x = b + 1 → x < 18446744073709551616 → 2 ^ b ≤ x ∧ x < 2 ^ (b + 1) := by
  induction b with
  | zero =>
    intro x h hx
    have h0 : x ≠ 0 := by rintro rfl; exact absurd h (by decide)
    rw [Lib.bitLen_half x h0 hx] at h
    by_cases h2 : x / 2 = 0
    · omega
    · have := bitLen_pos (x / 2) h2 (by omega); omega
  | succ b ih =>
    intro x h hx
    have h0 : x ≠ 0 := by rintro rfl; exact absurd h (by rw [show Lib.bitLen 0 = 0 by rfl]; omega)
    rw [Lib.bitLen_half x h0 hx] at h
    have := ih (x / 2) (by omega) (by omega)
    rw [Nat.pow_succ 2 b] at *
    rw [Nat.pow_succ 2 (b + 1), Nat.pow_succ 2 b]
    omega
theorem logI_two (n : Nat) (h0 : n ≠ 0) (h : n < 4294967296) : ∃ k : Nat, logI (n : Int) = k ∧ k ≤ 31 ∧ 2 ^ k ≤ n ∧ n < 2 ^ (k + 1) := by
  have hp := bitLen_pos n h0 (by omega)
  have hl : Lib.bitLen n ≤ 32 := Lib.bitLen_le n 32 (by omega) h
  have := bitLen_two (Lib.bitLen n - 1) n (by omega) (by omega)
  exact ⟨Lib.bitLen n - 1, by unfold logI; rw [Int.toNat_natCast]; omega, by omega, this⟩
/-- The bit of the four bytes of a number. -/
theorem bit_of_put (n i : Nat) (h : n < 4294967296) (hi : i < 32) : bitAt (putS n 4) i = (n / 2 ^ (31 - i) % 2 : Nat) := by
  have hz : (putS n 4).size = 4 := putS_size n 4 (by omega)
  have e1 : ((i : Int) / 8).toNat = i / 8 := by omega
  have e2 : (7 - (i : Int) % 8).toNat = 7 - i % 8 := by omega
  have hlt : i / 8 < (putS n 4).size := by rw [hz]; omega
  have hb : ((putS n 4).get! (i / 8)).toNat = ((n : Int) / 2 ^ (8 * (4 - 1 - i / 8)) % 256).toNat := putS_byte n 4 (i / 8) (by omega) (by omega)
  unfold bitAt
  rw [dif_pos ⟨by omega, by rw [e1]; exact hlt⟩]
  have hg : ((putS n 4)[((i : Int) / 8).toNat]'(by rw [e1]; exact hlt)).toNat = ((n : Int) / 2 ^ (8 * (4 - 1 - i / 8)) % 256).toNat := by
    rw [← hb, get_elem _ _ hlt]
    congr 1
  rw [hg, e2]
  have hc : ((n : Int) / 2 ^ (8 * (4 - 1 - i / 8)) % 256).toNat = n / 2 ^ (8 * (3 - i / 8)) % 256 := by
    have : (n : Int) / 2 ^ (8 * (4 - 1 - i / 8)) % 256 = ((n / 2 ^ (8 * (3 - i / 8)) % 256 : Nat) : Int) := by
      rw [Int.natCast_emod, Int.natCast_ediv, Int.natCast_pow]; rfl
    rw [this, Int.toNat_natCast]
  rw [hc]
  congr 1
  have hm : ∀ (m j : Nat), j < 8 → m % 256 / 2 ^ j % 2 = m / 2 ^ j % 2 := fun m j hj => by
    have : j = 0 ∨ j = 1 ∨ j = 2 ∨ j = 3 ∨ j = 4 ∨ j = 5 ∨ j = 6 ∨ j = 7 := by omega
    rcases this with rfl | rfl | rfl | rfl | rfl | rfl | rfl | rfl <;> simp only [Nat.reducePow] <;> omega
  rw [hm _ _ (by omega), Nat.div_div_eq_div_mul, ← Nat.pow_add, show 8 * (3 - i / 8) + (7 - i % 8) = 31 - i by omega]
theorem bit_put (n i : Nat) (w : World) (h : n < 4294967296) (hi : i < 32) :
    Calls Try.prog 18 #[.string (putS n 4), .int .i64 i] w fun e w' => e = .returned (.int .i64 (n / 2 ^ (31 - i) % 2 : Nat)) ∧ w = w' :=
  (bit_any (putS n 4) i w (by have := putS_small n 4; unfold maxLen; omega) (by omega)).mono fun e w' ⟨h1, h2⟩ => ⟨h1.trans (ret_i64 (bit_of_put n i h hi)), h2⟩

set_option maxHeartbeats 1000000 in
theorem log_walk0 (w : World) :
    Calls Try.prog 6 #[.int .u32 0] w fun e w' => e = .returned (.bool true) ∧ Below w.heap.size w w' := by
  go_enter Try.func6, Try.ntmps6
  go_wp2_with (first
    | (go_at_call 15; (with_reducible refine (ex_log3 _).mono ?_); rintro e w' ⟨rfl, rfl⟩)
    | (go_at_call 13; (with_reducible refine (ones_any _ _ (by omega)).mono ?_); rintro e w' ⟨rfl, rfl⟩)
    | (go_at_call 17; (with_reducible refine (turned_any _).mono ?_); rintro e w2 ⟨rfl, hb2⟩))
  go_ret
  exact ⟨rfl, hb2⟩
theorem pop_zero0 : Math.popF 64 0 = 0 := rfl
theorem bit_hi (n j k : Nat) (h : j < 31 - k) (hk : k ≤ 31) (hn : n < 2 ^ (k + 1)) : n / 2 ^ (31 - j) % 2 = 0 := by
  rw [Nat.div_eq_of_lt (Nat.lt_of_lt_of_le hn (Nat.pow_le_pow_right (by omega) (by omega)))]
theorem bit_at (n j k : Nat) (h : j = 31 - k) (hk : k ≤ 31) (h1 : 2 ^ k ≤ n) (hn : n < 2 ^ (k + 1)) : n / 2 ^ (31 - j) % 2 = 1 := by
  rw [show 31 - j = k by omega]
  have hp : 0 < 2 ^ k := Nat.pow_pos (by omega)
  have e : n / 2 ^ k = 1 := by
    rw [Nat.pow_succ] at hn
    exact Nat.div_eq_of_lt_le (by omega) (by omega)
  rw [e]
theorem pop_next (n j : Nat) (h : j < 32) : Math.popF (j + 1) (n / 2 ^ (32 - (j + 1))) = n / 2 ^ (31 - j) % 2 + Math.popF j (n / 2 ^ (32 - j)) := by
  simp only [Math.popF]
  rw [show 32 - (j + 1) = 31 - j by omega, Nat.div_div_eq_div_mul, show 2 ^ (31 - j) * 2 = 2 ^ (32 - j) by rw [← Nat.pow_succ]; congr 1; omega]
theorem pop_end (n : Nat) (h : n < 4294967296) : Math.popF 32 (n / 2 ^ (32 - 32)) = Math.popF 64 n := by
  rw [show n / 2 ^ (32 - 32) = n by simp]
  exact (Math.popF_small 32 32 n h).symm
/-- What holds of the sum at the head of round j. -/
def LogHead (n j c : Nat) : Prop := c = Math.popF j (n / 2 ^ (32 - j))
set_option maxHeartbeats 1000000 in
theorem log_walk1 (n : Nat) (w : World) (hn0 : 0 < n) (hn : n < 4294967296) :
    Calls Try.prog 6 #[.int .u32 n] w fun e w' => e = .returned (.bool true) ∧ Below w.heap.size w w' := by
  obtain ⟨k, hk, hk31, hk1, hk2⟩ := logI_two n (by omega) hn
  have hl := (log_any n w (by omega))
  rw [hk] at hl
  obtain ⟨P, hPP⟩ : ∃ P : Nat, P = 2 ^ k := ⟨_, rfl⟩
  have hP31 : P ≤ 2147483648 := by rw [hPP]; exact Nat.pow_le_pow_right (n := 2) (by omega) hk31
  have hPn : P ≤ n := by rw [hPP]; exact hk1
  have hP2 : n < 2 * P := by rw [hPP]; rw [Nat.pow_succ] at hk2; omega
  have hw : wrap64 ((2 : Int) ^ k) = (P : Int) := by
    have e : (2 : Int) ^ k = (P : Int) := by rw [hPP, Int.natCast_pow]; rfl
    rw [e]; unfold wrap64; omega
  have hone : ∀ w, Calls Try.prog 13 #[.int .i64 P] w fun e w' => e = .returned (.int .i64 1) ∧ w = w' := fun w =>
    (ones_any P w (by omega)).mono fun e w' ⟨h1, h2⟩ => ⟨h1.trans (ret_i64 (by rw [Int.toNat_natCast, hPP, Math.popF_pow k (by omega)]; rfl)), h2⟩
  have H1 := Lib.hid hk1
  have H2 := Lib.hid hk2
  have HP := Lib.hid hPP
  have h0 : ((n : Int) == 0) = false := by simp; omega
  clear hk hk1 hk2 hPP
  go_enter Try.func6, Try.ntmps6
  go_wp2_with (first
    | (go_at_call 15; (with_reducible refine hl.mono ?_); rintro e w' ⟨rfl, rfl⟩)
    | (go_at_call 13; (with_reducible refine (hone _).mono ?_); rintro e w' ⟨rfl, rfl⟩)
    | (go_at_call 7; (with_reducible refine (put_any _ _ _ (by omega)).mono ?_); rintro e w1 ⟨rfl, hb1⟩))
  clear hl hone hw
  go_loop [6, 7] (fun c i => ∃ j c0 : Nat, j ≤ 32 ∧ c0 ≤ 32 ∧ i = .int .i64 j ∧ c = .int .i64 c0 ∧ Hid (LogHead n j c0)) (fun _ i => (32 - intOf i).toNat)
  case atStart => exact ⟨0, 0, by omega, by omega, rfl, rfl, Lib.hid rfl⟩
  case round =>
    obtain ⟨j, c, hj, hc, rfl, rfl, HC⟩ := hrel
    by_cases hlt : j < 32
    · obtain ⟨b, hb⟩ : ∃ b : Nat, b = n / 2 ^ (31 - j) % 2 := ⟨_, rfl⟩
      have hb1 : b ≤ 1 := by omega
      have HN := Lib.hid (show LogHead n (j + 1) (c + b) by unfold LogHead; rw [pop_next n j hlt, ← hb, HC.out]; omega)
      have hc1 : c + b ≤ 32 := by
        have := HN.out; unfold LogHead at this; have := Math.popF_le (j + 1) (n / 2 ^ (32 - (j + 1))); omega
      have hcall : ∀ w, Calls Try.prog 18 #[.string (putS n 4), .int .i64 j] w fun e w' => e = .returned (.int .i64 b) ∧ w = w' := fun w => by
        rw [hb]; exact bit_put n j w hn hlt
      by_cases h1 : j < 31 - k
      · obtain rfl : b = 0 := by rw [hb]; exact bit_hi n j k h1 hk31 H2.out
        clear hb
        go_wp2_with (go_at_call 18; (with_reducible refine (hcall _).mono ?_); rintro e w' ⟨rfl, rfl⟩)
        go_round
        case rel => exact ⟨j + 1, c, by omega, by omega, by go_num, rfl, HN.out⟩
        case measure => simp [intOf]; omega
      · by_cases h2 : j = 31 - k
        · obtain rfl : b = 1 := by rw [hb]; exact bit_at n j k h2 hk31 H1.out H2.out
          have h3 : ((j : Int) == 31 - (k : Int)) = true := by simp; omega
          clear hb h2
          go_wp2_with (go_at_call 18; (with_reducible refine (hcall _).mono ?_); rintro e w' ⟨rfl, rfl⟩)
          go_round
          case rel => exact ⟨j + 1, c + 1, by omega, by omega, by go_num, by go_num, HN.out⟩
          case measure => simp [intOf]; omega
        · have h3 : ((j : Int) == 31 - (k : Int)) = false := by simp; omega
          have h4 : 31 - k < j := by omega
          clear hb
          go_wp2_with (go_at_call 18; (with_reducible refine (hcall _).mono ?_); rintro e w' ⟨rfl, rfl⟩)
          go_round
          case rel => exact ⟨j + 1, c + b, by omega, by omega, by go_num, by go_num, HN.out⟩
          case measure => simp [intOf]; omega
    · obtain rfl : j = 32 := by omega
      have hcall : ∀ w, Calls Try.prog 13 #[.int .i64 n] w fun e w' => e = .returned (.int .i64 c) ∧ w = w' := fun w =>
        (ones_any n w (by omega)).mono fun e w' ⟨h1, h2⟩ => ⟨h1.trans (ret_i64 (by rw [Int.toNat_natCast, ← pop_end n hn, ← HC.out])), h2⟩
      go_wp2_with (first
        | (go_at_call 13; (with_reducible refine (hcall _).mono ?_); rintro e w' ⟨rfl, rfl⟩)
        | (go_at_call 17; (with_reducible refine (turned_any _).mono ?_); rintro e w2 ⟨rfl, hb2⟩))
      go_ret
      exact ⟨rfl, hb1.trans (hb2.mono hb1.size)⟩
theorem log_walk (n : Int) (w : World) (h : 0 ≤ n ∧ n < 4294967296) :
    Calls Try.prog 6 #[.int .u32 n] w fun e w' => e = .returned (.bool true) ∧ Below w.heap.size w w' := by
  by_cases h0 : n = 0
  · subst h0; exact log_walk0 w
  · obtain ⟨m, rfl⟩ : ∃ m : Nat, n = m := ⟨n.toNat, by omega⟩
    exact log_walk1 m w (by omega) (by omega)
end Go.Proofs.Ytignobmohobobaa
