/-
  The walks of layer 1 (bits): what each call returns, for every argument; none of these calls changes the world. Conditions: the arguments are numbers of their kinds.
-/
import Derived.Test.YtignobmohobobaaRows
import Derived.Test.YtignobmohobobaaMath
import Derived.Test.YtignobmohobobaaLen
import Derived.WalkKit
import Derived.WalkSpells
import Derived.WalkLawsBesides
import Derived.Lib.BitFns
import Derived.Lib.Hide
import Derived.Handy
namespace Go.Proofs.Ytignobmohobobaa
open Go.RowKit
set_option linter.unusedVariables false

theorem ret_u32 {a b : Int} (h : a = b) : Ending.returned (.int .u32 a) = .returned (.int .u32 b) := by rw [h]
theorem ret_i64 {a b : Int} (h : a = b) : Ending.returned (.int .i64 a) = .returned (.int .i64 b) := by rw [h]
theorem ret_u64 {a b : Int} (h : a = b) : Ending.returned (.int .u64 a) = .returned (.int .u64 b) := by rw [h]

theorem mask31 (k : Int) : ∃ s : Nat, s ≤ 31 ∧ k % 32 = s ∧ bits .and .u64 (IntKind.u64.wrap k) 31 = (s : Int) := by
  refine ⟨(k % 32).toNat, by omega, by omega, ?_⟩
  have e : IntKind.u64.wrap k = ((k % 18446744073709551616).toNat : Nat) := by rw [IntKind.wrap_u64]; omega
  rw [e, show (31 : Int) = ((31 : Nat) : Int) by rfl, u64_and_nat _ _ (by omega) (by omega), nat_mask5]
  omega
theorem rot_of (x k : Int) (s : Nat) (h : 0 ≤ x ∧ x < 4294967296) (hs : s ≤ 31) (hk : k % 32 = s) :
    bits .or .u32 (x * 2 ^ s % 4294967296) (x / 2 ^ (32 - s)) = Math.rot x k := by
  obtain ⟨n, rfl⟩ : ∃ n : Nat, x = n := ⟨x.toNat, by omega⟩
  have hn : n < 4294967296 := by omega
  have e1 : (n : Int) * 2 ^ s % 4294967296 = ((n * 2 ^ s % 4294967296 : Nat) : Int) := by
    rw [Int.natCast_emod, Int.natCast_mul, Int.natCast_pow]; rfl
  have e2 : (n : Int) / 2 ^ (32 - s) = ((n / 2 ^ (32 - s) : Nat) : Int) := by
    rw [Int.natCast_ediv, Int.natCast_pow]; rfl
  have l2 : n / 2 ^ (32 - s) < 2 ^ s := by
    apply Nat.div_lt_of_lt_mul
    rw [← Nat.pow_add, show 32 - s + s = 32 by omega]; exact hn
  have m1 : n * 2 ^ s % 4294967296 % 2 ^ s = 0 := by
    rw [Nat.mod_mod_of_dvd _ (show 2 ^ s ∣ 4294967296 from ⟨2 ^ (32 - s), by rw [← Nat.pow_add, show s + (32 - s) = 32 by omega]⟩)]
    exact Nat.mul_mod_left _ _
  have l3 : 2 ^ s ≤ 2 ^ 31 := Nat.pow_le_pow_right (by omega) hs
  rw [e1, e2, u32_or_nat _ _ (by omega) (by omega), nat_join s _ _ m1 l2]
  unfold Math.rot
  rw [hk, Int.toNat_natCast, Int.toNat_natCast, Math.rotI_eq s n (by omega) hn]
  rfl
set_option maxHeartbeats 400000 in
theorem rotate_any (x k : Int) (w : World) (h : 0 ≤ x ∧ x < 4294967296) :
    Calls Try.prog 22 #[.int .u32 x, .int .i64 k] w fun e w' => e = .returned (.int .u32 (Math.rot x k)) ∧ w = w' := by
  obtain ⟨s, hs, hk, hm⟩ := mask31 k
  have ho := rot_of x k s h hs hk
  have HO := Lib.hid ho
  clear ho
  go_enter Try.func22, Try.ntmps22
  go_wp2
  go_ret
  refine ⟨ret_u32 ?_, rfl⟩
  exact HO.out
theorem swar_step1 (n : Nat) (h : n < 18446744073709551616) : IntKind.u64.wrap (bits .and .u64 ((n : Int) / 2) 6148914691236517205 + bits .and .u64 (n : Int) 6148914691236517205) = (Math.swar1 n : Nat) := by
  have e : ((n : Int) / 2) = ((n / 2 : Nat) : Int) := by omega
  have hs := (Math.swar_all n h).2.1
  rw [e, show (6148914691236517205 : Int) = ((6148914691236517205 : Nat) : Int) by rfl, u64_and_nat _ _ (by omega) (by omega), u64_and_nat _ _ (by omega) (by omega), IntKind.wrap_u64]
  unfold Math.swar1 at *; omega
theorem swar_step2 (n : Nat) (h : n < 18446744073709551616) (hs : Math.swar2 n < 18446744073709551616) : IntKind.u64.wrap (bits .and .u64 ((n : Int) / 4) 3689348814741910323 + bits .and .u64 (n : Int) 3689348814741910323) = (Math.swar2 n : Nat) := by
  have e : ((n : Int) / 4) = ((n / 4 : Nat) : Int) := by omega
  rw [e, show (3689348814741910323 : Int) = ((3689348814741910323 : Nat) : Int) by rfl, u64_and_nat _ _ (by omega) (by omega), u64_and_nat _ _ (by omega) (by omega), IntKind.wrap_u64]
  unfold Math.swar2 at *; omega
theorem swar_step3 (n : Nat) (h : n / 16 + n < 18446744073709551616) : bits .and .u64 (IntKind.u64.wrap ((n : Int) / 16 + (n : Int))) 1085102592571150095 = (Math.swar3 n : Nat) := by
  have e : IntKind.u64.wrap ((n : Int) / 16 + (n : Int)) = ((n / 16 + n : Nat) : Int) := by rw [IntKind.wrap_u64]; omega
  rw [e, show (1085102592571150095 : Int) = ((1085102592571150095 : Nat) : Int) by rfl, u64_and_nat _ _ (by omega) (by omega)]
  rfl
theorem swar_step4 (n : Nat) (h : Math.swar4 n < 18446744073709551616) : IntKind.u64.wrap ((n : Int) + (n : Int) / 256) = (Math.swar4 n : Nat) := by
  rw [IntKind.wrap_u64]; unfold Math.swar4 at *; omega
theorem swar_step5 (n : Nat) (h : Math.swar5 n < 18446744073709551616) : IntKind.u64.wrap ((n : Int) + (n : Int) / 65536) = (Math.swar5 n : Nat) := by
  rw [IntKind.wrap_u64]; unfold Math.swar5 at *; omega
theorem swar_step6 (n : Nat) (h : Math.swar6 n < 18446744073709551616) : IntKind.u64.wrap ((n : Int) + (n : Int) / 4294967296) = (Math.swar6 n : Nat) := by
  rw [IntKind.wrap_u64]; unfold Math.swar6 at *; omega
theorem swar_step7 (n : Nat) (h : n < 18446744073709551616) : bits .and .i64 (wrap64 (n : Int)) 127 = ((n % 128 : Nat) : Int) := by
  rw [i64_and127]; unfold wrap64; omega
set_option maxHeartbeats 400000 in
theorem count_any (x : Int) (w : World) (h : 0 ≤ x ∧ x < 18446744073709551616) :
    Calls Try.prog 23 #[.int .u64 x] w fun e w' => e = .returned (.int .i64 (Math.popF 64 x.toNat)) ∧ w = w' := by
  go_enter Try.func23, Try.ntmps23
  go_wp2
  go_ret
  refine ⟨ret_i64 ?_, rfl⟩
  obtain ⟨n, rfl⟩ : ∃ n : Nat, x = n := ⟨x.toNat, by omega⟩
  have hn : n < 18446744073709551616 := by omega
  obtain ⟨s0, s1, s2, s3, s4, s5, s6⟩ := Math.swar_all n hn
  rw [swar_step1 n hn, swar_step2 _ s1 s2, swar_step3 _ s3, swar_step4 _ s4, swar_step5 _ s5, swar_step6 _ s6, swar_step7 _ s6, s0]
  rfl

/-! ### turned: bits.Left, bits.Right, and the document's -/
set_option maxHeartbeats 400000 in
theorem left_any (x k : Int) (w : World) (h : 0 ≤ x ∧ x < 4294967296) :
    Calls Try.prog 9 #[.int .u32 x, .int .i64 k] w fun e w' => e = .returned (.int .u32 (Math.rot x k)) ∧ w = w' := by
  go_enter Try.func9, Try.ntmps9
  go_wp2_with (go_at_call 22; refine (rotate_any _ _ _ h).mono ?_; rintro e w' ⟨rfl, rfl⟩)
  go_ret
  exact ⟨rfl, rfl⟩
set_option maxHeartbeats 400000 in
theorem right_any (x k : Int) (w : World) (h : 0 ≤ x ∧ x < 4294967296) :
    Calls Try.prog 11 #[.int .u32 x, .int .i64 k] w fun e w' => e = .returned (.int .u32 (Math.rot x (-k))) ∧ w = w' := by
  have hk : Math.rot x (wrap64 (-k)) = Math.rot x (-k) := Math.rot_congr _ _ _ (by unfold wrap64; omega)
  have HK := Lib.hid hk
  clear hk
  go_enter Try.func11, Try.ntmps11
  go_wp2_with (go_at_call 22; refine (rotate_any _ _ _ h).mono ?_; rintro e w' ⟨rfl, rfl⟩)
  go_ret
  exact ⟨ret_u32 HK.out, rfl⟩
theorem refTurn_one (x : Int) (h : 0 ≤ x ∧ x < 4294967296) (n : Nat) : (((Math.rotI n x.toNat : Nat) : Int) * 2 % 4294967296 + ((Math.rotI n x.toNat : Nat) : Int) / 2147483648 % 4294967296) % 4294967296 = ((Math.rotI (n + 1) x.toNat : Nat) : Int) := by
  have hr := Math.rotI_lt n x.toNat (by omega)
  have hs := Math.rotI_lt (n + 1) x.toNat (by omega)
  show _ = ((Math.rot1 (Math.rotI n x.toNat) : Nat) : Int)
  have hs' : Math.rot1 (Math.rotI n x.toNat) < 4294967296 := hs
  unfold Math.rot1 at *
  omega
theorem tmod32 (k : Int) : ∃ m : Int, k.tmod 32 = m ∧ -32 < m ∧ m < 32 ∧ m % 32 = k % 32 := by
  refine ⟨k.tmod 32, rfl, ?_⟩
  rcases Int.le_total 0 k with h | h
  · rw [Int.tmod_eq_emod_of_nonneg h]; omega
  · obtain ⟨j, rfl⟩ : ∃ j : Int, k = -j := ⟨-k, by omega⟩
    rw [Int.neg_tmod, Int.tmod_eq_emod_of_nonneg (by omega)]; omega
/-- The loop of the document's Left, for a count from 0 to 31. -/
theorem rot_done (x k : Int) (j : Nat) (hj : (j : Int) % 32 = k % 32) (h : 0 ≤ x ∧ x < 4294967296) : ((Math.rotI j x.toNat : Nat) : Int) = Math.rot x k := by
  unfold Math.rot
  rw [Math.rotI_mod j _ (by omega)]
  congr 2; omega
set_option maxHeartbeats 400000 in
theorem refLeft_any (x k : Int) (w : World) (h : 0 ≤ x ∧ x < 4294967296) :
    Calls Try.prog 10 #[.int .u32 x, .int .i64 k] w fun e w' => e = .returned (.int .u32 (Math.rot x k)) ∧ w = w' := by
  obtain ⟨m, hm, m1, m2, m3⟩ := tmod32 k
  have M3 := Lib.hid m3
  clear m3
  have hx0 : ((Math.rotI 0 x.toNat : Nat) : Int) = x := by show ((x.toNat : Nat) : Int) = x; omega
  have HX := Lib.hid hx0
  clear hx0
  by_cases hneg : m < 0
  · obtain ⟨n, hn1, hn2⟩ : ∃ n : Nat, m + 32 = n ∧ n ≤ 31 := ⟨(m + 32).toNat, by omega, by omega⟩
    go_enter Try.func10, Try.ntmps10
    go_wp2
    go_loop [0, 5] (fun t i => ∃ j : Nat, j ≤ n ∧ i = .int .i64 j ∧ t = .int .u32 (Math.rotI j x.toNat : Nat)) (fun _ i => n - (intOf i).toNat)
    case atStart => exact ⟨0, by omega, rfl, by rw [HX.out]⟩
    case round =>
      obtain ⟨j, hj, rfl, rfl⟩ := hrel
      by_cases hlt : j < n
      · have HT := Lib.hid (refTurn_one x h j)
        go_wp2
        go_round
        case rel => exact ⟨j + 1, by omega, by go_num, by rw [HT.out]⟩
        case measure => simp [intOf]; omega
      · go_wp2
        go_ret
        exact ⟨ret_u32 (rot_done x k j (by have := M3.out; omega) h), rfl⟩
  · obtain ⟨n, rfl⟩ : ∃ n : Nat, m = n := ⟨m.toNat, by omega⟩
    go_enter Try.func10, Try.ntmps10
    go_wp2
    go_loop [0, 5] (fun t i => ∃ j : Nat, j ≤ n ∧ i = .int .i64 j ∧ t = .int .u32 (Math.rotI j x.toNat : Nat)) (fun _ i => n - (intOf i).toNat)
    case atStart => exact ⟨0, by omega, rfl, by rw [HX.out]⟩
    case round =>
      obtain ⟨j, hj, rfl, rfl⟩ := hrel
      by_cases hlt : j < n
      · have HT := Lib.hid (refTurn_one x h j)
        go_wp2
        go_round
        case rel => exact ⟨j + 1, by omega, by go_num, by rw [HT.out]⟩
        case measure => simp [intOf]; omega
      · go_wp2
        go_ret
        exact ⟨ret_u32 (rot_done x k j (by have := M3.out; omega) h), rfl⟩
set_option maxHeartbeats 400000 in
theorem refRight_any (x k : Int) (w : World) (h : 0 ≤ x ∧ x < 4294967296) :
    Calls Try.prog 12 #[.int .u32 x, .int .i64 k] w fun e w' => e = .returned (.int .u32 (Math.rot x (-k))) ∧ w = w' := by
  obtain ⟨m, hm, m1, m2, m3⟩ := tmod32 k
  have HR := Lib.hid (Math.rot_congr x (32 - m) (-k) (by omega))
  clear m3
  go_enter Try.func12, Try.ntmps12
  go_wp2_with (go_at_call 10; refine (refLeft_any _ _ _ h).mono ?_; rintro e w' ⟨rfl, rfl⟩)
  go_ret
  exact ⟨ret_u32 HR.out, rfl⟩

/-! ### how many bits are 1 -/
set_option maxHeartbeats 400000 in
theorem ones_any (n : Int) (w : World) (h : -9223372036854775808 ≤ n ∧ n ≤ 9223372036854775807) :
    Calls Try.prog 13 #[.int .i64 n] w fun e w' => e = .returned (.int .i64 (Math.popF 64 n.toNat)) ∧ w = w' := by
  by_cases hneg : n < 0
  · have HZ := Lib.hid (show ((Math.popF 64 n.toNat : Nat) : Int) = 0 by rw [show n.toNat = 0 by omega]; rfl)
    go_enter Try.func13, Try.ntmps13
    go_wp2
    go_ret
    exact ⟨ret_i64 HZ.out.symm, rfl⟩
  · have hw : IntKind.u64.wrap n = n := by rw [IntKind.wrap_u64]; omega
    go_enter Try.func13, Try.ntmps13
    go_wp2_with (go_at_call 23; refine (count_any _ _ (by omega)).mono ?_; rintro e w' ⟨rfl, rfl⟩)
    go_ret
    exact ⟨rfl, rfl⟩
theorem pop_step (m b : Nat) (h : m < 2 ^ (b + 1)) : Math.popF (b + 1) m = m % 2 + Math.popF b (m / 2) ∧ m / 2 < 2 ^ b := by
  refine ⟨rfl, ?_⟩
  rw [Nat.pow_succ] at h; omega
set_option maxHeartbeats 400000 in
theorem refOnes_any (n : Int) (w : World) (h : -9223372036854775808 ≤ n ∧ n ≤ 9223372036854775807) :
    Calls Try.prog 14 #[.int .i64 n] w fun e w' => e = .returned (.int .i64 (Math.popF 64 n.toNat)) ∧ w = w' := by
  by_cases hneg : n ≤ 0
  · have HZ := Lib.hid (show ((Math.popF 64 n.toNat : Nat) : Int) = 0 by rw [show n.toNat = 0 by omega]; rfl)
    go_enter Try.func14, Try.ntmps14
    go_wp2
    go_rounds 1
    go_ret
    exact ⟨ret_i64 HZ.out.symm, rfl⟩
  · obtain ⟨m0, rfl⟩ : ∃ m : Nat, n = m := ⟨n.toNat, by omega⟩
    go_enter Try.func14, Try.ntmps14
    go_wp2
    go_loop [0, 3] (fun t c => ∃ m b z : Nat, m ≤ 9223372036854775807 ∧ m < 2 ^ b ∧ z ≤ 64 ∧ z + Math.popF b m = Math.popF 64 m0 ∧ t = .int .i64 m ∧ c = .int .i64 z) (fun t _ => (intOf t).toNat)
    case atStart => exact ⟨m0, 64, 0, by omega, by omega, by omega, by omega, rfl, rfl⟩
    case round =>
      obtain ⟨m, b, z, hm, hb, hz, hp, rfl, rfl⟩ := hrel
      have HB := Lib.hid hb
      have HP := Lib.hid hp
      clear hb hp
      by_cases hlt : 0 < m
      · obtain ⟨b', rfl⟩ : ∃ b', b = b' + 1 := by
          cases b with
          | zero => have := HB.out; omega
          | succ b' => exact ⟨b', rfl⟩
        go_wp2
        go_round
        case rel =>
          obtain ⟨q1, q2⟩ := pop_step m b' HB.out
          have q3 := HP.out
          have q4 := Math.popF_le 64 m0
          exact ⟨m / 2, b', z + m % 2, by omega, q2, by omega, by omega, by go_num, by go_num⟩
        case measure => simp [intOf]; omega
      · obtain rfl : m = 0 := by omega
        go_wp2
        go_ret
        have q3 := HP.out
        rw [Math.popF_zero] at q3
        exact ⟨ret_i64 (by first | omega | (simp; omega)), rfl⟩

/-! ### the place of the highest bit -/
/-- The place of the highest bit: -1 where there is none. -/
def logI (n : Int) : Int := (Lib.bitLen n.toNat : Int) - 1
theorem logI_none (n : Int) (h : n ≤ 0) : logI n = -1 := by
  unfold logI; rw [show n.toNat = 0 by omega]; rfl
theorem logI_half (n : Int) (h : 0 < n) (hb : n ≤ 9223372036854775807) : logI n = logI (n / 2) + 1 := by
  unfold logI
  rw [Lib.bitLen_half n.toNat (by omega) (by omega), show (n / 2).toNat = n.toNat / 2 by omega]; omega
theorem bitLen_bd (n : Nat) (h : n ≤ 9223372036854775807) : Lib.bitLen n ≤ 63 := Lib.bitLen_le n 63 (by omega) (by omega)
set_option maxHeartbeats 400000 in
theorem log_any (n : Int) (w : World) (h : -9223372036854775808 ≤ n ∧ n ≤ 9223372036854775807) :
    Calls Try.prog 15 #[.int .i64 n] w fun e w' => e = .returned (.int .i64 (logI n)) ∧ w = w' := by
  by_cases hneg : n < 1
  · have HZ := Lib.hid (logI_none n (by omega))
    go_enter Try.func15, Try.ntmps15
    go_wp2
    go_ret
    exact ⟨ret_i64 HZ.out.symm, rfl⟩
  · have hw : IntKind.u64.wrap n = n := by rw [IntKind.wrap_u64]; omega
    have hb := bitLen_bd n.toNat (by omega)
    go_enter Try.func15, Try.ntmps15
    go_wp2_with (go_at_call 24; refine (len_any _ _ (by omega) (by omega)).mono ?_; rintro e w' ⟨rfl, rfl⟩)
    go_ret
    exact ⟨rfl, rfl⟩
theorem logI_bd (n : Int) (hb : n ≤ 9223372036854775807) : -1 ≤ logI n ∧ logI n ≤ 62 := by
  unfold logI
  have := bitLen_bd n.toNat (by omega)
  omega
set_option maxHeartbeats 400000 in
theorem refLog_any (n : Int) (w : World) (h : -9223372036854775808 ≤ n ∧ n ≤ 9223372036854775807) :
    Calls Try.prog 16 #[.int .i64 n] w fun e w' => e = .returned (.int .i64 (logI n)) ∧ w = w' := by
  have hb0 := logI_bd n h.2
  go_enter Try.func16, Try.ntmps16
  go_wp2
  go_loop [0, 3] (fun t c => ∃ m z : Int, m ≤ 9223372036854775807 ∧ -1 ≤ z ∧ z + logI m + 1 = logI n ∧ t = .int .i64 m ∧ c = .int .i64 z) (fun t _ => (intOf t).toNat)
  case atStart => exact ⟨n, -1, by omega, by omega, by omega, rfl, rfl⟩
  case round =>
    obtain ⟨m, z, hm, hz, hp, rfl, rfl⟩ := hrel
    have HP := Lib.hid hp
    have hb1 := logI_bd m hm
    have hz2 : z ≤ 62 := by omega
    clear hp
    by_cases hlt : 0 < m
    · go_wp2
      go_round
      case rel =>
        have q1 := logI_half m hlt hm
        have q3 := HP.out
        exact ⟨m / 2, z + 1, by omega, by omega, by omega, by go_num, by go_num⟩
      case measure => simp [intOf]; omega
    · go_wp2
      go_ret
      have q3 := HP.out
      rw [logI_none m (by omega)] at q3
      exact ⟨ret_i64 (by omega), rfl⟩
end Go.Proofs.Ytignobmohobobaa
