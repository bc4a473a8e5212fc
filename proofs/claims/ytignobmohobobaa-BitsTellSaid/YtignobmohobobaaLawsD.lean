/-
  The walks of the statements BitsTell and BitsBytes: they return true, for every number, every place and every text that a call can be handed; what they make is new memory, nothing that was there changes.
-/
import Derived.Test.YtignobmohobobaaLawsA
namespace Go.Proofs.Ytignobmohobobaa
open Go.RowKit
set_option linter.unusedVariables false

theorem wrap64_bd (n : Int) : ∃ m : Int, wrap64 n = m ∧ -9223372036854775808 ≤ m ∧ m ≤ 9223372036854775807 := ⟨wrap64 n, rfl, by unfold wrap64; omega, by unfold wrap64; omega⟩
set_option maxHeartbeats 1000000 in
theorem tell_walk (n x k : Int) (w : World) (hn : 0 ≤ n ∧ n < 18446744073709551616) (hx : 0 ≤ x ∧ x < 4294967296) (hk : -9223372036854775808 ≤ k ∧ k ≤ 9223372036854775807) :
    Calls Try.prog 3 #[.int .u64 n, .int .u32 x, .int .i64 k] w fun e w' => e = .returned (.bool true) ∧ Below w.heap.size w w' := by
  obtain ⟨m, hm, hm1, hm2⟩ := wrap64_bd n
  go_enter Try.func3, Try.ntmps3
  go_wp2
  go_loopw [7] (fun i wr => ∃ j : Int, -1 ≤ j ∧ j ≤ 34 ∧ i = .int .i64 j ∧ Hid (Below w.heap.size w wr)) (fun i _ => (34 - intOf i).toNat)
  case atStart => exact ⟨-1, by omega, by omega, rfl, Lib.hid (Below.refl _ _)⟩
  case round =>
    obtain ⟨j, hj1, hj2, rfl, HB⟩ := hrel
    by_cases hlt : j < 34
    · go_wp2_with (first
        | (go_at_call 7; (with_reducible refine (put_any _ _ _ hn).mono ?_); rintro e w1 ⟨rfl, hb1⟩)
        | (go_at_call 8; (with_reducible refine (refPut_any _ _ _ hn).mono ?_); rintro e w2 ⟨rfl, hb2⟩)
        | (go_at_call 9; (with_reducible refine (left_any _ _ _ hx).mono ?_); rintro e w' ⟨rfl, rfl⟩)
        | (go_at_call 10; (with_reducible refine (refLeft_any _ _ _ hx).mono ?_); rintro e w' ⟨rfl, rfl⟩)
        | (go_at_call 11; (with_reducible refine (right_any _ _ _ hx).mono ?_); rintro e w' ⟨rfl, rfl⟩)
        | (go_at_call 12; (with_reducible refine (refRight_any _ _ _ hx).mono ?_); rintro e w' ⟨rfl, rfl⟩))
      go_roundw
      case rel =>
        have h1 := HB.out.trans (hb1.mono HB.out.size)
        exact ⟨j + 1, by omega, by omega, by go_num, Lib.hid (h1.trans (hb2.mono h1.size))⟩
      case measure => simp [intOf]; omega
    · go_wp2_with (first
        | (go_at_call 7; (with_reducible refine (put_any _ _ _ hn).mono ?_); rintro e w1 ⟨rfl, hb1⟩)
        | (go_at_call 8; (with_reducible refine (refPut_any _ _ _ hn).mono ?_); rintro e w2 ⟨rfl, hb2⟩)
        | (go_at_call 9; (with_reducible refine (left_any _ _ _ hx).mono ?_); rintro e w' ⟨rfl, rfl⟩)
        | (go_at_call 10; (with_reducible refine (refLeft_any _ _ _ hx).mono ?_); rintro e w' ⟨rfl, rfl⟩)
        | (go_at_call 11; (with_reducible refine (right_any _ _ _ hx).mono ?_); rintro e w' ⟨rfl, rfl⟩)
        | (go_at_call 12; (with_reducible refine (refRight_any _ _ _ hx).mono ?_); rintro e w' ⟨rfl, rfl⟩)
        | (go_at_call 13; (with_reducible refine (ones_any _ _ (by omega)).mono ?_); rintro e w' ⟨rfl, rfl⟩)
        | (go_at_call 14; (with_reducible refine (refOnes_any _ _ (by omega)).mono ?_); rintro e w' ⟨rfl, rfl⟩)
        | (go_at_call 15; (with_reducible refine (log_any _ _ (by omega)).mono ?_); rintro e w' ⟨rfl, rfl⟩)
        | (go_at_call 16; (with_reducible refine (refLog_any _ _ (by omega)).mono ?_); rintro e w' ⟨rfl, rfl⟩)
        | (go_at_call 17; (with_reducible refine (turned_any _).mono ?_); rintro e w3 ⟨rfl, hb3⟩))
      go_ret
      have h1 := HB.out.trans (hb1.mono HB.out.size)
      have h2 := h1.trans (hb2.mono h1.size)
      exact ⟨rfl, h2.trans (hb3.mono h2.size)⟩
set_option maxHeartbeats 1000000 in
theorem bytes_walk (s : ByteArray) (i : Int) (w : World) (hs : s.size ≤ maxLen) (hi : -9223372036854775808 ≤ i ∧ i ≤ 9223372036854775807) :
    Calls Try.prog 4 #[.string s, .int .i64 i] w fun e w' => e = .returned (.bool true) ∧ Below w.heap.size w w' := by
  by_cases hbig : 200 < s.size
  · unfold maxLen at hs
    go_enter Try.func4, Try.ntmps4
    go_wp2_with (go_at_call 17; (with_reducible refine (turned_any _).mono ?_); rintro e w3 ⟨rfl, hb3⟩)
    go_ret
    exact ⟨rfl, hb3⟩
  · have hsm : s.size ≤ 200 := by omega
    clear hbig
    go_enter Try.func4, Try.ntmps4
    go_wp2
    go_loop [5] (fun k => ∃ j : Int, -1 ≤ j ∧ j ≤ 8 * s.size + 2 ∧ k = .int .i64 j) (fun k => (8 * s.size + 2 - intOf k).toNat)
    case atStart => exact ⟨-1, by omega, by omega, rfl⟩
    case round =>
      obtain ⟨j, hj1, hj2, rfl⟩ := hrel
      by_cases hlt : j ≤ 8 * s.size + 1
      · go_wp2_with (first
          | (go_at_call 18; (with_reducible refine (bit_any _ _ _ hs (by omega)).mono ?_); rintro e w' ⟨rfl, rfl⟩)
          | (go_at_call 19; (with_reducible refine (refBit_any _ _ _ hs (by omega)).mono ?_); rintro e w' ⟨rfl, rfl⟩))
        go_round
        case rel => exact ⟨j + 1, by omega, by omega, by go_num⟩
        case measure => simp [intOf]; omega
      · go_wp2_with (first
          | (go_at_call 18; (with_reducible refine (bit_any _ _ _ hs (by omega)).mono ?_); rintro e w' ⟨rfl, rfl⟩)
          | (go_at_call 19; (with_reducible refine (refBit_any _ _ _ hs (by omega)).mono ?_); rintro e w' ⟨rfl, rfl⟩)
          | (go_at_call 20; (with_reducible refine (get_any _ _ hs).mono ?_); rintro e w' ⟨rfl, rfl⟩)
          | (go_at_call 21; (with_reducible refine (refGet_any _ _ hs).mono ?_); rintro e w' ⟨rfl, rfl⟩)
          | (go_at_call 17; (with_reducible refine (turned_any _).mono ?_); rintro e w3 ⟨rfl, hb3⟩))
        go_ret
        exact ⟨rfl, hb3⟩
end Go.Proofs.Ytignobmohobobaa
