/-
  The chapter's examples, as the statements call them ('turned'): true; the call makes new memory, nothing that was there changes.
-/
import Derived.Test.YtignobmohobobaaWalkC
namespace Go.Proofs.Ytignobmohobobaa
open Go.RowKit
set_option linter.unusedVariables false

theorem ex_put1 (w : World) : Calls Try.prog 7 #[.int .u64 258, .int .i64 3] w fun e w' => e = .returned (.string ⟨#[0, 1, 2]⟩) ∧ Below w.heap.size w w' :=
  (put_any 258 3 w (by omega)).mono fun e w' ⟨h1, h2⟩ => ⟨h1.trans (ret_str (by rfl)), h2⟩
theorem ex_put2 (w : World) : Calls Try.prog 7 #[.int .u64 1, .int .i64 9] w fun e w' => e = .returned (.string ⟨#[]⟩) ∧ Below w.heap.size w w' :=
  (put_any 1 9 w (by omega)).mono fun e w' ⟨h1, h2⟩ => ⟨h1.trans (ret_str (by rfl)), h2⟩
theorem ex_get (w : World) : Calls Try.prog 20 #[.string ⟨#[1, 2]⟩] w fun e w' => e = .returned (.int .u64 258) ∧ w = w' :=
  (get_any ⟨#[1, 2]⟩ w (by decide)).mono fun e w' ⟨h1, h2⟩ => ⟨h1.trans (ret_u64 (by rfl)), h2⟩
theorem ex_left1 (w : World) : Calls Try.prog 9 #[.int .u32 2147483649, .int .i64 1] w fun e w' => e = .returned (.int .u32 3) ∧ w = w' :=
  (left_any 2147483649 1 w (by omega)).mono fun e w' ⟨h1, h2⟩ => ⟨h1.trans (ret_u32 (by decide)), h2⟩
theorem ex_left2 (w : World) : Calls Try.prog 9 #[.int .u32 1, .int .i64 (-1)] w fun e w' => e = .returned (.int .u32 2147483648) ∧ w = w' :=
  (left_any 1 (-1) w (by omega)).mono fun e w' ⟨h1, h2⟩ => ⟨h1.trans (ret_u32 (by decide)), h2⟩
theorem ex_right (w : World) : Calls Try.prog 11 #[.int .u32 1, .int .i64 33] w fun e w' => e = .returned (.int .u32 2147483648) ∧ w = w' :=
  (right_any 1 33 w (by omega)).mono fun e w' ⟨h1, h2⟩ => ⟨h1.trans (ret_u32 (by decide)), h2⟩
theorem ex_ones1 (w : World) : Calls Try.prog 13 #[.int .i64 7] w fun e w' => e = .returned (.int .i64 3) ∧ w = w' :=
  (ones_any 7 w (by omega)).mono fun e w' ⟨h1, h2⟩ => ⟨h1.trans (ret_i64 (by decide)), h2⟩
theorem ex_ones2 (w : World) : Calls Try.prog 13 #[.int .i64 (-1)] w fun e w' => e = .returned (.int .i64 0) ∧ w = w' :=
  (ones_any (-1) w (by omega)).mono fun e w' ⟨h1, h2⟩ => ⟨h1.trans (ret_i64 (by decide)), h2⟩
theorem ex_log1 (w : World) : Calls Try.prog 15 #[.int .i64 8] w fun e w' => e = .returned (.int .i64 3) ∧ w = w' :=
  (log_any 8 w (by omega)).mono fun e w' ⟨h1, h2⟩ => ⟨h1.trans (ret_i64 (by decide)), h2⟩
theorem ex_log2 (w : World) : Calls Try.prog 15 #[.int .i64 7] w fun e w' => e = .returned (.int .i64 2) ∧ w = w' :=
  (log_any 7 w (by omega)).mono fun e w' ⟨h1, h2⟩ => ⟨h1.trans (ret_i64 (by decide)), h2⟩
theorem ex_log3 (w : World) : Calls Try.prog 15 #[.int .i64 0] w fun e w' => e = .returned (.int .i64 (-1)) ∧ w = w' :=
  (log_any 0 w (by omega)).mono fun e w' ⟨h1, h2⟩ => ⟨h1.trans (ret_i64 (by decide)), h2⟩
theorem ex_bit1 (w : World) : Calls Try.prog 18 #[.string ⟨#[64]⟩, .int .i64 1] w fun e w' => e = .returned (.int .i64 1) ∧ w = w' :=
  (bit_any ⟨#[64]⟩ 1 w (by decide) (by omega)).mono fun e w' ⟨h1, h2⟩ => ⟨h1.trans (ret_i64 (by rfl)), h2⟩
theorem ex_bit2 (w : World) : Calls Try.prog 18 #[.string ⟨#[64]⟩, .int .i64 0] w fun e w' => e = .returned (.int .i64 0) ∧ w = w' :=
  (bit_any ⟨#[64]⟩ 0 w (by decide) (by omega)).mono fun e w' ⟨h1, h2⟩ => ⟨h1.trans (ret_i64 (by rfl)), h2⟩
theorem ex_bit3 (w : World) : Calls Try.prog 18 #[.string ⟨#[64]⟩, .int .i64 8] w fun e w' => e = .returned (.int .i64 0) ∧ w = w' :=
  (bit_any ⟨#[64]⟩ 8 w (by decide) (by omega)).mono fun e w' ⟨h1, h2⟩ => ⟨h1.trans (ret_i64 (by rfl)), h2⟩

set_option maxHeartbeats 1000000 in
theorem turned_any (w : World) :
    Calls Try.prog 17 #[] w fun e w' => e = .returned (.bool true) ∧ Below w.heap.size w w' := by
  go_enter Try.func17, Try.ntmps17
  go_wp2_with (first
    | (go_at_call 7; (first | ((with_reducible refine (ex_put1 _).mono ?_); rintro e w1 ⟨rfl, hb1⟩) | ((with_reducible refine (ex_put2 _).mono ?_); rintro e w2 ⟨rfl, hb2⟩)))
    | (go_at_call 20; (with_reducible refine (ex_get _).mono ?_); rintro e w' ⟨rfl, rfl⟩)
    | (go_at_call 9; (first | ((with_reducible refine (ex_left1 _).mono ?_); rintro e w' ⟨rfl, rfl⟩) | ((with_reducible refine (ex_left2 _).mono ?_); rintro e w' ⟨rfl, rfl⟩)))
    | (go_at_call 11; (with_reducible refine (ex_right _).mono ?_); rintro e w' ⟨rfl, rfl⟩)
    | (go_at_call 13; (first | ((with_reducible refine (ex_ones1 _).mono ?_); rintro e w' ⟨rfl, rfl⟩) | ((with_reducible refine (ex_ones2 _).mono ?_); rintro e w' ⟨rfl, rfl⟩)))
    | (go_at_call 15; (first | ((with_reducible refine (ex_log1 _).mono ?_); rintro e w' ⟨rfl, rfl⟩) | ((with_reducible refine (ex_log2 _).mono ?_); rintro e w' ⟨rfl, rfl⟩) | ((with_reducible refine (ex_log3 _).mono ?_); rintro e w' ⟨rfl, rfl⟩)))
    | (go_at_call 18; (first | ((with_reducible refine (ex_bit1 _).mono ?_); rintro e w' ⟨rfl, rfl⟩) | ((with_reducible refine (ex_bit2 _).mono ?_); rintro e w' ⟨rfl, rfl⟩) | ((with_reducible refine (ex_bit3 _).mono ?_); rintro e w' ⟨rfl, rfl⟩))))
  go_ret
  exact ⟨rfl, hb1.trans (hb2.mono hb1.size)⟩
end Go.Proofs.Ytignobmohobobaa
