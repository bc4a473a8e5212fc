/-
  RefPut.
-/
import Derived.Test.YtpndccoikhejgaaDoorPk02
namespace Go.Proofs.YtpndccoikhejgaaDoor
open Go.RowKit
set_option linter.unusedVariables false
set_option maxRecDepth 100000

/-- A text of one byte, out of a slice that was just made. -/
theorem one_text (w : World) (x : Int) : (convert 48 9 (.slice (some ⟨w.heap.size, 0, none⟩) 1 1)).run Tryd.prog (w.alloc (.cells #[.int .u8 x] 5)) = .ok (.string (strOfNums [x])) (w.alloc (.cells #[.int .u8 x] 5)) :=
  run_convert_bytes_arg (w.alloc (.cells #[.int .u8 x] 5)) 48 5 Tryd.underlying48 Tryd.underlying5 w.heap.size 0 1 1 [x] rfl (fun i hi => by
    obtain rfl : i = 0 := by omega
    simp [World.cell?_alloc_new]) 9 Tryd.underlying9
theorem putL_next (n : Int) (j : Nat) : strOfNums [n / 2 ^ (8 * j) % 256] ++ strOfNums (putL n j) = strOfNums (putL n (j + 1)) := by
  simp only [strOfNums, putL]
  rw [ByteArray.mk_append_mk]; rfl
theorem put_add (n : Int) (j : Nat) (hj : j < 64) (w : World) : (Op.stringOp .add (strOfNums [n / 2 ^ (8 * j) % 256]) (strOfNums (putL n j))).run Tryd.prog w = .ok (.string (strOfNums (putL n (j + 1)))) w := by
  have e := run_string_add_sum (P := Tryd.prog) (w := w) (strOfNums [n / 2 ^ (8 * j) % 256]) (strOfNums (putL n j)) (by rw [strOfNums_size, strOfNums_size, putL_length]; simp; omega)
  rw [putL_next] at e
  exact e
theorem down8 (n : Int) (j : Nat) : n / 2 ^ (8 * j) / 256 = n / 2 ^ (8 * (j + 1)) := by
  rw [Int.ediv_ediv_of_nonneg (Int.pow_nonneg (by omega)), show 8 * (j + 1) = 8 * j + 8 by omega, Int.pow_add]; rfl
theorem down_bd (n : Int) (j : Nat) (h : 0 ≤ n ∧ n < 18446744073709551616) : 0 ≤ n / 2 ^ (8 * j) ∧ n / 2 ^ (8 * j) < 18446744073709551616 := by
  have hp : (0 : Int) < 2 ^ (8 * j) := Int.pow_pos (by omega)
  exact ⟨Int.ediv_nonneg h.1 (by omega), Int.lt_of_le_of_lt (Int.ediv_le_self _ h.1) h.2⟩
set_option maxHeartbeats 400000 in
theorem refPut_any (n k : Int) (w : World) (h : 0 ≤ n ∧ n < 18446744073709551616) :
    Calls Tryd.prog 39 #[.int .u64 n, .int .i64 k] w fun e w' => e = .returned (.string (putS n k)) ∧ Below w.heap.size w w' := by
  by_cases hs : 1 ≤ k ∧ k ≤ 8
  · obtain ⟨s, rfl⟩ : ∃ s : Nat, k = s := ⟨k.toNat, by omega⟩
    have HZ := Lib.hid (putS_some n s hs)
    go_enter Tryd.func39, Tryd.ntmps39
    go_wp2
    go_loopw [0, 5, 6] (fun t c i wr => ∃ j : Nat, ∃ m : Int, j ≤ s ∧ i = .int .i64 j ∧ Hid (m = n / 2 ^ (8 * j)) ∧ t = .int .u64 m ∧ c = .string (strOfNums (putL n j)) ∧ Hid (Below w.heap.size w wr)) (fun _ _ i _ => (s - intOf i).toNat)
    case atStart => exact ⟨0, n, by omega, rfl, by simp [Hid], rfl, rfl, Lib.hid (Below.refl _ _)⟩
    case round =>
      obtain ⟨j, m, hj, rfl, HM, rfl, rfl, HB⟩ := hrel
      by_cases hlt : j < s
      · have hm : 0 ≤ m ∧ m < 18446744073709551616 := by rw [HM.out]; exact down_bd n j h
        have HD := Lib.hid (down8 n j)
        have ht := fun (w : World) => one_text w (m % 256)
        have ha := fun (w : World) => (by rw [HM.out]; exact put_add n j (by omega) w : (Op.stringOp .add (strOfNums [m % 256]) (strOfNums (putL n j))).run Tryd.prog w = .ok (.string (strOfNums (putL n (j + 1)))) w)
        go_wp2
        go_roundw
        case rel => exact ⟨j + 1, m / 256, by omega, by go_num, Lib.hid (by rw [HM.out]; exact HD.out), by go_num, rfl, Lib.hid (HB.out.alloc HB.out.size _)⟩
        case measure => simp [intOf]; omega
      · obtain rfl : s = j := by omega
        go_wp2
        go_ret
        exact ⟨ret_str (by rw [HZ.out]; rfl), HB.out⟩
  · have HZ := Lib.hid (putS_none n k hs)
    by_cases hs1 : k < 1
    · go_enter Tryd.func39, Tryd.ntmps39
      go_wp2
      go_rounds 1
      go_ret
      exact ⟨ret_str HZ.out.symm, Below.refl _ _⟩
    · have hs2 : 9 ≤ k := by omega
      go_enter Tryd.func39, Tryd.ntmps39
      go_wp2
      go_rounds 1
      go_ret
      exact ⟨ret_str HZ.out.symm, Below.refl _ _⟩
end Go.Proofs.YtpndccoikhejgaaDoor
