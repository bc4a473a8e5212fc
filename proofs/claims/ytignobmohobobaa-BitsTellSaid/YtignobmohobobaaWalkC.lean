/-
  The walks of layer 1 (bits), third part: a number's bytes; what the calls make is new memory, nothing that was there changes. Condition: the number has 64 bits.
-/
import Derived.Test.YtignobmohobobaaWalkB
import Derived.Laws.BytesArg
namespace Go.Proofs.Ytignobmohobobaa
open Go.RowKit
set_option linter.unusedVariables false

/-- The k lowest bytes of a number, the highest of them first. -/
def putL (n : Int) : Nat → List Int
  | 0 => []
  | k + 1 => (n / 2 ^ (8 * k) % 256) :: putL n k
theorem putL_length (n : Int) (k : Nat) : (putL n k).length = k := by
  induction k with
  | zero => rfl
  | succ k ih => simp [putL, ih]
/-- The row behind j rounds. -/
def rowL (n : Int) (s j : Nat) : List Int := List.replicate (s - j) 0 ++ putL n j
theorem rowL_length (n : Int) (s j : Nat) (h : j ≤ s) : (rowL n s j).length = s := by
  simp [rowL, putL_length]; omega
theorem rowL_zero (n : Int) (s : Nat) : rowL n s 0 = List.replicate s 0 := by simp [rowL, putL]
theorem rowL_all (n : Int) (s : Nat) : rowL n s s = putL n s := by simp [rowL]
theorem rowL_step (n : Int) (s j : Nat) (h : j < s) : (rowL n s j).set (s - 1 - j) (n / 2 ^ (8 * j) % 256) = rowL n s (j + 1) := by
  have e : s - j = (s - (j + 1)) + 1 := by omega
  have e2 : s - 1 - j = s - (j + 1) := by omega
  unfold rowL
  rw [e, e2, List.replicate_succ', List.append_assoc, List.set_append_right _ _ (by simp)]
  simp [putL]
theorem rowL_cell (n : Int) (s j : Nat) (h : j < s) : ((rowL n s j).map (Value.int .u8))[s - 1 - j]? = some (.int .u8 0) := by
  have e : s - j = (s - (j + 1)) + 1 := by omega
  have e2 : s - 1 - j = s - (j + 1) := by omega
  unfold rowL
  rw [e, e2, List.replicate_succ', List.append_assoc, List.map_append, List.getElem?_append_right (by simp)]
  simp

/-- The bytes of a number as a text; nothing where the size is none. -/
def putS (n k : Int) : ByteArray := if 1 ≤ k ∧ k ≤ 8 then strOfNums (putL n k.toNat) else ⟨#[]⟩
theorem putS_none (n k : Int) (h : ¬ (1 ≤ k ∧ k ≤ 8)) : putS n k = ⟨#[]⟩ := by unfold putS; rw [if_neg h]
theorem putS_some (n k : Int) (h : 1 ≤ k ∧ k ≤ 8) : putS n k = strOfNums (putL n k.toNat) := by unfold putS; rw [if_pos h]
theorem ret_str {a b : ByteArray} (h : a = b) : Ending.returned (.string a) = .returned (.string b) := by rw [h]

theorem info_u8 : (Try.prog.info? 5).map (fun i => (i.zero, i.size, i.bytes)) = some (some (.int .u8 0), 1, 1) := by kernel_rfl

/-- What holds at the head of each round: the row is the call's own; nothing that was there has changed. -/
def PutHead (n : Int) (s : Nat) (w wr : World) (j : Nat) : Prop :=
  wr.ownsRow w.heap.size 5 1 (.slice (some ⟨w.heap.size, 0, none⟩) s s) s ((rowL n s j).map (Value.int .u8)) ∧ Below w.heap.size w wr
theorem PutHead.start {n : Int} {s : Nat} {w w1 : World} (ho : w1.ownsRow w.heap.size 5 1 (.slice (some ⟨w.heap.size, 0, none⟩) s s) s (madeCells #[Value.int .u8 0] s).toList) (hg : w.grownBy w1 none) : PutHead n s w w1 0 := by
  refine ⟨?_, (Below.refl _ _).grown hg (Nat.le_refl _) (fun k hk => by simp at hk)⟩
  rw [rowL_zero, List.map_replicate, ← toList_madeCells_one]; exact ho
theorem PutHead.cell {n : Int} {s : Nat} {w wr : World} {j : Nat} (h : PutHead n s w wr j) (hj : j < s) : wr.cell? ⟨w.heap.size, s - 1 - j, none⟩ = some (.int .u8 0) := by
  rw [h.1.cellAt _ (by omega)]; exact rowL_cell n s j hj
theorem PutHead.free {n : Int} {s : Nat} {w wr : World} {j : Nat} (h : PutHead n s w wr j) (i : Nat) : wr.frozen? ⟨w.heap.size, i, none⟩ = false := h.1.frozenAt i
theorem PutHead.next {n : Int} {s : Nat} {w wr : World} {j : Nat} (h : PutHead n s w wr j) (hj : j < s) : PutHead n s w (wr.setCell ⟨w.heap.size, s - 1 - j, none⟩ (.int .u8 (n / 2 ^ (8 * j) % 256))) (j + 1) := by
  refine ⟨?_, h.2.setCell (Nat.le_refl _) _⟩
  have := (h.1.stored (s - 1 - j) (.int .u8 (n / 2 ^ (8 * j) % 256))).1
  rw [← List.map_set, rowL_step n s j hj] at this
  exact this
theorem PutHead.text {n : Int} {s : Nat} {w wr : World} (h : PutHead n s w wr s) : (convert 36 9 (.slice (some ⟨w.heap.size, 0, none⟩) s s)).run Try.prog wr = .ok (.string (strOfNums (putL n s))) wr :=
  run_convert_bytes_arg wr 36 5 Try.underlying36 Try.underlying5 w.heap.size 0 s s (putL n s) (putL_length n s) (fun i hi => by
    have := h.1.cellAt i (by omega)
    rw [rowL_all] at this
    rw [Nat.zero_add, this]
    simp [List.getD, List.getElem?_map, List.getElem?_eq_getElem (show i < (putL n s).length by rw [putL_length]; exact hi)]) 9 Try.underlying9

set_option maxHeartbeats 400000 in
theorem put_some (n : Int) (s : Nat) (w : World) (h : 0 ≤ n ∧ n < 18446744073709551616) (h1 : 1 ≤ s) (h8 : s ≤ 8) :
    Calls Try.prog 7 #[.int .u64 n, .int .i64 s] w fun e w' => e = .returned (.string (strOfNums (putL n s))) ∧ Below w.heap.size w w' := by
  obtain ⟨i0, hi, hz0, hz1, hz2⟩ := info_parts info_u8
  go_enter Try.func7, Try.ntmps7
  go_wp2_with (at_make; refine wpList_make_full _ rfl _ _ 36 rfl w.heap.size 5 i0 (.int .u8 0) 1 Try.underlying36 hi hz0 hz1 _ _ _ _ s rfl rfl rfl rfl (by rw [hz2]; omega) (by unfold maxLen; omega) (Nat.le_refl _) ?_)
  intro w1 ho hg
  have H0 := Lib.hid (PutHead.start (n := n) ho hg)
  clear ho hg
  go_wp2
  go_loopw [16] (fun i wr => ∃ j : Nat, j ≤ s ∧ i = .int .i64 j ∧ Hid (PutHead n s w wr j)) (fun i _ => (s - intOf i).toNat)
  case atStart => exact ⟨0, by omega, rfl, H0⟩
  case round =>
    obtain ⟨j, hj, rfl, HP⟩ := hrel
    by_cases hlt : j < s
    · have hc := HP.out.cell hlt
      have hf := HP.out.free (s - 1 - j)
      go_wp2
      go_roundw
      case rel => exact ⟨j + 1, by omega, by go_num, HP.out.next hlt⟩
      case measure => simp [intOf]; omega
    · obtain rfl : s = j := by omega
      have ht := HP.out.text
      go_wp2
      go_ret
      exact ⟨rfl, HP.out.2⟩
set_option maxHeartbeats 400000 in
theorem put_any (n k : Int) (w : World) (h : 0 ≤ n ∧ n < 18446744073709551616) :
    Calls Try.prog 7 #[.int .u64 n, .int .i64 k] w fun e w' => e = .returned (.string (putS n k)) ∧ Below w.heap.size w w' := by
  by_cases hs : 1 ≤ k ∧ k ≤ 8
  · obtain ⟨s, rfl⟩ : ∃ s : Nat, k = s := ⟨k.toNat, by omega⟩
    rw [putS_some n s hs]
    exact put_some n s w h (by omega) (by omega)
  · have HZ := Lib.hid (putS_none n k hs)
    by_cases hs1 : k < 1
    · go_enter Try.func7, Try.ntmps7
      go_wp2
      go_ret
      exact ⟨ret_str HZ.out.symm, Below.refl _ _⟩
    · have hs2 : 8 < k := by omega
      go_enter Try.func7, Try.ntmps7
      go_wp2
      go_ret
      exact ⟨ret_str HZ.out.symm, Below.refl _ _⟩

/-! ### the document's Put -/
/-- A text of one byte, out of a slice that was just made. -/
theorem one_text (w : World) (x : Int) : (convert 36 9 (.slice (some ⟨w.heap.size, 0, none⟩) 1 1)).run Try.prog (w.alloc (.cells #[.int .u8 x] 5)) = .ok (.string (strOfNums [x])) (w.alloc (.cells #[.int .u8 x] 5)) :=
  run_convert_bytes_arg (w.alloc (.cells #[.int .u8 x] 5)) 36 5 Try.underlying36 Try.underlying5 w.heap.size 0 1 1 [x] rfl (fun i hi => by
    obtain rfl : i = 0 := by omega
    simp [World.cell?_alloc_new]) 9 Try.underlying9
theorem putL_next (n : Int) (j : Nat) : strOfNums [n / 2 ^ (8 * j) % 256] ++ strOfNums (putL n j) = strOfNums (putL n (j + 1)) := by
  simp only [strOfNums, putL]
  rw [ByteArray.mk_append_mk]; rfl
theorem put_add (n : Int) (j : Nat) (hj : j < 64) (w : World) : (Op.stringOp .add (strOfNums [n / 2 ^ (8 * j) % 256]) (strOfNums (putL n j))).run Try.prog w = .ok (.string (strOfNums (putL n (j + 1)))) w := by
  have e := run_string_add_sum (P := Try.prog) (w := w) (strOfNums [n / 2 ^ (8 * j) % 256]) (strOfNums (putL n j)) (by rw [strOfNums_size, strOfNums_size, putL_length]; simp; omega)
  rw [putL_next] at e
  exact e
theorem down8 (n : Int) (j : Nat) : n / 2 ^ (8 * j) / 256 = n / 2 ^ (8 * (j + 1)) := by
  rw [Int.ediv_ediv_of_nonneg (Int.pow_nonneg (by omega)), show 8 * (j + 1) = 8 * j + 8 by omega, Int.pow_add]; rfl
theorem down_bd (n : Int) (j : Nat) (h : 0 ≤ n ∧ n < 18446744073709551616) : 0 ≤ n / 2 ^ (8 * j) ∧ n / 2 ^ (8 * j) < 18446744073709551616 := by
  have hp : (0 : Int) < 2 ^ (8 * j) := Int.pow_pos (by omega)
  exact ⟨Int.ediv_nonneg h.1 (by omega), Int.lt_of_le_of_lt (Int.ediv_le_self _ h.1) h.2⟩
set_option maxHeartbeats 400000 in
theorem refPut_any (n k : Int) (w : World) (h : 0 ≤ n ∧ n < 18446744073709551616) :
    Calls Try.prog 8 #[.int .u64 n, .int .i64 k] w fun e w' => e = .returned (.string (putS n k)) ∧ Below w.heap.size w w' := by
  by_cases hs : 1 ≤ k ∧ k ≤ 8
  · obtain ⟨s, rfl⟩ : ∃ s : Nat, k = s := ⟨k.toNat, by omega⟩
    have HZ := Lib.hid (putS_some n s hs)
    go_enter Try.func8, Try.ntmps8
    go_wp2
    go_loopw [0, 5, 6] (fun t c i wr => ∃ j : Nat, ∃ m : Int, j ≤ s ∧ i = .int .i64 j ∧ Hid (m = n / 2 ^ (8 * j)) ∧ t = .int .u64 m ∧ c = .string (strOfNums (putL n j)) ∧ Hid (Below w.heap.size w wr)) (fun _ _ i _ => (s - intOf i).toNat)
    case atStart => exact ⟨0, n, by omega, rfl, by simp [Hid], rfl, rfl, Lib.hid (Below.refl _ _)⟩
    case round =>
      obtain ⟨j, m, hj, rfl, HM, rfl, rfl, HB⟩ := hrel
      by_cases hlt : j < s
      · have hm : 0 ≤ m ∧ m < 18446744073709551616 := by rw [HM.out]; exact down_bd n j h
        have HD := Lib.hid (down8 n j)
        have ht := fun (w : World) => one_text w (m % 256)
        have ha := fun (w : World) => (by rw [HM.out]; exact put_add n j (by omega) w : (Op.stringOp .add (strOfNums [m % 256]) (strOfNums (putL n j))).run Try.prog w = .ok (.string (strOfNums (putL n (j + 1)))) w)
        go_wp2
        go_roundw
        case rel => exact ⟨j + 1, m / 256, by omega, by go_num, Lib.hid (by rw [HM.out]; exact HD.out), by go_num, rfl, Lib.hid (HB.out.alloc HB.out.size _)⟩
        case measure => simp [intOf]; omega
      · obtain rfl : s = j := by omega
        go_wp2
        go_ret
        exact ⟨ret_str (by rw [HZ.out]; rfl), HB.out⟩
  · have HZ := Lib.hid (putS_none n k hs)
    by_cases hs1 : k < 1
    · go_enter Try.func8, Try.ntmps8
      go_wp2
      go_rounds 1
      go_ret
      exact ⟨ret_str HZ.out.symm, Below.refl _ _⟩
    · have hs2 : 9 ≤ k := by omega
      go_enter Try.func8, Try.ntmps8
      go_wp2
      go_rounds 1
      go_ret
      exact ⟨ret_str HZ.out.symm, Below.refl _ _⟩
end Go.Proofs.Ytignobmohobobaa
