/-
  The walk of bits.Put (layer 1): a number's bytes; what the calls make is new memory, nothing that was there changes. Condition: the number has 64 bits.
-/
import Derived.Test.YtllabnhgiojmmaaDoorGet
import Derived.Laws.BytesArg
namespace Go.Proofs.YtllabnhgiojmmaaDoor
open Go.RowKit
set_option linter.unusedVariables false
set_option maxRecDepth 100000

/-- The k lowest bytes of a number, the highest of them first. -/
def putL (n : Int) : Nat → List Int
  | 0 => []
  | k + 1 => (n / 2 ^ (8 * k) % 256) :: putL n k
theorem putL_length (n : Int) (k : Nat) : (putL n k).length = k := by
  induction k with
  | zero => rfl
  | succ k ih => simp [putL, ih]
/-- The row behind j rounds. -/
def rowL (n : Int) (s j : Nat) : List Int := List.replicate (s - j) 0 ++ putL n j
theorem rowL_length (n : Int) (s j : Nat) (h : j ≤ s) : (rowL n s j).length = s := by
  simp [rowL, putL_length]; omega
theorem rowL_zero (n : Int) (s : Nat) : rowL n s 0 = List.replicate s 0 := by simp [rowL, putL]
theorem rowL_all (n : Int) (s : Nat) : rowL n s s = putL n s := by simp [rowL]
theorem rowL_step (n : Int) (s j : Nat) (h : j < s) : (rowL n s j).set (s - 1 - j) (n / 2 ^ (8 * j) % 256) = rowL n s (j + 1) := by
  have e : s - j = (s - (j + 1)) + 1 := by omega
  have e2 : s - 1 - j = s - (j + 1) := by omega
  unfold rowL
  rw [e, e2, List.replicate_succ', List.append_assoc, List.set_append_right _ _ (by simp)]
  simp [putL]
theorem rowL_cell (n : Int) (s j : Nat) (h : j < s) : ((rowL n s j).map (Value.int .u8))[s - 1 - j]? = some (.int .u8 0) := by
  have e : s - j = (s - (j + 1)) + 1 := by omega
  have e2 : s - 1 - j = s - (j + 1) := by omega
  unfold rowL
  rw [e, e2, List.replicate_succ', List.append_assoc, List.map_append, List.getElem?_append_right (by simp)]
  simp

/-- The bytes of a number as a text; nothing where the size is none. -/
def putS (n k : Int) : ByteArray := if 1 ≤ k ∧ k ≤ 8 then strOfNums (putL n k.toNat) else ⟨#[]⟩
theorem putS_none (n k : Int) (h : ¬ (1 ≤ k ∧ k ≤ 8)) : putS n k = ⟨#[]⟩ := by unfold putS; rw [if_neg h]
theorem putS_some (n k : Int) (h : 1 ≤ k ∧ k ≤ 8) : putS n k = strOfNums (putL n k.toNat) := by unfold putS; rw [if_pos h]
theorem ret_str {a b : ByteArray} (h : a = b) : Ending.returned (.string a) = .returned (.string b) := by rw [h]

theorem info_u8 : (Tryd.prog.info? 5).map (fun i => (i.zero, i.size, i.bytes)) = some (some (.int .u8 0), 1, 1) := by kernel_rfl

/-- What holds at the head of each round: the row is the call's own; nothing that was there has changed. -/
def PutHead (n : Int) (s : Nat) (w wr : World) (j : Nat) : Prop :=
  wr.ownsRow w.heap.size 5 1 (.slice (some ⟨w.heap.size, 0, none⟩) s s) s ((rowL n s j).map (Value.int .u8)) ∧ Below w.heap.size w wr
theorem PutHead.start {n : Int} {s : Nat} {w w1 : World} (ho : w1.ownsRow w.heap.size 5 1 (.slice (some ⟨w.heap.size, 0, none⟩) s s) s (madeCells #[Value.int .u8 0] s).toList) (hg : w.grownBy w1 none) : PutHead n s w w1 0 := by
  refine ⟨?_, (Below.refl _ _).grown hg (Nat.le_refl _) (fun k hk => by simp at hk)⟩
  rw [rowL_zero, List.map_replicate, ← toList_madeCells_one]; exact ho
theorem PutHead.cell {n : Int} {s : Nat} {w wr : World} {j : Nat} (h : PutHead n s w wr j) (hj : j < s) : wr.cell? ⟨w.heap.size, s - 1 - j, none⟩ = some (.int .u8 0) := by
  rw [h.1.cellAt _ (by omega)]; exact rowL_cell n s j hj
theorem PutHead.free {n : Int} {s : Nat} {w wr : World} {j : Nat} (h : PutHead n s w wr j) (i : Nat) : wr.frozen? ⟨w.heap.size, i, none⟩ = false := h.1.frozenAt i
theorem PutHead.next {n : Int} {s : Nat} {w wr : World} {j : Nat} (h : PutHead n s w wr j) (hj : j < s) : PutHead n s w (wr.setCell ⟨w.heap.size, s - 1 - j, none⟩ (.int .u8 (n / 2 ^ (8 * j) % 256))) (j + 1) := by
  refine ⟨?_, h.2.setCell (Nat.le_refl _) _⟩
  have := (h.1.stored (s - 1 - j) (.int .u8 (n / 2 ^ (8 * j) % 256))).1
  rw [← List.map_set, rowL_step n s j hj] at this
  exact this
theorem PutHead.text {n : Int} {s : Nat} {w wr : World} (h : PutHead n s w wr s) : (convert 41 9 (.slice (some ⟨w.heap.size, 0, none⟩) s s)).run Tryd.prog wr = .ok (.string (strOfNums (putL n s))) wr :=
  run_convert_bytes_arg wr 41 5 Tryd.underlying41 Tryd.underlying5 w.heap.size 0 s s (putL n s) (putL_length n s) (fun i hi => by
    have := h.1.cellAt i (by omega)
    rw [rowL_all] at this
    rw [Nat.zero_add, this]
    simp [List.getD, List.getElem?_map, List.getElem?_eq_getElem (show i < (putL n s).length by rw [putL_length]; exact hi)]) 9 Tryd.underlying9

set_option maxHeartbeats 400000 in
theorem put_some (n : Int) (s : Nat) (w : World) (h : 0 ≤ n ∧ n < 18446744073709551616) (h1 : 1 ≤ s) (h8 : s ≤ 8) :
    Calls Tryd.prog 34 #[.int .u64 n, .int .i64 s] w fun e w' => e = .returned (.string (strOfNums (putL n s))) ∧ Below w.heap.size w w' := by
  obtain ⟨i0, hi, hz0, hz1, hz2⟩ := info_parts info_u8
  go_enter Tryd.func34, Tryd.ntmps34
  go_wp2_with (at_make; refine wpList_make_full _ rfl _ _ 41 rfl w.heap.size 5 i0 (.int .u8 0) 1 Tryd.underlying41 hi hz0 hz1 _ _ _ _ s rfl rfl rfl rfl (by rw [hz2]; omega) (by unfold maxLen; omega) (Nat.le_refl _) ?_)
  intro w1 ho hg
  have H0 := Lib.hid (PutHead.start (n := n) ho hg)
  clear ho hg
  go_wp2
  go_loopw [16] (fun i wr => ∃ j : Nat, j ≤ s ∧ i = .int .i64 j ∧ Hid (PutHead n s w wr j)) (fun i _ => (s - intOf i).toNat)
  case atStart => exact ⟨0, by omega, rfl, H0⟩
  case round =>
    obtain ⟨j, hj, rfl, HP⟩ := hrel
    by_cases hlt : j < s
    · have hc := HP.out.cell hlt
      have hf := HP.out.free (s - 1 - j)
      go_wp2
      go_roundw
      case rel => exact ⟨j + 1, by omega, by go_num, HP.out.next hlt⟩
      case measure => simp [intOf]; omega
    · obtain rfl : s = j := by omega
      have ht := HP.out.text
      go_wp2
      go_ret
      exact ⟨rfl, HP.out.2⟩
set_option maxHeartbeats 400000 in
theorem put_any (n k : Int) (w : World) (h : 0 ≤ n ∧ n < 18446744073709551616) :
    Calls Tryd.prog 34 #[.int .u64 n, .int .i64 k] w fun e w' => e = .returned (.string (putS n k)) ∧ Below w.heap.size w w' := by
  by_cases hs : 1 ≤ k ∧ k ≤ 8
  · obtain ⟨s, rfl⟩ : ∃ s : Nat, k = s := ⟨k.toNat, by omega⟩
    rw [putS_some n s hs]
    exact put_some n s w h (by omega) (by omega)
  · have HZ := Lib.hid (putS_none n k hs)
    by_cases hs1 : k < 1
    · go_enter Tryd.func34, Tryd.ntmps34
      go_wp2
      go_ret
      exact ⟨ret_str HZ.out.symm, Below.refl _ _⟩
    · have hs2 : 8 < k := by omega
      go_enter Tryd.func34, Tryd.ntmps34
      go_wp2
      go_ret
      exact ⟨ret_str HZ.out.symm, Below.refl _ _⟩

end Go.Proofs.YtllabnhgiojmmaaDoor
