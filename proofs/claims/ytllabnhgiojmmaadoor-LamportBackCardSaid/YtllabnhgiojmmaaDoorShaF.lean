/-
  The walks of layer 2 (sha): a text's end, filled up ('filled'). Conditions: the end is shorter than a block, the text is not longer than 2^60 bytes. It makes new memory; nothing that was there changes.
-/
import Derived.Test.YtllabnhgiojmmaaDoorShaMath
import Derived.Test.YtllabnhgiojmmaaDoorPut
import Derived.Test.YtllabnhgiojmmaaDoorShelf
namespace Go.Proofs.YtllabnhgiojmmaaDoor
open Go.RowKit
set_option linter.unusedVariables false

def zerosS (z : Nat) : ByteArray := ⟨(Lib.repeatL (⟨#[0]⟩ : ByteArray).data.toList z).toArray⟩
abbrev mark : ByteArray := ⟨#[128]⟩
/-- A text's end e, filled up; the text has n bytes. -/
def fillS (e : ByteArray) (n : Nat) : ByteArray := ((e ++ mark) ++ zerosS ((119 - e.size) % 64)) ++ putS (8 * (n : Int)) 8
theorem zeros_any (z : Nat) (w : World) (h : z < 64) : Calls Tryd.prog 46 #[.string ⟨#[0]⟩, .int .i64 z] w fun e w' => e = .returned (.string (zerosS z)) ∧ Below w.heap.size w w' :=
  Tryd.strings_Repeat ⟨#[0]⟩ z w (by omega) (by show 1 * z ≤ _; omega)
theorem zerosS_size (z : Nat) : (zerosS z).size = z := by
  show (Lib.repeatL [0] z).toArray.size = z
  rw [List.size_toArray, Lib.repeatL_length]; simp
theorem put8_size (n : Int) : (putS n 8).size = 8 := by
  rw [putS_some n 8 (by omega), strOfNums_size, putL_length]; rfl
theorem add_run (a b : ByteArray) (h : a.size + b.size ≤ 9223372036854775807) (w : World) : (Op.stringOp .add a b).run Tryd.prog w = .ok (.string (a ++ b)) w :=
  run_string_add_sum (P := Tryd.prog) (w := w) a b (by omega)
set_option maxHeartbeats 1000000 in
theorem filled_any (e : ByteArray) (n : Nat) (he : e.size ≤ 63) (hn : n ≤ 1152921504606846976) (w : World) :
    Calls Tryd.prog 41 #[.string e, .int .i64 n] w fun ev w' => ev = .returned (.string (fillS e n)) ∧ Below w.heap.size w w' := by
  have H8 : 8 * (n : Int) < 18446744073709551616 := by omega
  obtain ⟨z, hz, hz1, hz2⟩ : ∃ z : Nat, (119 - (e.size : Int)) % 64 = (z : Int) ∧ z < 64 ∧ Hid (z = (119 - e.size) % 64) := ⟨(119 - e.size) % 64, by omega, by omega, Lib.hid rfl⟩
  have a1 := add_run e mark (by show e.size + 1 ≤ _; omega)
  have a2 := add_run (e ++ mark) (zerosS z) (by rw [ByteArray.size_append, zerosS_size]; show e.size + 1 + _ ≤ _; omega)
  have a3 := add_run ((e ++ mark) ++ zerosS z) (putS (8 * (n : Int)) 8) (by rw [ByteArray.size_append, ByteArray.size_append, zerosS_size, put8_size]; show e.size + 1 + _ + _ ≤ _; omega)
  clear hn
  have hn : 8 * (n : Int) < 18446744073709551616 ∧ 0 ≤ 8 * (n : Int) := ⟨H8, by omega⟩
  go_enter Tryd.func41, Tryd.ntmps41
  go_wp2_with (first
    | (go_at_call 46; (with_reducible refine (zeros_any z _ hz1).mono ?_); rintro e w1 ⟨rfl, hb1⟩)
    | (go_at_call 34; (with_reducible refine (put_any (8 * (n : Int)) 8 _ ⟨hn.2, hn.1⟩).mono ?_); rintro e w2 ⟨rfl, hb2⟩))
  go_ret
  refine ⟨?_, hb1.trans (hb2.mono hb1.size)⟩
  unfold fillS
  rw [← hz2.out]
  rfl
end Go.Proofs.YtllabnhgiojmmaaDoor
