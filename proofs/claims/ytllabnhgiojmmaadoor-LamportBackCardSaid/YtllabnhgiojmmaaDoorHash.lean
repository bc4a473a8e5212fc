/-
  The walks of codec.Hash and codec.Unhash (layer 3): a hash's bytes, and back; what they make is new memory, nothing that was there changes.
-/
import Derived.Test.YtllabnhgiojmmaaDoorText
import Derived.Deep.CutRange
import Derived.RegionTactic
import Derived.BigRegion
import Derived.Lib.BufferWrite
namespace Go.Proofs.YtllabnhgiojmmaaDoor
open Go.RowKit
set_option linter.unusedVariables false
set_option maxRecDepth 100000

theorem sizeHash (l : List Int) (h : l.length = 32) : (Tryd.prog.info? 24).map (·.size) = some (nums .u8 l).size := by rw [nums_size, h]; kernel_rfl
theorem conv_row {w : World} {g : Nat} {t : TypeId} {l : List Int} (h : Row w g t (nums .u8 l)) (hl : l.length = 32) :
    (convert 41 9 (.slice (some ⟨g, 0, none⟩) 32 32)).run Tryd.prog w = .ok (.string (strOfNums l)) w :=
  run_convert_bytes_arg w 41 5 Tryd.underlying41 Tryd.underlying5 g 0 32 32 l hl (fun i hi => by rw [Nat.zero_add]; exact h.num (by omega)) 9 Tryd.underlying9
set_option maxHeartbeats 1000000 in
set_option maxRecDepth 100000 in
theorem hash_any (l : List Int) (hl : l.length = 32) (w : World) :
    Calls Tryd.prog 36 #[.agg (nums .u8 l)] w fun e w' => e = .returned (.string (strOfNums l)) ∧ Below w.heap.size w w' := by
  have hc := conv_row (Row.made w 24 (nums .u8 l)) hl
  go_enter Tryd.func36, Tryd.ntmps36
  go_wp2
  go_ret
  exact ⟨rfl, (Below.refl _ _).alloc (Nat.le_refl _) _⟩
end Go.Proofs.YtllabnhgiojmmaaDoor
