/-
  RefSecret.
-/
import Derived.Test.YtpndccoikhejgaaDoorPk06
import Derived.Test.YtpndccoikhejgaaDoorPk10
import Derived.Test.YtpndccoikhejgaaDoorPk09
import Derived.Test.YtpndccoikhejgaaDoorPk04
namespace Go.Proofs.YtpndccoikhejgaaDoor
open Go.RowKit Go.Great
set_option linter.unusedVariables false
set_option maxRecDepth 100000

theorem putS_size (n k : Int) : (putS n k).size ≤ 8 := by
  unfold putS
  split
  · rw [strOfNums_size, putL_length]; omega
  · decide
theorem textS_size (s : ByteArray) (h : s.size < 18446744073709551616) : (textS s).size ≤ s.size + 10 := by
  unfold textS; rw [ByteArray.size_append]; have := numS_size s.size h; omega
/-- What a function holds that has its result in a block of its own. -/
def OutH (w wr : World) : Prop := Row wr w.heap.size 23 (nums .u8 (List.replicate 32 0)) ∧ Below w.heap.size w wr
theorem OutH.next {w wr w1 : World} (h : OutH w wr) (hb : Below wr.heap.size wr w1) : OutH w w1 := ⟨h.1.next hb, below_new h.2 hb⟩
theorem OutH.start (w : World) : OutH w (w.alloc (.cells (nums .u8 (List.replicate 32 0)) 23)) := ⟨Row.made _ _ _, (Below.refl _ _).alloc (Nat.le_refl _) _⟩
attribute [local go_sem ↓ high] read_at write_at
end Go.Proofs.YtpndccoikhejgaaDoor
