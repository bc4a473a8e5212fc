/-
  A hash out of the block where it lies, whole.
-/
import Derived.Test.YtllabnhgiojmmaaDoorShaMath
namespace Go.Proofs.YtllabnhgiojmmaaDoor
open Go.RowKit
set_option linter.unusedVariables false
set_option maxRecDepth 100000

theorem Row.loads {P : Program} {w : World} {g : Nat} {t : TypeId} {C : Array Value} (h : Row w g t C) (n : Nat) (hn : C.size = n) : (loadCellsFrom ⟨g, 0, none⟩ 0 n #[]).run P w = .ok C w := by
  subst hn
  have := run_loadCells_list (P := P) w ⟨g, 0, none⟩ C.toList (fun j v hv => by
    have hadd : (⟨g, 0, none⟩ : Addr).add j = ⟨g, j, none⟩ := by unfold Addr.add; split <;> simp_all
    rw [hadd, h.cell j]
    simpa using hv)
  simpa [loadCells] using this
/-- A hash out of memory, as one step. -/
def readAt (p : Value) : Sem Value := Instr.loadAt 24 p
theorem read_at (p : Value) : Instr.loadAt 24 p = readAt p := rfl
theorem sizeH (n : Nat) (h : n = 32) : (Tryd.prog.info? 24).map (·.size) = some n := by rw [h]; kernel_rfl
theorem Row.read {w : World} {g : Nat} {t : TypeId} {C : Array Value} (h : Row w g t C) (hn : C.size = 32) : (readAt (.pointer (some ⟨g, 0, none⟩))).run Tryd.prog w = .ok (.agg C) w := by
  unfold readAt
  simp only [Instr.loadAt, Instr.sureAddr, Sem.run_bind, Sem.run_pure, Result.andThen_ok, run_loadVar_row w g t 24 C (0, 0) _ h Tryd.underlying24 rfl (sizeH _ hn)]
end Go.Proofs.YtllabnhgiojmmaaDoor
