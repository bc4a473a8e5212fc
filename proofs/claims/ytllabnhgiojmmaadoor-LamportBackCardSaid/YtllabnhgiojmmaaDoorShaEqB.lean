/-
  How hashes, texts and truths are compared in a walk.
-/
import Derived.Test.YtllabnhgiojmmaaDoorHexMath
import Derived.Stop.BytesEq
import Derived.BigRegion
import Derived.Deep.DeepCutAuto
import Derived.Laws.ResultCell
namespace Go.Proofs.YtllabnhgiojmmaaDoor
open Go.RowKit
set_option linter.unusedVariables false
set_option maxRecDepth 100000

theorem nums_cells (l : List Int) (h : bytes l) : nums .u8 l = ((l.map fun x => UInt8.ofNat x.toNat).map Extern.Stop.cell).toArray := by
  unfold nums
  congr 1
  rw [List.map_map]
  apply List.map_congr_left
  intro x hx
  have := h x hx
  simp [Extern.Stop.cell]
  omega
theorem same_cells (l m : List Int) (hl : bytes l) (hm : bytes m) : ((l.map fun x => UInt8.ofNat x.toNat) == (m.map fun x => UInt8.ofNat x.toNat)) = decide (l = m) := by
  rw [Bool.eq_iff_iff]
  simp only [beq_iff_eq, decide_eq_true_eq]
  constructor
  · intro h
    apply List.ext_getElem
    · have := congrArg List.length h; simpa using this
    · intro i h1 h2
      have e : (l.map fun x => UInt8.ofNat x.toNat)[i]'(by simpa using h1) = (m.map fun x => UInt8.ofNat x.toNat)[i]'(by simpa using h2) := by simp only [h]
      simp only [List.getElem_map] at e
      have b1 := hl l[i] (List.getElem_mem h1)
      have b2 := hm m[i] (List.getElem_mem h2)
      have e2 := congrArg UInt8.toNat e
      simp at e2
      omega
  · rintro rfl; rfl
theorem eql_hash (l m : List Int) (hl : l.length = 32) (hm : m.length = 32) (bl : bytes l) (bm : bytes m) (w : World) :
    (binOp .eql 24 (.agg (nums .u8 l)) (.agg (nums .u8 m))).run Tryd.prog w = .ok (.bool (decide (l = m))) w := by
  rw [nums_cells l bl, nums_cells m bm, run_eql_bytes w 24 5 32 Tryd.underlying24 Tryd.underlying5 Tryd.sizeOf5 _ _ (by simpa using hl) (by simpa using hm), same_cells l m bl bm]
theorem neq_hash (l m : List Int) (hl : l.length = 32) (hm : m.length = 32) (bl : bytes l) (bm : bytes m) (w : World) :
    (binOp .neq 24 (.agg (nums .u8 l)) (.agg (nums .u8 m))).run Tryd.prog w = .ok (.bool (!decide (l = m))) w := by
  have h := run_equalIn_bytes w 9998 24 5 32 Tryd.underlying24 Tryd.underlying5 Tryd.sizeOf5 (l.map fun x => UInt8.ofNat x.toNat) (m.map fun x => UInt8.ofNat x.toNat) (by simpa using hl) (by simpa using hm)
  rw [same_cells l m bl bm, ← nums_cells l bl, ← nums_cells m bm] at h
  simp only [binOp]
  simp [Op.equal, Op.maxDepth, h]
theorem eql_text (s : ByteArray) (w : World) : (binOp .eql 9 (.string s) (.string s)).run Tryd.prog w = .ok (.bool true) w := by
  simp [go_sem]
theorem eql_bool (b : Bool) (w : World) : (binOp .eql 4 (.bool b) (.bool b)).run Tryd.prog w = .ok (.bool true) w := by
  simp [go_sem, Tryd.underlying4]
theorem zero32_bytes : bytes zero32 := by
  intro x hx
  have := List.eq_of_mem_replicate hx
  omega
end Go.Proofs.YtllabnhgiojmmaaDoor
