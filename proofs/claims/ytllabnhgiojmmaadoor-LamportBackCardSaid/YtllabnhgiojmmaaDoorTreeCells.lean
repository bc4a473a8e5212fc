/-
  A hash into the block where it lies, whole; hashes as arguments of codec.Hash and the document's; lists of hashes in memory.
-/
import Derived.Test.YtllabnhgiojmmaaDoorTreeMath
import Derived.Test.YtllabnhgiojmmaaDoorShaAt
import Derived.Test.YtllabnhgiojmmaaDoorShaCells
import Derived.Test.YtllabnhgiojmmaaDoorHash
import Derived.Deep.RegionWith
import Derived.Deep.RegionLaw
import Derived.Deep.DeepCutAuto
import Derived.Laws.ResultCell
import Derived.Laws.AppendOwn
import Derived.Laws.OwnMore
namespace Go.Proofs.YtllabnhgiojmmaaDoor
open Go.RowKit
set_option linter.unusedVariables false
set_option maxRecDepth 100000

theorem world_gen {P : Program} {c : Code} {Q : Exit → Act → World → Prop} {a : Act} {w0 : World} (R : World → Prop) (hR : R w0) (h : ∀ wx, R wx → Code.wp P c Q a wx) : Code.wp P c Q a w0 := h _ hR
def writeAt (p v : Value) : Sem Unit := Instr.storeAt 24 p v
theorem write_at (p v : Value) : Instr.storeAt 24 p v = writeAt p v := rfl
theorem Row.write {w : World} {g : Nat} {t : TypeId} {C D : Array Value} (h : Row w g t C) (hn : C.size = 32) (hd : D.size = 32) (h1 : D.all (·.oneCell') = true) : (writeAt (.pointer (some ⟨g, 0, none⟩)) (.agg D)).run Tryd.prog w = .ok () (w.setRow g D) := by
  unfold writeAt
  simp only [Instr.storeAt, Instr.sureAddr, Sem.run_bind, Sem.run_pure, Result.andThen_ok, run_storeVar_row w g t 24 C D h (sizeH _ hd) (by rw [hn, hd]) h1]
theorem block_of_add (a : Addr) (n : Nat) : (a.add n).block = a.block := by unfold Addr.add; split <;> rfl
theorem add_of_add (a : Addr) (i j : Nat) : (a.add i).add j = a.add (i + j) := by
  unfold Addr.add
  by_cases hi : i = 0 <;> by_cases hj : j = 0 <;> simp [hi, hj, Nat.add_assoc]
theorem add_flat (g i : Nat) : (⟨g, 0, none⟩ : Addr).add i = ⟨g, i, none⟩ := by unfold Addr.add; split <;> simp_all
/-- The address A leads to the hashes ls, one behind the other, below block B. -/
def HL (w : World) (B : Nat) (A : Option Addr) (ls : List (List Int)) : Prop :=
  ∀ i, i < ls.length → ∃ ad, A = some ad ∧ ad.block < B ∧ ∀ j, j < 32 → w.cell? (ad.add (i * 32 + j)) = some (.int .u8 ((ls.getD i []).getD j 0))
theorem HL.next {w w' : World} {B B' : Nat} {A : Option Addr} {ls : List (List Int)} (h : HL w B A ls) (hb : Below B' w w') (hB : B ≤ B') : HL w' B A ls := fun i hi => by
  obtain ⟨ad, e, hlt, hc⟩ := h i hi
  exact ⟨ad, e, hlt, fun j hj => (hb.cell (p := ad.add (i * 32 + j)) (by rw [block_of_add]; omega)).trans (hc j hj)⟩
theorem HL.more {w : World} {B B' : Nat} {A : Option Addr} {ls : List (List Int)} (h : HL w B A ls) (hB : B ≤ B') : HL w B' A ls := fun i hi => by
  obtain ⟨ad, e, hlt, hc⟩ := h i hi
  exact ⟨ad, e, by omega, hc⟩
theorem HL.nil (w : World) (B : Nat) (A : Option Addr) : HL w B A [] := fun i hi => by simp at hi
theorem HL.some {w : World} {B : Nat} {A : Option Addr} {ls : List (List Int)} (h : HL w B A ls) (i : Nat) (hi : i < ls.length) : ∃ ad, A = some ad := by
  obtain ⟨ad, e, _⟩ := h i hi
  exact ⟨ad, e⟩
theorem getD_take {ls : List (List Int)} {k i : Nat} (h : i < k) : (ls.take k).getD i [] = ls.getD i [] := by
  rw [List.getD_eq_getElem?_getD, List.getD_eq_getElem?_getD, List.getElem?_take, if_pos h]
theorem getD_drop {ls : List (List Int)} {k i : Nat} : (ls.drop k).getD i [] = ls.getD (k + i) [] := by
  rw [List.getD_eq_getElem?_getD, List.getD_eq_getElem?_getD, List.getElem?_drop]
theorem HL.take {w : World} {B : Nat} {A : Option Addr} {ls : List (List Int)} (h : HL w B A ls) (k : Nat) : HL w B A (ls.take k) := fun i hi => by
  rw [List.length_take] at hi
  obtain ⟨ad, e, hlt, hc⟩ := h i (by omega)
  exact ⟨ad, e, hlt, fun j hj => by rw [getD_take (by omega)]; exact hc j hj⟩
theorem HL.drop {w : World} {B : Nat} {ad : Addr} {ls : List (List Int)} (h : HL w B (.some ad) ls) (k : Nat) : HL w B (.some (ad.add (k * 32))) (ls.drop k) := fun i hi => by
  rw [List.length_drop] at hi
  obtain ⟨ad', e, hlt, hc⟩ := h (k + i) (by omega)
  cases e
  exact ⟨_, rfl, by rw [block_of_add]; exact hlt, fun j hj => by rw [getD_drop, add_of_add, show k * 32 + (i * 32 + j) = (k + i) * 32 + j by omega]; exact hc j hj⟩
theorem isAggH (w : World) : (isAgg 24).run Tryd.prog w = .ok true w := by kernel_rfl
theorem sizeOfH (w : World) : (sizeOf 24).run Tryd.prog w = .ok 32 w := by kernel_rfl
/-- A hash out of memory, wherever it lies. -/
theorem read_flat (w : World) (a : Addr) (l : List Int) (hl : l.length = 32) (h : ∀ j, j < 32 → w.cell? (a.add j) = Option.some (.int .u8 (l.getD j 0))) : (readAt (.pointer (Option.some a))).run Tryd.prog w = .ok (.agg (nums .u8 l)) w := by
  have hls : (nums .u8 l).toList.length = 32 := by rw [Array.length_toList, nums_size, hl]
  have hload : (loadCells a (nums .u8 l).toList.length).run Tryd.prog w = .ok (nums .u8 l).toList.toArray w :=
    run_loadCells_list (P := Tryd.prog) w a (nums .u8 l).toList (fun j v hv => by
      have hj : j < 32 := by
        rcases Nat.lt_or_ge j 32 with h' | h'
        · exact h'
        · rw [List.getElem?_eq_none (by omega)] at hv; cases hv
      have e := nums_get .u8 l j (by omega)
      rw [Array.getElem?_toList, e] at hv
      cases hv
      exact h j hj)
  rw [hls, Array.toArray_toList] at hload
  unfold readAt
  simp only [Instr.loadAt, Instr.sureAddr, Sem.run_bind, Sem.run_pure, Result.andThen_ok, loadVar, isAggH, sizeOfH, hload, if_true]
theorem HL.read {w : World} {B : Nat} {ad : Addr} {ls : List (List Int)} (h : HL w B (.some ad) ls) (hs : hashes ls) (i : Nat) (hi : i < ls.length) : (readAt (.pointer (.some (ad.add (i * 32))))).run Tryd.prog w = .ok (.agg (nums .u8 (ls.getD i []))) w := by
  obtain ⟨ad', e, _, hc⟩ := h i hi
  cases e
  exact read_flat w _ _ (hashes_at hs i hi).1 (fun j hj => by rw [add_of_add]; exact hc j hj)
/-- Loads and comparisons of hashes, as steps that only yield a value. -/
theorem get_load {o : Oper} {a : Act} {x : Operand} {p : Option Addr} {v : Value} {w : World} (ho : o.op = .load 24 x) (hx : a.eval x = .pointer p) (h : (readAt (.pointer p)).run Tryd.prog w = .ok v w) : (execOp a.eval o).run Tryd.prog w = .ok (.value v) w := by
  unfold execOp
  simp only [ho, hx, read_at, Sem.run_bind, Sem.run_pure, h, Result.andThen_ok]
theorem get_eqH {o : Oper} {a : Act} {x y : Operand} {T : TypeId} {A B : Array Value} {v : Value} {w : World} (ho : o.op = .binOp .eql 24 x y T) (hx : a.eval x = .agg A) (hy : a.eval y = .agg B)
    (h : (eqAt (.agg A) (.agg B)).run Tryd.prog w = .ok v w) : (execOp a.eval o).run Tryd.prog w = .ok (.value v) w := by
  have hg : (eqGuard .eql 24 x y (.agg A) (.agg B)).run Tryd.prog w = .ok () w := by
    simp [eqGuard]
  unfold execOp
  simp only [ho, hx, hy, hg, eq_at, Sem.run_bind, Sem.run_pure, h, Result.andThen_ok]
theorem get_neqH {o : Oper} {a : Act} {x y : Operand} {T : TypeId} {A B : Array Value} {v : Value} {w : World} (ho : o.op = .binOp .neq 24 x y T) (hx : a.eval x = .agg A) (hy : a.eval y = .agg B)
    (h : (neqAt (.agg A) (.agg B)).run Tryd.prog w = .ok v w) : (execOp a.eval o).run Tryd.prog w = .ok (.value v) w := by
  have hg : (eqGuard .neq 24 x y (.agg A) (.agg B)).run Tryd.prog w = .ok () w := by
    simp [eqGuard]
  unfold execOp
  simp only [ho, hx, hy, hg, neq_at, Sem.run_bind, Sem.run_pure, h, Result.andThen_ok]
end Go.Proofs.YtllabnhgiojmmaaDoor
