/-
  Lists of hashes in memory: a slice whose elements are hashes, each of them read out of memory as one step.
-/
import Derived.Test.YtcafjmaimohljaaUnhash
import Derived.Test.YtcafjmaimohljaaGot
import Derived.Laws.AppendOwn
namespace Go.Proofs.Ytcafjmaimohljaa
open Go.RowKit
set_option linter.unusedVariables false

theorem block_of_add (a : Addr) (n : Nat) : (a.add n).block = a.block := by unfold Addr.add; split <;> rfl
theorem add_of_add (a : Addr) (i j : Nat) : (a.add i).add j = a.add (i + j) := by
  unfold Addr.add
  by_cases hi : i = 0 <;> by_cases hj : j = 0 <;> simp [hi, hj, Nat.add_assoc]
theorem add_flat (g i : Nat) : (⟨g, 0, none⟩ : Addr).add i = ⟨g, i, none⟩ := by unfold Addr.add; split <;> simp_all
/-- The address A leads to the hashes ls, one behind the other, below block B. -/
def HL (w : World) (B : Nat) (A : Option Addr) (ls : List (List Int)) : Prop :=
  ∀ i, i < ls.length → ∃ ad, A = some ad ∧ ad.block < B ∧ ∀ j, j < 32 → w.cell? (ad.add (i * 32 + j)) = some (.int .u8 ((ls.getD i []).getD j 0))
/-- Each is 32 bytes. -/
def hashes (ls : List (List Int)) : Prop := ∀ l ∈ ls, l.length = 32 ∧ ∀ x ∈ l, 0 ≤ x ∧ x < 256
theorem hashes_at {ls : List (List Int)} (h : hashes ls) (i : Nat) (hi : i < ls.length) : (ls.getD i []).length = 32 ∧ ∀ x ∈ ls.getD i [], 0 ≤ x ∧ x < 256 := by
  rw [List.getD_eq_getElem?_getD, List.getElem?_eq_getElem hi]
  exact h _ (List.getElem_mem hi)
theorem HL.next {w w' : World} {B B' : Nat} {A : Option Addr} {ls : List (List Int)} (h : HL w B A ls) (hb : Below B' w w') (hB : B ≤ B') : HL w' B A ls := fun i hi => by
  obtain ⟨ad, e, hlt, hc⟩ := h i hi
  exact ⟨ad, e, hlt, fun j hj => (hb.cell (p := ad.add (i * 32 + j)) (by rw [block_of_add]; omega)).trans (hc j hj)⟩
theorem HL.more {w : World} {B B' : Nat} {A : Option Addr} {ls : List (List Int)} (h : HL w B A ls) (hB : B ≤ B') : HL w B' A ls := fun i hi => by
  obtain ⟨ad, e, hlt, hc⟩ := h i hi
  exact ⟨ad, e, by omega, hc⟩
theorem HL.nil (w : World) (B : Nat) (A : Option Addr) : HL w B A [] := fun i hi => by simp at hi
theorem isAggH (w : World) : (isAgg 27).run Try.prog w = .ok true w := by kernel_rfl
theorem sizeOfH (w : World) : (sizeOf 27).run Try.prog w = .ok 32 w := by kernel_rfl
/-- A hash out of memory, wherever it lies. -/
theorem read_flat (w : World) (a : Addr) (l : List Int) (hl : l.length = 32) (h : ∀ j, j < 32 → w.cell? (a.add j) = some (.int .u8 (l.getD j 0))) : (readAt (.pointer (some a))).run Try.prog w = .ok (.agg (nums .u8 l)) w := by
  have hls : (nums .u8 l).toList.length = 32 := by rw [Array.length_toList, nums_size, hl]
  have hload : (loadCells a (nums .u8 l).toList.length).run Try.prog w = .ok (nums .u8 l).toList.toArray w :=
    run_loadCells_list (P := Try.prog) w a (nums .u8 l).toList (fun j v hv => by
      have hj : j < 32 := by
        rcases Nat.lt_or_ge j 32 with h' | h'
        · exact h'
        · rw [List.getElem?_eq_none (by omega)] at hv; cases hv
      have e := nums_get .u8 l j (by omega)
      rw [Array.getElem?_toList, e] at hv
      cases hv
      exact h j hj)
  rw [hls, Array.toArray_toList] at hload
  unfold readAt
  simp only [Instr.loadAt, Instr.sureAddr, Sem.run_bind, Sem.run_pure, Result.andThen_ok, loadVar, isAggH, sizeOfH, hload, if_true]
theorem HL.read {w : World} {B : Nat} {ad : Addr} {ls : List (List Int)} (h : HL w B (some ad) ls) (hs : hashes ls) (i : Nat) (hi : i < ls.length) : (readAt (.pointer (some (ad.add (i * 32))))).run Try.prog w = .ok (.agg (nums .u8 (ls.getD i []))) w := by
  obtain ⟨ad', e, _, hc⟩ := h i hi
  cases e
  exact read_flat w _ _ (hashes_at hs i hi).1 (fun j hj => by rw [add_of_add]; exact hc j hj)
theorem HL.some {w : World} {B : Nat} {A : Option Addr} {ls : List (List Int)} (h : HL w B A ls) (i : Nat) (hi : i < ls.length) : ∃ ad, A = some ad := by
  obtain ⟨ad, e, _⟩ := h i hi
  exact ⟨ad, e⟩
theorem flat_length {ls : List (List Int)} (h : hashes ls) : ls.flatten.length = 32 * ls.length := by
  induction ls with
  | nil => rfl
  | cons l r ih =>
    rw [List.flatten_cons, List.length_append, ih (fun x hx => h x (by simp [hx])), (h l (by simp)).1, List.length_cons]
    omega
theorem flat_bytes {ls : List (List Int)} (h : hashes ls) : ∀ x ∈ ls.flatten, 0 ≤ x ∧ x < 256 := fun x hx => by
  obtain ⟨l, hl, hx⟩ := List.mem_flatten.1 hx
  exact (h l hl).2 x hx
theorem flat_next (ls : List (List Int)) (k : Nat) (hk : k < ls.length) : (ls.take (k + 1)).flatten = (ls.take k).flatten ++ ls.getD k [] := by
  rw [List.take_succ_eq_append_getElem hk, List.flatten_append]
  simp [List.getD_eq_getElem?_getD, List.getElem?_eq_getElem hk]
theorem hashes_take {ls : List (List Int)} (h : hashes ls) (k : Nat) : hashes (ls.take k) := fun l hl => h l (List.mem_of_mem_take hl)
end Go.Proofs.Ytcafjmaimohljaa
