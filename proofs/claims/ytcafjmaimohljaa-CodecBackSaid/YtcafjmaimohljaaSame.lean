/-
  The walk of Same (the statements of layer 3): two lists that are the same are told so; the world stays but for draws.
-/
import Derived.Test.YtcafjmaimohljaaHashEq
import Derived.Deep.QuietTactic
import Derived.BigQuiet
namespace Go.Proofs.Ytcafjmaimohljaa
open Go.RowKit
set_option linter.unusedVariables false

attribute [local go_sem ↓ high] read_at
set_option maxHeartbeats 1000000 in
set_option maxRecDepth 100000 in
theorem same_any (ls : List (List Int)) (hs : hashes ls) (n : Nat) (hn : n = ls.length) (hm : n ≤ maxLen) (A B : Option Addr) (c d : Nat) (w : World) (hA : HL w w.heap.size A ls) (hB : HL w w.heap.size B ls) :
    Calls Try.prog 25 #[.slice A n c, .slice B n d] w fun e w' => e = .returned (.bool true) ∧ ∃ k, w' = w.drewN k := by
  unfold maxLen at hm
  have hN := Lib.hid hn
  have HA := Lib.hid hA
  have HB := Lib.hid hB
  clear hn hA hB
  go_enter Try.func25, Try.ntmps25
  go_wp2
  go_loopw [5] (fun s5 wr => ∃ k q : Nat, k ≤ n ∧ s5 = .int .i64 (k : Int) ∧ wr = w.drewN q) (fun s5 _ => (n - intOf s5).toNat)
  case atStart => exact ⟨0, 0, by omega, rfl, rfl⟩
  case round =>
    obtain ⟨k, q, hk, rfl, rfl⟩ := hrel
    by_cases hlt : k < n
    · obtain ⟨a, rfl⟩ := HA.out.some k (by rw [← hN.out]; exact hlt)
      obtain ⟨b, rfl⟩ := HB.out.some k (by rw [← hN.out]; exact hlt)
      have s1 := fun m => (HA.out.next (below_drewN (Below.refl _ w) m) (Nat.le_refl _)).read hs k (by rw [← hN.out]; exact hlt)
      have s2 := fun m => (HB.out.next (below_drewN (Below.refl _ w) m) (Nat.le_refl _)).read hs k (by rw [← hN.out]; exact hlt)
      obtain ⟨l, hl⟩ : ∃ l, Hid (l = ls.getD k []) := ⟨_, Lib.hid rfl⟩
      rw [← hl.out] at s1 s2
      have hll := hashes_at hs k (by rw [← hN.out]; exact hlt)
      rw [← hl.out] at hll
      have N1 := fun W => (neq_hash l l hll.1 hll.1 hll.2 hll.2 W).trans (by rw [decide_eq_true rfl]; try rfl)
      clear hll
      go_wp2
      go_quiet (fail)
      go_wp2
      go_roundw
      case rel => exact ⟨k + 1, _, by omega, by go_num, rfl⟩
      case measure => simp [intOf]; omega
    · go_wp2
      go_ret
      exact ⟨rfl, _, rfl⟩
end Go.Proofs.Ytcafjmaimohljaa
