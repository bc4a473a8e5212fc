/-
  The walk of the statement TreesRoot: it returns true; what it makes is new memory, nothing that was there changes. Conditions: the two tables as they were laid, a list of hashes in memory.
-/
import Derived.Test.YthagpnakcffjeaaDoorTreeGrown
import Derived.Test.YthagpnakcffjeaaDoorTreeRefRoot
namespace Go.Proofs.YthagpnakcffjeaaDoor
open Go.RowKit
set_option linter.unusedVariables false

attribute [local go_sem ↓ high] eq_at
set_option maxHeartbeats 1000000 in
set_option maxRecDepth 100000 in
theorem rootlaw_any (ls : List (List Int)) (hh : hashes ls) (A : Option Addr) (c : Nat) (w : World) (hA : HL w w.heap.size A ls) (hT : Tab w) (hc : ls.length ≤ c) (hcm : c ≤ 9223372036854775807) :
    Calls Tryd.prog 7 #[.slice A ls.length c] w fun e w' => e = .returned (.bool true) ∧ Below w.heap.size w w' := by
  obtain ⟨n, hn⟩ : ∃ n, Hid (n = ls.length) := ⟨_, Lib.hid rfl⟩
  have HT := Lib.hid hT
  have HA := Lib.hid hA
  have HB := Lib.hid (Below.refl w.heap.size w)
  have hnm : n ≤ 9223372036854775807 := by rw [hn.out]; omega
  have HC := Lib.hid (And.intro hc hcm)
  rw [← hn.out]
  clear hT hA hc hcm
  by_cases hbig : 200 < n
  · have hd : decide (200 < (n : Int)) = true := decide_eq_true (by omega)
    clear hbig
    go_enter Tryd.func7, Tryd.ntmps7
    go_wp2_with (go_at_call 17; (with_reducible refine (grown_any _ HT.out).mono ?_); rintro e w3 ⟨rfl, hb3⟩)
    go_ret
    exact ⟨rfl, hb3⟩
  · have hd : decide (200 < (n : Int)) = false := decide_eq_false (by omega)
    obtain ⟨C, hC⟩ : ∃ C, Hid (C = nums .u8 (rootL ls)) := ⟨_, Lib.hid rfl⟩
    have S1 : Hid (∀ W, Below w.heap.size w W → Calls Tryd.prog 24 #[.slice A n c] W fun ev w' => ev = .returned (.agg C) ∧ Below W.heap.size W w') := Lib.hid fun W hb => by
      rw [hC.out, hn.out]; exact root_any ls hh A c W ((HA.out.next hb (Nat.le_refl _)).more hb.size) (HT.out.next hb) (by rw [← hn.out]; exact hnm)
    have S2 : Hid (∀ W, Below w.heap.size w W → Calls Tryd.prog 25 #[.slice A n c] W fun ev w' => ev = .returned (.agg C) ∧ Below W.heap.size W w') := Lib.hid fun W hb => by
      rw [hC.out, hn.out]; exact refRoot_any ls.length ls A c W (Nat.le_refl _) hh ((HA.out.next hb (Nat.le_refl _)).more hb.size) HC.out.1 HC.out.2
    have Q1 : ∀ W, (eqAt (.agg C) (.agg C)).run Tryd.prog W = .ok (.bool true) W := fun W => by
      rw [hC.out, eqAt_hash _ _ (rootL_is ls hh).1 (rootL_is ls hh).1 (rootL_is ls hh).2 (rootL_is ls hh).2 W, decide_eq_true rfl]
    clear hbig
    go_enter Tryd.func7, Tryd.ntmps7
    go_wp2_with (first
      | (go_at_call 24; (with_reducible refine (S1.out _ HB.out).mono ?_); rintro e w1 ⟨rfl, hb⟩; have HB := Lib.hid (below_new HB.out hb); clear hb)
      | (go_at_call 25; (with_reducible refine (S2.out _ HB.out).mono ?_); rintro e w2 ⟨rfl, hb⟩; have HB := Lib.hid (below_new HB.out hb); clear hb)
      | (go_at_call 17; (with_reducible refine (grown_any _ (HT.out.next HB.out)).mono ?_); rintro e w3 ⟨rfl, hb⟩; have HB := Lib.hid (below_new HB.out hb); clear hb))
    go_ret
    exact ⟨rfl, HB.out⟩
end Go.Proofs.YthagpnakcffjeaaDoor
