/-
  The walk of the statement ShaSum, for a text of at most 3000 bytes: it returns true; what it makes is new memory, nothing that was there changes. Condition: the two tables as they were laid.
-/
import Derived.Test.YthagpnakcffjeaaDoorRefSum
import Derived.Test.YthagpnakcffjeaaDoorShaAt
import Derived.Test.YthagpnakcffjeaaDoorShaLawA
import Derived.Test.YthagpnakcffjeaaDoorTreeMath
namespace Go.Proofs.YthagpnakcffjeaaDoor
open Go.RowKit
set_option linter.unusedVariables false

attribute [local go_sem ↓ high] eq_at
set_option maxHeartbeats 1000000 in
set_option maxRecDepth 100000 in
theorem sumlaw_short (s : ByteArray) (w : World) (hT : Tab w) (hs : s.size ≤ 3000) :
    Calls Tryd.prog 3 #[.string s] w fun e w' => e = .returned (.bool true) ∧ Below w.heap.size w w' := by
  obtain ⟨C, hC⟩ : ∃ C, Hid (C = nums .u8 (sumL s)) := ⟨_, Lib.hid rfl⟩
  have S1 : Hid (∀ W, Tab W → Calls Tryd.prog 11 #[.string s] W fun ev w' => ev = .returned (.agg C) ∧ Below W.heap.size W w') := Lib.hid fun W h => by
    rw [hC.out]; exact sum_any s (by omega) W h
  have S2 : Hid (∀ W, Calls Tryd.prog 12 #[.string s] W fun ev w' => ev = .returned (.agg C) ∧ Below W.heap.size W w') := Lib.hid fun W => by
    rw [hC.out]; exact refSum_any s hs W
  have Q1 : ∀ W, (eqAt (.agg C) (.agg C)).run Tryd.prog W = .ok (.bool true) W := fun W => by
    rw [hC.out, eqAt_hash _ _ (sumL_length s) (sumL_length s) (sumL_bytes s) (sumL_bytes s) W, decide_eq_true rfl]
  have HT := Lib.hid hT
  have HB := Lib.hid (Below.refl w.heap.size w)
  clear hT
  go_enter Tryd.func3, Tryd.ntmps3
  go_wp2_with (first
    | (go_at_call 11; (with_reducible refine (S1.out _ HT.out).mono ?_); rintro e w1 ⟨rfl, hb⟩; have HB := Lib.hid (below_new HB.out hb); clear hb)
    | (go_at_call 12; (with_reducible refine (S2.out _).mono ?_); rintro e w2 ⟨rfl, hb⟩; have HB := Lib.hid (below_new HB.out hb); clear hb)
    | (go_at_call 10; (with_reducible refine (hashed_any _ (HT.out.next HB.out)).mono ?_); rintro e w3 ⟨rfl, hb⟩; have HB := Lib.hid (below_new HB.out hb); clear hb))
  go_ret
  exact ⟨rfl, HB.out⟩
end Go.Proofs.YthagpnakcffjeaaDoor
