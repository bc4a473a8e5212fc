/-
  The chapter's examples, as the statements of layer 5 call them ('ranged'): true; the call makes new memory, nothing that was there changes. Condition: the two tables as they were laid.
-/
import Derived.Test.YtfakimbneenfdaaDoorRangeRefSame
import Derived.KernelRfl
namespace Go.Proofs.YtfakimbneenfdaaDoor
open Go.RowKit
set_option linter.unusedVariables false
set_option maxRecDepth 100000

/-! ### the six leaves, as plain values -/
theorem root_four (a b c d : List Int) : rootL [a, b, c, d] = nodeL (nodeL a b) (nodeL c d) := by
  rw [rootL_more _ (by show 2 ≤ 4; omega)]
  show nodeL (rootL (List.take (splitN 4) [a, b, c, d])) (rootL (List.drop (splitN 4) [a, b, c, d])) = _
  rw [splitN_is 4 1 (by omega) (by omega)]
  show nodeL (rootL [a, b]) (rootL [c, d]) = _
  rw [rootL_more [a, b] (by show 2 ≤ 2; omega), rootL_more [c, d] (by show 2 ≤ 2; omega)]
  show nodeL (nodeL (rootL (List.take (splitN 2) [a, b])) (rootL (List.drop (splitN 2) [a, b]))) (nodeL (rootL (List.take (splitN 2) [c, d])) (rootL (List.drop (splitN 2) [c, d]))) = _
  rw [splitN_is 2 0 (by omega) (by omega)]
  show nodeL (nodeL (rootL [a]) (rootL [b])) (nodeL (rootL [c]) (rootL [d])) = _
  rw [rootL_one [a] rfl, rootL_one [b] rfl, rootL_one [c] rfl, rootL_one [d] rfl]
  rfl
theorem adds_five (a b c d e : List Int) : adds 0 [] [a, b, c, d, e] = [rootL [a, b, c, d], e] := by
  rw [adds_chunks _ (by show 5 < 8192; omega)]
  simp [chunks]
  exact rootL_one [e] rfl
theorem adds_six (r e f : List Int) : adds 5 [r, e] [f] = [r, nodeL e f] := by
  show carry 5 [r, e] f = _
  rw [carry_odd 5 _ _ rfl]
  show carry 2 [r] (nodeL e f) = _
  rw [carry_even 2 _ _ rfl]
  rfl
theorem adds_one_leaf (a : List Int) : adds 0 [] [a] = [a] := by
  show carry 0 [] a = _
  rw [carry_even 0 _ _ rfl]; rfl
theorem part_one5 : partsL 1 5 = [1, 2, 1] := by
  have e1 : partN 1 4 = 1 := partN_is 1 4 0 (by unfold IsPart; decide)
  have e2 : partN 2 3 = 2 := partN_is 2 3 1 (by unfold IsPart; decide)
  have e3 : partN 4 1 = 1 := partN_is 4 1 0 (by unfold IsPart; decide)
  rw [partsL_more 1 5 (by omega)]
  show partN 1 4 :: partsL (1 + partN 1 4) 5 = _
  rw [e1, partsL_more (1 + 1) 5 (by omega)]
  show 1 :: partN 2 3 :: partsL (2 + partN 2 3) 5 = _
  rw [e2, partsL_more (2 + 2) 5 (by omega)]
  show [1, 2] ++ partN 4 1 :: partsL (4 + partN 4 1) 5 = _
  rw [e3, partsL_done _ _ (by omega)]
  rfl
theorem roots_four (b c d e : List Int) : rootsL 1 [b, c, d, e] = [b, nodeL c d, e] := by
  show rootsOf (partsL 1 5) [b, c, d, e] = _
  rw [part_one5]
  show [rootL [b], rootL [c, d], rootL [e]] = _
  rw [rootL_one [b] rfl, rootL_one [e] rfl, rootL_more [c, d] (by show 2 ≤ 2; omega)]
  show [b, nodeL (rootL (List.take (splitN 2) [c, d])) (rootL (List.drop (splitN 2) [c, d])), e] = _
  rw [splitN_is 2 0 (by omega) (by omega)]
  show [b, nodeL (rootL [c]) (rootL [d]), e] = _
  rw [rootL_one [c] rfl, rootL_one [d] rfl]
  rfl
theorem pushes_five (a b c d e : List Int) : pushes (partsL 1 5) [b, nodeL c d, e] 1 [a] = [rootL [a, b, c, d], e] := by
  have h := pushes_parts 4 1 [a] [b, c, d, e] rfl
  rw [roots_four] at h
  have e1 : adds 1 [a] [b, c, d, e] = adds 0 [] [a, b, c, d, e] := by
    show _ = adds 1 (carry 0 [] a) [b, c, d, e]
    rw [carry_even 0 _ _ rfl]; rfl
  rw [e1, adds_five] at h
  exact h
theorem ones_5 : ones 5 = 2 := by rw [← ones_popF 13 5 (by omega)]; rfl
theorem ones_1 : ones 1 = 1 := by rw [← ones_popF 13 1 (by omega)]; rfl
theorem ext_five (a b c d e : List Int) : extF 0 [] [a, b, c, d, e] = (5, [rootL [a, b, c, d], e], 0) := by
  rw [extF_ok (validB_yes ⟨by decide, by decide, by rw [show (0 : Int).toNat = 0 from rfl, ones_zero]; rfl⟩) (by simp)]
  show ((0 : Int) + 5, adds 0 [] [a, b, c, d, e], (0 : Int)) = _
  rw [adds_five]; rfl
theorem ext_six (r e f : List Int) : extF 5 [r, e] [f] = (6, [r, nodeL e f], 0) := by
  rw [extF_ok (validB_yes ⟨by decide, by decide, by rw [show (5 : Int).toNat = 5 from rfl, ones_5]; rfl⟩) (by simp)]
  show ((5 : Int) + 1, adds 5 [r, e] [f], (0 : Int)) = _
  rw [adds_six]; rfl
theorem ext_one (a : List Int) : extF 0 [] [a] = (1, [a], 0) := by
  rw [extF_ok (validB_yes ⟨by decide, by decide, by rw [show (0 : Int).toNat = 0 from rfl, ones_zero]; rfl⟩) (by simp)]
  show ((0 : Int) + 1, adds 0 [] [a], (0 : Int)) = _
  rw [adds_one_leaf]; rfl
theorem part_five (b c d e : List Int) : partF 1 [b, c, d, e] = ([b, nodeL c d, e], 0) := by
  rw [partF_ok (by simp)]
  show (rootsL 1 [b, c, d, e], (0 : Int)) = _
  rw [roots_four]
theorem merge_five (a b c d e : List Int) : mergeF 1 [a] 5 [b, nodeL c d, e] = (5, [rootL [a, b, c, d], e], 0) := by
  rw [mergeF_ok ⟨validB_yes ⟨by decide, by decide, by rw [show (1 : Int).toNat = 1 from rfl, ones_1]; rfl⟩, by decide, by decide, by show 3 = (partsL 1 5).length; rw [part_one5]; rfl⟩]
  show ((5 : Int), pushes (partsL 1 5) [b, nodeL c d, e] 1 [a], (0 : Int)) = _
  rw [pushes_five]
/-- The root of the first four leaves is no hash of zeros. -/
theorem first_four : (rootL [someH 9 0, someH 9 1, someH 9 2, someH 9 3] == zero32) = false := by
  rw [root_four]; kernel_rfl
end Go.Proofs.YtfakimbneenfdaaDoor
