/-
  KeysA.
-/
import Derived.Test.YtgnkdkehooagpaaDoorPk28
import Derived.Test.YtgnkdkehooagpaaDoorPk29
import Derived.Test.YtgnkdkehooagpaaDoorPk30
import Derived.Test.YtgnkdkehooagpaaDoorPk31
import Derived.Test.YtgnkdkehooagpaaDoorPk05
namespace Go.Proofs.YtgnkdkehooagpaaDoor
open Go.RowKit
set_option linter.unusedVariables false
set_option maxRecDepth 100000

namespace Fast
/-- What is recovered of a signature with a digest that has another bit at one place. -/
theorem recL_other (seed : ByteArray) (index : Nat) (d d' : List Int) (sw : Nat) (h : ∀ i, i < 256 → bitN d' i = if i = sw then 1 - bitN d i else bitN d i) : recL (sigL seed index d) d' = pubSw seed index sw := by
  unfold recL pubSw
  refine List.map_congr_left (fun k hk => ?_)
  have hk : k < 512 := by simpa using hk
  have hb := bitN_le d (k / 2)
  have hi := h (k / 2) (by omega)
  unfold recAt
  rw [hi, sigL_front _ _ _ _ (by omega), sigL_back _ _ _ _ (by omega), swapN_is]
  unfold pubAt
  by_cases hs : k / 2 = sw
  · rw [if_pos hs, if_pos hs]
    by_cases hq : k % 2 = 1 - bitN d (k / 2)
    · rw [if_pos hq, show (2 * (k / 2) + (1 - k % 2)) / 2 = k / 2 by omega, show (2 * (k / 2) + (1 - k % 2)) % 2 = bitN d (k / 2) by omega]
    · rw [if_neg hq, show (2 * (k / 2) + (1 - k % 2)) / 2 = k / 2 by omega, show (2 * (k / 2) + (1 - k % 2)) % 2 = 1 - bitN d (k / 2) by omega]
  · rw [if_neg hs, if_neg hs]
    by_cases hq : k % 2 = bitN d (k / 2)
    · rw [if_pos hq, hq]
    · rw [if_neg hq, show k % 2 = 1 - bitN d (k / 2) by omega]
def seedA : ByteArray := ⟨#[97]⟩
theorem preA0 : natL (textL (preT seedA 0)) = 564466076876800 := by kernel_rfl
theorem sizeA0 : (preT seedA 0).size = 7 := by kernel_rfl
theorem preA1 : natL (textL (preT seedA 1)) = 564466076876801 := by kernel_rfl
theorem sizeA1 : (preT seedA 1).size = 7 := by kernel_rfl
theorem preA2 : natL (textL (preT seedA 2)) = 564466076876802 := by kernel_rfl
theorem sizeA2 : (preT seedA 2).size = 7 := by kernel_rfl
theorem preA3 : natL (textL (preT seedA 3)) = 564466076876803 := by kernel_rfl
theorem sizeA3 : (preT seedA 3).size = 7 := by kernel_rfl
theorem preA4 : natL (textL (preT seedA 4)) = 564466076876804 := by kernel_rfl
theorem sizeA4 : (preT seedA 4).size = 7 := by kernel_rfl
theorem preA5 : natL (textL (preT seedA 5)) = 564466076876805 := by kernel_rfl
theorem sizeA5 : (preT seedA 5).size = 7 := by kernel_rfl
theorem preA6 : natL (textL (preT seedA 6)) = 564466076876806 := by kernel_rfl
theorem sizeA6 : (preT seedA 6).size = 7 := by kernel_rfl
theorem preA7 : natL (textL (preT seedA 7)) = 564466076876807 := by kernel_rfl
theorem sizeA7 : (preT seedA 7).size = 7 := by kernel_rfl
theorem keyA (i : Nat) : natL (keyF (pubN seedA i 512)) = keyNum (natL (textL (preT seedA i))) (preT seedA i).size 256 := by
  rw [← key_num seedA i 256 (by decide), pubSw_none seedA i 256 (Nat.le_refl _)]
theorem keyA0 : natL (keyF (pubN seedA 0 512)) = leaf0 := by
  have e := keyA 0
  rw [show (((0 : Nat) : Int)) = 0 from rfl, preA0, sizeA0, leaf0_is] at e
  exact e
theorem keyA1 : natL (keyF (pubN seedA 1 512)) = leaf1 := by
  have e := keyA 1
  rw [show (((1 : Nat) : Int)) = 1 from rfl, preA1, sizeA1, leaf1_is] at e
  exact e
theorem keyA2 : natL (keyF (pubN seedA 2 512)) = leaf2 := by
  have e := keyA 2
  rw [show (((2 : Nat) : Int)) = 2 from rfl, preA2, sizeA2, leaf2_is] at e
  exact e
theorem keyA3 : natL (keyF (pubN seedA 3 512)) = leaf3 := by
  have e := keyA 3
  rw [show (((3 : Nat) : Int)) = 3 from rfl, preA3, sizeA3, leaf3_is] at e
  exact e
theorem keyA4 : natL (keyF (pubN seedA 4 512)) = leaf4 := by
  have e := keyA 4
  rw [show (((4 : Nat) : Int)) = 4 from rfl, preA4, sizeA4, leaf4_is] at e
  exact e
theorem keyA5 : natL (keyF (pubN seedA 5 512)) = leaf5 := by
  have e := keyA 5
  rw [show (((5 : Nat) : Int)) = 5 from rfl, preA5, sizeA5, leaf5_is] at e
  exact e
theorem keyA6 : natL (keyF (pubN seedA 6 512)) = leaf6 := by
  have e := keyA 6
  rw [show (((6 : Nat) : Int)) = 6 from rfl, preA6, sizeA6, leaf6_is] at e
  exact e
theorem keyA7 : natL (keyF (pubN seedA 7 512)) = leaf7 := by
  have e := keyA 7
  rw [show (((7 : Nat) : Int)) = 7 from rfl, preA7, sizeA7, leaf7_is] at e
  exact e
theorem keyAx : natL (keyF (pubSw seedA 3 14)) = leafx := by
  have e := key_num seedA 3 14 (by decide)
  rw [show (((3 : Nat) : Int)) = 3 from rfl, preA3, sizeA3, leafx_is] at e
  exact e
def rootA : Nat := 77324857566254505918539413565856901422621744550197166672994066212315107532762
theorem rootA_is : nodeNum (nodeNum (nodeNum leaf0 leaf1) (nodeNum leaf2 leaf3)) (nodeNum (nodeNum leaf4 leaf5) (nodeNum leaf6 leaf7)) = rootA := by kernel_rfl
def rootX : Nat := 32328198136804708061545087293666643523882821377665443559541609121777610156331
theorem rootX_is : nodeNum (nodeNum (nodeNum leaf0 leaf1) (nodeNum leaf2 leafx)) (nodeNum (nodeNum leaf4 leaf5) (nodeNum leaf6 leaf7)) = rootX := by kernel_rfl
theorem roots_not : Nat.beq rootA rootX = false := by kernel_rfl
theorem nodeL_32 (a b : List Int) : (nodeL a b).length = 32 ∧ bytes (nodeL a b) := ⟨sumL_length _, sumL_bytes _⟩
theorem node_is (a b : List Int) (x y : Nat) (ha : a.length = 32 ∧ bytes a) (hb : b.length = 32 ∧ bytes b) (hx : natL a = x) (hy : natL b = y) : natL (nodeL a b) = nodeNum x y := by rw [node_num a b ha hb, hx, hy]
/-- The examples' digests. -/
def digA : List Int := 1 :: 2 :: List.replicate 30 0
def digB : List Int := 1 :: List.replicate 31 0
theorem digA_is : digA.length = 32 ∧ bytes digA := ⟨rfl, fun x hx => by
  rcases List.mem_cons.1 hx with rfl | hx
  · omega
  · rcases List.mem_cons.1 hx with rfl | hx
    · omega
    · have := List.eq_of_mem_replicate hx; omega⟩
theorem digB_is : digB.length = 32 ∧ bytes digB := ⟨rfl, fun x hx => by
  rcases List.mem_cons.1 hx with rfl | hx
  · omega
  · have := List.eq_of_mem_replicate hx; omega⟩
theorem bits_all : ((List.range 256).all fun i => bitN digB i == if i = 14 then 1 - bitN digA i else bitN digA i) = true := by kernel_rfl
theorem bits_one (i : Nat) (h : i < 256) : bitN digB i = if i = 14 then 1 - bitN digA i else bitN digA i := eq_of_beq (List.all_eq_true.1 bits_all i (by simpa using h))
theorem recA_other : recF (sigF seedA 3 digA) digB = (keyF (pubSw seedA 3 14), 0) := by
  have hz : (sigF seedA ((3 : Nat) : Int) digA).size = 16384 := sigF_size seedA 3 digA (by decide)
  have e : recF (sigF seedA ((3 : Nat) : Int) digA) digB = (keyF (recL (textL (sigF seedA ((3 : Nat) : Int) digA)) digB), 0) := recF_ok hz
  rw [sigF_ok (by decide), textL_nums _ (sigL_bytes seedA 3 digA), recL_other seedA 3 digA digB 14 bits_one] at e
  rw [show (3 : Int) = ((3 : Nat) : Int) from rfl, sigF_ok (by decide)]
  exact e
theorem root_num : natL (rootF seedA) = rootA := by
  unfold rootF
  rw [keysF_eight, root8, ← rootA_is]
  have k := fun i => keyF_is (pubN seedA i 512)
  exact node_is _ _ _ _ (nodeL_32 _ _) (nodeL_32 _ _) (node_is _ _ _ _ (nodeL_32 _ _) (nodeL_32 _ _) (node_is _ _ _ _ (k 0) (k 1) keyA0 keyA1) (node_is _ _ _ _ (k 2) (k 3) keyA2 keyA3)) (node_is _ _ _ _ (nodeL_32 _ _) (nodeL_32 _ _) (node_is _ _ _ _ (k 4) (k 5) keyA4 keyA5) (node_is _ _ _ _ (k 6) (k 7) keyA6 keyA7))
/-- With another digest it is not verified. -/
theorem verA_other : verF (rootF seedA) digB 3 (sigF seedA 3 digA) (pathL (keysF seedA) 3) = 81 := by
  have e : verF (rootF seedA) digB ((3 : Nat) : Int) (sigF seedA 3 digA) (pathL (keysF seedA) 3) = _ := verF_in (by decide)
  rw [recA_other] at e
  have hc : checkF (keyF (pubSw seedA 3 14)) ((3 : Nat) : Int) ((8 : Nat) : Int) (pathL (keysF seedA) 3) (rootF seedA) = 80 := by
    rw [checkF_in (by decide) (by decide), if_neg]
    rw [keysF_eight, path3]
    show ¬ comeL _ 3 7 _ = _
    rw [come3]
    intro h
    have h2 := Option.some.inj h
    have k := fun i => keyF_is (pubN seedA i 512)
    have hx : natL (rootF seedA) = rootX := by
      rw [← h2, ← rootX_is]
      exact node_is _ _ _ _ (nodeL_32 _ _) (nodeL_32 _ _) (node_is _ _ _ _ (nodeL_32 _ _) (nodeL_32 _ _) (node_is _ _ _ _ (k 0) (k 1) keyA0 keyA1) (node_is _ _ _ _ (k 2) (keyF_is _) keyA2 keyAx)) (node_is _ _ _ _ (nodeL_32 _ _) (nodeL_32 _ _) (node_is _ _ _ _ (k 4) (k 5) keyA4 keyA5) (node_is _ _ _ _ (k 6) (k 7) keyA6 keyA7))
    rw [root_num] at hx
    have hn := roots_not
    rw [hx, Nat.beq_refl] at hn
    cases hn
  rw [show ((8 : Nat) : Int) = 8 from rfl] at hc
  rw [hc] at e
  rw [show (3 : Int) = ((3 : Nat) : Int) from rfl, show ((3 : Nat) : Int) = 3 from rfl] at *
  rw [e]; rfl
end Fast
end Go.Proofs.YtgnkdkehooagpaaDoor
