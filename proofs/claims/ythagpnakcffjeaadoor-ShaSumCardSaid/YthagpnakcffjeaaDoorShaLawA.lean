/-
  The chapter's examples, as the statements of layer 2 call them ('hashed'): true; the call makes new memory, nothing that was there changes. Condition: the two tables as they were laid.
-/
import Derived.Test.YthagpnakcffjeaaDoorShaEval
import Derived.Test.YthagpnakcffjeaaDoorShaHex
import Derived.Test.YthagpnakcffjeaaDoorShaPar
namespace Go.Proofs.YthagpnakcffjeaaDoor
open Go.RowKit
set_option linter.unusedVariables false

theorem len0 : hash0.length = 32 := rfl
theorem len1 : hash1.length = 32 := rfl
theorem sum0 (w : World) (hT : Tab w) : Calls Tryd.prog 11 #[.string ⟨#[]⟩] w fun e w' => e = .returned (.agg (nums .u8 hash0)) ∧ Below w.heap.size w w' :=
  (sum_any ⟨#[]⟩ (by decide) w hT).mono fun e w' ⟨h1, h2⟩ => ⟨by rw [h1, sum_none], h2⟩
theorem sum1 (w : World) (hT : Tab w) : Calls Tryd.prog 11 #[.string ⟨#[97, 98, 99]⟩] w fun e w' => e = .returned (.agg (nums .u8 hash1)) ∧ Below w.heap.size w w' :=
  (sum_any ⟨#[97, 98, 99]⟩ (by decide) w hT).mono fun e w' ⟨h1, h2⟩ => ⟨by rw [h1, sum_abc], h2⟩
theorem hex0 (w : World) : Calls Tryd.prog 15 #[.agg (nums .u8 hash0)] w fun e w' => e = .returned (.string ⟨#[101, 51, 98, 48, 99, 52, 52, 50, 57, 56, 102, 99, 49, 99, 49, 52, 57, 97, 102, 98, 102, 52, 99, 56, 57, 57, 54, 102, 98, 57, 50, 52, 50, 55, 97, 101, 52, 49, 101, 52, 54, 52, 57, 98, 57, 51, 52, 99, 97, 52, 57, 53, 57, 57, 49, 98, 55, 56, 53, 50, 98, 56, 53, 53]⟩) ∧ Below w.heap.size w w' :=
  (hex_any hash0 len0 bytes0 w).mono fun e w' ⟨h1, h2⟩ => ⟨by rw [h1, hex_none], h2⟩
theorem hex1 (w : World) : Calls Tryd.prog 15 #[.agg (nums .u8 hash1)] w fun e w' => e = .returned (.string ⟨#[98, 97, 55, 56, 49, 54, 98, 102, 56, 102, 48, 49, 99, 102, 101, 97, 52, 49, 52, 49, 52, 48, 100, 101, 53, 100, 97, 101, 50, 50, 50, 51, 98, 48, 48, 51, 54, 49, 97, 51, 57, 54, 49, 55, 55, 97, 57, 99, 98, 52, 49, 48, 102, 102, 54, 49, 102, 50, 48, 48, 49, 53, 97, 100]⟩) ∧ Below w.heap.size w w' :=
  (hex_any hash1 len1 bytes1 w).mono fun e w' ⟨h1, h2⟩ => ⟨by rw [h1, hex_abc], h2⟩
theorem okA : okS ⟨#[65, 65, 65, 65, 65, 65, 65, 65, 65, 65, 65, 65, 65, 65, 65, 65, 65, 65, 65, 65, 65, 65, 65, 65, 65, 65, 65, 65, 65, 65, 65, 65, 65, 65, 65, 65, 65, 65, 65, 65, 65, 65, 65, 65, 65, 65, 65, 65, 65, 65, 65, 65, 65, 65, 65, 65, 65, 65, 65, 65, 65, 65, 65, 65]⟩ = false := by kernel_rfl
theorem okB : okS ⟨#[97, 97, 97, 97, 97, 97, 97, 97, 97, 97, 97, 97, 97, 97, 97, 97, 97, 97, 97, 97, 97, 97, 97, 97, 97, 97, 97, 97, 97, 97, 97, 97, 97, 97, 97, 97, 97, 97, 97, 97, 97, 97, 97, 97, 97, 97, 97, 97, 97, 97, 97, 97, 97, 97, 97, 97, 97, 97, 97, 97, 97, 97, 97]⟩ = false := by kernel_rfl
theorem par0 (w : World) : Calls Tryd.prog 13 #[.string ⟨#[65, 65, 65, 65, 65, 65, 65, 65, 65, 65, 65, 65, 65, 65, 65, 65, 65, 65, 65, 65, 65, 65, 65, 65, 65, 65, 65, 65, 65, 65, 65, 65, 65, 65, 65, 65, 65, 65, 65, 65, 65, 65, 65, 65, 65, 65, 65, 65, 65, 65, 65, 65, 65, 65, 65, 65, 65, 65, 65, 65, 65, 65, 65, 65]⟩] w fun e w' => e = .returned (.tuple #[.agg (nums .u8 zero32), .bool false]) ∧ Below w.heap.size w w' :=
  (parse_any _ (by decide) w).mono fun e w' ⟨h1, h2⟩ => ⟨by rw [h1, okA, parse_none _ okA], h2⟩
theorem par1 (w : World) : Calls Tryd.prog 13 #[.string ⟨#[97, 97, 97, 97, 97, 97, 97, 97, 97, 97, 97, 97, 97, 97, 97, 97, 97, 97, 97, 97, 97, 97, 97, 97, 97, 97, 97, 97, 97, 97, 97, 97, 97, 97, 97, 97, 97, 97, 97, 97, 97, 97, 97, 97, 97, 97, 97, 97, 97, 97, 97, 97, 97, 97, 97, 97, 97, 97, 97, 97, 97, 97, 97]⟩] w fun e w' => e = .returned (.tuple #[.agg (nums .u8 zero32), .bool false]) ∧ Below w.heap.size w w' :=
  (parse_any _ (by decide) w).mono fun e w' ⟨h1, h2⟩ => ⟨by rw [h1, okB, parse_none _ okB], h2⟩
set_option maxHeartbeats 2000000 in
set_option maxRecDepth 100000 in
theorem hashed_any (w : World) (hT : Tab w) :
    Calls Tryd.prog 10 #[] w fun e w' => e = .returned (.bool true) ∧ Below w.heap.size w w' := by
  have HT := Lib.hid hT
  have HB := Lib.hid (Below.refl w.heap.size w)
  have hz := size32p zero32 rfl
  have HZ := Lib.hid hz
  clear hT hz
  go_enter Tryd.func10, Tryd.ntmps10
  go_wp2_with (first
    | (go_at_call 13; (first | (with_reducible refine (par0 _).mono ?_) | (with_reducible refine (par1 _).mono ?_)); rintro e w1 ⟨rfl, hb⟩; have HB := Lib.hid (below_new HB.out hb); clear hb)
    | (refine wpList_store_fresh rfl 24 _ _ rfl (nums .u8 zero32) rfl rfl 24 _ HZ.out rfl (nums_one _ _) ?_; intro w2 hS hb; have HB := Lib.hid (below_new HB.out hb); clear hS hb)
    | (go_at_call 11; (first | (with_reducible refine (sum0 _ (HT.out.next HB.out)).mono ?_) | (with_reducible refine (sum1 _ (HT.out.next HB.out)).mono ?_)); rintro e w3 ⟨rfl, hb⟩; have HB := Lib.hid (below_new HB.out hb); clear hb)
    | (go_at_call 15; (first | (with_reducible refine (hex0 _).mono ?_) | (with_reducible refine (hex1 _).mono ?_)); rintro e w4 ⟨rfl, hb⟩; have HB := Lib.hid (below_new HB.out hb); clear hb))
  go_ret
  exact ⟨rfl, HB.out⟩
end Go.Proofs.YthagpnakcffjeaaDoor
