/-
  The walk of the statement TreesApart, for any number of leaves: of none, or of more than 60, it asks the examples alone. Conditions: the two tables as they were laid, a list of hashes in memory.
-/
import Derived.Test.YthagpnakcffjeaaDoorTreeLawA
namespace Go.Proofs.YthagpnakcffjeaaDoor
open Go.RowKit
set_option linter.unusedVariables false

set_option maxHeartbeats 1000000 in
set_option maxRecDepth 100000 in
theorem apartlaw_none (n : Nat) (A : Option Addr) (c : Nat) (wh : Int) (h : List Int) (w : World) (hT : Tab w) (hn : n = 0 ∨ 60 < n) (hnm : n ≤ 9223372036854775807) :
    Calls Tryd.prog 9 #[.slice A n c, .int .u8 wh, .agg (nums .u8 h)] w fun e w' => e = .returned (.bool true) ∧ Below w.heap.size w w' := by
  have HB : Hid (Below w.heap.size w (w.alloc (.cells (nums .u8 h) 24))) := Lib.hid ((Below.refl _ _).alloc (Nat.le_refl _) _)
  have HT := Lib.hid (hT.next HB.out)
  clear hT
  rcases hn with hn | hn
  · have hd : ((n : Int) == 0) = true := by rw [hn]; rfl
    clear hn
    go_enter Tryd.func9, Tryd.ntmps9
    go_wp2_with (go_at_call 17; (with_reducible refine (grown_any _ HT.out).mono ?_); rintro e w3 ⟨rfl, hb⟩)
    go_ret
    exact ⟨rfl, below_new HB.out hb⟩
  · have hd : ((n : Int) == 0) = false := by simp; omega
    have hd2 : decide (60 < (n : Int)) = true := decide_eq_true (by omega)
    clear hn
    go_enter Tryd.func9, Tryd.ntmps9
    go_wp2_with (go_at_call 17; (with_reducible refine (grown_any _ HT.out).mono ?_); rintro e w3 ⟨rfl, hb⟩)
    go_ret
    exact ⟨rfl, below_new HB.out hb⟩
theorem apartlaw_any (ls : List (List Int)) (hh : hashes ls) (A : Option Addr) (c : Nat) (wh : Int) (h : List Int) (w : World) (hT : Tab w) (hA : HL w w.heap.size A ls) (hc : ls.length ≤ c) (hm : c ≤ maxLen)
    (hw : 0 ≤ wh ∧ wh ≤ 255) (hl : h.length = 32) (hbb : bytes h) :
    Calls Tryd.prog 9 #[.slice A ls.length c, .int .u8 wh, .agg (nums .u8 h)] w fun e w' => e = .returned (.bool true) ∧ Below w.heap.size w w' := by
  unfold maxLen at hm
  by_cases h1 : 1 ≤ ls.length ∧ ls.length ≤ 60
  · exact apartlaw_short ls hh A c wh h w hT hA h1.1 h1.2 hc hm hw hl hbb
  · exact apartlaw_none ls.length A c wh h w hT (by omega) (by omega)
end Go.Proofs.YthagpnakcffjeaaDoor
