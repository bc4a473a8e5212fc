/-
  The walk of the statement CodecPut: it returns true, for every number, text and list; what it makes is new memory, nothing that was there changes.
-/
import Derived.Test.YtcafjmaimohljaaCoded
import Derived.Test.YtcafjmaimohljaaRefHashes
import Derived.Deep.RegionWith
namespace Go.Proofs.Ytcafjmaimohljaa
open Go.RowKit
set_option linter.unusedVariables false

set_option maxHeartbeats 1000000 in
set_option maxRecDepth 100000 in
theorem putlaw_long (n : Int) (s : ByteArray) (A : Option Addr) (m c : Nat) (w : World) (hs : s.size ≤ maxLen) (hm : m ≤ maxLen) (h : 2000 < s.size ∨ 100 < m) :
    Calls Try.prog 3 #[.int .u64 n, .string s, .slice A m c] w fun e w' => e = .returned (.bool true) ∧ Below w.heap.size w w' := by
  unfold maxLen at hs hm
  rcases Nat.lt_or_ge 2000 s.size with h1 | h1
  · have d1 : decide (2000 < (s.size : Int)) = true := decide_eq_true (by omega)
    go_enter Try.func3, Try.ntmps3
    go_wp2_with (go_at_call 8; (with_reducible refine (coded_any _).mono ?_); rintro e w1 ⟨rfl, hb⟩)
    go_ret
    exact ⟨rfl, hb⟩
  · have d1 : decide (2000 < (s.size : Int)) = false := decide_eq_false (by omega)
    have d2 : decide (100 < (m : Int)) = true := decide_eq_true (by omega)
    clear h
    go_enter Try.func3, Try.ntmps3
    go_wp2_with (go_at_call 8; (with_reducible refine (coded_any _).mono ?_); rintro e w1 ⟨rfl, hb⟩)
    go_ret
    exact ⟨rfl, hb⟩
attribute [local go_sem ↓ high] read_at
set_option maxHeartbeats 4000000 in
set_option maxRecDepth 100000 in
theorem putlaw_short (n : Nat) (hn : n < 18446744073709551616) (s : ByteArray) (hs : s.size ≤ 2000) (ls : List (List Int)) (hls : hashes ls) (A : Option Addr) (c : Nat) (w : World) (hA : HL w w.heap.size A ls) (hm : ls.length ≤ 100) :
    Calls Try.prog 3 #[.int .u64 (n : Int), .string s, .slice A ls.length c] w fun e w' => e = .returned (.bool true) ∧ Below w.heap.size w w' := by
  obtain ⟨m, hM⟩ : ∃ m, Hid (m = ls.length) := ⟨_, Lib.hid rfl⟩
  have HA := Lib.hid hA
  have HS := Lib.hid hls
  have X1 : Hid (∀ W, Calls Try.prog 11 #[.int .u64 (n : Int)] W fun e w' => e = .returned (.string (numS n)) ∧ Below W.heap.size W w') := Lib.hid fun W => num_any n hn W
  have X2 : Hid (∀ W, Calls Try.prog 12 #[.int .u64 (n : Int)] W fun e w' => e = .returned (.string (numS n)) ∧ Below W.heap.size W w') := Lib.hid fun W => refNum_any n hn W
  have X3 : Hid (∀ W, Calls Try.prog 13 #[.string s] W fun e w' => e = .returned (.string (textS s)) ∧ Below W.heap.size W w') := Lib.hid fun W => text_any s (by omega) W
  have X4 : Hid (∀ W, Calls Try.prog 14 #[.string s] W fun e w' => e = .returned (.string (textS s)) ∧ Below W.heap.size W w') := Lib.hid fun W => refText_any s (by omega) W
  have X5 : Hid (∀ W, HL W W.heap.size A ls → Calls Try.prog 15 #[.slice A m c] W fun e w' => e = .returned (.string (listS ls)) ∧ Below W.heap.size W w') := Lib.hid fun W hW => by rw [hM.out]; exact hashes_any ls hls A c W hW (by unfold maxLen; omega)
  have X6 : Hid (∀ W, HL W W.heap.size A ls → Calls Try.prog 16 #[.slice A m c] W fun e w' => e = .returned (.string (listS ls)) ∧ Below W.heap.size W w') := Lib.hid fun W hW => by rw [hM.out]; exact refHashes_any ls hls A c W hW (by unfold maxLen; omega)
  have H5 : Hid (∀ W, Below w.heap.size w W → HL W W.heap.size A ls) := Lib.hid fun W hW => (HA.out.next hW (Nat.le_refl _)).more hW.size
  rw [← hM.out] at hm ⊢
  have d1 : decide (2000 < (s.size : Int)) = false := decide_eq_false (by omega)
  have d2 : decide (100 < (m : Int)) = false := decide_eq_false (by omega)
  have HB := Lib.hid (Below.refl w.heap.size w)
  clear hA hls
  go_enter Try.func3, Try.ntmps3
  go_wp2
  go_loopw [7] (fun s7 wr => ∃ k : Nat, k ≤ m ∧ s7 = .int .i64 (k : Int) ∧ Hid (Below w.heap.size w wr)) (fun s7 _ => (m - intOf s7).toNat)
  case atStart => exact ⟨0, by omega, rfl, HB⟩
  case round =>
    clear HB
    obtain ⟨k, hk, rfl, HB⟩ := hrel
    by_cases hlt : k < m
    · obtain ⟨ad, rfl⟩ := HA.out.some k (by rw [← hM.out]; exact hlt)
      obtain ⟨l, hl⟩ : ∃ l, Hid (l = ls.getD k []) := ⟨_, Lib.hid rfl⟩
      have hR : Hid (∀ W, Below w.heap.size w W → (readAt (.pointer (some (ad.add (k * 32))))).run Try.prog W = .ok (.agg (nums .u8 l)) W) := Lib.hid fun W hW => by
        rw [hl.out]; exact (HA.out.next hW (Nat.le_refl _)).read HS.out k (by rw [← hM.out]; exact hlt)
      have hll : Hid (l.length = 32) := Lib.hid (by rw [hl.out]; exact (hashes_at HS.out k (by rw [← hM.out]; exact hlt)).1)
      have Y1 : Hid (∀ W, Calls Try.prog 9 #[.agg (nums .u8 l)] W fun e w' => e = .returned (.string (strOfNums l)) ∧ Below W.heap.size W w') := Lib.hid fun W => hash_any l hll.out W
      have Y2 : Hid (∀ W, Calls Try.prog 10 #[.agg (nums .u8 l)] W fun e w' => e = .returned (.string (strOfNums l)) ∧ Below W.heap.size W w') := Lib.hid fun W => refHash_any l hll.out W
      clear X1 X2 X3 X4 X5 X6 H5
      go_wp2
      have s1 := hR.out wr.drew HB.out.drew
      have HB := Lib.hid HB.out.drew
      go_region_with (first
        | (go_at_call 9; (with_reducible refine (Y1.out _).mono ?_); rintro e w1 ⟨rfl, hb⟩; have HB := Lib.hid (below_new HB.out hb); clear hb s1; have s1 := hR.out _ HB.out)
        | (go_at_call 10; (with_reducible refine (Y2.out _).mono ?_); rintro e w2 ⟨rfl, hb⟩; have HB := Lib.hid (below_new HB.out hb); clear hb s1; have s1 := hR.out _ HB.out))
      all_goals
        go_wp2
        go_roundw
        case rel => exact ⟨k + 1, by omega, by go_num, HB⟩
        case measure => simp [intOf]; omega
    · go_wp2_with (first
        | (go_at_call 11; (with_reducible refine (X1.out _).mono ?_); rintro e w1 ⟨rfl, hb⟩; have HB := Lib.hid (below_new HB.out hb); clear hb)
        | (go_at_call 12; (with_reducible refine (X2.out _).mono ?_); rintro e w2 ⟨rfl, hb⟩; have HB := Lib.hid (below_new HB.out hb); clear hb)
        | (go_at_call 13; (with_reducible refine (X3.out _).mono ?_); rintro e w3 ⟨rfl, hb⟩; have HB := Lib.hid (below_new HB.out hb); clear hb)
        | (go_at_call 14; (with_reducible refine (X4.out _).mono ?_); rintro e w4 ⟨rfl, hb⟩; have HB := Lib.hid (below_new HB.out hb); clear hb)
        | (go_at_call 15; (with_reducible refine (X5.out _ (H5.out _ HB.out)).mono ?_); rintro e w5 ⟨rfl, hb⟩; have HB := Lib.hid (below_new HB.out hb); clear hb)
        | (go_at_call 16; (with_reducible refine (X6.out _ (H5.out _ HB.out)).mono ?_); rintro e w6 ⟨rfl, hb⟩; have HB := Lib.hid (below_new HB.out hb); clear hb)
        | (go_at_call 8; (with_reducible refine (coded_any _).mono ?_); rintro e w7 ⟨rfl, hb⟩; have HB := Lib.hid (below_new HB.out hb); clear hb))
      go_ret
      exact ⟨rfl, HB.out⟩
end Go.Proofs.Ytcafjmaimohljaa
