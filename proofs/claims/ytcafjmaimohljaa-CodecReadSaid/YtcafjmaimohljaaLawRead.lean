/-
  The walk of the statement CodecRead: it returns true, for every text; what it makes is new memory, nothing that was there changes.
-/
import Derived.Test.YtcafjmaimohljaaCoded
import Derived.Test.YtcafjmaimohljaaCodecFacts
import Derived.Test.YtcafjmaimohljaaRefUnhs
import Derived.Test.YtcafjmaimohljaaSame
namespace Go.Proofs.Ytcafjmaimohljaa
open Go.RowKit
set_option linter.unusedVariables false

set_option maxHeartbeats 1000000 in
set_option maxRecDepth 100000 in
theorem readlaw_long (s : ByteArray) (w : World) (hs : s.size ≤ maxLen) (h : 3000 < s.size) :
    Calls Try.prog 4 #[.string s] w fun e w' => e = .returned (.bool true) ∧ Below w.heap.size w w' := by
  unfold maxLen at hs
  have d1 : decide (3000 < (s.size : Int)) = true := decide_eq_true (by omega)
  go_enter Try.func4, Try.ntmps4
  go_wp2_with (go_at_call 8; (with_reducible refine (coded_any _).mono ?_); rintro e w1 ⟨rfl, hb⟩)
  go_ret
  exact ⟨rfl, hb⟩
attribute [local go_sem ↓ high] read_at
set_option maxHeartbeats 8000000 in
set_option maxRecDepth 100000 in
theorem readlaw_short (s : ByteArray) (w : World) (hs : s.size ≤ 3000) :
    Calls Try.prog 4 #[.string s] w fun e w' => e = .returned (.bool true) ∧ Below w.heap.size w w' := by
  have hsm : s.size ≤ maxLen := by unfold maxLen; omega
  obtain ⟨rn, hrn⟩ : ∃ n, Hid (n = readN s) := ⟨_, Lib.hid rfl⟩
  obtain ⟨rt, hrt⟩ : ∃ n, Hid (n = readT s) := ⟨_, Lib.hid rfl⟩
  obtain ⟨ro, hro⟩ : ∃ n, Hid (n = readO s) := ⟨_, Lib.hid rfl⟩
  obtain ⟨ca, cb, co, hcv⟩ := cutV_parts s
  obtain ⟨l, ub, uo, huv, hll, hlb⟩ := unhV_parts s
  obtain ⟨C, hC⟩ : ∃ C, Hid (C = nums .u8 l) := ⟨_, Lib.hid rfl⟩
  rw [← hC.out] at huv
  obtain ⟨ls, hls⟩ : ∃ n, Hid (n = unhsL s) := ⟨_, Lib.hid rfl⟩
  obtain ⟨m, hm⟩ : ∃ n, Hid (n = ls.length) := ⟨_, Lib.hid rfl⟩
  obtain ⟨ht, hht⟩ : ∃ n, Hid (n = unhsT s) := ⟨_, Lib.hid rfl⟩
  obtain ⟨ho, hho⟩ : ∃ n, Hid (n = unhsO s) := ⟨_, Lib.hid rfl⟩
  have HH : Hid (hashes ls) := Lib.hid (by rw [hls.out]; exact unhsL_hashes s)
  have hmm : m ≤ maxLen := by have := unhsL_length s; rw [hm.out, hls.out]; unfold maxLen; omega
  have iC : Hid ((Try.prog.info? 27).map (·.size) = some C.size) := Lib.hid (by rw [hC.out]; exact sizeHash l hll)
  have zC : Hid (C.size = 32) := Lib.hid (by rw [hC.out, nums_size, hll])
  have oC : Hid (C.all (·.oneCell') = true) := Lib.hid (by rw [hC.out]; exact nums_one _ _)
  have QC : ∀ W, (binOp .eql 27 (.agg C) (.agg C)).run Try.prog W = .ok (.bool true) W := fun W => by
    rw [hC.out, eql_hash l l hll hll hlb hlb W, decide_eq_true rfl]
  have X1 : Hid (∀ W, Calls Try.prog 17 #[.string s] W fun e w' => e = .returned (.tuple #[.int .u64 (rn : Int), .string rt, .bool ro]) ∧ Below W.heap.size W w') := Lib.hid fun W => by
    rw [hrn.out, hrt.out, hro.out]; exact calls_below (read_any s hsm W)
  have X2 : Hid (∀ W, Calls Try.prog 18 #[.string s] W fun e w' => e = .returned (.tuple #[.int .u64 (rn : Int), .string rt, .bool ro]) ∧ Below W.heap.size W w') := Lib.hid fun W => by
    rw [hrn.out, hrt.out, hro.out]; exact refRead_any s hsm W
  have X3 : Hid (∀ W, Calls Try.prog 19 #[.string s] W fun e w' => e = .returned (.tuple #[.string ca, .string cb, .bool co]) ∧ Below W.heap.size W w') := Lib.hid fun W => by
    rw [← hcv]; exact calls_below (cut_any s hsm W)
  have X4 : Hid (∀ W, Calls Try.prog 20 #[.string s] W fun e w' => e = .returned (.tuple #[.string ca, .string cb, .bool co]) ∧ Below W.heap.size W w') := Lib.hid fun W => by
    rw [← hcv]; exact refCut_any s hsm W
  have X5 : Hid (∀ W, Calls Try.prog 21 #[.string s] W fun e w' => e = .returned (.tuple #[.agg C, .string ub, .bool uo]) ∧ Below W.heap.size W w') := Lib.hid fun W => by
    rw [← huv]; exact unhash_any s hsm W
  have X6 : Hid (∀ W, Calls Try.prog 22 #[.string s] W fun e w' => e = .returned (.tuple #[.agg C, .string ub, .bool uo]) ∧ Below W.heap.size W w') := Lib.hid fun W => by
    rw [← huv]; exact refUnhash_any s hsm W
  have X7 : Hid (∀ W, Calls Try.prog 23 #[.string s] W fun e w' => ∃ A c, e = .returned (.tuple #[.slice A m c, .string ht, .bool ho]) ∧ HL w' w'.heap.size A ls ∧ Below W.heap.size W w') := Lib.hid fun W => by
    rw [hm.out, hls.out, hht.out, hho.out]; exact (unhashes_any s hsm W).mono fun e w' h => h.parts
  have X8 : Hid (∀ W, Calls Try.prog 24 #[.string s] W fun e w' => ∃ A c, e = .returned (.tuple #[.slice A m c, .string ht, .bool ho]) ∧ HL w' w'.heap.size A ls ∧ Below W.heap.size W w') := Lib.hid fun W => by
    rw [hm.out, hls.out, hht.out, hho.out]; exact (refUnhashes_any s hsm W).mono fun e w' h => h.parts
  have X9 : Hid (∀ A B c d W, HL W W.heap.size A ls → HL W W.heap.size B ls → Calls Try.prog 25 #[.slice A m c, .slice B m d] W fun e w' => e = .returned (.bool true) ∧ Below W.heap.size W w') := Lib.hid fun A B c d W h1 h2 =>
    calls_below (same_any ls HH.out m hm.out hmm A B c d W h1 h2)
  have d1 : decide (3000 < (s.size : Int)) = false := decide_eq_false (by omega)
  have HB := Lib.hid (Below.refl w.heap.size w)
  clear hcv huv hll hlb hmm hsm
  go_enter Try.func4, Try.ntmps4
  go_wp2_with (first
    | (go_at_call 17; (with_reducible refine (X1.out _).mono ?_); rintro e w1 ⟨rfl, hb⟩; have HB := Lib.hid (below_new HB.out hb); clear hb)
    | (go_at_call 18; (with_reducible refine (X2.out _).mono ?_); rintro e w2 ⟨rfl, hb⟩; have HB := Lib.hid (below_new HB.out hb); clear hb)
    | (go_at_call 19; (with_reducible refine (X3.out _).mono ?_); rintro e w3 ⟨rfl, hb⟩; have HB := Lib.hid (below_new HB.out hb); clear hb)
    | (go_at_call 20; (with_reducible refine (X4.out _).mono ?_); rintro e w4 ⟨rfl, hb⟩; have HB := Lib.hid (below_new HB.out hb); clear hb)
    | (go_at_call 21; (with_reducible refine (X5.out _).mono ?_); rintro e w5 ⟨rfl, hb⟩; have HB := Lib.hid (below_new HB.out hb); clear hb)
    | (go_at_call 22; (with_reducible refine (X6.out _).mono ?_); rintro e w6 ⟨rfl, hb⟩; have HB := Lib.hid (below_new HB.out hb); have R1 := Lib.hid (R1.out.next hb); clear hb)
    | (refine wpList_store_fresh rfl 27 (.tmp 15) (.tmp 58) rfl C rfl rfl 27 _ iC.out (by rw [zC.out]; rfl) oC.out ?_; intro w7 hS hb; have HB := Lib.hid (below_new HB.out hb); have R1 := Lib.hid hS; clear hb hS)
    | (refine wpList_store_fresh rfl 27 (.tmp 18) (.tmp 64) rfl C rfl rfl 27 _ iC.out (by rw [zC.out]; rfl) oC.out ?_; intro w8 hS hb; have HB := Lib.hid (below_new HB.out hb); have R1 := Lib.hid (R1.out.next hb); have R2 := Lib.hid hS; clear hb hS)
    | (go_at_call 23; (with_reducible refine (X7.out _).mono ?_); rintro e w9 ⟨A, c, rfl, hL, hb⟩; have HB := Lib.hid (below_new HB.out hb); have R1 := Lib.hid (R1.out.next hb); have R2 := Lib.hid (R2.out.next hb); have L1 := Lib.hid hL; clear hb hL)
    | (go_at_call 24; (with_reducible refine (X8.out _).mono ?_); rintro e w10 ⟨B, d, rfl, hL, hb⟩; have HB := Lib.hid (below_new HB.out hb); have R1 := R1.out.next hb; have R2 := R2.out.next hb; have s1 := R1.read zC.out; have s2 := R2.read zC.out; have L1 := Lib.hid ((L1.out.next hb (Nat.le_refl _)).more hb.size); have L2 := Lib.hid hL; clear hb hL R1 R2)
    | (go_at_call 25; (with_reducible refine (X9.out _ _ _ _ _ L1.out L2.out).mono ?_); rintro e w11 ⟨rfl, hb⟩; have HB := Lib.hid (below_new HB.out hb); clear hb)
    | (go_at_call 8; (with_reducible refine (coded_any _).mono ?_); rintro e w12 ⟨rfl, hb⟩; have HB := Lib.hid (below_new HB.out hb); clear hb))
  go_ret
  exact ⟨rfl, HB.out⟩
end Go.Proofs.Ytcafjmaimohljaa
