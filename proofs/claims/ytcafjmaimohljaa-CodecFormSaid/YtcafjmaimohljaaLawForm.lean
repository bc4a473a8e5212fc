/-
  The walk of the statement CodecForm: it returns true, for every text; what it makes is new memory, nothing that was there changes.
-/
import Derived.Test.YtcafjmaimohljaaCoded
import Derived.Test.YtcafjmaimohljaaCodecFacts
import Derived.Test.YtcafjmaimohljaaHashAt
namespace Go.Proofs.Ytcafjmaimohljaa
open Go.RowKit
set_option linter.unusedVariables false

set_option maxHeartbeats 1000000 in
set_option maxRecDepth 100000 in
theorem formlaw_long (s : ByteArray) (w : World) (hs : s.size ≤ maxLen) (h : 2500 < s.size) :
    Calls Try.prog 7 #[.string s] w fun e w' => e = .returned (.bool true) ∧ Below w.heap.size w w' := by
  unfold maxLen at hs
  have d1 : decide (2500 < (s.size : Int)) = true := decide_eq_true (by omega)
  go_enter Try.func7, Try.ntmps7
  go_wp2_with (go_at_call 8; (with_reducible refine (coded_any _).mono ?_); rintro e w1 ⟨rfl, hb⟩)
  go_ret
  exact ⟨rfl, hb⟩
/-- What the statement's calls answer. -/
structure FormIn (s : ByteArray) (ro co uo ho : Bool) (rn : Int) (rt ca cb ub ht N T U L : ByteArray) (C : Array Value) (m : Nat) (ls : List (List Int)) : Prop where
  x1 : ∀ W, Calls Try.prog 17 #[.string s] W fun e w' => e = .returned (.tuple #[.int .u64 rn, .string rt, .bool ro]) ∧ Below W.heap.size W w'
  x2 : ∀ W, Calls Try.prog 19 #[.string s] W fun e w' => e = .returned (.tuple #[.string ca, .string cb, .bool co]) ∧ Below W.heap.size W w'
  x3 : ∀ W, Calls Try.prog 21 #[.string s] W fun e w' => e = .returned (.tuple #[.agg C, .string ub, .bool uo]) ∧ Below W.heap.size W w'
  x4 : ∀ W, Calls Try.prog 23 #[.string s] W fun e w' => ∃ A c, e = .returned (.tuple #[.slice A m c, .string ht, .bool ho]) ∧ HL w' w'.heap.size A ls ∧ Below W.heap.size W w'
  y1 : ro = true → ∀ W, Calls Try.prog 11 #[.int .u64 rn] W fun e w' => e = .returned (.string N) ∧ Below W.heap.size W w'
  y2 : co = true → ∀ W, Calls Try.prog 13 #[.string ca] W fun e w' => e = .returned (.string T) ∧ Below W.heap.size W w'
  y3 : uo = true → ∀ W, Calls Try.prog 9 #[.agg C] W fun e w' => e = .returned (.string U) ∧ Below W.heap.size W w'
  y4 : ho = true → ∀ A c W, HL W W.heap.size A ls → Calls Try.prog 15 #[.slice A m c] W fun e w' => e = .returned (.string L) ∧ Below W.heap.size W w'
  a1 : ro = true → ∀ W, (Op.stringOp .add N rt).run Try.prog W = .ok (.string s) W
  a2 : co = true → ∀ W, (Op.stringOp .add T cb).run Try.prog W = .ok (.string s) W
  a3 : uo = true → ∀ W, (Op.stringOp .add U ub).run Try.prog W = .ok (.string s) W
  a4 : ho = true → ∀ W, (Op.stringOp .add L ht).run Try.prog W = .ok (.string s) W
  z1 : ro = false → rn = 0 ∧ rt = ⟨#[]⟩
  z2 : co = false → ca = ⟨#[]⟩ ∧ cb = ⟨#[]⟩
  z3 : uo = false → ub = ⟨#[]⟩ ∧ ∀ W, (binOp .eql 27 (.agg C) (.agg #[.int .u8 0, .int .u8 0, .int .u8 0, .int .u8 0, .int .u8 0, .int .u8 0, .int .u8 0, .int .u8 0, .int .u8 0, .int .u8 0, .int .u8 0, .int .u8 0, .int .u8 0, .int .u8 0, .int .u8 0, .int .u8 0, .int .u8 0, .int .u8 0, .int .u8 0, .int .u8 0, .int .u8 0, .int .u8 0, .int .u8 0, .int .u8 0, .int .u8 0, .int .u8 0, .int .u8 0, .int .u8 0, .int .u8 0, .int .u8 0, .int .u8 0, .int .u8 0])).run Try.prog W = .ok (.bool true) W
  z4 : ho = false → m = 0 ∧ ht = ⟨#[]⟩
  iC : (Try.prog.info? 27).map (·.size) = some C.size
  zC : C.size = 32
  oC : C.all (·.oneCell') = true
end Go.Proofs.Ytcafjmaimohljaa
