/-
  The walk of codec.Cut (layer 3): the text that stands ahead with its length; the world stays.
-/
import Derived.Test.YtcafjmaimohljaaRead
namespace Go.Proofs.Ytcafjmaimohljaa
open Go.RowKit
set_option linter.unusedVariables false

/-- The length that stands ahead of a text, and up to which byte, where as many bytes are behind it. -/
def cutR (s : ByteArray) : Option (Nat × Nat) := match readR s with
  | some (n, p) => if n ≤ (s.extract p s.size).size then some (n, p) else none
  | none => none
def cutV (s : ByteArray) : Value := match cutR s with
  | some (n, p) => .tuple #[.string ((s.extract p s.size).extract 0 n), .string ((s.extract p s.size).extract n (s.extract p s.size).size), .bool true]
  | none => .tuple #[.string ⟨#[]⟩, .string ⟨#[]⟩, .bool false]
theorem cutV_none (s : ByteArray) (h : readR s = none) : cutV s = .tuple #[.string ⟨#[]⟩, .string ⟨#[]⟩, .bool false] := by
  simp [cutV, cutR, h]
theorem cutV_great (s : ByteArray) (n p : Nat) (h : readR s = some (n, p)) (hn : ¬ n ≤ (s.extract p s.size).size) : cutV s = .tuple #[.string ⟨#[]⟩, .string ⟨#[]⟩, .bool false] := by
  unfold cutV cutR; rw [h]; simp only; rw [if_neg hn]
theorem cutV_yes (s : ByteArray) (n p : Nat) (h : readR s = some (n, p)) (hn : n ≤ (s.extract p s.size).size) : cutV s = .tuple #[.string ((s.extract p s.size).extract 0 n), .string ((s.extract p s.size).extract n (s.extract p s.size).size), .bool true] := by
  unfold cutV cutR; rw [h]; simp only; rw [if_pos hn]
theorem readR_lt (s : ByteArray) (n p : Nat) (h : readR s = some (n, p)) : n < 18446744073709551616 ∧ p = (Codec.numL n).length ∧ p ≤ s.size ∧ textL s = Codec.numL n ++ (textL s).drop p := by
  have := Codec.rdP_some (textL s) (textL_bytes s) n p h
  rwa [textL_length] at this
theorem ret_is {v u : Value} (h : u = v) : Ending.returned v = .returned u := by rw [h]
set_option maxHeartbeats 1000000 in
set_option maxRecDepth 100000 in
theorem cut_any (s : ByteArray) (hs : s.size ≤ maxLen) (w : World) :
    Calls Try.prog 19 #[.string s] w fun e w' => e = .returned (cutV s) ∧ ∃ k, w' = w.drewN k := by
  rcases hR : readR s with _ | ⟨n, p⟩
  · have hV := Lib.hid (cutV_none s hR)
    have hc := read_any s hs w
    rw [readV_no s hR] at hc
    clear hR
    go_enter Try.func19, Try.ntmps19
    go_wp2_with (go_at_call 17; (with_reducible refine hc.mono ?_); rintro e w1 ⟨rfl, k, rfl⟩)
    go_ret3
    exact ⟨ret_is hV.out, _, rfl⟩
  · have hc := read_any s hs w
    rw [readV_yes s n p hR] at hc
    have hn := (readR_lt s n p hR).1
    obtain ⟨T, hT⟩ : ∃ T, Hid (T = s.extract p s.size) := ⟨_, Lib.hid rfl⟩
    have hTs : T.size ≤ 9223372036854775807 := by rw [hT.out, ByteArray.size_extract]; unfold maxLen at hs; omega
    rw [← hT.out] at hc
    by_cases hle : n ≤ T.size
    · have hV := Lib.hid (cutV_yes s n p hR (by rw [← hT.out]; exact hle))
      rw [← hT.out] at hV
      clear hR hs
      go_enter Try.func19, Try.ntmps19
      go_wp2_with (go_at_call 17; (with_reducible refine hc.mono ?_); rintro e w1 ⟨rfl, k, rfl⟩)
      go_quiet (fail)
      go_wp2
      go_ret3
      exact ⟨ret_is hV.out, _, World.drewN_drewN _ _ _⟩
    · have hV := Lib.hid (cutV_great s n p hR (by rw [← hT.out]; exact hle))
      clear hR hs
      go_enter Try.func19, Try.ntmps19
      go_wp2_with (go_at_call 17; (with_reducible refine hc.mono ?_); rintro e w1 ⟨rfl, k, rfl⟩)
      go_ret3
      exact ⟨ret_is hV.out, _, rfl⟩
end Go.Proofs.Ytcafjmaimohljaa
