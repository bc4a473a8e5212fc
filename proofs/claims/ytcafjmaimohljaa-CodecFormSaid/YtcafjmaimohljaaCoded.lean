/-
  The chapter's examples, as the statements of layer 3 call them ('coded'): true; the call makes new memory, nothing that was there changes.
-/
import Derived.Test.YtcafjmaimohljaaUnhsWalk
import Derived.Test.YtcafjmaimohljaaHashes
import Derived.Test.YtcafjmaimohljaaRefCut
namespace Go.Proofs.Ytcafjmaimohljaa
open Go.RowKit
set_option linter.unusedVariables false

set_option maxHeartbeats 1000000 in
theorem no_any (s : ByteArray) (hs : s.size ≤ maxLen) (hn : readR s = none) (w : World) :
    Calls Try.prog 26 #[.string s] w fun e w' => e = .returned (.bool true) ∧ ∃ k, w' = w.drewN k := by
  have hc := read_any s hs w
  rw [readV_no s hn] at hc
  clear hn hs
  go_enter Try.func26, Try.ntmps26
  go_wp2_with (go_at_call 17; (with_reducible refine hc.mono ?_); rintro e w1 ⟨rfl, k, rfl⟩)
  go_ret
  exact ⟨rfl, _, rfl⟩
/-- A call that leaves the world alone but for draws, as one that makes memory. -/
theorem calls_below {P : Program} {f : FuncId} {args : Array Value} {w : World} {v : Value} (h : Calls P f args w fun e w' => e = .returned v ∧ ∃ k, w' = w.drewN k) : Calls P f args w fun e w' => e = .returned v ∧ Below w.heap.size w w' :=
  h.mono fun e w' ⟨h1, k, h2⟩ => ⟨h1, by rw [h2]; exact below_drewN (Below.refl _ _) k⟩
theorem num0 : numS 0 = ⟨#[0]⟩ := by kernel_rfl
theorem num127 : numS 127 = ⟨#[127]⟩ := by kernel_rfl
theorem num300 : numS 300 = ⟨#[130, 44]⟩ := by kernel_rfl
theorem readA : readV ⟨#[130, 44, 120]⟩ = .tuple #[.int .u64 300, .string ⟨#[120]⟩, .bool true] := by kernel_rfl
theorem cutA : cutV ⟨#[2, 97, 98, 99]⟩ = .tuple #[.string ⟨#[97, 98]⟩, .string ⟨#[99]⟩, .bool true] := by kernel_rfl
theorem cutB : cutV ⟨#[3, 97, 98]⟩ = .tuple #[.string ⟨#[]⟩, .string ⟨#[]⟩, .bool false] := by kernel_rfl
theorem unhsA : unhsR ⟨#[0, 120]⟩ = some (0, 1) := by kernel_rfl
theorem noA : readR ⟨#[128, 5]⟩ = none := by kernel_rfl
theorem noB : readR ⟨#[130]⟩ = none := by kernel_rfl
theorem textA : textS ⟨#[97, 98]⟩ = ⟨#[2, 97, 98]⟩ := by kernel_rfl
theorem listA : listS [] = ⟨#[0]⟩ := by kernel_rfl
theorem cNum0 (w : World) : Calls Try.prog 11 #[.int .u64 0] w fun e w' => e = .returned (.string ⟨#[0]⟩) ∧ Below w.heap.size w w' :=
  (num_any 0 (by decide) w).mono fun e w' ⟨h1, h2⟩ => ⟨by rw [h1, num0], h2⟩
theorem cNum127 (w : World) : Calls Try.prog 11 #[.int .u64 127] w fun e w' => e = .returned (.string ⟨#[127]⟩) ∧ Below w.heap.size w w' :=
  (num_any 127 (by decide) w).mono fun e w' ⟨h1, h2⟩ => ⟨by rw [h1, num127], h2⟩
theorem cNum300 (w : World) : Calls Try.prog 11 #[.int .u64 300] w fun e w' => e = .returned (.string ⟨#[130, 44]⟩) ∧ Below w.heap.size w w' :=
  (num_any 300 (by decide) w).mono fun e w' ⟨h1, h2⟩ => ⟨by rw [h1, num300], h2⟩
theorem cRead (w : World) : Calls Try.prog 17 #[.string ⟨#[130, 44, 120]⟩] w fun e w' => e = .returned (.tuple #[.int .u64 300, .string ⟨#[120]⟩, .bool true]) ∧ Below w.heap.size w w' :=
  calls_below ((read_any _ (by decide) w).mono fun e w' ⟨h1, h2⟩ => ⟨by rw [h1, readA], h2⟩)
theorem cCutA (w : World) : Calls Try.prog 19 #[.string ⟨#[2, 97, 98, 99]⟩] w fun e w' => e = .returned (.tuple #[.string ⟨#[97, 98]⟩, .string ⟨#[99]⟩, .bool true]) ∧ Below w.heap.size w w' :=
  calls_below ((cut_any _ (by decide) w).mono fun e w' ⟨h1, h2⟩ => ⟨by rw [h1, cutA], h2⟩)
theorem cCutB (w : World) : Calls Try.prog 19 #[.string ⟨#[3, 97, 98]⟩] w fun e w' => e = .returned (.tuple #[.string ⟨#[]⟩, .string ⟨#[]⟩, .bool false]) ∧ Below w.heap.size w w' :=
  calls_below ((cut_any _ (by decide) w).mono fun e w' ⟨h1, h2⟩ => ⟨by rw [h1, cutB], h2⟩)
theorem cUnhs (w : World) : Calls Try.prog 23 #[.string ⟨#[0, 120]⟩] w fun e w' => (∃ A c, e = .returned (.tuple #[.slice A 0 c, .string ⟨#[120]⟩, .bool true])) ∧ Below w.heap.size w w' :=
  (unhashes_any _ (by decide) w).mono fun e w' ⟨h1, h2⟩ => ⟨by
    rw [unhsA] at h2
    obtain ⟨A, c, he, _⟩ := h2
    exact ⟨A, c, he⟩, h1⟩
theorem cNoA (w : World) : Calls Try.prog 26 #[.string ⟨#[128, 5]⟩] w fun e w' => e = .returned (.bool true) ∧ Below w.heap.size w w' :=
  calls_below (no_any _ (by decide) noA w)
theorem cNoB (w : World) : Calls Try.prog 26 #[.string ⟨#[130]⟩] w fun e w' => e = .returned (.bool true) ∧ Below w.heap.size w w' :=
  calls_below (no_any _ (by decide) noB w)
theorem cText (w : World) : Calls Try.prog 13 #[.string ⟨#[97, 98]⟩] w fun e w' => e = .returned (.string ⟨#[2, 97, 98]⟩) ∧ Below w.heap.size w w' :=
  (text_any _ (by decide) w).mono fun e w' ⟨h1, h2⟩ => ⟨by rw [h1, textA], h2⟩
theorem cHashes (w : World) : Calls Try.prog 15 #[.slice none 0 0] w fun e w' => e = .returned (.string ⟨#[0]⟩) ∧ Below w.heap.size w w' :=
  (hashes_any [] (fun l h => by cases h) none 0 w (HL.nil _ _ _) (by decide)).mono fun e w' ⟨h1, h2⟩ => ⟨by rw [h1, listA], h2⟩
set_option maxHeartbeats 4000000 in
set_option maxRecDepth 100000 in
theorem coded_any (w : World) : Calls Try.prog 8 #[] w fun e w' => e = .returned (.bool true) ∧ Below w.heap.size w w' := by
  have HB := Lib.hid (Below.refl w.heap.size w)
  go_enter Try.func8, Try.ntmps8
  go_wp2_with (first
    | (go_at_call 11; (first | (with_reducible refine (cNum0 _).mono ?_) | (with_reducible refine (cNum127 _).mono ?_) | (with_reducible refine (cNum300 _).mono ?_)); rintro e w1 ⟨rfl, hb⟩; have HB := Lib.hid (below_new HB.out hb); clear hb)
    | (go_at_call 17; (with_reducible refine (cRead _).mono ?_); rintro e w2 ⟨rfl, hb⟩; have HB := Lib.hid (below_new HB.out hb); clear hb)
    | (go_at_call 19; (first | (with_reducible refine (cCutA _).mono ?_) | (with_reducible refine (cCutB _).mono ?_)); rintro e w3 ⟨rfl, hb⟩; have HB := Lib.hid (below_new HB.out hb); clear hb)
    | (go_at_call 26; (first | (with_reducible refine (cNoA _).mono ?_) | (with_reducible refine (cNoB _).mono ?_)); rintro e w3 ⟨rfl, hb⟩; have HB := Lib.hid (below_new HB.out hb); clear hb)
    | (go_at_call 23; (with_reducible refine (cUnhs _).mono ?_); rintro e w4 ⟨⟨A, c, rfl⟩, hb⟩; have HB := Lib.hid (below_new HB.out hb); clear hb)
    | (go_at_call 13; (with_reducible refine (cText _).mono ?_); rintro e w5 ⟨rfl, hb⟩; have HB := Lib.hid (below_new HB.out hb); clear hb)
    | (go_at_call 15; (with_reducible refine (cHashes _).mono ?_); rintro e w6 ⟨rfl, hb⟩; have HB := Lib.hid (below_new HB.out hb); clear hb))
  go_ret
  exact ⟨rfl, HB.out⟩
end Go.Proofs.Ytcafjmaimohljaa
