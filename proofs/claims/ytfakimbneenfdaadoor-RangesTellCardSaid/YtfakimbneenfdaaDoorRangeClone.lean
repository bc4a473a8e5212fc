/-
  The walk of the library's Clone at hashes: a copy in memory of the call's own; nothing that was there changes. Condition: a list of hashes in memory, at most 8192.
-/
import Derived.Test.YtfakimbneenfdaaDoorListMem
import Derived.Test.YtfakimbneenfdaaDoorRangeRoots
import Derived.Lib.SliceRun
namespace Go.Proofs.YtfakimbneenfdaaDoor
open Go.RowKit
set_option linter.unusedVariables false
set_option maxRecDepth 100000

set_option maxHeartbeats 2000000 in
theorem clone_any (hs : List (List Int)) (hh : hashes hs) (hm : hs.length ≤ 8192) (A : Option Addr) (c : Nat) (w : World) (hA : HL w w.heap.size A hs) :
    Calls Tryd.prog 59 #[.slice A hs.length c] w fun e w' => ∃ v', e = .returned v' ∧ OwnL w w' v' hs.length hs := by
  have q22 : ∀ (w : World) (a : Option Addr) (n c n' c' : Nat), (binOp .eql 22 (.slice a n c) (.slice none n' c')).run Tryd.prog w = .ok (.bool a.isNone) w := fun w a n c n' c' => Lib.run_eql_slice_nil w _ _ a n c n' c' Tryd.underlying22
  obtain ⟨n, hn⟩ : ∃ n, Hid (n = hs.length) := ⟨_, Lib.hid rfl⟩
  rw [← hn.out]
  cases A with
  | none =>
    have e0 : hs = [] := by
      cases hs with
      | nil => rfl
      | cons a l => obtain ⟨ad, h⟩ := hA.some 0 (by simp); cases h
    have H0 : Hid (OwnL w w (.slice none 0 0) n hs) := Lib.hid (by rw [hn.out, e0]; exact OwnL.start w)
    clear e0 hA hh hm
    go_enter Tryd.func59, Tryd.ntmps59
    go_wp2
    go_ret
    exact ⟨_, rfl, H0.out⟩
  | some ad =>
    obtain ⟨i0, hi, hz0, hz1, hz2⟩ := info_parts infoHash
    have u22 : ∀ w, Sem.run Tryd.prog (underlying 22) w = .ok (TypeDesc.slice 31) w := run_underlying Tryd.underlying22
    have HA := Lib.hid hA
    have HH := Lib.hid hh
    have HM : Hid (n ≤ 8192) := Lib.hid (by rw [hn.out]; exact hm)
    clear hA hh hm
    go_enter Tryd.func59, Tryd.ntmps59
    go_wp2_with (at_builtin; refine wpList_append_own _ rfl _ _ 22 rfl w.heap.size 31 i0 _ 32 32 Tryd.underlying22 hi hz0 hz1 hz2 (by simp [Value.cells, nums]) (by decide) _ _ _ rfl (World.ownsRow_made w #[] 0 (Nat.le_refl _) (Nat.zero_le _) rfl) ad n c (cellsL hs) rfl ?qc1 ?qc2 ?qc3 ?qc4 ?qc5 ?qc6 ?_)
    case qc1 => rw [cellsL_length HH.out, hn.out]
    case qc2 =>
      intro j u hj
      exact (HA.out.next ((Below.refl w.heap.size w).alloc (Nat.le_refl _) _) (Nat.le_refl _)).cells HH.out j u hj
    case qc3 => exact cellsL_one hs
    case qc4 => have := HM.out; unfold maxLen; omega
    case qc5 => have := HM.out; omega
    case qc6 => simp
    intro v' w1 hown hgrow hnil
    have HO : Hid (OwnL w w1 v' n hs) := Lib.hid ⟨hown, ((Below.refl _ w).alloc (Nat.le_refl _) _).grown hgrow (by simp) (by intro k hk; simp [Value.ownBlock] at hk; omega)⟩
    clear hown hgrow hnil
    go_wp2
    go_ret
    exact ⟨v', rfl, HO.out⟩
end Go.Proofs.YtfakimbneenfdaaDoor
