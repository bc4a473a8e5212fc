/-
  The walk of the statement ProofsProof: it returns true; what it makes is new memory, nothing that was there changes. Conditions: the two tables as they were laid, a list of hashes in memory, a number that fits.
-/
import Derived.Test.YtkjgkeigfebcmaaDoorProofFound
import Derived.Test.YtkjgkeigfebcmaaDoorProofRefProof
namespace Go.Proofs.YtkjgkeigfebcmaaDoor
open Go.RowKit Go.Great
set_option linter.unusedVariables false
set_option maxRecDepth 100000

/-- What the statement holds: the leaves. -/
def PlH (w : World) (A : Option Addr) (ls : List (List Int)) (W : World) : Prop := HW W A ls ∧ Tab W ∧ Below w.heap.size w W
theorem PlH.next {w W W1 : World} {A : Option Addr} {ls : List (List Int)} (h : PlH w A ls W) (hb : Below W.heap.size W W1) : PlH w A ls W1 := ⟨h.1.next hb, h.2.1.next hb, below_new h.2.2 hb⟩
attribute [local go_sem ↓ high] read_at write_at eq_at neq_at
set_option maxHeartbeats 40000000 in
theorem prooflaw_any (ls : List (List Int)) (hh : hashes ls) (A : Option Addr) (c : Nat) (i : Int) (hi64 : -9223372036854775808 ≤ i ∧ i ≤ 9223372036854775807) (w : World) (hA : HL w w.heap.size A ls) (hT : Tab w) (hc : ls.length ≤ c) (hcm : c ≤ maxLen) :
    Calls Tryd.prog 3 #[.slice A ls.length c, .int .i64 i] w fun e w' => e = .returned (.bool true) ∧ Below w.heap.size w w' := by
  obtain ⟨n, hn⟩ : ∃ n, Hid (n = ls.length) := ⟨_, Lib.hid rfl⟩
  have hnm : n ≤ 9223372036854775807 := by rw [hn.out]; unfold maxLen at hcm; omega
  have HT := Lib.hid hT
  have H0 : Hid (PlH w A ls w) := Lib.hid ⟨hA, hT, Below.refl _ _⟩
  have PJ : Hid (∀ j : Int, ∃ (P : List (List Int)) (q : Nat) (E : Int), q ≤ 9223372036854775807 ∧ (∀ W, PlH w A ls W → Calls Tryd.prog 8 #[.slice A n c, .int .i64 j] W fun e w' => ∃ A' c', e = .returned (.tuple #[.slice A' q c', .int .i64 E]) ∧ HW w' A' P ∧ Below W.heap.size W w') ∧
      (∀ W, PlH w A ls W → Calls Tryd.prog 9 #[.slice A n c, .int .i64 j] W fun e w' => ∃ A' c', e = .returned (.tuple #[.slice A' q c', .int .i64 E]) ∧ HW w' A' P ∧ Below W.heap.size W w') ∧
      (∀ W B D b d, HW W B P → HW W D P → Calls Tryd.prog 10 #[.slice B q b, .slice D q d] W fun e w' => e = .returned (.bool true) ∧ Below W.heap.size W w')) := Lib.hid fun j => by
    have hP := proofF_hashes (m := j) hh
    have hq : (proofF ls j).1.length ≤ 9223372036854775807 := by
      unfold proofF
      split
      · simp
      · exact Nat.le_trans (proofL_length 63 ls j.toNat (by rw [← hn.out]; omega)) (by decide)
    refine ⟨(proofF ls j).1, (proofF ls j).1.length, (proofF ls j).2, hq, fun W hW => ?_, fun W hW => ?_, fun W B D b d h1 h2 => ?_⟩
    · have := proof_any ls hh A c W hW.1 hW.2.1 hc hcm j
      rw [← hn.out] at this
      refine this.mono ?_
      rintro e w' ⟨A', c', he, _, _, h3, h4⟩
      exact ⟨A', c', he, h3, h4⟩
    · have := refProof_any ls hh A c W hW.1 hc hcm j
      rw [← hn.out] at this
      refine this.mono ?_
      rintro e w' ⟨A', c', he, _, _, h3, h4⟩
      exact ⟨A', c', he, h3, h4⟩
    · refine (lsame_any (proofF ls j).1 (proofF ls j).1 hP hP hq hq B D b d W h1 h2).mono ?_
      rintro e w' ⟨he, k, rfl⟩
      exact ⟨by rw [he, decide_eq_true rfl], below_drewN (Below.refl _ _) k⟩
  rw [← hn.out]
  clear hA hT hc hcm hh
  by_cases h80 : 60 < n
  · have d1 : decide (60 < (n : Int)) = true := decide_eq_true (by omega)
    have d2 : (60 : Int) < (n : Int) := by omega
    go_enter Tryd.func3, Tryd.ntmps3
    go_wp2_with (go_at_call 7; (with_reducible refine (proved_any _ HT.out).mono ?_); rintro e w1 ⟨rfl, hb⟩; have HB1 := Lib.hid hb; clear hb)
    go_ret
    exact ⟨rfl, HB1.out⟩
  · have d1 : decide (60 < (n : Int)) = false := decide_eq_false (by omega)
    have d2 : ¬ (60 : Int) < (n : Int) := by omega
    have d3 : (n : Int) ≤ 60 := by omega
    go_enter Tryd.func3, Tryd.ntmps3
    go_wp2
    go_loopw [5] (fun s5 wr => ∃ k : Int, s5 = .int .i64 k ∧ -1 ≤ k ∧ k ≤ (n : Int) + 3 ∧ Hid (PlH w A ls wr)) (fun s5 _ => ((n : Int) + 3 - intOf s5).toNat)
    case atStart => exact ⟨-1, rfl, by omega, by omega, H0⟩
    case round =>
      clear H0
      obtain ⟨k, rfl, hk1, hk2, HB⟩ := hrel
      by_cases hlt : k ≤ (n : Int) + 2
      · by_cases he : k = (n : Int) + 2
        · have d4 : (k == (n : Int) + 2) = true := by simp [he]
          obtain ⟨P, q, E, hq, PA, PB, PS⟩ := PJ.out i
          have PA := Lib.hid PA
          have PB := Lib.hid PB
          have PS := Lib.hid PS
          clear he
          go_wp2_with (first
            | (go_at_call 8; (with_reducible refine (PA.out _ HB.out).mono ?_); rintro e w2 ⟨A1, c1, rfl, ha, hb⟩; have H2 := Lib.hid (HB.out.next hb); have HA2 := Lib.hid ha; clear ha hb)
            | (go_at_call 9; (with_reducible refine (PB.out _ H2.out).mono ?_); rintro e w3 ⟨A2, c2, rfl, ha, hb⟩; have H3 := Lib.hid (H2.out.next hb); have HA3 := Lib.hid (HA2.out.next hb); have HD3 := Lib.hid ha; clear ha hb)
            | (go_at_call 10; (with_reducible refine (PS.out _ _ _ _ _ HA3.out HD3.out).mono ?_); rintro e w4 ⟨rfl, hb⟩; have H4 := Lib.hid (H3.out.next hb); clear hb))
          go_roundw
          case rel => exact ⟨k + 1, by go_num, by omega, by omega, H4⟩
          case measure => simp [intOf]; omega
        · have d4 : (k == (n : Int) + 2) = false := by simpa using he
          obtain ⟨P, q, E, hq, PA, PB, PS⟩ := PJ.out k
          have PA := Lib.hid PA
          have PB := Lib.hid PB
          have PS := Lib.hid PS
          clear he
          go_wp2_with (first
            | (go_at_call 8; (with_reducible refine (PA.out _ HB.out).mono ?_); rintro e w2 ⟨A1, c1, rfl, ha, hb⟩; have H2 := Lib.hid (HB.out.next hb); have HA2 := Lib.hid ha; clear ha hb)
            | (go_at_call 9; (with_reducible refine (PB.out _ H2.out).mono ?_); rintro e w3 ⟨A2, c2, rfl, ha, hb⟩; have H3 := Lib.hid (H2.out.next hb); have HA3 := Lib.hid (HA2.out.next hb); have HD3 := Lib.hid ha; clear ha hb)
            | (go_at_call 10; (with_reducible refine (PS.out _ _ _ _ _ HA3.out HD3.out).mono ?_); rintro e w4 ⟨rfl, hb⟩; have H4 := Lib.hid (H3.out.next hb); clear hb))
          go_roundw
          case rel => exact ⟨k + 1, by go_num, by omega, by omega, H4⟩
          case measure => simp [intOf]; omega
      · have HTB : Hid (Tab wr) := Lib.hid HB.out.2.1
        go_wp2_with (go_at_call 7; (with_reducible refine (proved_any _ HTB.out).mono ?_); rintro e w3 ⟨rfl, hb⟩; have HB1 := Lib.hid (below_new HB.out.2.2 hb); clear hb)
        go_ret
        exact ⟨rfl, HB1.out⟩
end Go.Proofs.YtkjgkeigfebcmaaDoor
