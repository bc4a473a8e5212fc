/-
  The walk of the document's Hashes (layer 3): a list's bytes; what it makes is new memory, nothing that was there changes.
-/
import Derived.Test.YtcafjmaimohljaaHashes
import Derived.Test.YtcafjmaimohljaaRefHash
import Derived.Test.YtcafjmaimohljaaRefNum
namespace Go.Proofs.Ytcafjmaimohljaa
open Go.RowKit
set_option linter.unusedVariables false

attribute [local go_sem ↓ high] read_at
set_option maxHeartbeats 1000000 in
set_option maxRecDepth 100000 in
theorem refHashes_any (ls : List (List Int)) (hs : hashes ls) (A : Option Addr) (c : Nat) (w : World) (hA : HL w w.heap.size A ls) (hn : ls.length ≤ maxLen) :
    Calls Try.prog 16 #[.slice A ls.length c] w fun e w' => e = .returned (.string (listS ls)) ∧ Below w.heap.size w w' := by
  unfold maxLen at hn
  obtain ⟨n, hN⟩ : ∃ n, Hid (n = ls.length) := ⟨_, Lib.hid rfl⟩
  have HA := Lib.hid hA
  rw [← hN.out] at hn ⊢
  clear hA
  by_cases hbig : 64 < n
  · have hS : Hid (listS ls = ⟨#[]⟩) := Lib.hid (by unfold listS; rw [if_pos (by rw [← hN.out]; exact hbig)])
    have hd : decide (64 < (n : Int)) = true := decide_eq_true (by omega)
    go_enter Try.func16, Try.ntmps16
    go_wp2
    go_ret
    exact ⟨by rw [hS.out]; rfl, Below.refl _ _⟩
  · have hS : Hid (listS ls = strOfNums (part n ls n)) := Lib.hid (by unfold listS part listL; rw [if_neg (by rw [← hN.out]; exact hbig), hN.out, List.take_length])
    have hd : decide (64 < (n : Int)) = false := decide_eq_false (by omega)
    have hn64 : n ≤ 64 := by omega
    have hL0 := Codec.numL_length n (by omega)
    have hc := refNum_any n (by omega) w
    have hp0 : Hid (numS n = strOfNums (part n ls 0)) := Lib.hid (by unfold numS part; simp)
    have hpl : Hid (∀ k, k ≤ n → (strOfNums (part n ls k)).size ≤ 10 + 32 * k) := Lib.hid fun k hk => by
      rw [strOfNums_size]
      unfold part
      rw [List.length_append, flat_length (hashes_take hs k), List.length_take, ← hN.out]
      omega
    clear hbig
    go_enter Try.func16, Try.ntmps16
    go_wp2_with (go_at_call 12; (with_reducible refine hc.mono ?_); rintro e w1 ⟨rfl, hb⟩; have HB := Lib.hid hb; clear hb)
    go_loopw [3, 4] (fun s3 s4 wr => ∃ k : Nat, k ≤ n ∧ s4 = .int .i64 (k : Int) ∧ s3 = .string (strOfNums (part n ls k)) ∧ Hid (Below w.heap.size w wr)) (fun _ s4 _ => (n - intOf s4).toNat)
    case atStart => exact ⟨0, by omega, rfl, by rw [← hp0.out], HB⟩
    case round =>
      clear HB
      obtain ⟨k, hk, rfl, rfl, HB⟩ := hrel
      by_cases hlt : k < n
      · obtain ⟨ad, rfl⟩ := HA.out.some k (by rw [← hN.out]; exact hlt)
        have s1 := (HA.out.next HB.out (Nat.le_refl _)).read hs k (by rw [← hN.out]; exact hlt)
        obtain ⟨l, hl⟩ : ∃ l, Hid (l = ls.getD k []) := ⟨_, Lib.hid rfl⟩
        rw [← hl.out] at s1
        have hll : Hid (l.length = 32) := Lib.hid (by rw [hl.out]; exact (hashes_at hs k (by rw [← hN.out]; exact hlt)).1)
        have hH : Hid (∀ W, Calls Try.prog 10 #[.agg (nums .u8 l)] W fun e w' => e = .returned (.string (strOfNums l)) ∧ Below W.heap.size W w') := Lib.hid fun W => refHash_any l hll.out W
        obtain ⟨S, hS2⟩ : ∃ S, Hid (S = strOfNums (part n ls k)) := ⟨_, Lib.hid rfl⟩
        have hSs := hpl.out k hk
        rw [← hS2.out] at hSs ⊢
        have ha := join_text S (strOfNums l) (by rw [strOfNums_size, hll.out]; omega)
        clear hSs
        go_wp2_with (go_at_call 10; (with_reducible refine (hH.out _).mono ?_); rintro e w2 ⟨rfl, hb⟩; have HB2 := Lib.hid hb; clear hb)
        go_roundw
        case rel => exact ⟨k + 1, by omega, by go_num, by rw [hS2.out, texts_app, part_next n ls k (by rw [← hN.out]; exact hlt), hl.out], Lib.hid (below_new HB.out HB2.out)⟩
        case measure => simp [intOf]; omega
      · have hk9 : Hid (k = n) := Lib.hid (by omega)
        go_wp2
        go_ret
        exact ⟨ret_txt (by rw [hS.out, hk9.out]), HB.out⟩
end Go.Proofs.Ytcafjmaimohljaa
