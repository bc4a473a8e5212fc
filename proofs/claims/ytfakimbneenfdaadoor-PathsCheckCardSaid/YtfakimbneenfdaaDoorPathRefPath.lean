/-
  The walk of the document's Path (layer 6), that calls itself. Condition: a list of hashes in memory. What it makes is new memory; nothing that was there changes.
-/
import Derived.Test.YtfakimbneenfdaaDoorPathPath
import Derived.Test.YtfakimbneenfdaaDoorTreeRefRoot
namespace Go.Proofs.YtfakimbneenfdaaDoor
open Go.RowKit Go.Great
set_option linter.unusedVariables false
set_option maxRecDepth 100000

attribute [local go_sem ↓ high] read_at write_at
set_option maxHeartbeats 8000000 in
theorem refPath_own (b : Nat) : ∀ (ls : List (List Int)) (A : Option Addr) (c : Nat) (w : World) (i : Nat), ls.length ≤ b → hashes ls → HL w w.heap.size A ls → ls.length ≤ c → c ≤ 9223372036854775807 → i < ls.length →
    Calls Tryd.prog 33 #[.slice A ls.length c, .int .i64 (i : Int)] w fun e w' => ∃ A' c', e = .returned (.tuple #[.slice A' (pathL ls i).length c', .int .i64 0]) ∧ OwnL w w' (.slice A' (pathL ls i).length c') (pathL ls i).length (pathL ls i) := by
  induction b with
  | zero => intro ls A c w i hb; omega
  | succ b ih =>
    intro ls A c w i hb hh hA hc hcm hi
    obtain ⟨i0, hi0, hz0, hz1, hz2⟩ := info_parts infoHash
    obtain ⟨n, hn⟩ : ∃ n, Hid (n = ls.length) := ⟨_, Lib.hid rfl⟩
    have hb' : n ≤ b + 1 := by rw [hn.out]; exact hb
    have hi' : i < n := by rw [hn.out]; exact hi
    have d1 : decide ((i : Int) < 0) = false := decide_eq_false (by omega)
    have d2 : decide ((n : Int) ≤ (i : Int)) = false := decide_eq_false (by omega)
    have d3 : decide (n ≤ i) = false := decide_eq_false (by omega)
    have d4 : (i : Int) < (n : Int) := by omega
    by_cases h1 : n = 1
    · have HF : Hid (pathL ls i = []) := Lib.hid (pathL_few ls i (by rw [← hn.out]; omega))
      rw [HF.out, ← hn.out]
      have d5 : ((n : Int) == 1) = true := by rw [h1]; rfl
      clear hb hh hA hc hcm hi ih h1
      go_enter Tryd.func33, Tryd.ntmps33
      go_wp2
      go_ret2
      exact ⟨none, 0, rfl, OwnL.start w⟩
    · have d5 : ((n : Int) == 1) = false := by simp; omega
      obtain ⟨k, hk⟩ : ∃ k, Hid (k = splitN n) := ⟨_, Lib.hid rfl⟩
      have hk1 : 0 < k := by rw [hk.out]; exact splitN_pos _ (by omega)
      have hk2 : k < n := by rw [hk.out]; exact splitN_lt _ (by omega)
      have hcn : n ≤ c := by rw [hn.out]; exact hc
      have S1 : Hid (∀ W, Calls Tryd.prog 55 #[.int .i64 (n : Int)] W fun ev w' => ev = .returned (.int .i64 (k : Int)) ∧ W = w') := Lib.hid fun W =>
        (refSplit_any (n : Int) (by omega) W).mono fun ev w' ⟨he, hw⟩ => ⟨by rw [he]; unfold splitI; rw [show ((n : Int)).toNat = n by omega, hk.out], hw⟩
      obtain ⟨ad, rfl⟩ := hA.some 0 (by rw [← hn.out]; omega)
      have HLI := Lib.hid hA
      have HHI := Lib.hid hh
      have hks : Hid (splitN ls.length = k) := Lib.hid (by rw [hk.out, hn.out])
      obtain ⟨P, hP⟩ : ∃ P, Hid (P = pathL ls i) := ⟨_, Lib.hid rfl⟩
      have hP64 : Hid (P.length ≤ 64) := Lib.hid (by rw [hP.out]; exact pathL_short ls i hi (by omega))
      have b1 : (k : Int) ≤ (n : Int) := by omega
      have b2 : (k : Int) ≤ (c : Int) := by omega
      have b3 : (n : Int) ≤ (c : Int) := by omega
      have b4 : (0 : Int) ≤ (k : Int) := by omega
      have b5 : ((n : Int) - (k : Int)).toNat = n - k := by omega
      have b6 : ((c : Int) - (k : Int)).toNat = c - k := by omega
      have b8 : ¬ (c = k) := by omega
      rw [← hn.out, ← hP.out]
      by_cases hlt : i < k
      · have dl : (i : Int) < (k : Int) := by omega
        obtain ⟨y, hy⟩ : ∃ y, Hid (y = rootL (ls.drop k)) := ⟨_, Lib.hid rfl⟩
        obtain ⟨C, hC⟩ : ∃ C, Hid (C = nums .u8 y) := ⟨_, Lib.hid rfl⟩
        have lp : (ls.drop k).length = n - k := by rw [List.length_drop, ← hn.out]
        have lk : (ls.take k).length = k := by rw [List.length_take, ← hn.out]; omega
        have hy32 : y.length = 32 ∧ bytes y := by rw [hy.out]; exact rootL_is _ (hashes_drop hh k)
        have HY32 := Lib.hid hy32
        have zC : Hid (C.size = 32) := Lib.hid (by rw [hC.out, nums_size]; exact hy32.1)
        have X1 : Hid (∀ W, Below w.heap.size w W → Calls Tryd.prog 49 #[.slice (some (ad.add (k * 32))) (n - k) (c - k)] W fun ev w' => ev = .returned (.agg C) ∧ Below W.heap.size W w') := Lib.hid fun W hW => by
          have := refRoot_any (ls.drop k).length (ls.drop k) (some (ad.add (k * 32))) (c - k) W (Nat.le_refl _) (hashes_drop hh k) (((HLI.out.drop k).next hW (Nat.le_refl _)).more hW.size) (by rw [lp]; omega) (by omega)
          rwa [lp, ← hy.out, ← hC.out] at this
        obtain ⟨Q, hQ⟩ : ∃ Q, Hid (Q = pathL (ls.take k) i) := ⟨_, Lib.hid rfl⟩
        obtain ⟨q, hq⟩ : ∃ q, Hid (q = Q.length) := ⟨_, Lib.hid rfl⟩
        have X0 : Hid (∀ W, Below w.heap.size w W → Calls Tryd.prog 33 #[.slice (some ad) k c, .int .i64 ((i : Int))] W fun e w' => ∃ A' c', e = .returned (.tuple #[.slice A' q c', .int .i64 0]) ∧ OwnL W w' (.slice A' q c') q Q) := Lib.hid fun W hW => by
          have := ih (ls.take k) (some ad) (c) W i (by rw [lk]; omega) (hashes_take hh k) (((HLI.out.take k).next hW (Nat.le_refl _)).more hW.size) (by rw [lk]; omega) (by omega) (by rw [lk]; omega)
          rw [lk, ← hQ.out, ← hq.out] at this
          exact this
        have HN : Hid (P = Q ++ [y]) := Lib.hid (by rw [hP.out, hQ.out, hy.out, pathL_left ls i (by rw [← hn.out]; omega) (by rw [hks.out]; exact hlt), hks.out])
        have zP : Hid (P.length = q + 1) := Lib.hid (by rw [HN.out, List.length_append, hq.out]; rfl)
        have zM : Hid (q + 1 ≤ 8192) := Lib.hid (by have := zP.out; have := hP64.out; omega)
        rw [zP.out]
        have HB0 : Hid (Below w.heap.size w w) := Lib.hid (Below.refl _ _)
        clear lp lk hy32 hA hh ih hi hb
        go_enter Tryd.func33, Tryd.ntmps33
        go_wp2_with (first
          | (go_at_call 55; (with_reducible refine (S1.out _).mono ?_); rintro e w' ⟨rfl, rfl⟩)
          | (go_at_call 33; (with_reducible refine (X0.out _ HB0.out).mono ?_); rintro e w1 ⟨A1, c1, rfl, ho⟩; have HO := Lib.hid ho; have HB1 := Lib.hid ho.2; clear ho)
          | (go_at_call 49; (with_reducible refine (X1.out _ HB1.out).mono ?_); rintro e w2 ⟨rfl, hb⟩; have HB2 := Lib.hid hb; clear hb)
          | (refine wpList_buildOne rfl _ rfl C rfl zC.out ?_)
          | (at_builtin; refine wpList_append_own _ rfl (.tmp 36) (.tmp 41) 22 rfl w.heap.size 31 i0 _ 32 32 Tryd.underlying22 hi0 hz0 hz1 hz2 (by simp [Value.cells, nums]) (by decide) _ _ _ rfl ((own_below HO.out.1 HB2.out).alloc _) ⟨w2.heap.size, 0, none⟩ 1 1 (y.map (Value.int .u8)) rfl ?cc0 ?cc1 ?cc2 (by have := zM.out; unfold maxLen; omega) (by have := zM.out; omega) ?cc5 ?_))
        case cc0 => rw [List.length_map, HY32.out.1]
        case cc1 =>
          intro j u hj
          rw [add_flat, cell_of_row _ w2.heap.size j _ _ _ (heap_alloc_new w2 _), hC.out]
          simpa [nums] using hj
        case cc2 =>
          intro u hu
          obtain ⟨z, _, rfl⟩ := List.mem_map.1 hu
          rfl
        case cc5 => have := HO.out.2.size; have := HB2.out.size; simp; omega
        intro v' w4 hown hgrow _
        have HO2 := Lib.hid (HO.out.next HB2.out hown hgrow)
        clear hown hgrow
        obtain ⟨A2, c2, rfl⟩ := own_form HO2.out.1
        go_wp2
        go_ret2
        exact ⟨A2, c2, rfl, by rw [HN.out]; exact HO2.out⟩
      · have dl : (i : Int) ≥ (k : Int) := by omega
        have dl2 : ¬ ((i : Int) < (k : Int)) := by omega
        have dl3 : (i : Int) - (k : Int) = ((i - k : Nat) : Int) := by omega
        obtain ⟨y, hy⟩ : ∃ y, Hid (y = rootL (ls.take k)) := ⟨_, Lib.hid rfl⟩
        obtain ⟨C, hC⟩ : ∃ C, Hid (C = nums .u8 y) := ⟨_, Lib.hid rfl⟩
        have lp : (ls.take k).length = k := by rw [List.length_take, ← hn.out]; omega
        have lk : (ls.drop k).length = n - k := by rw [List.length_drop, ← hn.out]
        have hy32 : y.length = 32 ∧ bytes y := by rw [hy.out]; exact rootL_is _ (hashes_take hh k)
        have HY32 := Lib.hid hy32
        have zC : Hid (C.size = 32) := Lib.hid (by rw [hC.out, nums_size]; exact hy32.1)
        have X1 : Hid (∀ W, Below w.heap.size w W → Calls Tryd.prog 49 #[.slice (some ad) k c] W fun ev w' => ev = .returned (.agg C) ∧ Below W.heap.size W w') := Lib.hid fun W hW => by
          have := refRoot_any (ls.take k).length (ls.take k) (some ad) (c) W (Nat.le_refl _) (hashes_take hh k) (((HLI.out.take k).next hW (Nat.le_refl _)).more hW.size) (by rw [lp]; omega) (by omega)
          rwa [lp, ← hy.out, ← hC.out] at this
        obtain ⟨Q, hQ⟩ : ∃ Q, Hid (Q = pathL (ls.drop k) (i - k)) := ⟨_, Lib.hid rfl⟩
        obtain ⟨q, hq⟩ : ∃ q, Hid (q = Q.length) := ⟨_, Lib.hid rfl⟩
        have X0 : Hid (∀ W, Below w.heap.size w W → Calls Tryd.prog 33 #[.slice (some (ad.add (k * 32))) (n - k) (c - k), .int .i64 (((i - k : Nat) : Int))] W fun e w' => ∃ A' c', e = .returned (.tuple #[.slice A' q c', .int .i64 0]) ∧ OwnL W w' (.slice A' q c') q Q) := Lib.hid fun W hW => by
          have := ih (ls.drop k) (some (ad.add (k * 32))) (c - k) W (i - k) (by rw [lk]; omega) (hashes_drop hh k) (((HLI.out.drop k).next hW (Nat.le_refl _)).more hW.size) (by rw [lk]; omega) (by omega) (by rw [lk]; omega)
          rw [lk, ← hQ.out, ← hq.out] at this
          exact this
        have HN : Hid (P = Q ++ [y]) := Lib.hid (by rw [hP.out, hQ.out, hy.out, pathL_right ls i (by rw [← hn.out]; omega) (by rw [hks.out]; exact hlt), hks.out])
        have zP : Hid (P.length = q + 1) := Lib.hid (by rw [HN.out, List.length_append, hq.out]; rfl)
        have zM : Hid (q + 1 ≤ 8192) := Lib.hid (by have := zP.out; have := hP64.out; omega)
        rw [zP.out]
        have HB0 : Hid (Below w.heap.size w w) := Lib.hid (Below.refl _ _)
        clear lp lk hy32 hA hh ih hi hb
        go_enter Tryd.func33, Tryd.ntmps33
        go_wp2_with (first
          | (go_at_call 55; (with_reducible refine (S1.out _).mono ?_); rintro e w' ⟨rfl, rfl⟩)
          | (go_at_call 33; (with_reducible refine (X0.out _ HB0.out).mono ?_); rintro e w1 ⟨A1, c1, rfl, ho⟩; have HO := Lib.hid ho; have HB1 := Lib.hid ho.2; clear ho)
          | (go_at_call 49; (with_reducible refine (X1.out _ HB1.out).mono ?_); rintro e w2 ⟨rfl, hb⟩; have HB2 := Lib.hid hb; clear hb)
          | (refine wpList_buildOne rfl _ rfl C rfl zC.out ?_)
          | (at_builtin; refine wpList_append_own _ rfl (.tmp 53) (.tmp 58) 22 rfl w.heap.size 31 i0 _ 32 32 Tryd.underlying22 hi0 hz0 hz1 hz2 (by simp [Value.cells, nums]) (by decide) _ _ _ rfl ((own_below HO.out.1 HB2.out).alloc _) ⟨w2.heap.size, 0, none⟩ 1 1 (y.map (Value.int .u8)) rfl ?cc0 ?cc1 ?cc2 (by have := zM.out; unfold maxLen; omega) (by have := zM.out; omega) ?cc5 ?_))
        case cc0 => rw [List.length_map, HY32.out.1]
        case cc1 =>
          intro j u hj
          rw [add_flat, cell_of_row _ w2.heap.size j _ _ _ (heap_alloc_new w2 _), hC.out]
          simpa [nums] using hj
        case cc2 =>
          intro u hu
          obtain ⟨z, _, rfl⟩ := List.mem_map.1 hu
          rfl
        case cc5 => have := HO.out.2.size; have := HB2.out.size; simp; omega
        intro v' w4 hown hgrow _
        have HO2 := Lib.hid (HO.out.next HB2.out hown hgrow)
        clear hown hgrow
        obtain ⟨A2, c2, rfl⟩ := own_form HO2.out.1
        go_wp2
        go_ret2
        exact ⟨A2, c2, rfl, by rw [HN.out]; exact HO2.out⟩
theorem refPath_any (ls : List (List Int)) (hh : hashes ls) (A : Option Addr) (c : Nat) (w : World) (hA : HL w w.heap.size A ls) (hc : ls.length ≤ c) (hcm : c ≤ maxLen) (i : Int) :
    Calls Tryd.prog 33 #[.slice A ls.length c, .int .i64 i] w (GivesL w (pathF ls i)) := by
  by_cases h : i < 0 ∨ (ls.length : Int) ≤ i
  · obtain ⟨n, hn⟩ : ∃ n, Hid (n = ls.length) := ⟨_, Lib.hid rfl⟩
    rw [pathF_no h]
    rw [← hn.out] at h ⊢
    by_cases h1 : i < 0
    · have d1 : decide (i < 0) = true := decide_eq_true h1
      clear h hA hh hc hcm
      go_enter Tryd.func33, Tryd.ntmps33
      go_wp2
      go_ret2
      exact ⟨none, 0, rfl, Nat.le_refl _, by decide, HL.nil _ _ _, Below.refl _ _⟩
    · have d1 : decide (i < 0) = false := decide_eq_false h1
      have h2 : (n : Int) ≤ i := h.resolve_left h1
      have d2 : decide ((n : Int) ≤ i) = true := decide_eq_true h2
      clear h hA hh hc hcm
      go_enter Tryd.func33, Tryd.ntmps33
      go_wp2
      go_ret2
      exact ⟨none, 0, rfl, Nat.le_refl _, by decide, HL.nil _ _ _, Below.refl _ _⟩
  · obtain ⟨I, rfl⟩ : ∃ I : Nat, i = I := ⟨i.toNat, by omega⟩
    rw [pathF_ok (by omega)]
    refine (refPath_own ls.length ls A c w I (Nat.le_refl _) hh hA hc (by unfold maxLen at hcm; omega) (by omega)).mono ?_
    rintro e w' ⟨A', c', rfl, ho⟩
    obtain ⟨A2, c2, e1, e2, e3, e4⟩ := ho.lead2 (pathL_hashes _ ls I rfl hh)
    cases e1
    exact ⟨A', c', rfl, e2, e3, e4, ho.2⟩
end Go.Proofs.YtfakimbneenfdaaDoor
