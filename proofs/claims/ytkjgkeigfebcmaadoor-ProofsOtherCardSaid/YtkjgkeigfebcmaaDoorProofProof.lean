/-
  The walk of Proof (layer 7): what proves that leaves are the beginning of others. Conditions: the two tables as they were laid, a list of hashes in memory. What it makes is new memory; nothing that was there changes.
-/
import Derived.Test.YtkjgkeigfebcmaaDoorProofMath
import Derived.Test.YtkjgkeigfebcmaaDoorPathReverse
import Derived.Test.YtkjgkeigfebcmaaDoorTreeTop
namespace Go.Proofs.YtkjgkeigfebcmaaDoor
open Go.RowKit Go.Great
set_option linter.unusedVariables false
set_option maxRecDepth 100000

def sliceN : Value → Nat
  | .slice _ n _ => n
  | _ => 0
theorem subL_short (ls : List (List Int)) (m : Nat) (known : Bool) (hm : ls.length ≤ 9223372036854775807) : (subL ls m known).length ≤ 64 := subL_length 63 ls m known (by omega)
attribute [local go_sem ↓ high] read_at write_at
set_option maxHeartbeats 8000000 in
theorem proof_some (ls : List (List Int)) (hh : hashes ls) (A : Option Addr) (c : Nat) (w : World) (hA : HL w w.heap.size A ls) (hT : Tab w) (hc : ls.length ≤ c) (hcm : c ≤ maxLen) (i : Nat) (hi0 : 1 ≤ i) (hi : i ≤ ls.length) :
    Calls Tryd.prog 8 #[.slice A ls.length c, .int .i64 (i : Int)] w (GivesL w (subL ls i true, 0)) := by
  obtain ⟨i0, hi0', hz0, hz1, hz2⟩ := info_parts infoHash
  obtain ⟨n, hn⟩ : ∃ n, Hid (n = ls.length) := ⟨_, Lib.hid rfl⟩
  unfold maxLen at hcm
  have hcc : c ≤ 9223372036854775807 := by omega
  obtain ⟨P, hP⟩ : ∃ P, Hid (P = subL ls i true) := ⟨_, Lib.hid rfl⟩
  have hP64 : Hid (P.length ≤ 64) := Lib.hid (by rw [hP.out]; exact subL_short ls i true (by omega))
  have hPh : Hid (hashes P) := Lib.hid (by rw [hP.out]; exact subL_hashes _ ls i true rfl hh)
  have HI : Hid (HL w w.heap.size A ls ∧ hashes ls ∧ subL ls i true ++ ([] : List (List Int)).reverse = P) := Lib.hid ⟨hA, hh, by rw [hP.out]; simp⟩
  rw [← hn.out] at hc hi ⊢
  rw [← hP.out]
  have d1 : decide ((i : Int) < 0) = false := decide_eq_false (by omega)
  have d2 : decide ((n : Int) < (i : Int)) = false := decide_eq_false (by omega)
  have d3 : decide (n < i) = false := decide_eq_false (by omega)
  have d5 : ((i : Int) == 0) = false := by simp; omega
  have HT := Lib.hid hT
  clear hA hh hT hcm
  go_enter Tryd.func8, Tryd.ntmps8
  go_wp2
  go_loopw [0, 1, 6, 7] (fun s0 s1 s6 s7 wr => ∃ (A' : Option Addr) (m c' i' : Nat) (kn : Bool) (ls' acc : List (List Int)) (v : Value), s0 = .slice A' m c' ∧ s1 = .int .i64 (i' : Int) ∧ v = s6 ∧ s7 = .bool kn ∧ 1 ≤ i' ∧ i' ≤ m ∧ m ≤ c' ∧ c' ≤ 9223372036854775807 ∧ Hid (m = ls'.length) ∧ Hid (HL w w.heap.size A' ls' ∧ hashes ls' ∧ subL ls' i' kn ++ acc.reverse = P) ∧ Hid (hashes acc) ∧ Hid (OwnL w wr v acc.length acc)) (fun s0 _ _ _ _ => sliceN s0)
  case atStart => exact ⟨A, n, c, i, true, ls, [], _, rfl, rfl, rfl, rfl, hi0, hi, hc, hcc, hn, HI, Lib.hid (fun _ h => nomatch h), Lib.hid (OwnL.start _)⟩
  case round =>
    clear HI hn d1 d2 d3 d5 hi hi0
    obtain ⟨A', m, c', i', kn, ls', acc, v, rfl, rfl, rfl, rfl, hi1, him, hmc, hcc', hm, HI, HA, HO⟩ := hrel
    by_cases h2 : m ≤ i'
    · have dm : decide ((i' : Int) < (m : Int)) = false := decide_eq_false (by omega)
      have dm2 : decide (i' < m) = false := decide_eq_false (by omega)
      have dm3 : ¬ ((i' : Int) < (m : Int)) := by omega
      cases kn with
      | true =>
        have hE : Hid (acc = P.reverse) := Lib.hid (by
          have := HI.out.2.2
          rw [subL_known ls' i' (by rw [← hm.out]; exact h2), List.nil_append] at this
          rw [← this, List.reverse_reverse])
        obtain ⟨q, hq⟩ : ∃ q, Hid (q = P.length) := ⟨_, Lib.hid rfl⟩
        have hal : acc.length = q := by rw [hE.out, List.length_reverse, hq.out]
        obtain ⟨A9, c9, hv, hcap, hcm9⟩ : ∃ A c, v = .slice A q c ∧ Hid (q ≤ c) ∧ Hid (c ≤ maxLen) := by
          obtain ⟨A, c, e1, e2, e3, e4⟩ := HO.out.lead2 HA.out
          rw [hal] at e1 e2
          exact ⟨A, c, e1, Lib.hid e2, Lib.hid e3⟩
        subst hv
        have R1 : Hid (Calls Tryd.prog 17 #[.slice A9 q c9] wr fun e w' => (∃ v, e = .returned v) ∧ HL w' w'.heap.size A9 P ∧ Below w.heap.size wr w') := Lib.hid (by
          have := reverse_any acc HA.out A9 c9 wr w.heap.size (by rw [hal]; have h9 := HO.out.1; rw [hal] at h9; exact h9)
          rw [hal, hE.out, List.reverse_reverse] at this
          exact this)
        have HBW := Lib.hid HO.out.2
        clear hal HA HO
        go_wp2_with (go_at_call 17; (with_reducible refine R1.out.mono ?_); rintro e w2x ⟨⟨v2, rfl⟩, hl, hb⟩; have HL2 := Lib.hid hl; have HB2 := Lib.hid hb; clear hl hb)
        go_ret2
        exact ⟨A9, c9, by rw [← hq.out]; rfl, by rw [← hq.out]; exact hcap.out, hcm9.out, HL2.out, HBW.out.trans HB2.out⟩
      | false =>
        obtain ⟨y, hy⟩ : ∃ y, Hid (y = rootL ls') := ⟨_, Lib.hid rfl⟩
        obtain ⟨C, hC⟩ : ∃ C, Hid (C = nums .u8 y) := ⟨_, Lib.hid rfl⟩
        have hy32 : y.length = 32 ∧ bytes y := by rw [hy.out]; exact rootL_is _ HI.out.2.1
        have HY32 := Lib.hid hy32
        have zC : Hid (C.size = 32) := Lib.hid (by rw [hC.out, nums_size]; exact hy32.1)
        have HTr := Lib.hid (HT.out.next HO.out.2)
        have X1 : Hid (Calls Tryd.prog 14 #[.slice A' m c'] wr fun ev w' => ev = .returned (.agg C) ∧ Below wr.heap.size wr w') := Lib.hid (by
          have := root_any ls' HI.out.2.1 A' c' wr ((HI.out.1.next HO.out.2 (Nat.le_refl _)).more HO.out.2.size) HTr.out (by rw [← hm.out]; omega)
          rwa [← hm.out, ← hy.out, ← hC.out] at this)
        have hE : Hid (acc ++ [y] = P.reverse) := Lib.hid (by
          have := HI.out.2.2
          rw [subL_not ls' i' (by rw [← hm.out]; exact h2), ← hy.out] at this
          rw [← this]; simp)
        have zM : Hid (acc.length + 1 ≤ 8192) := Lib.hid (by
          have h1 := congrArg List.length hE.out
          rw [List.length_append, List.length_reverse, List.length_singleton] at h1
          have := hP64.out
          omega)
        have HNA : Hid (hashes (acc ++ [y])) := Lib.hid (hashes_snoc HA.out hy32)
        clear hy32 HI
        go_upto_region 16 with (first
          | (go_at_call 14; (with_reducible refine X1.out.mono ?_); rintro e w2 ⟨rfl, hb⟩; have HB2 := Lib.hid hb; clear hb)
          | (refine wpList_buildOne rfl _ rfl C rfl zC.out ?_)
          | (at_builtin; refine wpList_append_own _ rfl (.tmp 54) (.tmp 57) 22 rfl w.heap.size 30 i0 _ 32 32 Tryd.underlying22 hi0' hz0 hz1 hz2 (by simp [Value.cells, nums]) (by decide) _ _ _ rfl ((own_below HO.out.1 HB2.out).alloc _) ⟨w2.heap.size, 0, none⟩ 1 1 (y.map (Value.int .u8)) rfl ?cc0 ?cc1 ?cc2 (by have := zM.out; unfold maxLen; omega) (by have := zM.out; omega) ?cc5 ?_))
        case cc0 => rw [List.length_map, HY32.out.1]
        case cc1 =>
          intro j u hj
          rw [add_flat, cell_of_row _ w2.heap.size j _ _ _ (heap_alloc_new w2 _), hC.out]
          simpa [nums] using hj
        case cc2 =>
          intro u hu
          obtain ⟨z, _, rfl⟩ := List.mem_map.1 hu
          rfl
        case cc5 => have := HO.out.2.size; have := HB2.out.size; simp; omega
        intro v' w4 hown hgrow _
        have HO2 := Lib.hid (HO.out.next HB2.out hown hgrow)
        clear hown hgrow HO HB2 HA
        obtain ⟨bcc, hbcc⟩ : ∃ bcc, Hid (bcc = acc ++ [y]) := ⟨_, Lib.hid rfl⟩
        have HO : Hid (OwnL w w4 v' bcc.length bcc) := Lib.hid (by rw [hbcc.out, List.length_append]; exact HO2.out)
        have HA : Hid (hashes bcc) := Lib.hid (by rw [hbcc.out]; exact HNA.out)
        have hE : Hid (bcc = P.reverse) := Lib.hid (by rw [hbcc.out]; exact hE.out)
        clear HO2 HNA hbcc
        obtain ⟨q, hq⟩ : ∃ q, Hid (q = P.length) := ⟨_, Lib.hid rfl⟩
        have hal : bcc.length = q := by rw [hE.out, List.length_reverse, hq.out]
        obtain ⟨A9, c9, hv, hcap, hcm9⟩ : ∃ A c, v' = .slice A q c ∧ Hid (q ≤ c) ∧ Hid (c ≤ maxLen) := by
          obtain ⟨A, c, e1, e2, e3, e4⟩ := HO.out.lead2 HA.out
          rw [hal] at e1 e2
          exact ⟨A, c, e1, Lib.hid e2, Lib.hid e3⟩
        subst hv
        have R1 : Hid (Calls Tryd.prog 17 #[.slice A9 q c9] w4 fun e w' => (∃ v, e = .returned v) ∧ HL w' w'.heap.size A9 P ∧ Below w.heap.size w4 w') := Lib.hid (by
          have := reverse_any bcc HA.out A9 c9 w4 w.heap.size (by rw [hal]; have h9 := HO.out.1; rw [hal] at h9; exact h9)
          rw [hal, hE.out, List.reverse_reverse] at this
          exact this)
        have HBW := Lib.hid HO.out.2
        clear hal HA HO
        go_wp2_with (go_at_call 17; (with_reducible refine R1.out.mono ?_); rintro e w2x ⟨⟨v2, rfl⟩, hl, hb⟩; have HL2 := Lib.hid hl; have HB2 := Lib.hid hb; clear hl hb)
        go_ret2
        exact ⟨A9, c9, by rw [← hq.out]; rfl, by rw [← hq.out]; exact hcap.out, hcm9.out, HL2.out, HBW.out.trans HB2.out⟩
    · have dm : (i' : Int) < (m : Int) := by omega
      obtain ⟨k, hk⟩ : ∃ k, Hid (k = splitN m) := ⟨_, Lib.hid rfl⟩
      have hk1 : 0 < k := by rw [hk.out]; exact splitN_pos _ (by omega)
      have hk2 : k < m := by rw [hk.out]; exact splitN_lt _ (by omega)
      have S1 : Hid (∀ W, Calls Tryd.prog 16 #[.int .i64 (m : Int)] W fun ev w' => ev = .returned (.int .i64 (k : Int)) ∧ W = w') := Lib.hid fun W =>
        (split_any (m : Int) (by omega) W).mono fun ev w' ⟨he, hw⟩ => ⟨by rw [he]; unfold splitI; rw [show ((m : Int)).toNat = m by omega, hk.out], hw⟩
      obtain ⟨ad, rfl⟩ := HI.out.1.some 0 (by rw [← hm.out]; omega)
      have HLI := Lib.hid HI.out.1
      have HHI := Lib.hid HI.out.2.1
      have HTr := Lib.hid (HT.out.next HO.out.2)
      have hks : Hid (splitN ls'.length = k) := Lib.hid (by rw [hk.out, hm.out])
      have zM : Hid (acc.length + 1 ≤ 8192) := Lib.hid (by
        have h1 := congrArg List.length HI.out.2.2
        rw [List.length_append, List.length_reverse] at h1
        have := hP64.out
        omega)
      have b1 : (k : Int) ≤ (m : Int) := by omega
      have b2 : (k : Int) ≤ (c' : Int) := by omega
      have b3 : (m : Int) ≤ (c' : Int) := by omega
      have b4 : (0 : Int) ≤ (k : Int) := by omega
      have b5 : ((m : Int) - (k : Int)).toNat = m - k := by omega
      have b6 : ((c' : Int) - (k : Int)).toNat = c' - k := by omega
      have b8 : ¬ (c' = k) := by omega
      by_cases hlt : i' ≤ k
      · have dl : (i' : Int) ≤ (k : Int) := by omega
        have lp : (ls'.drop k).length = m - k := by rw [List.length_drop, ← hm.out]
        have lk : (ls'.take k).length = k := by rw [List.length_take, ← hm.out]; omega
        obtain ⟨y, hy⟩ : ∃ y, Hid (y = rootL (ls'.drop k)) := ⟨_, Lib.hid rfl⟩
        obtain ⟨C, hC⟩ : ∃ C, Hid (C = nums .u8 y) := ⟨_, Lib.hid rfl⟩
        have hy32 : y.length = 32 ∧ bytes y := by rw [hy.out]; exact rootL_is _ (hashes_drop HHI.out k)
        have HY32 := Lib.hid hy32
        have zC : Hid (C.size = 32) := Lib.hid (by rw [hC.out, nums_size]; exact hy32.1)
        have X1 : Hid (Calls Tryd.prog 14 #[.slice (some (ad.add (k * 32))) (m - k) (c' - k)] wr fun ev w' => ev = .returned (.agg C) ∧ Below wr.heap.size wr w') := Lib.hid (by
          have := root_any (ls'.drop k) (hashes_drop HHI.out k) (some (ad.add (k * 32))) (c' - k) wr ((((HLI.out.drop k).next HO.out.2 (Nat.le_refl _)).more HO.out.2.size)) HTr.out (by rw [lp]; omega)
          rwa [lp, ← hy.out, ← hC.out] at this)
        have HN : Hid (HL w w.heap.size (some ad) (ls'.take k) ∧ hashes (ls'.take k) ∧ subL (ls'.take k) i' kn ++ (acc ++ [y]).reverse = P) := Lib.hid ⟨HLI.out.take k, hashes_take HHI.out k, by
          rw [← HI.out.2.2, subL_left ls' i' kn hi1 (by rw [← hm.out]; omega) (by rw [hks.out]; exact hlt), hks.out, ← hy.out]; simp⟩
        have HNm : Hid (k = (ls'.take k).length) := Lib.hid lk.symm
        have HNA : Hid (hashes (acc ++ [y])) := Lib.hid (hashes_snoc HA.out hy32)
        clear lp lk hy32 HI HA
        go_wp2_with (first
          | (go_at_call 16; (with_reducible refine (S1.out _).mono ?_); rintro e w' ⟨rfl, rfl⟩)
          | (go_at_call 14; (with_reducible refine X1.out.mono ?_); rintro e w2 ⟨rfl, hb⟩; have HB2 := Lib.hid hb; clear hb)
          | (refine wpList_buildOne rfl _ rfl C rfl zC.out ?_)
          | (at_builtin; refine wpList_append_own _ rfl (.tmp 29) (.tmp 34) 22 rfl w.heap.size 30 i0 _ 32 32 Tryd.underlying22 hi0' hz0 hz1 hz2 (by simp [Value.cells, nums]) (by decide) _ _ _ rfl ((own_below HO.out.1 HB2.out).alloc _) ⟨w2.heap.size, 0, none⟩ 1 1 (y.map (Value.int .u8)) rfl ?cc0 ?cc1 ?cc2 (by have := zM.out; unfold maxLen; omega) (by have := zM.out; omega) ?cc5 ?_))
        case cc0 => rw [List.length_map, HY32.out.1]
        case cc1 =>
          intro j u hj
          rw [add_flat, cell_of_row _ w2.heap.size j _ _ _ (heap_alloc_new w2 _), hC.out]
          simpa [nums] using hj
        case cc2 =>
          intro u hu
          obtain ⟨z, _, rfl⟩ := List.mem_map.1 hu
          rfl
        case cc5 => have := HO.out.2.size; have := HB2.out.size; simp; omega
        intro v' w4 hown hgrow _
        have HO2 := Lib.hid (HO.out.next HB2.out hown hgrow)
        clear hown hgrow HO HB2
        go_wp2
        go_roundw
        case rel => exact ⟨some ad, k, c', i', kn, ls'.take k, _, _, by go_num, by go_num, rfl, rfl, hi1, by omega, by omega, by omega, HNm, HN, HNA, Lib.hid (by rw [List.length_append]; exact HO2.out)⟩
        case measure => simp [sliceN]; omega
      · have dl2 : ¬ ((i' : Int) ≤ (k : Int)) := by omega
        have dl : decide ((i' : Int) ≤ (k : Int)) = false := decide_eq_false dl2
        have dl3 : (i' : Int) - (k : Int) = ((i' - k : Nat) : Int) := by omega
        have lp : (ls'.take k).length = k := by rw [List.length_take, ← hm.out]; omega
        have lk : (ls'.drop k).length = m - k := by rw [List.length_drop, ← hm.out]
        obtain ⟨y, hy⟩ : ∃ y, Hid (y = rootL (ls'.take k)) := ⟨_, Lib.hid rfl⟩
        obtain ⟨C, hC⟩ : ∃ C, Hid (C = nums .u8 y) := ⟨_, Lib.hid rfl⟩
        have hy32 : y.length = 32 ∧ bytes y := by rw [hy.out]; exact rootL_is _ (hashes_take HHI.out k)
        have HY32 := Lib.hid hy32
        have zC : Hid (C.size = 32) := Lib.hid (by rw [hC.out, nums_size]; exact hy32.1)
        have X1 : Hid (Calls Tryd.prog 14 #[.slice (some ad) k c'] wr fun ev w' => ev = .returned (.agg C) ∧ Below wr.heap.size wr w') := Lib.hid (by
          have := root_any (ls'.take k) (hashes_take HHI.out k) (some ad) c' wr ((((HLI.out.take k).next HO.out.2 (Nat.le_refl _)).more HO.out.2.size)) HTr.out (by rw [lp]; omega)
          rwa [lp, ← hy.out, ← hC.out] at this)
        have HN : Hid (HL w w.heap.size (some (ad.add (k * 32))) (ls'.drop k) ∧ hashes (ls'.drop k) ∧ subL (ls'.drop k) (i' - k) false ++ (acc ++ [y]).reverse = P) := Lib.hid ⟨HLI.out.drop k, hashes_drop HHI.out k, by
          rw [← HI.out.2.2, subL_right ls' i' kn hi1 (by rw [← hm.out]; omega) (by rw [hks.out]; exact hlt), hks.out, ← hy.out]; simp⟩
        have HNm : Hid (m - k = (ls'.drop k).length) := Lib.hid lk.symm
        have HNA : Hid (hashes (acc ++ [y])) := Lib.hid (hashes_snoc HA.out hy32)
        clear lp lk hy32 HI HA
        go_wp2_with (first
          | (go_at_call 16; (with_reducible refine (S1.out _).mono ?_); rintro e w' ⟨rfl, rfl⟩)
          | (go_at_call 14; (with_reducible refine X1.out.mono ?_); rintro e w2 ⟨rfl, hb⟩; have HB2 := Lib.hid hb; clear hb)
          | (refine wpList_buildOne rfl _ rfl C rfl zC.out ?_)
          | (at_builtin; refine wpList_append_own _ rfl (.tmp 39) (.tmp 44) 22 rfl w.heap.size 30 i0 _ 32 32 Tryd.underlying22 hi0' hz0 hz1 hz2 (by simp [Value.cells, nums]) (by decide) _ _ _ rfl ((own_below HO.out.1 HB2.out).alloc _) ⟨w2.heap.size, 0, none⟩ 1 1 (y.map (Value.int .u8)) rfl ?cc0 ?cc1 ?cc2 (by have := zM.out; unfold maxLen; omega) (by have := zM.out; omega) ?cc5 ?_))
        case cc0 => rw [List.length_map, HY32.out.1]
        case cc1 =>
          intro j u hj
          rw [add_flat, cell_of_row _ w2.heap.size j _ _ _ (heap_alloc_new w2 _), hC.out]
          simpa [nums] using hj
        case cc2 =>
          intro u hu
          obtain ⟨z, _, rfl⟩ := List.mem_map.1 hu
          rfl
        case cc5 => have := HO.out.2.size; have := HB2.out.size; simp; omega
        intro v' w4 hown hgrow _
        have HO2 := Lib.hid (HO.out.next HB2.out hown hgrow)
        clear hown hgrow HO HB2
        go_wp2
        go_roundw
        case rel => exact ⟨some (ad.add (k * 32)), m - k, c' - k, i' - k, false, ls'.drop k, _, _, by go_num, by go_num, rfl, rfl, by omega, by omega, by omega, by omega, HNm, HN, HNA, Lib.hid (by rw [List.length_append]; exact HO2.out)⟩
        case measure => simp [sliceN]; omega
theorem proof_any (ls : List (List Int)) (hh : hashes ls) (A : Option Addr) (c : Nat) (w : World) (hA : HL w w.heap.size A ls) (hT : Tab w) (hc : ls.length ≤ c) (hcm : c ≤ maxLen) (i : Int) :
    Calls Tryd.prog 8 #[.slice A ls.length c, .int .i64 i] w (GivesL w (proofF ls i)) := by
  by_cases h : i < 0 ∨ (ls.length : Int) < i
  · obtain ⟨n, hn⟩ : ∃ n, Hid (n = ls.length) := ⟨_, Lib.hid rfl⟩
    rw [proofF_no h]
    rw [← hn.out] at h ⊢
    by_cases h1 : i < 0
    · have d1 : decide (i < 0) = true := decide_eq_true h1
      clear h hA hT hh hc hcm
      go_enter Tryd.func8, Tryd.ntmps8
      go_wp2
      go_ret2
      exact ⟨none, 0, rfl, Nat.le_refl _, by decide, HL.nil _ _ _, Below.refl _ _⟩
    · have d1 : decide (i < 0) = false := decide_eq_false h1
      have h2 : (n : Int) < i := h.resolve_left h1
      have d2 : decide ((n : Int) < i) = true := decide_eq_true h2
      clear h hA hT hh hc hcm
      go_enter Tryd.func8, Tryd.ntmps8
      go_wp2
      go_ret2
      exact ⟨none, 0, rfl, Nat.le_refl _, by decide, HL.nil _ _ _, Below.refl _ _⟩
  · obtain ⟨I, rfl⟩ : ∃ I : Nat, i = I := ⟨i.toNat, by omega⟩
    rw [proofF_ok (by omega)]
    by_cases h0 : I = 0
    · subst h0
      rw [proofL_zero]
      obtain ⟨n, hn⟩ : ∃ n, Hid (n = ls.length) := ⟨_, Lib.hid rfl⟩
      rw [← hn.out]
      have d2 : decide ((n : Int) < 0) = false := decide_eq_false (by omega)
      have d3 : ¬ (n : Int) < 0 := by omega
      clear h hA hT hh hc hcm
      go_enter Tryd.func8, Tryd.ntmps8
      go_wp2
      go_ret2
      exact ⟨none, 0, rfl, Nat.le_refl _, by decide, HL.nil _ _ _, Below.refl _ _⟩
    · rw [proofL_some ls I (by omega)]
      exact proof_some ls hh A c w hA hT hc hcm I (by omega) (by omega)
end Go.Proofs.YtkjgkeigfebcmaaDoor
