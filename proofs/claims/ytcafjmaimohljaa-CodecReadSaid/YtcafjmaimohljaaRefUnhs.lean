/-
  The walk of the document's Unhashes (layer 3).
-/
import Derived.Test.YtcafjmaimohljaaUnhsWalk
import Derived.Test.YtcafjmaimohljaaRefHash
import Derived.Test.YtcafjmaimohljaaRefRead
namespace Go.Proofs.Ytcafjmaimohljaa
open Go.RowKit
set_option linter.unusedVariables false

attribute [local go_sem ↓ high] read_at
set_option maxHeartbeats 2000000 in
set_option maxRecDepth 100000 in
theorem refUnhashes_any (s : ByteArray) (hs : s.size ≤ maxLen) (w : World) :
    Calls Try.prog 24 #[.string s] w fun e w' => UnhsPost s w e w' := by
  rcases hR : readR s with _ | ⟨n, p⟩
  · have hV := Lib.hid (unhsR_none s hR)
    have hc := refRead_any s hs w
    rw [readV_no s hR] at hc
    clear hR
    go_enter Try.func24, Try.ntmps24
    go_wp2_with (go_at_call 18; (with_reducible refine hc.mono ?_); rintro e w1 ⟨rfl, hb⟩)
    go_ret3
    exact UnhsPost.no hV.out rfl hb
  · have hc := refRead_any s hs w
    rw [readV_yes s n p hR] at hc
    have hn := (readR_lt s n p hR).1
    have HR := Lib.hid hR
    obtain ⟨T, hT⟩ : ∃ T, Hid (T = s.extract p s.size) := ⟨_, Lib.hid rfl⟩
    have hTs : T.size ≤ 9223372036854775807 := by rw [hT.out, ByteArray.size_extract]; unfold maxLen at hs; omega
    rw [← hT.out] at hc
    clear hR
    by_cases hbig : 64 < n
    · have hV := Lib.hid (unhsR_no s n p HR.out (by omega))
      have hd : decide (64 < (n : Int)) = true := decide_eq_true (by omega)
      clear hs
      go_enter Try.func24, Try.ntmps24
      go_wp2_with (go_at_call 18; (with_reducible refine hc.mono ?_); rintro e w1 ⟨rfl, hb⟩)
      go_ret3
      exact UnhsPost.no hV.out rfl hb
    · have hd : decide (64 < (n : Int)) = false := decide_eq_false (by omega)
      have hn64 : n ≤ 64 := by omega
      have wn : IntKind.i64.wrap (n : Int) = (n : Int) := by rw [IntKind.wrap_i64]; omega
      by_cases hshort : T.size < 32 * n
      · have hV := Lib.hid (unhsR_no s n p HR.out (by rw [← hT.out]; omega))
        have hd2 : decide ((T.size : Int) < 32 * (n : Int)) = true := decide_eq_true (by omega)
        clear hs hbig
        go_enter Try.func24, Try.ntmps24
        go_wp2_with (go_at_call 18; (with_reducible refine hc.mono ?_); rintro e w1 ⟨rfl, hb⟩)
        go_ret3
        exact UnhsPost.no hV.out rfl hb
      · have hd2 : decide ((T.size : Int) < 32 * (n : Int)) = false := decide_eq_false (by omega)
        have hTn : 32 * n ≤ T.size := by omega
        have hV := Lib.hid (unhsR_yes s n p HR.out ⟨hn64, by rw [← hT.out]; exact hTn⟩)
        obtain ⟨i0, hi, hz0, hz1, hz2⟩ := info_parts infoHash
        clear hs hbig hshort
        go_enter Try.func24, Try.ntmps24
        go_wp2_with (go_at_call 18; (with_reducible refine hc.mono ?_); rintro e w1 ⟨rfl, hb⟩)
        have HB0 : Hid (UnhsRow w w1 (.slice none 0 0) 0 (chunk (textL T) 0)) := Lib.hid ⟨⟨rfl, .inl ⟨rfl, rfl⟩⟩, hb⟩
        have hT0 : Hid (T = T.extract (32 * 0) T.size) := Lib.hid (textL_inj _ _ (by rw [textL_rest]; simp))
        clear hb
        go_loopw [6, 8, 9, 10, 11, 12] (fun s6 s8 s9 _ _ _ wr => ∃ k v, s9 = .int .i64 ((k : Nat) : Int) ∧ v = s8 ∧ s6 = .string (T.extract (32 * k) T.size) ∧ k ≤ n ∧ 32 * k ≤ T.size ∧ Hid (UnhsRow w wr v k (chunk (textL T) k))) (fun _ _ s9 _ _ _ _ => (n - intOf s9).toNat)
        case atStart => exact ⟨0, _, rfl, rfl, by rw [← hT0.out], by omega, by omega, HB0⟩
        case round =>
          clear HB0
          obtain ⟨k, v, rfl, rfl, rfl, hk, hkT, HH⟩ := hrel
          obtain ⟨R, hRR⟩ : ∃ R, Hid (R = T.extract (32 * k) T.size) := ⟨_, Lib.hid rfl⟩
          have hRs : Hid (R.size = T.size - 32 * k) := Lib.hid (by rw [hRR.out, ByteArray.size_extract]; omega)
          have hRm : R.size ≤ maxLen := by unfold maxLen; have := hRs.out; omega
          have hU : Hid (∀ W, Calls Try.prog 22 #[.string R] W fun e w' => e = .returned (unhV R) ∧ Below W.heap.size W w') := Lib.hid fun W => refUnhash_any R hRm W
          rw [← hRR.out]
          clear hRm
          by_cases hlt : k < n
          · rw [unhV_yes R (by have := hRs.out; omega)] at hU
            obtain ⟨l, hl⟩ : ∃ l, Hid (l = (textL R).take 32) := ⟨_, Lib.hid rfl⟩
            rw [← hl.out] at hU
            have hll : Hid (l.length = 32) := Lib.hid (by rw [hl.out, List.length_take, textL_length]; have := hRs.out; omega)
            go_wp2_with (first
              | (go_at_call 22; (with_reducible refine (hU.out _).mono ?_); rintro e w2 ⟨rfl, hb⟩; have HB2 := Lib.hid hb; clear hb)
              | (refine wpList_store_fresh rfl 27 _ _ rfl (nums .u8 l) rfl rfl 27 _ (sizeHash l hll.out) (by rw [nums_size, hll.out]; rfl) (nums_one _ _) ?_; intro w3 hS3 hb3; have s1 := hS3.read (by rw [nums_size, hll.out]); have HB3 := Lib.hid hb3; clear hS3 hb3)
              | (refine wpList_buildOne rfl _ rfl (nums .u8 l) rfl (by rw [nums_size, hll.out]) ?_)
              | (at_builtin; refine wpList_append_own _ rfl (.tmp 45) (.tmp 47) 23 rfl w.heap.size 27 i0 _ 32 32 Try.underlying23 hi hz0 hz1 hz2 (by simp [Value.cells, nums]) (by decide) _ _ _ rfl ((own_below HH.out.1 (below_new HB2.out HB3.out)).alloc _) ⟨w3.heap.size, 0, none⟩ 1 1 (l.map (Value.int .u8)) rfl (by rw [List.length_map, hll.out]) ?cc1 ?cc2 (by unfold maxLen; omega) (by omega) ?cc5 ?_))
            case cc1 =>
              intro j u hj
              rw [add_flat, cell_of_row _ w3.heap.size j _ _ _ (heap_alloc_new w3 _)]
              simpa [nums] using hj
            case cc2 =>
              intro u hu
              obtain ⟨z, _, rfl⟩ := List.mem_map.1 hu
              rfl
            case cc5 => have := (below_new HH.out.2 (below_new HB2.out HB3.out)).size; simp; omega
            intro v' w4 hown hgrow _
            have HN : Hid (UnhsRow w w4 v' (k + 1) (chunk (textL T) (k + 1))) := Lib.hid (by
              have := HH.out.next (below_new HB2.out HB3.out) hown hgrow
              rw [hl.out, hRR.out, extract_first] at this
              exact this)
            clear hown hgrow
            go_wp2
            go_roundw
            case rel => exact ⟨k + 1, _, by go_num, rfl, by rw [hRR.out, extract_next], by omega, by omega, HN⟩
            case measure => simp [intOf]; omega
          · have hk9 : Hid (k = n) := Lib.hid (by omega)
            have hR2 : Hid (Value.string R = .string (T.extract (32 * n) T.size)) := Lib.hid (by rw [hRR.out, hk9.out])
            obtain ⟨A, c, hv, hA⟩ : ∃ A c, Hid (v = .slice A n c) ∧ Hid (HL wr wr.heap.size A (chunk (textL T) n)) := by
              obtain ⟨A, c, e1, e2⟩ := HH.out.lead (chunk_length _ _) (chunk_hashes _ _ (by rw [textL_length]; exact hkT) (textL_bytes T))
              rw [hk9.out] at e1 e2
              exact ⟨A, c, Lib.hid e1, Lib.hid e2⟩
            go_wp2
            go_ret3
            exact UnhsPost.yes hV.out hT.out (ret_tri hv.out hR2.out rfl) hA.out HH.out.2
end Go.Proofs.Ytcafjmaimohljaa
