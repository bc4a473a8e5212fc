/-
  The walk of codec.Unhashes (layer 3).
-/
import Derived.Test.YtcafjmaimohljaaUnhashes
namespace Go.Proofs.Ytcafjmaimohljaa
open Go.RowKit
set_option linter.unusedVariables false

/-- What Unhashes answers. -/
def UnhsPost (s : ByteArray) (w : World) (e : Ending) (w' : World) : Prop := Below w.heap.size w w' ∧ match unhsR s with
  | none => e = .returned (.tuple #[.slice none 0 0, .string ⟨#[]⟩, .bool false])
  | some (n, p) => ∃ A c, e = .returned (.tuple #[.slice A n c, .string ((s.extract p s.size).extract (32 * n) (s.extract p s.size).size), .bool true]) ∧ HL w' w'.heap.size A (chunk (textL (s.extract p s.size)) n)
theorem UnhsPost.no {s : ByteArray} {w w' : World} {e : Ending} (h : unhsR s = none) (he : e = .returned (.tuple #[.slice none 0 0, .string ⟨#[]⟩, .bool false])) (hb : Below w.heap.size w w') : UnhsPost s w e w' := by
  refine ⟨hb, ?_⟩
  rw [h]
  exact he
theorem UnhsPost.yes {s T : ByteArray} {w w' : World} {e : Ending} {n p : Nat} {A : Option Addr} {c : Nat} (h : unhsR s = some (n, p)) (hT : T = s.extract p s.size)
    (he : e = .returned (.tuple #[.slice A n c, .string (T.extract (32 * n) T.size), .bool true])) (hA : HL w' w'.heap.size A (chunk (textL T) n)) (hb : Below w.heap.size w w') : UnhsPost s w e w' := by
  subst hT
  refine ⟨hb, ?_⟩
  rw [h]
  exact ⟨A, c, he, hA⟩
theorem own_below {w w' : World} {base size n : Nat} {e : TypeId} {v : Value} {xs : List Value} (h : w.ownsRow base e size v n xs) (hb : Below w.heap.size w w') : w'.ownsRow base e size v n xs := by
  obtain ⟨h1, h2⟩ := h
  refine ⟨h1, ?_⟩
  rcases h2 with h2 | ⟨g, cap, cur, hv, hB, hg, h3⟩
  · exact .inl h2
  · exact .inr ⟨g, cap, cur, hv, hB, (hb.block g (Array.getElem?_eq_some_iff.1 hg).1).trans hg, h3⟩
theorem ret_tri {a b c a' b' c' : Value} (h : a = a') (h2 : b = b') (h3 : c = c') : Ending.returned (.tuple #[a, b, c]) = .returned (.tuple #[a', b', c']) := by rw [h, h2, h3]
theorem extract_next (T : ByteArray) (k : Nat) : (T.extract (32 * k) T.size).extract 32 (T.extract (32 * k) T.size).size = T.extract (32 * (k + 1)) T.size := by
  apply textL_inj
  rw [textL_rest, textL_rest, textL_rest, List.drop_drop, Nat.mul_succ]
theorem extract_first (T : ByteArray) (k : Nat) : (textL (T.extract (32 * k) T.size)).take 32 = ((textL T).drop (32 * k)).take 32 := by rw [textL_rest]
attribute [local go_sem ↓ high] read_at
set_option maxHeartbeats 2000000 in
set_option maxRecDepth 100000 in
theorem unhashes_any (s : ByteArray) (hs : s.size ≤ maxLen) (w : World) :
    Calls Try.prog 23 #[.string s] w fun e w' => UnhsPost s w e w' := by
  rcases hR : readR s with _ | ⟨n, p⟩
  · have hV := Lib.hid (unhsR_none s hR)
    have hc := read_any s hs w
    rw [readV_no s hR] at hc
    clear hR
    go_enter Try.func23, Try.ntmps23
    go_wp2_with (go_at_call 17; (with_reducible refine hc.mono ?_); rintro e w1 ⟨rfl, k, rfl⟩)
    go_ret3
    exact UnhsPost.no hV.out rfl (below_drewN (Below.refl _ _) _)
  · have hc := read_any s hs w
    rw [readV_yes s n p hR] at hc
    have hn := (readR_lt s n p hR).1
    have HR := Lib.hid hR
    obtain ⟨T, hT⟩ : ∃ T, Hid (T = s.extract p s.size) := ⟨_, Lib.hid rfl⟩
    have hTs : T.size ≤ 9223372036854775807 := by rw [hT.out, ByteArray.size_extract]; unfold maxLen at hs; omega
    rw [← hT.out] at hc
    clear hR
    by_cases hbig : 64 < n
    · have hV := Lib.hid (unhsR_no s n p HR.out (by omega))
      have hd : decide (64 < (n : Int)) = true := decide_eq_true (by omega)
      clear hs
      go_enter Try.func23, Try.ntmps23
      go_wp2_with (go_at_call 17; (with_reducible refine hc.mono ?_); rintro e w1 ⟨rfl, k, rfl⟩)
      go_ret3
      exact UnhsPost.no hV.out rfl (below_drewN (Below.refl _ _) _)
    · have hd : decide (64 < (n : Int)) = false := decide_eq_false (by omega)
      have hn64 : n ≤ 64 := by omega
      obtain ⟨i0, hi, hz0, hz1, hz2⟩ := info_parts infoHash
      clear hs hbig
      go_enter Try.func23, Try.ntmps23
      go_wp2_with (go_at_call 17; (with_reducible refine hc.mono ?_); rintro e w1 ⟨rfl, kk, rfl⟩)
      have HB0 : Hid (UnhsRow w (w.drewN kk) (.slice none 0 0) 0 (chunk (textL T) 0)) := Lib.hid ⟨⟨rfl, .inl ⟨rfl, rfl⟩⟩, below_drewN (Below.refl _ _) _⟩
      have hT0 : Hid (T = T.extract (32 * 0) T.size) := Lib.hid (textL_inj _ _ (by rw [textL_rest]; simp))
      go_loopw [2, 3, 6, 7, 8, 22] (fun s2 s3 _ _ _ s22 wr => ∃ k v, s22 = .int .u64 ((k : Nat) : Int) ∧ v = s2 ∧ s3 = .string (T.extract (32 * k) T.size) ∧ k ≤ n ∧ 32 * k ≤ T.size ∧ Hid (UnhsRow w wr v k (chunk (textL T) k))) (fun _ _ _ _ _ s22 _ => (n - intOf s22).toNat)
      case atStart => exact ⟨0, _, rfl, rfl, by rw [← hT0.out], by omega, by omega, HB0⟩
      case round =>
        clear HB0
        obtain ⟨k, v, rfl, rfl, rfl, hk, hkT, HH⟩ := hrel
        obtain ⟨R, hRR⟩ : ∃ R, Hid (R = T.extract (32 * k) T.size) := ⟨_, Lib.hid rfl⟩
        have hRs : Hid (R.size = T.size - 32 * k) := Lib.hid (by rw [hRR.out, ByteArray.size_extract]; omega)
        have hRm : R.size ≤ maxLen := by unfold maxLen; have := hRs.out; omega
        have hU : Hid (∀ W, Calls Try.prog 21 #[.string R] W fun e w' => e = .returned (unhV R) ∧ Below W.heap.size W w') := Lib.hid fun W => unhash_any R hRm W
        rw [← hRR.out]
        clear hRm
        by_cases hlt : k < n
        · by_cases h32 : R.size < 32
          · have hV := Lib.hid (unhsR_no s n p HR.out (by rw [← hT.out]; have := hRs.out; omega))
            rw [unhV_no R h32] at hU
            clear h32
            go_wp2_with (first
              | (go_at_call 21; (with_reducible refine (hU.out _).mono ?_); rintro e w2 ⟨rfl, hb⟩; have HB2 := Lib.hid hb; clear hb)
              | (refine wpList_store_fresh rfl 27 _ _ rfl (nums .u8 (List.replicate 32 0)) rfl rfl 27 _ (sizeHash _ (by simp)) (by rw [nums_size]; rfl) (nums_one _ _) ?_; intro w3 hS3 hb3; have HB3 := Lib.hid hb3; clear hS3 hb3))
            go_ret3
            exact UnhsPost.no hV.out rfl (below_new HH.out.2 (below_new HB2.out HB3.out))
          · rw [unhV_yes R h32] at hU
            obtain ⟨l, hl⟩ : ∃ l, Hid (l = (textL R).take 32) := ⟨_, Lib.hid rfl⟩
            rw [← hl.out] at hU
            have hll : Hid (l.length = 32) := Lib.hid (by rw [hl.out, List.length_take, textL_length]; omega)
            clear h32
            go_wp2_with (first
              | (go_at_call 21; (with_reducible refine (hU.out _).mono ?_); rintro e w2 ⟨rfl, hb⟩; have HB2 := Lib.hid hb; clear hb)
              | (refine wpList_store_fresh rfl 27 _ _ rfl (nums .u8 l) rfl rfl 27 _ (sizeHash l hll.out) (by rw [nums_size, hll.out]; rfl) (nums_one _ _) ?_; intro w3 hS3 hb3; have s1 := hS3.read (by rw [nums_size, hll.out]); have HB3 := Lib.hid hb3; clear hS3 hb3)
              | (refine wpList_buildOne rfl _ rfl (nums .u8 l) rfl (by rw [nums_size, hll.out]) ?_)
              | (at_builtin; refine wpList_append_own _ rfl (.tmp 32) (.tmp 34) 23 rfl w.heap.size 27 i0 _ 32 32 Try.underlying23 hi hz0 hz1 hz2 (by simp [Value.cells, nums]) (by decide) _ _ _ rfl ((own_below HH.out.1 (below_new HB2.out HB3.out)).alloc _) ⟨w3.heap.size, 0, none⟩ 1 1 (l.map (Value.int .u8)) rfl (by rw [List.length_map, hll.out]) ?cc1 ?cc2 (by unfold maxLen; omega) (by omega) ?cc5 ?_))
            case cc1 =>
              intro j u hj
              rw [add_flat, cell_of_row _ w3.heap.size j _ _ _ (heap_alloc_new w3 _)]
              simpa [nums] using hj
            case cc2 =>
              intro u hu
              obtain ⟨z, _, rfl⟩ := List.mem_map.1 hu
              rfl
            case cc5 => have := (below_new HH.out.2 (below_new HB2.out HB3.out)).size; simp; omega
            intro v' w4 hown hgrow _
            have HN : Hid (UnhsRow w w4 v' (k + 1) (chunk (textL T) (k + 1))) := Lib.hid (by
              have := HH.out.next (below_new HB2.out HB3.out) hown hgrow
              rw [hl.out, hRR.out, extract_first] at this
              exact this)
            clear hown hgrow
            go_wp2
            go_roundw
            case rel => exact ⟨k + 1, _, by go_num, rfl, by rw [hRR.out, extract_next], by omega, by have := hRs.out; have := hll.out; have e := congrArg List.length hl.out; rw [List.length_take, textL_length] at e; omega, HN⟩
            case measure => simp [intOf]; omega
        · have hk9 : Hid (k = n) := Lib.hid (by omega)
          have hV := Lib.hid (unhsR_yes s n p HR.out ⟨hn64, by rw [← hT.out]; have := hk9.out; omega⟩)
          have hR2 : Hid (Value.string R = .string (T.extract (32 * n) T.size)) := Lib.hid (by rw [hRR.out, hk9.out])
          obtain ⟨A, c, hv, hA⟩ : ∃ A c, Hid (v = .slice A n c) ∧ Hid (HL wr wr.heap.size A (chunk (textL T) n)) := by
            obtain ⟨A, c, e1, e2⟩ := HH.out.lead (chunk_length _ _) (chunk_hashes _ _ (by rw [textL_length]; exact hkT) (textL_bytes T))
            rw [hk9.out] at e1 e2
            exact ⟨A, c, Lib.hid e1, Lib.hid e2⟩
          go_wp2
          go_ret3
          exact UnhsPost.yes hV.out hT.out (ret_tri hv.out hR2.out rfl) hA.out HH.out.2
end Go.Proofs.Ytcafjmaimohljaa
