/-
  The walk of roots (layer 5): each part's root, of leaves that stand behind others. Conditions: the two tables as they were laid, a list of hashes in memory, no more leaves than there may be. What it makes is new memory; nothing that was there changes.
-/
import Derived.Test.YtfakimbneenfdaaDoorListMem
import Derived.Test.YtfakimbneenfdaaDoorRangeParts
import Derived.Test.YtfakimbneenfdaaDoorTreeTop
namespace Go.Proofs.YtfakimbneenfdaaDoor
open Go.RowKit
set_option linter.unusedVariables false
set_option maxRecDepth 100000

theorem IL.at {w : World} {B : Nat} {ad : Addr} {ns : List Nat} (h : IL w B (Option.some ad) ns) (i : Nat) (hi : i < ns.length) : w.cell? (ad.add i) = Option.some (.int .i64 (ns.getD i 0 : Nat)) := by
  obtain ⟨ad', e, _, hc⟩ := h i hi
  cases e
  exact hc
theorem drop_one {ns : List Nat} {k : Nat} {n : Nat} {r : List Nat} (h : ns.drop k = n :: r) : k < ns.length ∧ ns.getD k 0 = n ∧ ns.drop (k + 1) = r := by
  have hl := congrArg List.length h
  rw [List.length_drop, List.length_cons] at hl
  refine ⟨by omega, ?_, ?_⟩
  · rw [List.getD_eq_getElem?_getD, ← List.head?_drop, h]; rfl
  · rw [← List.tail_drop, h]; rfl
set_option maxHeartbeats 4000000 in
theorem roots_any (f : Nat) (ls : List (List Int)) (hh : hashes ls) (A : Option Addr) (c : Nat) (w : World) (hA : HL w w.heap.size A ls) (hT : Tab w) (hc : ls.length ≤ c) (hcm : c ≤ maxLen) (ht : f + ls.length ≤ 4096) :
    Calls Tryd.prog 38 #[.int .i64 (f : Int), .slice A ls.length c] w fun e w' => (∃ A' c', e = .returned (.slice A' (rootsL f ls).length c') ∧ (rootsL f ls).length ≤ c' ∧ c' ≤ maxLen ∧ HL w' w'.heap.size A' (rootsL f ls)) ∧ Below w.heap.size w w' := by
  obtain ⟨i0, hi, hz0, hz1, hz2⟩ := info_parts infoHash
  unfold maxLen at hcm
  obtain ⟨n, hn⟩ : ∃ n, Hid (n = ls.length) := ⟨_, Lib.hid rfl⟩
  rw [← hn.out] at hc ht ⊢
  obtain ⟨t, htt⟩ : ∃ t : Nat, Hid (t = f + n) := ⟨_, Lib.hid rfl⟩
  have e1 : (f : Int) + (n : Int) = (t : Int) := by rw [htt.out]; omega
  have htm : t ≤ 4096 := by rw [htt.out]; omega
  obtain ⟨ns, hns⟩ : ∃ ns, Hid (ns = partsL f t) := ⟨_, Lib.hid rfl⟩
  obtain ⟨q, hq⟩ : ∃ q, Hid (q = ns.length) := ⟨_, Lib.hid rfl⟩
  have hq1 : q ≤ 4096 := by rw [hq.out, hns.out]; have := partsL_length f t; omega
  have hroots : Hid (rootsL f ls = rootsOf ns ls) := Lib.hid (by rw [hns.out, htt.out, hn.out]; rfl)
  have P1 : Hid (∀ W, Calls Tryd.prog 47 #[.int .i64 (f : Int), .int .i64 (t : Int)] W fun e w' => (∃ A c, e = .returned (.slice A q c) ∧ IL w' w'.heap.size A ns) ∧ Below W.heap.size W w') := Lib.hid fun W => by
    have hft : f ≤ t := by rw [htt.out]; omega
    refine (parts_any f t hft htm W).mono ?_
    rintro e w' ⟨⟨A, c, rfl, _, _, h⟩, hb⟩
    rw [hq.out, hns.out]
    exact ⟨⟨A, c, rfl, h⟩, hb⟩
  have HA := Lib.hid hA
  have HT := Lib.hid hT
  have HH := Lib.hid hh
  have hcc : c ≤ 9223372036854775807 := by omega
  clear hA hT hh hcm
  go_enter Tryd.func38, Tryd.ntmps38
  go_wp2_with (go_at_call 47; (with_reducible refine (P1.out _).mono ?_); rintro e w1 ⟨⟨P, pc, rfl, hI⟩, hb⟩; have HB := Lib.hid hb; have HI := Lib.hid hI; clear hb hI)
  go_loopw [1, 5, 15] (fun s1 s5 s15 wr => ∃ (k g : Nat) (A' : Option Addr) (m c' : Nat) (ls' acc : List (List Int)) (v : Value), s15 = .int .i64 (k : Int) ∧ s1 = .slice A' m c' ∧ v = s5 ∧ k ≤ q ∧ m ≤ c' ∧ c' ≤ 9223372036854775807 ∧ Hid (m = ls'.length ∧ ns.drop k = partsL g t ∧ g + ls'.length = t ∧ acc ++ rootsOf (partsL g t) ls' = rootsL f ls ∧ HL w w.heap.size A' ls' ∧ hashes ls' ∧ hashes acc ∧ OwnL w1 wr v acc.length acc)) (fun _ _ s15 _ => (q - intOf s15).toNat)
  case atStart => exact ⟨0, f, A, n, c, ls, [], _, rfl, rfl, rfl, by omega, hc, hcc, Lib.hid ⟨hn.out, by rw [hns.out]; rfl, by rw [← hn.out, htt.out], by rw [hroots.out, hns.out]; rfl, HA.out, HH.out, (fun _ h => nomatch h), OwnL.start _⟩⟩
  case round =>
    clear P1 e1
    obtain ⟨k, g, A', m, c', ls', acc, v, rfl, rfl, rfl, hk, hmc, hcc', HR⟩ := hrel
    by_cases hlt : k < q
    · obtain ⟨hm, hd, hg, hr, hl, hh, ha, ho⟩ := HR.out
      have hgt : g < t := by
        by_cases h : g < t
        · exact h
        · rw [partsL_done g t (by omega)] at hd
          have := congrArg List.length hd
          rw [List.length_drop, ← hq.out] at this
          simp at this; omega
      obtain ⟨p, hp⟩ : ∃ p, Hid (p = partN g (t - g)) := ⟨_, Lib.hid rfl⟩
      have hp1 : 1 ≤ p := by rw [hp.out]; exact partN_pos _ _ (by omega)
      have hp2 : p ≤ m := by rw [hp.out, hm]; have := partN_le g (t - g) (by omega); omega
      rw [partsL_more g t hgt, ← hp.out] at hd hr
      obtain ⟨hk1, hk2, hk3⟩ := drop_one hd
      obtain ⟨pa, rfl⟩ := HI.out.some k hk1
      obtain ⟨ad, rfl⟩ := hl.some 0 (by omega)
      have c0 : wr.cell? (pa.add k) = some (.int .i64 (p : Int)) := by rw [← hk2]; exact (HI.out.next ho.2 (Nat.le_refl _)).at k hk1
      obtain ⟨C, hC⟩ : ∃ C, Hid (C = nums .u8 (rootL (ls'.take p))) := ⟨_, Lib.hid rfl⟩
      have hbw : Below w.heap.size w wr := below_new HB.out ho.2
      have lt1 : (ls'.take p).length = p := by rw [List.length_take]; omega
      have X1 : Hid (Calls Tryd.prog 29 #[.slice (some ad) p c'] wr fun ev w' => ev = .returned (.agg C) ∧ Below wr.heap.size wr w') := Lib.hid (by
        have := root_any (ls'.take p) (hashes_take hh p) (some ad) c' wr ((hl.next hbw (Nat.le_refl _)).more hbw.size |>.take p) (HT.out.next hbw) (by rw [lt1]; omega)
        rwa [lt1, ← hC.out] at this)
      have hrl := rootL_is (ls'.take p) (hashes_take hh p)
      have hrl2 := Lib.hid hrl.1
      have zC : Hid (C.size = 32) := Lib.hid (by rw [hC.out, nums_size]; exact hrl.1)
      have zM : Hid (acc.length + 1 ≤ 8192) := Lib.hid (by
        have h1 := congrArg List.length hr
        rw [List.length_append, rootsL_length, ← hn.out, ← htt.out, ← hns.out, ← hq.out] at h1
        omega)
      have HN : Hid (m - p = (ls'.drop p).length ∧ ns.drop (k + 1) = partsL (g + p) t ∧ (g + p) + (ls'.drop p).length = t ∧ (acc ++ [rootL (ls'.take p)]) ++ rootsOf (partsL (g + p) t) (ls'.drop p) = rootsL f ls ∧ HL w w.heap.size (if c' = p then some ad else some (ad.add (p * 32))) (ls'.drop p) ∧ hashes (ls'.drop p) ∧ hashes (acc ++ [rootL (ls'.take p)])) := Lib.hid
        ⟨by rw [List.length_drop]; omega, hk3, by rw [List.length_drop]; omega, by rw [← hr, List.append_assoc]; rfl, hl.rest c' p (by omega), hashes_drop hh p, hashes_snoc ha hrl⟩
      have HO := Lib.hid ho
      have b1 : (p : Int) ≤ (m : Int) := by omega
      have b2 : (p : Int) ≤ (c' : Int) := by omega
      have b5 : ((m : Int) - (p : Int)).toNat = m - p := by omega
      have b6 : ((c' : Int) - (p : Int)).toNat = c' - p := by omega
      clear HR hm hd hg hr hl hh ha ho hk1 hk2 hk3 lt1 hrl hbw
      go_wp2_with (first
        | (go_at_call 29; (with_reducible refine X1.out.mono ?_); rintro e w2 ⟨rfl, hb⟩; have HB2 := Lib.hid hb; clear hb)
        | (refine wpList_buildOne rfl _ rfl C rfl zC.out ?_)
        | (at_builtin; refine wpList_append_own _ rfl (.tmp 19) (.tmp 24) 22 rfl w1.heap.size 31 i0 _ 32 32 Tryd.underlying22 hi hz0 hz1 hz2 (by simp [Value.cells, nums]) (by decide) _ _ _ rfl ((own_below HO.out.1 HB2.out).alloc _) ⟨w2.heap.size, 0, none⟩ 1 1 ((rootL (ls'.take p)).map (Value.int .u8)) rfl ?cc0 ?cc1 ?cc2 (by have := zM.out; unfold maxLen; omega) (by have := zM.out; omega) ?cc5 ?_))
      case cc0 => rw [List.length_map, hrl2.out]
      case cc1 =>
        intro j u hj
        rw [add_flat, cell_of_row _ w2.heap.size j _ _ _ (heap_alloc_new w2 _), hC.out]
        simpa [nums] using hj
      case cc2 =>
        intro u hu
        obtain ⟨z, _, rfl⟩ := List.mem_map.1 hu
        rfl
      case cc5 => have := HO.out.2.size; have := HB2.out.size; simp; omega
      intro v' w4 hown hgrow _
      have HO2 := Lib.hid (HO.out.next HB2.out hown hgrow)
      clear hown hgrow HO HB2
      go_wp2
      go_roundw
      case rel => exact ⟨k + 1, g + p, _, _, _, _, _, _, by go_num, rfl, rfl, by omega, by omega, by omega, Lib.hid ⟨HN.out.1, HN.out.2.1, HN.out.2.2.1, HN.out.2.2.2.1, HN.out.2.2.2.2.1, HN.out.2.2.2.2.2.1, HN.out.2.2.2.2.2.2, by rw [List.length_append]; exact HO2.out⟩⟩
      case measure => simp [intOf]; omega
    · obtain ⟨hm, hd, hg, hr, hl, hh, ha, ho⟩ := HR.out
      have e0 : partsL g t = [] := by rw [← hd, List.drop_of_length_le (by rw [← hq.out]; omega)]
      rw [e0] at hr
      have e1 : acc = rootsL f ls := by rw [← hr]; show acc = acc ++ []; simp
      obtain ⟨A9, c9, hv, hc9, hcm9, hI9⟩ : ∃ A c, Hid (v = .slice A (rootsL f ls).length c) ∧ Hid ((rootsL f ls).length ≤ c) ∧ Hid (c ≤ maxLen) ∧ Hid (HL wr wr.heap.size A (rootsL f ls)) := by
        rw [e1] at ho ha
        obtain ⟨A, c, e1, e2, e3, e4⟩ := ho.lead2 ha
        exact ⟨A, c, Lib.hid e1, Lib.hid e2, Lib.hid e3, Lib.hid e4⟩
      have HB9 := Lib.hid (below_new HB.out ho.2)
      clear HR hm hd hg hr hl hh ha ho e0 e1
      go_wp2
      go_ret
      exact ⟨⟨A9, c9, congrArg Ending.returned hv.out, hc9.out, hcm9.out, hI9.out⟩, HB9.out⟩
end Go.Proofs.YtfakimbneenfdaaDoor
