/-
  Several texts in one (a claim has room for 60 files): TreeTop, PathPath, PathRefPath.
-/
import Derived.Test.YtpndccoikhejgaaDoorPk19
import Derived.Laws.EntriesVeiled
import Derived.Test.YtpndccoikhejgaaDoorPk07
import Derived.Test.YtpndccoikhejgaaDoorPk18
namespace Go.Proofs.YtpndccoikhejgaaDoor
open Go.RowKit
set_option linter.unusedVariables false
set_option maxRecDepth 100000

/-- What Root holds: its list, its result. -/
structure TopH (w wr : World) (A : Option Addr) (n c : Nat) (ls : List (List Int)) : Prop where
  lst : Row wr w.heap.size 27 #[.slice A n c]
  out : Row wr (w.heap.size + 1) 23 (nums .u8 (List.replicate 32 0))
  hl : HL wr w.heap.size A ls
  tab : Tab wr
  below : Below w.heap.size w wr
theorem TopH.next {w wr w1 : World} {A : Option Addr} {n c : Nat} {ls : List (List Int)} (h : TopH w wr A n c ls) (hb : Below wr.heap.size wr w1) : TopH w w1 A n c ls :=
  ⟨h.lst.next hb, h.out.next hb, h.hl.next hb h.below.size, h.tab.next hb, below_new h.below hb⟩
theorem TopH.start {w : World} {A : Option Addr} {n c : Nat} {ls : List (List Int)} (h3 : HL w w.heap.size A ls) (h4 : Tab w) :
    TopH w ((w.alloc (.cells #[.slice A n c] 27)).alloc (.cells (nums .u8 (List.replicate 32 0)) 23)) A n c ls := by
  have hb : Below w.heap.size w ((w.alloc (.cells #[.slice A n c] 27)).alloc (.cells (nums .u8 (List.replicate 32 0)) 23)) := ((Below.refl _ _).alloc (Nat.le_refl _) _).alloc (by simp) _
  exact ⟨(Row.made _ _ _).alloc _, Row.made2 _ _ _ _, h3.next hb (Nat.le_refl _), h4.next hb, hb⟩
theorem TopH.fn {w wr : World} {A : Option Addr} {n c : Nat} {ls : List (List Int)} (h : TopH w wr A n c ls) (v : Value) : TopH w (wr.alloc (.cells #[v] 106)) A n c ls ∧ Row (wr.alloc (.cells #[v] 106)) wr.heap.size 106 #[v] :=
  ⟨h.next ((Below.refl _ _).alloc (Nat.le_refl _) _), Row.made _ _ _⟩
attribute [local go_sem ↓ high] read_at write_at
set_option maxHeartbeats 4000000 in
set_option maxRecDepth 100000 in
theorem root_any (ls : List (List Int)) (hh : hashes ls) (A : Option Addr) (c : Nat) (w : World) (hA : HL w w.heap.size A ls) (hT : Tab w) (hm : ls.length ≤ 9223372036854775807) :
    Calls Tryd.prog 52 #[.slice A ls.length c] w fun ev w' => ev = .returned (.agg (nums .u8 (rootL ls))) ∧ Below w.heap.size w w' := by
  obtain ⟨n, hn⟩ : ∃ n, Hid (n = ls.length) := ⟨_, Lib.hid rfl⟩
  have hnm : n ≤ 9223372036854775807 := by rw [hn.out]; exact hm
  obtain ⟨C, hC⟩ : ∃ C, Hid (C = nums .u8 (rootL ls)) := ⟨_, Lib.hid rfl⟩
  have zC : Hid (C.size = 32) := Lib.hid (by rw [hC.out, nums_size]; exact (rootL_is _ hh).1)
  have oC : Hid (C.all (·.oneCell') = true) := Lib.hid (by rw [hC.out]; exact nums_one _ _)
  have zZ : Hid ((nums .u8 (List.replicate 32 0)).size = 32) := Lib.hid (by rw [nums_size]; simp)
  have h6 := sizeH C.size zC.out
  rw [← hn.out]
  have HS := Lib.hid (TopH.start (n := n) (c := c) hA hT)
  have HM := Lib.hid hm
  clear hA hT hm
  by_cases h0 : n = 0
  · have S1 : Hid (∀ W, Tab W → Calls Tryd.prog 36 #[.string ⟨#[]⟩] W fun ev w' => ev = .returned (.agg C) ∧ Below W.heap.size W w') := Lib.hid fun W h => by
      rw [hC.out, rootL_none ls (by rw [← hn.out]; exact h0)]; exact sum_any ⟨#[]⟩ (by decide) W h
    have hd : ((n : Int) == 0) = true := by rw [h0]; rfl
    clear h0
    go_enter Tryd.func52, Tryd.ntmps52
    go_upto_region 1 with fail
    refine world_gen (fun wx => TopH w wx A n c ls) HS.out (fun wx HQ => ?_)
    have HQ := Lib.hid HQ
    have c1 := HQ.out.lst.cell 0
    go_wp2_with (first
      | (go_at_call 36; (with_reducible refine (S1.out _ HQ.out.tab).mono ?_); rintro e w1 ⟨rfl, hb⟩; have HQ := Lib.hid (HQ.out.next hb); clear hb)
      | (refine wpList_store_row rfl 23 _ _ rfl (w.heap.size + 1) C rfl rfl 23 _ HQ.out.out h6 (by rw [zC.out, zZ.out]) oC.out ?_))
    refine bodyPost_ret (results_cell_row rfl _ _ (w.heap.size + 1) 23 _ (0, 0) _ rfl (HQ.out.out.whole _) Tryd.underlying23 rfl h6) rfl ⟨by rw [hC.out], below_setRow HQ.out.below (by omega)⟩
  · have hd : ((n : Int) == 0) = false := by simp; omega
    have X1 : Hid (∀ W gf, TopH w W A n c ls → Row W gf 106 #[halfF w.heap.size gf] → Calls Tryd.prog 75 #[.int .i64 0, .int .i64 (n : Int), .pointer (some ⟨w.heap.size, 0, none⟩), .pointer (some ⟨gf, 0, none⟩)] W fun ev w' => ev = .returned (.agg C) ∧ Below W.heap.size W w') := Lib.hid fun W gf H h2 => by
      have := half_any ls hh A c w.heap.size gf HM.out n 0 n W (by omega) (by rw [hn.out]; exact Nat.le_refl _) (by omega) H.tab (by rw [← hn.out]; exact H.lst) h2 (H.hl.more H.below.size)
      have e : part ls 0 n = ls := by rw [hn.out]; exact part_all ls
      rw [e] at this
      rw [hC.out]
      exact this
    clear h0
    go_enter Tryd.func52, Tryd.ntmps52
    go_upto_region 1 with fail
    refine world_gen (fun wx => TopH w wx A n c ls) HS.out (fun wx HQ => ?_)
    have HQ := Lib.hid HQ
    have c1 := HQ.out.lst.cell 0
    go_upto_region 5 with fail
    refine world_gen (fun wy => TopH w wy A n c ls ∧ Row wy wx.heap.size 106 #[halfF w.heap.size wx.heap.size]) (HQ.out.fn _) (fun wy HP => ?_)
    clear c1 HQ
    have HP := Lib.hid HP
    have c1 := HP.out.1.lst.cell 0
    have c2 : wy.cell? ⟨wx.heap.size, 0, none⟩ = some (.func (.func 75) #[] #[.pointer (some ⟨w.heap.size, 0, none⟩), .pointer (some ⟨wx.heap.size, 0, none⟩)]) := HP.out.2.cell 0
    go_wp2_with (first
      | (go_at_call 75; (with_reducible refine (X1.out _ _ HP.out.1 HP.out.2).mono ?_); rintro e w1 ⟨rfl, hb⟩; have HQ := Lib.hid (HP.out.1.next hb); clear hb)
      | (refine wpList_store_row rfl 23 _ _ rfl (w.heap.size + 1) C rfl rfl 23 _ HQ.out.out h6 (by rw [zC.out, zZ.out]) oC.out ?_))
    refine bodyPost_ret (results_cell_row rfl _ _ (w.heap.size + 1) 23 _ (0, 0) _ rfl (HQ.out.out.whole _) Tryd.underlying23 rfl h6) rfl ⟨by rw [hC.out], below_setRow HQ.out.below (by omega)⟩
end Go.Proofs.YtpndccoikhejgaaDoor
namespace Go.Proofs.YtpndccoikhejgaaDoor
open Go.RowKit Go.Great
set_option linter.unusedVariables false
set_option maxRecDepth 100000

/-- The path of a leaf, and the error. -/
def pathF (ls : List (List Int)) (i : Int) : List (List Int) × Int := if i < 0 ∨ ls.length ≤ i then ([], 2) else (pathL ls i.toNat, 0)
theorem pathF_no {ls : List (List Int)} {i : Int} (h : i < 0 ∨ ls.length ≤ i) : pathF ls i = ([], 2) := by unfold pathF; rw [if_pos h]
theorem pathF_ok {ls : List (List Int)} {i : Nat} (h : i < ls.length) : pathF ls i = (pathL ls i, 0) := by unfold pathF; rw [if_neg (by omega)]; rfl
theorem pathF_hashes {ls : List (List Int)} {i : Int} (h : hashes ls) : hashes (pathF ls i).1 := by
  unfold pathF
  split
  · intro x hx; cases hx
  · exact pathL_hashes _ ls _ rfl h
def sliceN : Value → Nat
  | .slice _ n _ => n
  | _ => 0
theorem pathL_short (ls : List (List Int)) (i : Nat) (hi : i < ls.length) (hm : ls.length ≤ 9223372036854775807) : (pathL ls i).length ≤ 64 := by
  rw [pathL_sides ls i hi]
  exact Nat.le_trans (sides_length 63 i (ls.length - 1) (by omega)) (by decide)
attribute [local go_sem ↓ high] read_at write_at
set_option maxHeartbeats 8000000 in
theorem path_some (ls : List (List Int)) (hh : hashes ls) (A : Option Addr) (c : Nat) (w : World) (hA : HL w w.heap.size A ls) (hT : Tab w) (hc : ls.length ≤ c) (hcm : c ≤ maxLen) (i : Nat) (hi : i < ls.length) :
    Calls Tryd.prog 55 #[.slice A ls.length c, .int .i64 (i : Int)] w (GivesL w (pathL ls i, 0)) := by
  obtain ⟨i0, hi0, hz0, hz1, hz2⟩ := info_parts infoHash
  obtain ⟨n, hn⟩ : ∃ n, Hid (n = ls.length) := ⟨_, Lib.hid rfl⟩
  unfold maxLen at hcm
  have hcc : c ≤ 9223372036854775807 := by omega
  obtain ⟨P, hP⟩ : ∃ P, Hid (P = pathL ls i) := ⟨_, Lib.hid rfl⟩
  have hP64 : Hid (P.length ≤ 64) := Lib.hid (by rw [hP.out]; exact pathL_short ls i hi (by omega))
  have hPh : Hid (hashes P) := Lib.hid (by rw [hP.out]; exact pathL_hashes _ ls i rfl hh)
  have HI : Hid (HL w w.heap.size A ls ∧ hashes ls ∧ pathL ls i ++ ([] : List (List Int)).reverse = P) := Lib.hid ⟨hA, hh, by rw [hP.out]; simp⟩
  rw [← hn.out] at hc hi ⊢
  rw [← hP.out]
  have d1 : decide ((i : Int) < 0) = false := decide_eq_false (by omega)
  have d2 : decide ((n : Int) ≤ (i : Int)) = false := decide_eq_false (by omega)
  have d3 : decide (n ≤ i) = false := decide_eq_false (by omega)
  have d4 : (i : Int) < (n : Int) := by omega
  have HT := Lib.hid hT
  clear hA hh hT hcm
  go_enter Tryd.func55, Tryd.ntmps55
  go_wp2
  go_loopw [0, 1, 6] (fun s0 s1 s6 wr => ∃ (A' : Option Addr) (m c' i' : Nat) (ls' acc : List (List Int)) (v : Value), s0 = .slice A' m c' ∧ s1 = .int .i64 (i' : Int) ∧ v = s6 ∧ i' < m ∧ m ≤ c' ∧ c' ≤ 9223372036854775807 ∧ Hid (m = ls'.length) ∧ Hid (HL w w.heap.size A' ls' ∧ hashes ls' ∧ pathL ls' i' ++ acc.reverse = P) ∧ Hid (hashes acc) ∧ Hid (OwnL w wr v acc.length acc)) (fun s0 _ _ _ => sliceN s0)
  case atStart => exact ⟨A, n, c, i, ls, [], _, rfl, rfl, rfl, hi, hc, hcc, hn, HI, Lib.hid (fun _ h => nomatch h), Lib.hid (OwnL.start _)⟩
  case round =>
    clear HI hn d1 d2 d3 d4 hi
    obtain ⟨A', m, c', i', ls', acc, v, rfl, rfl, rfl, him, hmc, hcc', hm, HI, HA, HO⟩ := hrel
    by_cases h2 : m < 2
    · have dm : decide (1 < (m : Int)) = false := decide_eq_false (by omega)
      have hE : Hid (acc = P.reverse) := Lib.hid (by
        have := HI.out.2.2
        rw [pathL_few ls' i' (by rw [← hm.out]; exact h2), List.nil_append] at this
        rw [← this, List.reverse_reverse])
      obtain ⟨q, hq⟩ : ∃ q, Hid (q = P.length) := ⟨_, Lib.hid rfl⟩
      have hal : acc.length = q := by rw [hE.out, List.length_reverse, hq.out]
      obtain ⟨A9, c9, hv, hcap, hcm9⟩ : ∃ A c, v = .slice A q c ∧ Hid (q ≤ c) ∧ Hid (c ≤ maxLen) := by
        obtain ⟨A, c, e1, e2, e3, e4⟩ := HO.out.lead2 HA.out
        rw [hal] at e1 e2
        exact ⟨A, c, e1, Lib.hid e2, Lib.hid e3⟩
      subst hv
      have R1 : Hid (Calls Tryd.prog 78 #[.slice A9 q c9] wr fun e w' => (∃ v, e = .returned v) ∧ HL w' w'.heap.size A9 P ∧ Below w.heap.size wr w') := Lib.hid (by
        have := reverse_any acc HA.out A9 c9 wr w.heap.size (by rw [hal]; have h9 := HO.out.1; rw [hal] at h9; exact h9)
        rw [hal, hE.out, List.reverse_reverse] at this
        exact this)
      have HBW := Lib.hid HO.out.2
      clear hal HI HA HO
      go_wp2_with (go_at_call 78; (with_reducible refine R1.out.mono ?_); rintro e w2 ⟨⟨v2, rfl⟩, hl, hb⟩; have HL2 := Lib.hid hl; have HB2 := Lib.hid hb; clear hl hb)
      go_ret2
      exact ⟨A9, c9, by rw [← hq.out]; rfl, by rw [← hq.out]; exact hcap.out, hcm9.out, HL2.out, HBW.out.trans HB2.out⟩
    · have dm : decide (1 < (m : Int)) = true := decide_eq_true (by omega)
      obtain ⟨k, hk⟩ : ∃ k, Hid (k = splitN m) := ⟨_, Lib.hid rfl⟩
      have hk1 : 0 < k := by rw [hk.out]; exact splitN_pos _ (by omega)
      have hk2 : k < m := by rw [hk.out]; exact splitN_lt _ (by omega)
      have S1 : Hid (∀ W, Calls Tryd.prog 76 #[.int .i64 (m : Int)] W fun ev w' => ev = .returned (.int .i64 (k : Int)) ∧ W = w') := Lib.hid fun W =>
        (split_any (m : Int) (by omega) W).mono fun ev w' ⟨he, hw⟩ => ⟨by rw [he]; unfold splitI; rw [show ((m : Int)).toNat = m by omega, hk.out], hw⟩
      obtain ⟨ad, rfl⟩ := HI.out.1.some 0 (by rw [← hm.out]; omega)
      have HLI := Lib.hid HI.out.1
      have HHI := Lib.hid HI.out.2.1
      have HTr := Lib.hid (HT.out.next HO.out.2)
      have hks : Hid (splitN ls'.length = k) := Lib.hid (by rw [hk.out, hm.out])
      have zM : Hid (acc.length + 1 ≤ 8192) := Lib.hid (by
        have h1 := congrArg List.length HI.out.2.2
        rw [List.length_append, List.length_reverse] at h1
        have := hP64.out
        omega)
      have b1 : (k : Int) ≤ (m : Int) := by omega
      have b2 : (k : Int) ≤ (c' : Int) := by omega
      have b3 : (m : Int) ≤ (c' : Int) := by omega
      have b4 : (0 : Int) ≤ (k : Int) := by omega
      have b5 : ((m : Int) - (k : Int)).toNat = m - k := by omega
      have b6 : ((c' : Int) - (k : Int)).toNat = c' - k := by omega
      have b8 : ¬ (c' = k) := by omega
      by_cases hlt : i' < k
      · have dl : (i' : Int) < (k : Int) := by omega
        obtain ⟨y, hy⟩ : ∃ y, Hid (y = rootL (ls'.drop k)) := ⟨_, Lib.hid rfl⟩
        obtain ⟨C, hC⟩ : ∃ C, Hid (C = nums .u8 y) := ⟨_, Lib.hid rfl⟩
        have lp : (ls'.drop k).length = m - k := by rw [List.length_drop, ← hm.out]
        have lk : (ls'.take k).length = k := by rw [List.length_take, ← hm.out]; omega
        have hy32 : y.length = 32 ∧ bytes y := by rw [hy.out]; exact rootL_is _ (hashes_drop HHI.out k)
        have HY32 := Lib.hid hy32
        have zC : Hid (C.size = 32) := Lib.hid (by rw [hC.out, nums_size]; exact hy32.1)
        have X1 : Hid (Calls Tryd.prog 52 #[.slice (some (ad.add (k * 32))) (m - k) (c' - k)] wr fun ev w' => ev = .returned (.agg C) ∧ Below wr.heap.size wr w') := Lib.hid (by
          have := root_any (ls'.drop k) (hashes_drop HHI.out k) (some (ad.add (k * 32))) (c' - k) wr ((((HLI.out.drop k).next HO.out.2 (Nat.le_refl _)).more HO.out.2.size)) HTr.out (by rw [lp]; omega)
          rwa [lp, ← hy.out, ← hC.out] at this)
        have HN : Hid (HL w w.heap.size (some ad) (ls'.take k) ∧ hashes (ls'.take k) ∧ pathL (ls'.take k) i' ++ (acc ++ [y]).reverse = P) := Lib.hid ⟨HLI.out.take k, hashes_take HHI.out k, by
          rw [← HI.out.2.2, pathL_left ls' i' (by rw [← hm.out]; omega) (by rw [hks.out]; exact hlt), hks.out, ← hy.out]; simp⟩
        have HNm : Hid (k = (ls'.take k).length) := Lib.hid lk.symm
        have HNA : Hid (hashes (acc ++ [y])) := Lib.hid (hashes_snoc HA.out hy32)
        clear lp lk hy32 HI HA
        go_wp2_with (first
          | (go_at_call 76; (with_reducible refine (S1.out _).mono ?_); rintro e w' ⟨rfl, rfl⟩)
          | (go_at_call 52; (with_reducible refine X1.out.mono ?_); rintro e w2 ⟨rfl, hb⟩; have HB2 := Lib.hid hb; clear hb)
          | (refine wpList_buildOne rfl _ rfl C rfl zC.out ?_)
          | (at_builtin; refine wpList_append_own _ rfl (.tmp 25) (.tmp 30) 27 rfl w.heap.size 23 i0 _ 32 32 Tryd.underlying27 hi0 hz0 hz1 hz2 (by simp [Value.cells, nums]) (by decide) _ _ _ rfl ((own_below HO.out.1 HB2.out).alloc _) ⟨w2.heap.size, 0, none⟩ 1 1 (y.map (Value.int .u8)) rfl ?cc0 ?cc1 ?cc2 (by have := zM.out; unfold maxLen; omega) (by have := zM.out; omega) ?cc5 ?_))
        case cc0 => rw [List.length_map, HY32.out.1]
        case cc1 =>
          intro j u hj
          rw [add_flat, cell_of_row _ w2.heap.size j _ _ _ (heap_alloc_new w2 _), hC.out]
          simpa [nums] using hj
        case cc2 =>
          intro u hu
          obtain ⟨z, _, rfl⟩ := List.mem_map.1 hu
          rfl
        case cc5 => have := HO.out.2.size; have := HB2.out.size; simp; omega
        intro v' w4 hown hgrow _
        have HO2 := Lib.hid (HO.out.next HB2.out hown hgrow)
        clear hown hgrow HO HB2
        go_wp2
        go_roundw
        case rel => exact ⟨some ad, k, c', i', ls'.take k, _, _, by go_num, by go_num, rfl, by omega, by omega, by omega, HNm, HN, HNA, Lib.hid (by rw [List.length_append]; exact HO2.out)⟩
        case measure => simp [sliceN]; omega
      · have dl : (i' : Int) ≥ (k : Int) := by omega
        have dl2 : ¬ ((i' : Int) < (k : Int)) := by omega
        have dl3 : (i' : Int) - (k : Int) = ((i' - k : Nat) : Int) := by omega
        obtain ⟨y, hy⟩ : ∃ y, Hid (y = rootL (ls'.take k)) := ⟨_, Lib.hid rfl⟩
        obtain ⟨C, hC⟩ : ∃ C, Hid (C = nums .u8 y) := ⟨_, Lib.hid rfl⟩
        have lp : (ls'.take k).length = k := by rw [List.length_take, ← hm.out]; omega
        have lk : (ls'.drop k).length = m - k := by rw [List.length_drop, ← hm.out]
        have hy32 : y.length = 32 ∧ bytes y := by rw [hy.out]; exact rootL_is _ (hashes_take HHI.out k)
        have HY32 := Lib.hid hy32
        have zC : Hid (C.size = 32) := Lib.hid (by rw [hC.out, nums_size]; exact hy32.1)
        have X1 : Hid (Calls Tryd.prog 52 #[.slice (some ad) k c'] wr fun ev w' => ev = .returned (.agg C) ∧ Below wr.heap.size wr w') := Lib.hid (by
          have := root_any (ls'.take k) (hashes_take HHI.out k) (some ad) c' wr ((((HLI.out.take k).next HO.out.2 (Nat.le_refl _)).more HO.out.2.size)) HTr.out (by rw [lp]; omega)
          rwa [lp, ← hy.out, ← hC.out] at this)
        have HN : Hid (HL w w.heap.size (some (ad.add (k * 32))) (ls'.drop k) ∧ hashes (ls'.drop k) ∧ pathL (ls'.drop k) (i' - k) ++ (acc ++ [y]).reverse = P) := Lib.hid ⟨HLI.out.drop k, hashes_drop HHI.out k, by
          rw [← HI.out.2.2, pathL_right ls' i' (by rw [← hm.out]; omega) (by rw [hks.out]; exact hlt), hks.out, ← hy.out]; simp⟩
        have HNm : Hid (m - k = (ls'.drop k).length) := Lib.hid lk.symm
        have HNA : Hid (hashes (acc ++ [y])) := Lib.hid (hashes_snoc HA.out hy32)
        clear lp lk hy32 HI HA
        go_wp2_with (first
          | (go_at_call 76; (with_reducible refine (S1.out _).mono ?_); rintro e w' ⟨rfl, rfl⟩)
          | (go_at_call 52; (with_reducible refine X1.out.mono ?_); rintro e w2 ⟨rfl, hb⟩; have HB2 := Lib.hid hb; clear hb)
          | (refine wpList_buildOne rfl _ rfl C rfl zC.out ?_)
          | (at_builtin; refine wpList_append_own _ rfl (.tmp 35) (.tmp 40) 27 rfl w.heap.size 23 i0 _ 32 32 Tryd.underlying27 hi0 hz0 hz1 hz2 (by simp [Value.cells, nums]) (by decide) _ _ _ rfl ((own_below HO.out.1 HB2.out).alloc _) ⟨w2.heap.size, 0, none⟩ 1 1 (y.map (Value.int .u8)) rfl ?cc0 ?cc1 ?cc2 (by have := zM.out; unfold maxLen; omega) (by have := zM.out; omega) ?cc5 ?_))
        case cc0 => rw [List.length_map, HY32.out.1]
        case cc1 =>
          intro j u hj
          rw [add_flat, cell_of_row _ w2.heap.size j _ _ _ (heap_alloc_new w2 _), hC.out]
          simpa [nums] using hj
        case cc2 =>
          intro u hu
          obtain ⟨z, _, rfl⟩ := List.mem_map.1 hu
          rfl
        case cc5 => have := HO.out.2.size; have := HB2.out.size; simp; omega
        intro v' w4 hown hgrow _
        have HO2 := Lib.hid (HO.out.next HB2.out hown hgrow)
        clear hown hgrow HO HB2
        go_wp2
        go_roundw
        case rel => exact ⟨some (ad.add (k * 32)), m - k, c' - k, i' - k, ls'.drop k, _, _, by go_num, by go_num, rfl, by omega, by omega, by omega, HNm, HN, HNA, Lib.hid (by rw [List.length_append]; exact HO2.out)⟩
        case measure => simp [sliceN]; omega
theorem path_any (ls : List (List Int)) (hh : hashes ls) (A : Option Addr) (c : Nat) (w : World) (hA : HL w w.heap.size A ls) (hT : Tab w) (hc : ls.length ≤ c) (hcm : c ≤ maxLen) (i : Int) :
    Calls Tryd.prog 55 #[.slice A ls.length c, .int .i64 i] w (GivesL w (pathF ls i)) := by
  by_cases h : i < 0 ∨ (ls.length : Int) ≤ i
  · obtain ⟨n, hn⟩ : ∃ n, Hid (n = ls.length) := ⟨_, Lib.hid rfl⟩
    rw [pathF_no h]
    rw [← hn.out] at h ⊢
    by_cases h1 : i < 0
    · have d1 : decide (i < 0) = true := decide_eq_true h1
      clear h hA hT hh hc hcm
      go_enter Tryd.func55, Tryd.ntmps55
      go_wp2
      go_ret2
      exact ⟨none, 0, rfl, Nat.le_refl _, by decide, HL.nil _ _ _, Below.refl _ _⟩
    · have d1 : decide (i < 0) = false := decide_eq_false h1
      have h2 : (n : Int) ≤ i := h.resolve_left h1
      have d2 : decide ((n : Int) ≤ i) = true := decide_eq_true h2
      clear h hA hT hh hc hcm
      go_enter Tryd.func55, Tryd.ntmps55
      go_wp2
      go_ret2
      exact ⟨none, 0, rfl, Nat.le_refl _, by decide, HL.nil _ _ _, Below.refl _ _⟩
  · obtain ⟨I, rfl⟩ : ∃ I : Nat, i = I := ⟨i.toNat, by omega⟩
    rw [pathF_ok (by omega)]
    exact path_some ls hh A c w hA hT hc hcm I (by omega)
end Go.Proofs.YtpndccoikhejgaaDoor
namespace Go.Proofs.YtpndccoikhejgaaDoor
open Go.RowKit Go.Great
set_option linter.unusedVariables false
set_option maxRecDepth 100000

attribute [local go_sem ↓ high] read_at write_at
end Go.Proofs.YtpndccoikhejgaaDoor
