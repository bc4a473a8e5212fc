/-
  The walk of the document's Root (layer 4), that calls itself. Condition: a list of hashes in memory. What it makes is new memory; nothing that was there changes.
-/
import Derived.Test.YtkjgkeigfebcmaaDoorTreeRefNode
namespace Go.Proofs.YtkjgkeigfebcmaaDoor
open Go.RowKit
set_option linter.unusedVariables false
set_option maxRecDepth 100000

/-- What the document's Root holds: its result, its list. -/
structure RefH (w wr : World) (A : Option Addr) (ls : List (List Int)) : Prop where
  out : Row wr w.heap.size 30 (nums .u8 (List.replicate 32 0))
  hl : HL wr w.heap.size A ls
  below : Below w.heap.size w wr
theorem RefH.next {w wr w1 : World} {A : Option Addr} {ls : List (List Int)} (h : RefH w wr A ls) (hb : Below wr.heap.size wr w1) : RefH w w1 A ls :=
  ⟨h.out.next hb, h.hl.next hb h.below.size, below_new h.below hb⟩
theorem RefH.drew {w wr : World} {A : Option Addr} {ls : List (List Int)} (h : RefH w wr A ls) : RefH w wr.drew A ls := ⟨h.out.drew, h.hl, h.below.drew⟩
theorem RefH.start {w : World} {A : Option Addr} {ls : List (List Int)} (h : HL w w.heap.size A ls) : RefH w (w.alloc (.cells (nums .u8 (List.replicate 32 0)) 30)) A ls :=
  ⟨Row.made _ _ _, h.next ((Below.refl _ _).alloc (Nat.le_refl _) _) (Nat.le_refl _), (Below.refl _ _).alloc (Nat.le_refl _) _⟩
attribute [local go_sem ↓ high] read_at write_at
set_option maxHeartbeats 4000000 in
set_option maxRecDepth 100000 in
theorem refRoot_any (k : Nat) : ∀ (ls : List (List Int)) (A : Option Addr) (c : Nat) (w : World), ls.length ≤ k → hashes ls → HL w w.heap.size A ls → ls.length ≤ c → c ≤ 9223372036854775807 →
    Calls Tryd.prog 25 #[.slice A ls.length c] w fun ev w' => ev = .returned (.agg (nums .u8 (rootL ls))) ∧ Below w.heap.size w w' := by
  induction k with
  | zero =>
    intro ls A c w hk hh hA hc hcm
    obtain ⟨C, hC⟩ : ∃ C, Hid (C = nums .u8 (rootL ls)) := ⟨_, Lib.hid rfl⟩
    have zC : Hid (C.size = 32) := Lib.hid (by rw [hC.out, nums_size]; exact (rootL_is _ hh).1)
    have oC : Hid (C.all (·.oneCell') = true) := Lib.hid (by rw [hC.out]; exact nums_one _ _)
    have zZ : Hid ((nums .u8 (List.replicate 32 0)).size = 32) := Lib.hid (by rw [nums_size]; simp)
    have h6 := sizeH C.size zC.out
    have S1 : Hid (∀ W, Calls Tryd.prog 20 #[.string ⟨#[]⟩] W fun ev w' => ev = .returned (.agg C) ∧ Below W.heap.size W w') := Lib.hid fun W => by
      rw [hC.out, rootL_none ls (by omega)]; exact refSum_any ⟨#[]⟩ (by decide) W
    have HS := Lib.hid (RefH.start hA)
    have h0 : ls.length = 0 := by omega
    rw [h0]
    clear hk hA hc hcm h0
    go_enter Tryd.func25, Tryd.ntmps25
    go_upto_region 1 with fail
    refine world_gen (fun wx => RefH w wx A ls) HS.out (fun wx HQ => ?_)
    have HQ := Lib.hid HQ
    go_wp2_with (first
      | (go_at_call 20; (with_reducible refine (S1.out _).mono ?_); rintro e w1 ⟨rfl, hb⟩; have HQ := Lib.hid (HQ.out.next hb); clear hb)
      | (refine wpList_store_row rfl 30 _ _ rfl w.heap.size C rfl rfl 30 _ HQ.out.out h6 (by rw [zC.out, zZ.out]) oC.out ?_))
    refine bodyPost_ret (results_cell_row rfl _ _ w.heap.size 30 _ (0, 0) _ rfl (HQ.out.out.whole _) Tryd.underlying30 rfl h6) rfl ⟨by rw [hC.out], below_setRow HQ.out.below (Nat.le_refl _)⟩
  | succ k ih =>
    intro ls A c w hk hh hA hc hcm
    obtain ⟨C, hC⟩ : ∃ C, Hid (C = nums .u8 (rootL ls)) := ⟨_, Lib.hid rfl⟩
    have zC : Hid (C.size = 32) := Lib.hid (by rw [hC.out, nums_size]; exact (rootL_is _ hh).1)
    have oC : Hid (C.all (·.oneCell') = true) := Lib.hid (by rw [hC.out]; exact nums_one _ _)
    have zZ : Hid ((nums .u8 (List.replicate 32 0)).size = 32) := Lib.hid (by rw [nums_size]; simp)
    have h6 := sizeH C.size zC.out
    by_cases hsm : ls.length ≤ k
    · exact ih ls A c w hsm hh hA hc hcm
    · obtain ⟨ad, rfl⟩ := hA.some 0 (by omega)
      have HS := Lib.hid (RefH.start hA)
      obtain ⟨n, hn⟩ : ∃ n, Hid (n = ls.length) := ⟨_, Lib.hid rfl⟩
      have hk1 : n = k + 1 := by rw [hn.out]; omega
      rw [← hn.out] at hc ⊢
      by_cases h1 : n = 1
      · have e1 : Hid (C = nums .u8 (ls.getD 0 [])) := Lib.hid (by rw [hC.out, rootL_one ls (by rw [← hn.out]; exact h1)])
        have hl0 : Hid (0 < ls.length) := Lib.hid (by rw [← hn.out]; omega)
        subst h1
        clear hk hA hc hcm ih hsm hk1
        go_enter Tryd.func25, Tryd.ntmps25
        go_upto_region 1 with fail
        refine world_gen (fun wx => RefH w wx (some ad) ls) HS.out (fun wx HQ => ?_)
        have HQ := Lib.hid HQ
        have s1 := HQ.out.hl.read hh 0 hl0.out
        rw [show ad.add (0 * 32) = ad by simp [Addr.add]] at s1
        rw [← e1.out] at s1
        go_wp2_with (refine wpList_store_row rfl 30 _ _ rfl w.heap.size C rfl rfl 30 _ HQ.out.out h6 (by rw [zC.out, zZ.out]) oC.out ?_)
        refine bodyPost_ret (results_cell_row rfl _ _ w.heap.size 30 _ (0, 0) _ rfl (HQ.out.out.whole _) Tryd.underlying30 rfl h6) rfl ⟨by rw [hC.out], below_setRow HQ.out.below (Nat.le_refl _)⟩
      · obtain ⟨q, hq⟩ : ∃ q, Hid (q = splitN n) := ⟨_, Lib.hid rfl⟩
        have hq1 : 0 < q := by rw [hq.out]; exact splitN_pos _ (by omega)
        have hq2 : q < n := by rw [hq.out]; exact splitN_lt _ (by omega)
        have hnm : n ≤ 9223372036854775807 := by omega
        have e1 : Hid (C = nums .u8 (nodeL (rootL (ls.take q)) (rootL (ls.drop q)))) := Lib.hid (by rw [hC.out, rootL_more ls (by rw [← hn.out]; omega), hq.out, hn.out])
        have S1 : Hid (∀ W, Calls Tryd.prog 26 #[.int .i64 (n : Int)] W fun ev w' => ev = .returned (.int .i64 (q : Int)) ∧ W = w') := Lib.hid fun W =>
          (refSplit_any (n : Int) (by omega) W).mono fun ev w' ⟨he, hw⟩ => ⟨by rw [he]; unfold splitI; rw [show ((n : Int)).toNat = n by omega, hq.out], hw⟩
        obtain ⟨L, hL⟩ : ∃ L, Hid (L = nums .u8 (rootL (ls.take q))) := ⟨_, Lib.hid rfl⟩
        obtain ⟨R, hR⟩ : ∃ R, Hid (R = nums .u8 (rootL (ls.drop q))) := ⟨_, Lib.hid rfl⟩
        have l1 : (ls.take q).length = q := by rw [List.length_take, ← hn.out]; omega
        have l2 : (ls.drop q).length = n - q := by rw [List.length_drop, ← hn.out]
        have X1 : Hid (∀ W, RefH w W (some ad) ls → Calls Tryd.prog 25 #[.slice (some ad) q c] W fun ev w' => ev = .returned (.agg L) ∧ Below W.heap.size W w') := Lib.hid fun W H => by
          rw [hL.out]
          have := ih (ls.take q) (some ad) c W (by omega) (hashes_take hh _) ((H.hl.more H.below.size).take q) (by omega) hcm
          rwa [l1] at this
        have X2 : Hid (∀ W, RefH w W (some ad) ls → Calls Tryd.prog 25 #[.slice (some (ad.add (q * 32))) (n - q) (c - q)] W fun ev w' => ev = .returned (.agg R) ∧ Below W.heap.size W w') := Lib.hid fun W H => by
          rw [hR.out]
          have := ih (ls.drop q) (some (ad.add (q * 32))) (c - q) W (by omega) (hashes_drop hh _) ((H.hl.more H.below.size).drop q) (by omega) (by omega)
          rwa [l2] at this
        have X3 : Hid (∀ W, Calls Tryd.prog 31 #[.agg L, .agg R] W fun ev w' => ev = .returned (.agg C) ∧ Below W.heap.size W w') := Lib.hid fun W => by
          rw [e1.out, hL.out, hR.out]
          exact refNode_any _ _ (rootL_is _ (hashes_take hh _)).1 (rootL_is _ (hashes_drop hh _)).1 W
        have hd0 : ((n : Int) == 0) = false := by simp; omega
        have hd1 : ((n : Int) == 1) = false := by simp; omega
        have b1 : (n : Int) ≤ (c : Int) := by omega
        have b2 : (q : Int) ≤ (n : Int) := by omega
        have b3 : (q : Int) ≤ (c : Int) := by omega
        have b4 : (0 : Int) ≤ (q : Int) := by omega
        have b5 : ((n : Int) - (q : Int)).toNat = n - q := by omega
        have b6 : ((c : Int) - (q : Int)).toNat = c - q := by omega
        have b7 : q < c := by omega
        clear hk hA ih hq1 hL hR e1 hnm hsm hk1 l1 l2 h1
        go_enter Tryd.func25, Tryd.ntmps25
        go_upto_region 1 with fail
        refine world_gen (fun wx => RefH w wx (some ad) ls) HS.out (fun wx HQ => ?_)
        have HQ := Lib.hid HQ.drew
        go_upto_region 6 with (go_at_call 26; (with_reducible refine (S1.out _).mono ?_); rintro e w' ⟨rfl, rfl⟩)
        go_region_with (first
          | (go_at_call 25; (first | (with_reducible refine (X1.out _ HQ.out).mono ?_) | (with_reducible refine (X2.out _ HQ.out).mono ?_)); rintro e w1 ⟨rfl, hb⟩; have HQ := Lib.hid (HQ.out.next hb); clear hb)
          | (go_at_call 31; (with_reducible refine (X3.out _).mono ?_); rintro e w2 ⟨rfl, hb⟩; have HQ := Lib.hid (HQ.out.next hb); clear hb; have s3 := HQ.out.out.write zZ.out zC.out oC.out))
        all_goals
          go_wp2
          refine bodyPost_ret (results_cell_row rfl _ _ w.heap.size 30 _ (0, 0) _ rfl (HQ.out.out.whole _) Tryd.underlying30 rfl h6) rfl ⟨by rw [hC.out], below_setRow HQ.out.below (Nat.le_refl _)⟩
end Go.Proofs.YtkjgkeigfebcmaaDoor
