/-
  The walk of the statement TreesHash: it returns true; what it makes is new memory, nothing that was there changes. Condition: the two tables as they were laid.
-/
import Derived.Test.YthagpnakcffjeaaDoorTreeGrown
import Derived.Test.YthagpnakcffjeaaDoorTreeRefNode
namespace Go.Proofs.YthagpnakcffjeaaDoor
open Go.RowKit
set_option linter.unusedVariables false

/-- The block of the two hashes, and what was there. -/
def TwoH (w : World) (cs : Array Value) (wr : World) : Prop := Row wr w.heap.size 34 cs ∧ Tab wr ∧ Below w.heap.size w wr
theorem TwoH.next {w wr w1 : World} {cs : Array Value} (h : TwoH w cs wr) (hb : Below wr.heap.size wr w1) : TwoH w cs w1 := ⟨h.1.next hb, h.2.1.next hb, below_new h.2.2 hb⟩
theorem TwoH.drew {w wr : World} {cs : Array Value} (h : TwoH w cs wr) : TwoH w cs wr.drew := ⟨h.1.drew, h.2.1, h.2.2.drew⟩
theorem TwoH.start (w : World) (cs : Array Value) (hT : Tab w) : TwoH w cs (w.alloc (.cells cs 34)) :=
  ⟨Row.made _ _ _, hT.next ((Below.refl _ _).alloc (Nat.le_refl _) _), (Below.refl _ _).alloc (Nat.le_refl _) _⟩
theorem read_two {w wr : World} {g : Nat} {t : TypeId} {a b : List Int} (ha : a.length = 32) (hb : b.length = 32) (h : Row wr g t (nums .u8 (a ++ b))) :
    (readAt (.pointer (some ⟨g, 0, none⟩))).run Tryd.prog wr = .ok (.agg (nums .u8 a)) wr ∧ (readAt (.pointer (some ⟨g, 32, none⟩))).run Tryd.prog wr = .ok (.agg (nums .u8 b)) wr := by
  refine ⟨read_flat wr _ a ha (fun j hj => ?_), read_flat wr _ b hb (fun j hj => ?_)⟩
  · rw [add_flat, h.num (i := j) (by rw [List.length_append]; omega), List.getD_eq_getElem?_getD, List.getElem?_append_left (by omega), ← List.getD_eq_getElem?_getD]
  · have e : (⟨g, 32, none⟩ : Addr).add j = ⟨g, 32 + j, none⟩ := by unfold Addr.add; split <;> simp_all
    rw [e, h.num (i := 32 + j) (by rw [List.length_append]; omega), List.getD_eq_getElem?_getD, List.getElem?_append_right (by omega), ha, show 32 + j - 32 = j by omega, ← List.getD_eq_getElem?_getD]
attribute [local go_sem ↓ high] read_at eq_at neq_at
set_option maxHeartbeats 40000000 in
set_option maxRecDepth 100000 in
theorem hashlaw_any (s : ByteArray) (a b : List Int) (n : Int) (w : World) (hT : Tab w) (hs : s.size ≤ maxLen) (ha : a.length = 32 ∧ bytes a) (hb : b.length = 32 ∧ bytes b) (hn : -9223372036854775808 ≤ n ∧ n < 9223372036854775808) :
    Calls Tryd.prog 6 #[.string s, .agg (nums .u8 (a ++ b)), .int .i64 n] w fun e w' => e = .returned (.bool true) ∧ Below w.heap.size w w' := by
  obtain ⟨cs, hcs⟩ : ∃ cs, Hid (cs = nums .u8 (a ++ b)) := ⟨_, Lib.hid rfl⟩
  have hcs0 : nums .u8 (a ++ b) = cs := hcs.out.symm
  rw [hcs0]
  have HS0 := Lib.hid (TwoH.start w cs hT)
  have HT := Lib.hid hT
  clear hcs0 hT
  by_cases hbig : 1000 < s.size
  · have hd : decide (1000 < (s.size : Int)) = true := decide_eq_true (by omega)
    unfold maxLen at hs
    go_enter Tryd.func6, Tryd.ntmps6
    go_upto_region 1 with fail
    refine world_gen (fun wx => TwoH w cs wx) HS0.out (fun wx HS => ?_)
    have HS := Lib.hid HS
    have HTx : Tab wx := HS.out.2.1
    go_wp2_with (go_at_call 17; (with_reducible refine (grown_any _ HTx).mono ?_); rintro e w3 ⟨rfl, hb3⟩)
    go_ret
    exact ⟨rfl, below_new HS.out.2.2 hb3⟩
  · have hd : decide (1000 < (s.size : Int)) = false := decide_eq_false (by omega)
    have hs2 : s.size ≤ 1000 := by omega
    obtain ⟨A, hA⟩ : ∃ C, Hid (C = nums .u8 a) := ⟨_, Lib.hid rfl⟩
    obtain ⟨B, hB⟩ : ∃ C, Hid (C = nums .u8 b) := ⟨_, Lib.hid rfl⟩
    obtain ⟨L, hL⟩ : ∃ C, Hid (C = nums .u8 (leafL s)) := ⟨_, Lib.hid rfl⟩
    obtain ⟨N, hN⟩ : ∃ C, Hid (C = nums .u8 (nodeL a b)) := ⟨_, Lib.hid rfl⟩
    obtain ⟨k, hk⟩ : ∃ k, Hid (k = splitI n) := ⟨_, Lib.hid rfl⟩
    obtain ⟨m, hm⟩ : ∃ k, Hid (k = splitI (s.size : Int)) := ⟨_, Lib.hid rfl⟩
    have L1 : Hid (∀ W, Tab W → Calls Tryd.prog 18 #[.string s] W fun ev w' => ev = .returned (.agg L) ∧ Below W.heap.size W w') := Lib.hid fun W h => by rw [hL.out]; exact leaf_any s (by omega) W h
    have L2 : Hid (∀ W, Calls Tryd.prog 19 #[.string s] W fun ev w' => ev = .returned (.agg L) ∧ Below W.heap.size W w') := Lib.hid fun W => by rw [hL.out]; exact refLeaf_any s (by omega) W
    have N1 : Hid (∀ W, Tab W → Calls Tryd.prog 20 #[.agg A, .agg B] W fun ev w' => ev = .returned (.agg N) ∧ Below W.heap.size W w') := Lib.hid fun W h => by rw [hN.out, hA.out, hB.out]; exact node_any a b ha.1 hb.1 W h
    have N2 : Hid (∀ W, Calls Tryd.prog 21 #[.agg A, .agg B] W fun ev w' => ev = .returned (.agg N) ∧ Below W.heap.size W w') := Lib.hid fun W => by rw [hN.out, hA.out, hB.out]; exact refNode_any a b ha.1 hb.1 W
    have P1 : Hid (∀ W, Calls Tryd.prog 22 #[.int .i64 n] W fun ev w' => ev = .returned (.int .i64 k) ∧ W = w') := Lib.hid fun W => by rw [hk.out]; exact split_any n hn W
    have P2 : Hid (∀ W, Calls Tryd.prog 23 #[.int .i64 n] W fun ev w' => ev = .returned (.int .i64 k) ∧ W = w') := Lib.hid fun W => by rw [hk.out]; exact refSplit_any n hn W
    have P3 : Hid (∀ W, Calls Tryd.prog 22 #[.int .i64 (s.size : Int)] W fun ev w' => ev = .returned (.int .i64 m) ∧ W = w') := Lib.hid fun W => by rw [hm.out]; exact split_any _ (by omega) W
    have P4 : Hid (∀ W, Calls Tryd.prog 23 #[.int .i64 (s.size : Int)] W fun ev w' => ev = .returned (.int .i64 m) ∧ W = w') := Lib.hid fun W => by rw [hm.out]; exact refSplit_any _ (by omega) W
    have Q1 : ∀ W, (eqAt (.agg L) (.agg L)).run Tryd.prog W = .ok (.bool true) W := fun W => by
      rw [hL.out, eqAt_hash (leafL s) (leafL s) (sumL_length _) (sumL_length _) (sumL_bytes _) (sumL_bytes _) W, decide_eq_true rfl]
    have Q2 : ∀ W, (eqAt (.agg N) (.agg N)).run Tryd.prog W = .ok (.bool true) W := fun W => by
      rw [hN.out, eqAt_hash (nodeL a b) (nodeL a b) (sumL_length _) (sumL_length _) (sumL_bytes _) (sumL_bytes _) W, decide_eq_true rfl]
    have R0 : Hid (∀ W, Row W w.heap.size 34 cs → (readAt (.pointer (some ⟨w.heap.size, 0, none⟩))).run Tryd.prog W = .ok (.agg A) W ∧ (readAt (.pointer (some ⟨w.heap.size, 32, none⟩))).run Tryd.prog W = .ok (.agg B) W) := Lib.hid fun W h => by
      rw [hA.out, hB.out]
      rw [hcs.out] at h
      exact read_two (w := w) ha.1 hb.1 h
    clear hbig hs ha hb hn
    go_enter Tryd.func6, Tryd.ntmps6
    go_upto_region 1 with fail
    refine world_gen (fun wx => TwoH w cs wx) HS0.out (fun wx HS => ?_)
    have HG := Lib.hid HS
    go_upto_region 3 with fail
    refine wp_region_sched (TwoH w cs) [(false, 0), (false, 2), (true, 1), (true, 3), (false, 4), (false, 5), (false, 6), (false, 7), (false, 8), (false, 9), (false, 11), (false, 12), (false, 13), (false, 14), (true, 10), (true, 15), (false, 16), (false, 17), (false, 18), (false, 19), (false, 21), (true, 20), (true, 22), (false, 23), (false, 24), (false, 25), (false, 26), (false, 27), (false, 29), (false, 30), (true, 28), (true, 31), (false, 32), (false, 33), (false, 34), (true, 35), (false, 36), (false, 37)] (by kernel_rfl) rfl (by kernel_rfl) (by kernel_rfl) (by intro c a d v w h; cases d <;> exact h) HG.out.drew (fun Q' hQ => ?_)
    have HS := Lib.hid HG.out.drew
    have HQ := Lib.hid hQ
    clear HG HS0 hQ
    iterate 2 (
      refine wpSched_get rfl (by rfl) (fun K hK => ?_)
      refine ⟨?_, fun w' hS' => ?_, ?_⟩
      rotate_left
      · go_simp
        try (with_reducible rfl)
      try go_simp
      refine hK _ ?_
      clear hK K)
    refine wpSched_call rfl (by rfl) (fun K hK => ?_)
    go_simp
    go_at_call 18
    refine (L1.out _ HS.out.2.1).mono ?_
    rintro e w2 ⟨rfl, hb⟩
    replace HS := Lib.hid (HS.out.next hb)
    clear hb
    refine hK _ _ HS.out ?_
    clear hK K
    refine wpSched_call rfl (by rfl) (fun K hK => ?_)
    go_simp
    go_at_call 19
    refine (L2.out _).mono ?_
    rintro e w2 ⟨rfl, hb⟩
    replace HS := Lib.hid (HS.out.next hb)
    clear hb
    refine hK _ _ HS.out ?_
    clear hK K
    refine wpSched_get rfl (by rfl) (fun K hK => ?_)
    refine ⟨_, fun w' hS' => get_eqH rfl rfl rfl (Q1 _), ?_⟩
    try go_simp
    refine hK _ ?_
    clear hK K
    iterate 2 (
      refine wpSched_get rfl (by rfl) (fun K hK => ?_)
      refine ⟨?_, fun w' hS' => ?_, ?_⟩
      rotate_left
      · go_simp
        try (with_reducible rfl)
      try go_simp
      refine hK _ ?_
      clear hK K)
    refine wpSched_get rfl (by rfl) (fun K hK => ?_)
    refine ⟨_, fun w' hS' => get_load rfl rfl (R0.out _ hS'.1).1, ?_⟩
    try go_simp
    refine hK _ ?_
    clear hK K
    refine wpSched_get rfl (by rfl) (fun K hK => ?_)
    refine ⟨?_, fun w' hS' => ?_, ?_⟩
    rotate_left
    · go_simp
      try (with_reducible rfl)
    try go_simp
    refine hK _ ?_
    clear hK K
    refine wpSched_get rfl (by rfl) (fun K hK => ?_)
    refine ⟨_, fun w' hS' => get_load rfl rfl (R0.out _ hS'.1).2, ?_⟩
    try go_simp
    refine hK _ ?_
    clear hK K
    refine wpSched_get rfl (by rfl) (fun K hK => ?_)
    refine ⟨?_, fun w' hS' => ?_, ?_⟩
    rotate_left
    · go_simp
      try (with_reducible rfl)
    try go_simp
    refine hK _ ?_
    clear hK K
    refine wpSched_get rfl (by rfl) (fun K hK => ?_)
    refine ⟨_, fun w' hS' => get_load rfl rfl (R0.out _ hS'.1).1, ?_⟩
    try go_simp
    refine hK _ ?_
    clear hK K
    refine wpSched_get rfl (by rfl) (fun K hK => ?_)
    refine ⟨?_, fun w' hS' => ?_, ?_⟩
    rotate_left
    · go_simp
      try (with_reducible rfl)
    try go_simp
    refine hK _ ?_
    clear hK K
    refine wpSched_get rfl (by rfl) (fun K hK => ?_)
    refine ⟨_, fun w' hS' => get_load rfl rfl (R0.out _ hS'.1).2, ?_⟩
    try go_simp
    refine hK _ ?_
    clear hK K
    refine wpSched_call rfl (by rfl) (fun K hK => ?_)
    go_simp
    go_at_call 20
    refine (N1.out _ HS.out.2.1).mono ?_
    rintro e w2 ⟨rfl, hb⟩
    replace HS := Lib.hid (HS.out.next hb)
    clear hb
    refine hK _ _ HS.out ?_
    clear hK K
    refine wpSched_call rfl (by rfl) (fun K hK => ?_)
    go_simp
    go_at_call 21
    refine (N2.out _).mono ?_
    rintro e w2 ⟨rfl, hb⟩
    replace HS := Lib.hid (HS.out.next hb)
    clear hb
    refine hK _ _ HS.out ?_
    clear hK K
    refine wpSched_get rfl (by rfl) (fun K hK => ?_)
    refine ⟨_, fun w' hS' => get_eqH rfl rfl rfl (Q2 _), ?_⟩
    try go_simp
    refine hK _ ?_
    clear hK K
    iterate 4 (
      refine wpSched_get rfl (by rfl) (fun K hK => ?_)
      refine ⟨?_, fun w' hS' => ?_, ?_⟩
      rotate_left
      · go_simp
        try (with_reducible rfl)
      try go_simp
      refine hK _ ?_
      clear hK K)
    refine wpSched_call rfl (by rfl) (fun K hK => ?_)
    go_simp
    go_at_call 22
    refine (P1.out _).mono ?_
    rintro e w' ⟨rfl, rfl⟩
    refine hK _ _ HS.out ?_
    clear hK K
    refine wpSched_call rfl (by rfl) (fun K hK => ?_)
    go_simp
    go_at_call 23
    refine (P2.out _).mono ?_
    rintro e w' ⟨rfl, rfl⟩
    refine hK _ _ HS.out ?_
    clear hK K
    iterate 7 (
      refine wpSched_get rfl (by rfl) (fun K hK => ?_)
      refine ⟨?_, fun w' hS' => ?_, ?_⟩
      rotate_left
      · go_simp
        try (with_reducible rfl)
      try go_simp
      refine hK _ ?_
      clear hK K)
    refine wpSched_call rfl (by rfl) (fun K hK => ?_)
    go_simp
    go_at_call 22
    refine (P3.out _).mono ?_
    rintro e w' ⟨rfl, rfl⟩
    refine hK _ _ HS.out ?_
    clear hK K
    refine wpSched_call rfl (by rfl) (fun K hK => ?_)
    go_simp
    go_at_call 23
    refine (P4.out _).mono ?_
    rintro e w' ⟨rfl, rfl⟩
    refine hK _ _ HS.out ?_
    clear hK K
    iterate 3 (
      refine wpSched_get rfl (by rfl) (fun K hK => ?_)
      refine ⟨?_, fun w' hS' => ?_, ?_⟩
      rotate_left
      · go_simp
        try (with_reducible rfl)
      try go_simp
      refine hK _ ?_
      clear hK K)
    refine wpSched_call rfl (by rfl) (fun K hK => ?_)
    go_simp
    go_at_call 17
    refine (grown_any _ HS.out.2.1).mono ?_
    rintro e w2 ⟨rfl, hb⟩
    replace HS := Lib.hid (HS.out.next hb)
    clear hb
    refine hK _ _ HS.out ?_
    clear hK K
    iterate 2 (
      refine wpSched_get rfl (by rfl) (fun K hK => ?_)
      refine ⟨?_, fun w' hS' => ?_, ?_⟩
      rotate_left
      · go_simp
        try (with_reducible rfl)
      try go_simp
      refine hK _ ?_
      clear hK K)
    refine wpSched_done ?_
    refine HQ.out _ _ ?_
    go_wp2
    go_ret
    exact ⟨rfl, HS.out.2.2⟩
end Go.Proofs.YthagpnakcffjeaaDoor
