/-
  The chapter's examples, as the statements of layer 4 call them ('grown'): true; the call makes new memory, nothing that was there changes. Condition: the two tables as they were laid.
-/
import Derived.Test.YthagpnakcffjeaaDoorTreeTop
import Derived.Test.YthagpnakcffjeaaDoorTreeSome
import Derived.KernelRfl
import Derived.Test.YthagpnakcffjeaaDoorSched
namespace Go.Proofs.YthagpnakcffjeaaDoor
open Go.RowKit
set_option linter.unusedVariables false

def grownX : List Int := [79, 25, 218, 222, 182, 2, 103, 124, 129, 155, 6, 115, 225, 28, 91, 122, 62, 16, 191, 43, 227, 19, 179, 222, 151, 183, 104, 174, 58, 250, 69, 210]
def grownY : List Int := [137, 72, 50, 11, 243, 122, 255, 36, 36, 202, 112, 181, 57, 196, 67, 196, 254, 161, 22, 152, 30, 48, 24, 227, 221, 146, 75, 200, 35, 59, 141, 3]
theorem nodeX : nodeL (someH 7 0) (someH 7 1) = grownX := by kernel_rfl
theorem nodeY : nodeL grownX (someH 7 2) = grownY := by kernel_rfl
theorem split3 : splitN 3 = 2 := splitN_is 3 1 (by omega) (by omega)
theorem split2 : splitN 2 = 1 := splitN_is 2 0 (by omega) (by omega)
theorem grown_root : rootL (someN 7 3) = grownY := by
  show rootL [someH 7 0, someH 7 1, someH 7 2] = grownY
  rw [rootL_more _ (by show 2 ≤ 3; omega)]
  show nodeL (rootL (List.take (splitN 3) [someH 7 0, someH 7 1, someH 7 2])) (rootL (List.drop (splitN 3) [someH 7 0, someH 7 1, someH 7 2])) = grownY
  rw [split3]
  show nodeL (rootL [someH 7 0, someH 7 1]) (rootL [someH 7 2]) = grownY
  rw [rootL_one [someH 7 2] rfl, rootL_more _ (by show 2 ≤ 2; omega)]
  show nodeL (nodeL (rootL (List.take (splitN 2) [someH 7 0, someH 7 1])) (rootL (List.drop (splitN 2) [someH 7 0, someH 7 1]))) (someH 7 2) = grownY
  rw [split2]
  show nodeL (nodeL (rootL [someH 7 0]) (rootL [someH 7 1])) (someH 7 2) = grownY
  rw [rootL_one [someH 7 0] rfl, rootL_one [someH 7 1] rfl]
  show nodeL (nodeL (someH 7 0) (someH 7 1)) (someH 7 2) = grownY
  rw [nodeX, nodeY]
theorem bytesX : bytes grownX := by unfold bytes grownX; decide
theorem bytesY : bytes grownY := by unfold bytes grownY; decide
theorem s1_1 : splitI 1 = 0 := splitI_few 1 (by omega)
theorem s1_2 : splitI 2 = 1 := splitI_is 2 0 1 rfl (by decide) (by decide)
theorem s1_3 : splitI 3 = 2 := splitI_is 3 1 2 rfl (by decide) (by decide)
theorem s1_8 : splitI 8 = 4 := splitI_is 8 2 4 rfl (by decide) (by decide)
theorem s1_9 : splitI 9 = 8 := splitI_is 9 3 8 rfl (by decide) (by decide)
theorem sp (n k : Int) (h : splitI n = k) (hn : 0 ≤ n ∧ n < 100) (w : World) : Calls Tryd.prog 22 #[.int .i64 n] w fun ev w' => ev = .returned (.int .i64 k) ∧ w = w' :=
  (split_any n (by omega) w).mono fun e w' ⟨h1, h2⟩ => ⟨by rw [h1, h], h2⟩
/-- What the examples hold on to. -/
def GrH (w : World) (g : Nat) (ls : List (List Int)) (wr : World) : Prop := HL wr wr.heap.size (some ⟨g, 0, none⟩) ls ∧ Tab wr ∧ Below w.heap.size w wr
theorem GrH.next {w wr w1 : World} {g : Nat} {ls : List (List Int)} (h : GrH w g ls wr) (hb : Below wr.heap.size wr w1) : GrH w g ls w1 :=
  ⟨(h.1.next hb (Nat.le_refl _)).more hb.size, h.2.1.next hb, below_new h.2.2 hb⟩
theorem GrH.drew {w wr : World} {g : Nat} {ls : List (List Int)} (h : GrH w g ls wr) : GrH w g ls wr.drew := ⟨h.1, h.2.1, h.2.2.drew⟩
attribute [local go_sem ↓ high] read_at eq_at neq_at
set_option maxHeartbeats 40000000 in
set_option maxRecDepth 100000 in
theorem grown_any (w : World) (hT : Tab w) :
    Calls Tryd.prog 17 #[] w fun e w' => e = .returned (.bool true) ∧ Below w.heap.size w w' := by
  have hh := someN_hashes 7 (by omega) 3 (by omega)
  obtain ⟨ls, hls⟩ : ∃ ls, Hid (ls = someN 7 3) := ⟨_, Lib.hid rfl⟩
  have hl3 : ls.length = 3 := by rw [hls.out]; rfl
  rw [← hls.out] at hh
  obtain ⟨C0, h0⟩ : ∃ C, Hid (C = nums .u8 (someH 7 0)) := ⟨_, Lib.hid rfl⟩
  obtain ⟨C1, h1⟩ : ∃ C, Hid (C = nums .u8 (someH 7 1)) := ⟨_, Lib.hid rfl⟩
  obtain ⟨C2, h2⟩ : ∃ C, Hid (C = nums .u8 (someH 7 2)) := ⟨_, Lib.hid rfl⟩
  obtain ⟨X, hX⟩ : ∃ C, Hid (C = nums .u8 grownX) := ⟨_, Lib.hid rfl⟩
  obtain ⟨Y, hY⟩ : ∃ C, Hid (C = nums .u8 grownY) := ⟨_, Lib.hid rfl⟩
  have R0 : Hid (∀ W g, HL W W.heap.size (some ⟨g, 0, none⟩) ls → (readAt (.pointer (some ⟨g, 0, none⟩))).run Tryd.prog W = .ok (.agg C0) W ∧ (readAt (.pointer (some ⟨g, 32, none⟩))).run Tryd.prog W = .ok (.agg C1) W ∧ (readAt (.pointer (some ⟨g, 64, none⟩))).run Tryd.prog W = .ok (.agg C2) W) := Lib.hid fun W g H => by
    have r0 := H.read hh 0 (by omega)
    have r1 := H.read hh 1 (by omega)
    have r2 := H.read hh 2 (by omega)
    rw [hls.out] at r0 r1 r2
    rw [add_flat] at r0 r1 r2
    refine ⟨?_, ?_, ?_⟩
    · rw [h0.out]; exact r0
    · rw [h1.out]; exact r1
    · rw [h2.out]; exact r2
  have S0 : Hid (∀ W, Calls Tryd.prog 26 #[.int .i64 3, .int .u8 7] W fun ev w' => (∃ g c, ev = .returned (.slice (some ⟨g, 0, none⟩) 3 c) ∧ HL w' w'.heap.size (some ⟨g, 0, none⟩) ls) ∧ Below W.heap.size W w') := Lib.hid fun W =>
    (some_any 3 (by omega) 7 (by omega) W).mono fun ev w' ⟨⟨A, c, he, _, hA, hg⟩, hb⟩ => by
      rcases hg with hg | ⟨g, rfl⟩
      · omega
      · exact ⟨⟨g, c, he, by rw [hls.out]; exact hA⟩, hb⟩
  have T0 : Hid (∀ W g c, GrH w g ls W → Calls Tryd.prog 24 #[.slice (some ⟨g, 0, none⟩) 3 c] W fun ev w' => ev = .returned (.agg Y) ∧ Below W.heap.size W w') := Lib.hid fun W g c H => by
    have := root_any ls hh (some ⟨g, 0, none⟩) c W H.1 H.2.1 (by omega)
    rw [hl3] at this
    rw [hls.out, grown_root] at this
    rw [hY.out]
    exact this
  have N0 : Hid (∀ W, Tab W → Calls Tryd.prog 20 #[.agg C0, .agg C1] W fun ev w' => ev = .returned (.agg X) ∧ Below W.heap.size W w') := Lib.hid fun W H => by
    rw [h0.out, h1.out, hX.out, ← nodeX]; exact node_any _ _ rfl rfl W H
  have N1 : Hid (∀ W, Tab W → Calls Tryd.prog 20 #[.agg X, .agg C2] W fun ev w' => ev = .returned (.agg Y) ∧ Below W.heap.size W w') := Lib.hid fun W H => by
    rw [h2.out, hX.out, hY.out, ← nodeY]; exact node_any _ _ rfl rfl W H
  have Q1 : ∀ W, (eqAt (.agg Y) (.agg Y)).run Tryd.prog W = .ok (.bool true) W := fun W => by
    rw [hY.out, eqAt_hash _ _ rfl rfl bytesY bytesY W, decide_eq_true rfl]
  have Q2 : ∀ W, (neqAt (.agg Y) (.agg #[.int .u8 0, .int .u8 0, .int .u8 0, .int .u8 0, .int .u8 0, .int .u8 0, .int .u8 0, .int .u8 0, .int .u8 0, .int .u8 0, .int .u8 0, .int .u8 0, .int .u8 0, .int .u8 0, .int .u8 0, .int .u8 0, .int .u8 0, .int .u8 0, .int .u8 0, .int .u8 0, .int .u8 0, .int .u8 0, .int .u8 0, .int .u8 0, .int .u8 0, .int .u8 0, .int .u8 0, .int .u8 0, .int .u8 0, .int .u8 0, .int .u8 0, .int .u8 0])).run Tryd.prog W = .ok (.bool true) W := fun W => by
    have := neqAt_hash grownY (List.replicate 32 0) rfl rfl bytesY zero32_bytes W
    rw [hY.out]
    rw [show (!decide (grownY = List.replicate 32 0)) = true by decide] at this
    exact this
  have HT := Lib.hid hT
  clear hT hh
  go_enter Tryd.func17, Tryd.ntmps17
  go_upto_region 2 with (go_at_call 26; (with_reducible refine (S0.out _).mono ?_); rintro e w1 ⟨⟨g, c, rfl, hA⟩, hb⟩; have HG : Hid (GrH w g ls w1) := Lib.hid ⟨hA, HT.out.next hb, hb⟩; clear hb hA)
  refine wp_region_sched (GrH w g ls) [(true, 0), (false, 1), (false, 2), (true, 3), (false, 4), (false, 5), (false, 6), (true, 7), (false, 8), (false, 9), (false, 10), (true, 11), (false, 12), (false, 13), (false, 14), (true, 15), (false, 16), (false, 17), (false, 18), (false, 19), (false, 21), (false, 22), (false, 23), (false, 24), (false, 25), (false, 26), (false, 28), (false, 29), (false, 30), (true, 20), (true, 27), (true, 31), (false, 32), (false, 33), (false, 34), (false, 35), (false, 37), (true, 36), (false, 38), (false, 39), (false, 40)] (by kernel_rfl) rfl (by kernel_rfl) (by kernel_rfl) (by intro c a d v w h; cases d <;> exact h) HG.out.drew (fun Q' hQ => ?_)
  have HS := Lib.hid HG.out.drew
  have HQ := Lib.hid hQ
  clear HG S0 hQ
  refine wpSched_call rfl (by rfl) (fun K hK => ?_)
  go_simp
  go_at_call 22
  refine (sp 1 0 s1_1 (by decide) _).mono ?_
  rintro e w' ⟨rfl, rfl⟩
  refine hK _ _ HS.out ?_
  clear hK K
  iterate 2 (
    refine wpSched_get rfl (by rfl) (fun K hK => ?_)
    refine ⟨?_, fun w' hS' => ?_, ?_⟩
    rotate_left
    · go_simp
      try (with_reducible rfl)
    try go_simp
    refine hK _ ?_
    clear hK K)
  refine wpSched_call rfl (by rfl) (fun K hK => ?_)
  go_simp
  go_at_call 22
  refine (sp 2 1 s1_2 (by decide) _).mono ?_
  rintro e w' ⟨rfl, rfl⟩
  refine hK _ _ HS.out ?_
  clear hK K
  iterate 3 (
    refine wpSched_get rfl (by rfl) (fun K hK => ?_)
    refine ⟨?_, fun w' hS' => ?_, ?_⟩
    rotate_left
    · go_simp
      try (with_reducible rfl)
    try go_simp
    refine hK _ ?_
    clear hK K)
  refine wpSched_call rfl (by rfl) (fun K hK => ?_)
  go_simp
  go_at_call 22
  refine (sp 3 2 s1_3 (by decide) _).mono ?_
  rintro e w' ⟨rfl, rfl⟩
  refine hK _ _ HS.out ?_
  clear hK K
  iterate 3 (
    refine wpSched_get rfl (by rfl) (fun K hK => ?_)
    refine ⟨?_, fun w' hS' => ?_, ?_⟩
    rotate_left
    · go_simp
      try (with_reducible rfl)
    try go_simp
    refine hK _ ?_
    clear hK K)
  refine wpSched_call rfl (by rfl) (fun K hK => ?_)
  go_simp
  go_at_call 22
  refine (sp 8 4 s1_8 (by decide) _).mono ?_
  rintro e w' ⟨rfl, rfl⟩
  refine hK _ _ HS.out ?_
  clear hK K
  iterate 3 (
    refine wpSched_get rfl (by rfl) (fun K hK => ?_)
    refine ⟨?_, fun w' hS' => ?_, ?_⟩
    rotate_left
    · go_simp
      try (with_reducible rfl)
    try go_simp
    refine hK _ ?_
    clear hK K)
  refine wpSched_call rfl (by rfl) (fun K hK => ?_)
  go_simp
  go_at_call 22
  refine (sp 9 8 s1_9 (by decide) _).mono ?_
  rintro e w' ⟨rfl, rfl⟩
  refine hK _ _ HS.out ?_
  clear hK K
  iterate 6 (
    refine wpSched_get rfl (by rfl) (fun K hK => ?_)
    refine ⟨?_, fun w' hS' => ?_, ?_⟩
    rotate_left
    · go_simp
      try (with_reducible rfl)
    try go_simp
    refine hK _ ?_
    clear hK K)
  refine wpSched_get rfl (by rfl) (fun K hK => ?_)
  refine ⟨_, fun w' hS' => get_load rfl rfl (R0.out _ _ hS'.1).1, ?_⟩
  try go_simp
  refine hK _ ?_
  clear hK K
  iterate 2 (
    refine wpSched_get rfl (by rfl) (fun K hK => ?_)
    refine ⟨?_, fun w' hS' => ?_, ?_⟩
    rotate_left
    · go_simp
      try (with_reducible rfl)
    try go_simp
    refine hK _ ?_
    clear hK K)
  refine wpSched_get rfl (by rfl) (fun K hK => ?_)
  refine ⟨_, fun w' hS' => get_load rfl rfl (R0.out _ _ hS'.1).2.1, ?_⟩
  try go_simp
  refine hK _ ?_
  clear hK K
  iterate 2 (
    refine wpSched_get rfl (by rfl) (fun K hK => ?_)
    refine ⟨?_, fun w' hS' => ?_, ?_⟩
    rotate_left
    · go_simp
      try (with_reducible rfl)
    try go_simp
    refine hK _ ?_
    clear hK K)
  refine wpSched_get rfl (by rfl) (fun K hK => ?_)
  refine ⟨_, fun w' hS' => get_load rfl rfl (R0.out _ _ hS'.1).2.2, ?_⟩
  try go_simp
  refine hK _ ?_
  clear hK K
  refine wpSched_call rfl (by rfl) (fun K hK => ?_)
  go_simp
  go_at_call 24
  refine (T0.out _ _ _ HS.out).mono ?_
  rintro e w2 ⟨rfl, hb⟩
  replace HS := Lib.hid (HS.out.next hb)
  clear hb
  refine hK _ _ HS.out ?_
  clear hK K
  refine wpSched_call rfl (by rfl) (fun K hK => ?_)
  go_simp
  go_at_call 20
  refine (N0.out _ HS.out.2.1).mono ?_
  rintro e w2 ⟨rfl, hb⟩
  replace HS := Lib.hid (HS.out.next hb)
  clear hb
  refine hK _ _ HS.out ?_
  clear hK K
  refine wpSched_call rfl (by rfl) (fun K hK => ?_)
  go_simp
  go_at_call 20
  refine (N1.out _ HS.out.2.1).mono ?_
  rintro e w2 ⟨rfl, hb⟩
  replace HS := Lib.hid (HS.out.next hb)
  clear hb
  refine hK _ _ HS.out ?_
  clear hK K
  refine wpSched_get rfl (by rfl) (fun K hK => ?_)
  refine ⟨_, fun w' hS' => get_eqH rfl rfl rfl (Q1 _), ?_⟩
  try go_simp
  refine hK _ ?_
  clear hK K
  iterate 4 (
    refine wpSched_get rfl (by rfl) (fun K hK => ?_)
    refine ⟨?_, fun w' hS' => ?_, ?_⟩
    rotate_left
    · go_simp
      try (with_reducible rfl)
    try go_simp
    refine hK _ ?_
    clear hK K)
  refine wpSched_call rfl (by rfl) (fun K hK => ?_)
  go_simp
  go_at_call 24
  refine (T0.out _ _ _ HS.out).mono ?_
  rintro e w2 ⟨rfl, hb⟩
  replace HS := Lib.hid (HS.out.next hb)
  clear hb
  refine hK _ _ HS.out ?_
  clear hK K
  refine wpSched_get rfl (by rfl) (fun K hK => ?_)
  refine ⟨_, fun w' hS' => get_neqH rfl rfl rfl (Q2 _), ?_⟩
  try go_simp
  refine hK _ ?_
  clear hK K
  iterate 2 (
    refine wpSched_get rfl (by rfl) (fun K hK => ?_)
    refine ⟨?_, fun w' hS' => ?_, ?_⟩
    rotate_left
    · go_simp
      try (with_reducible rfl)
    try go_simp
    refine hK _ ?_
    clear hK K)
  refine wpSched_done ?_
  refine HQ.out _ _ ?_
  go_wp2
  go_ret
  exact ⟨rfl, HS.out.2.2⟩
end Go.Proofs.YthagpnakcffjeaaDoor
