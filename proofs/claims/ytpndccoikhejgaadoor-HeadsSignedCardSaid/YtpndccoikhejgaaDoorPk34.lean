/-
  Several texts in one (a claim has room for 60 files): KeyNew, KeyRoot.
-/
import Derived.Test.YtpndccoikhejgaaDoorPk32
import Derived.Test.YtpndccoikhejgaaDoorPk33
import Derived.Test.YtpndccoikhejgaaDoorPk20
import Derived.Test.YtpndccoikhejgaaDoorPk04
namespace Go.Proofs.YtpndccoikhejgaaDoor
open Go.RowKit Go.Great
set_option linter.unusedVariables false
set_option maxRecDepth 100000

/-- What New holds: the tree that it makes. -/
structure NewH (w wr : World) (g : Nat) (seed : ByteArray) (ms : List (List Int)) (rt : List Int) : Prop where
  tree : TreeM wr g seed ms rt
  below : Below w.heap.size w wr
  lo : w.heap.size ≤ g
section
variable {w wr w1 : World} {g : Nat} {seed : ByteArray} {ms : List (List Int)} {rt : List Int}
theorem NewH.next (h : NewH w wr g seed ms rt) (hb : Below wr.heap.size wr w1) : NewH w w1 g seed ms rt := ⟨h.tree.next hb, below_new h.below hb, h.lo⟩
theorem NewH.put (h : NewH w wr g seed ms rt) (k : Nat) (hk : k < 8) (hm : ms.length = 8) (x : List Int) (hx : x.length = 32) : NewH w (wr.setCells g (2 + k * 32) (nums .u8 x).toList) g seed (ms.set k x) rt :=
  ⟨h.tree.put k hk hm x hx, h.below.trans ((below_setCells_w (Nat.le_refl g) _ _ _).mono h.lo), h.lo⟩
theorem NewH.putRoot (h : NewH w wr g seed ms rt) (hm : ms.length = 8) (x : List Int) (hx : x.length = 32) : NewH w (wr.setCells g 258 (nums .u8 x).toList) g seed ms x :=
  ⟨h.tree.putRoot hm x hx, h.below.trans ((below_setCells_w (Nat.le_refl g) _ _ _).mono h.lo), h.lo⟩
end
theorem NewH.start (w : World) (seed : ByteArray) : NewH w (w.alloc (.cells (treeZ true seed) 82)) w.heap.size seed (keysM seed 0) zeroL := ⟨TreeM.start (Row.made _ _ _), (Below.refl _ _).alloc (Nat.le_refl _) _, Nat.le_refl _⟩
attribute [local go_sem ↓ high] read_at write_at
set_option maxHeartbeats 8000000 in
theorem keynew_any (seed : ByteArray) (w : World) (hT : Tab w) (hs : seed.size ≤ 100000) :
    Calls Tryd.prog 25 #[.string seed] w fun e w' => ∃ v, e = .returned v ∧ treeR w' v seed ∧ Below w.heap.size w w' := by
  have PU : Hid (∀ (W : World) (k : Nat), k < 8 → Tab W → Calls Tryd.prog 51 #[.string seed, .int .i64 (k : Int)] W fun e w' => ∃ A c, e = .returned (.slice A 512 c) ∧ 512 ≤ c ∧ c ≤ maxLen ∧ HL w' w'.heap.size A (pubN seed k 512) ∧ Below W.heap.size W w') := Lib.hid fun W k hk h => by
    refine (lpublic_any seed (k : Int) W h hs (by unfold num64; omega)).mono ?_
    rintro e w' ⟨A, c, h1, h2, h3, h4, h5⟩
    rw [pubF_ok (by omega)] at h1 h2 h4
    rw [pubN_length] at h1 h2
    exact ⟨A, c, h1, h2, h3, h4, h5⟩
  have KY : Hid (∀ (W : World) (A : Option Addr) (c k : Nat), Tab W → HL W W.heap.size A (pubN seed k 512) → 512 ≤ c ∧ c ≤ maxLen → Calls Tryd.prog 50 #[.slice A 512 c] W fun e w' => e = .returned (.agg (nums .u8 (keyF (pubN seed k 512)))) ∧ Below W.heap.size W w') := Lib.hid fun W A c k h hA hc => by
    have := lkey_any (pubN seed k 512) A c W h (pubN_hashes _ _ _) hA (by rw [pubN_length]; exact hc.1) hc.2
    rwa [pubN_length] at this
  have HT := Lib.hid hT
  have H0 := Lib.hid (NewH.start w seed)
  clear hs hT
  go_enter Tryd.func25, Tryd.ntmps25
  go_upto_region 2 with (refine wpList_buildTree rfl _ rfl seed rfl ?_)
  obtain ⟨g, hg⟩ : ∃ g, g = w.heap.size := ⟨_, rfl⟩
  rw [← hg] at H0 ⊢
  refine world_gen (fun X => NewH w X g seed (keysM seed 0) zeroL) H0.out (fun X HX => ?_)
  have HX := Lib.hid HX
  clear H0 hg
  go_wp2
  go_loopw [8] (fun s8 wr => ∃ (k : Nat), s8 = .int .i64 ((k : Nat) : Int) ∧ k ≤ 8 ∧ Hid (NewH w wr g seed (keysM seed k) zeroL)) (fun s8 _ => (8 - intOf s8).toNat)
  case atStart => exact ⟨0, rfl, by omega, HX⟩
  case round =>
    clear HX
    obtain ⟨k, rfl, hk, HN0⟩ := hrel
    by_cases hlt : k < 8
    · have hwk : IntKind.i64.wrap (k : Int) = (k : Int) := by rw [IntKind.wrap_i64]; omega
      have hlt2 : (k : Int) < 8 := by omega
      have hkb : Hid (k < 8) := Lib.hid hlt
      obtain ⟨y, hy⟩ : ∃ y, Hid (y = keyF (pubN seed k 512)) := ⟨_, Lib.hid rfl⟩
      obtain ⟨C, hC⟩ : ∃ C, Hid (C = nums .u8 y) := ⟨_, Lib.hid rfl⟩
      have hy32 : Hid (y.length = 32) := Lib.hid (by rw [hy.out]; exact (keyF_is _).1)
      have zC : Hid (C.size = 32) := Lib.hid (by rw [hC.out, nums_size]; exact hy32.out)
      have oC : Hid (C.all (·.oneCell') = true) := Lib.hid (by rw [hC.out]; exact nums_one _ _)
      have NM : Hid ((keysM seed k).set k y = keysM seed (k + 1)) := Lib.hid (by rw [hy.out]; exact keysM_step seed k)
      have X1 : Hid (∀ W, Tab W → Calls Tryd.prog 51 #[.string seed, .int .i64 (k : Int)] W fun e w' => ∃ A c, e = .returned (.slice A 512 c) ∧ 512 ≤ c ∧ c ≤ maxLen ∧ HL w' w'.heap.size A (pubN seed k 512) ∧ Below W.heap.size W w') := Lib.hid fun W h => PU.out W k hkb.out h
      have X2 : Hid (∀ W A c, Tab W → HL W W.heap.size A (pubN seed k 512) → 512 ≤ c ∧ c ≤ maxLen → Calls Tryd.prog 50 #[.slice A 512 c] W fun e w' => e = .returned (.agg C) ∧ Below W.heap.size W w') := Lib.hid fun W A c h hA hc => by
        rw [hC.out, hy.out]; exact KY.out W A c k h hA hc
      have hz6 := sizeH _ zC.out
      clear hy
      go_upto_region 5 with fail
      have HN := Lib.hid (HN0.out.next (Below.refl _ _).drew)
      clear HN0
      refine wp_region_fk (fun _ => True) (.get 0 (.get 1 (.get 2 (.get 3 (.get 6 (.get 7 (.call 4 (.call 5 (.get 8 (.call 9 .done)))))))))) (by kernel_rfl) rfl (by kernel_rfl) (by kernel_rfl) (by intro c a d v w h; cases d <;> exact h) trivial (fun Q' hQ => ?_)
      have HS : Hid (True) := Lib.hid trivial
      have HQ := Lib.hid hQ
      clear hQ
      refine wpFk_get rfl (by rfl) (fun K hK => ?_)
      refine ⟨?_, fun w' hS' => ?_, ?_⟩
      rotate_left
      · go_simp
        try (with_reducible rfl)
      try go_simp
      refine hK _ ?_
      clear hK K
      refine wpFk_get rfl (by rfl) (fun K hK => ?_)
      refine ⟨?_, fun w' hS' => ?_, ?_⟩
      rotate_left
      · go_simp
        try (with_reducible rfl)
      try go_simp
      refine hK _ ?_
      clear hK K
      refine wpFk_get rfl (by rfl) (fun K hK => ?_)
      refine ⟨?_, fun w' hS' => ?_, ?_⟩
      rotate_left
      · go_simp
        try (with_reducible rfl)
      try go_simp
      refine hK _ ?_
      clear hK K
      refine wpFk_get rfl (by rfl) (fun K hK => ?_)
      refine ⟨?_, fun w' hS' => ?_, ?_⟩
      rotate_left
      · go_simp
        try (with_reducible rfl)
      try go_simp
      refine hK _ ?_
      clear hK K
      refine wpFk_get rfl (by rfl) (fun K hK => ?_)
      refine ⟨?_, fun w' hS' => ?_, ?_⟩
      rotate_left
      · go_simp
        try (with_reducible rfl)
      try go_simp
      refine hK _ ?_
      clear hK K
      refine wpFk_get rfl (by rfl) (fun K hK => ?_)
      refine ⟨?_, fun w' hS' => ?_, ?_⟩
      rotate_left
      · go_simp
        try (with_reducible rfl)
      try go_simp
      refine hK _ ?_
      clear hK K
      refine wpFk_call rfl (by rfl) (fun K hK => ?_)
      go_simp
      go_at_call 51
      (with_reducible refine (X1.out _ (HT.out.next HN.out.below)).mono ?_)
      rintro e w1 ⟨A, c, rfl, hc, hcm, hA, hb⟩
      have H1 := Lib.hid (HN.out.next hb)
      have HA := Lib.hid hA
      have HC := Lib.hid (And.intro hc hcm)
      clear hb hA hc hcm
      refine hK _ _ HS.out ?_
      clear hK K
      refine wpFk_call rfl (by rfl) (fun K hK => ?_)
      go_simp
      go_at_call 50
      (with_reducible refine (X2.out _ _ _ (HT.out.next H1.out.below) HA.out HC.out).mono ?_)
      rintro e w3 ⟨rfl, hb⟩
      have H3 := Lib.hid (H1.out.next hb)
      clear hb H1 HA HC
      refine hK _ _ HS.out ?_
      clear hK K
      refine wpFk_get rfl (by rfl) (fun K hK => ?_)
      refine ⟨?_, fun w' hS' => ?_, ?_⟩
      rotate_left
      · go_simp
        try (with_reducible rfl)
      try go_simp
      refine hK _ ?_
      clear hK K
      refine wpFk_call rfl (by rfl) (fun K hK => ?_)
      refine wp_store_mid 23 _ _ rfl g (2 + k * 32) C rfl rfl (by rw [zC.out]; exact H3.out.tree.there k (by have := hkb.out; omega)) hz6 oC.out ?_
      refine hK _ _ HS.out ?_
      clear hK K
      refine wpFk_done ?_
      refine HQ.out _ _ ?_
      have H4 : Hid (NewH w (w3.setCells g (2 + k * 32) C.toList) g seed (keysM seed (k + 1)) zeroL) := Lib.hid (by rw [← NM.out, hC.out]; exact H3.out.put k hkb.out (keysM_length _ _) y hy32.out)
      clear H3 HN HQ HS
      go_wp2
      go_roundw
      case rel => exact ⟨k + 1, by go_num, by omega, H4⟩
      case measure => simp [intOf]; omega
    · have hk9 : k = 8 := by omega
      have HE : Hid (NewH w wr g seed (keysF seed) zeroL) := Lib.hid (by have := HN0.out; rw [hk9, keysM_done] at this; exact this)
      obtain ⟨C, hC⟩ : ∃ C, Hid (C = nums .u8 (rootF seed)) := ⟨_, Lib.hid rfl⟩
      have hr32 : Hid ((rootF seed).length = 32) := Lib.hid (rootF_is seed).1
      have zC : Hid (C.size = 32) := Lib.hid (by rw [hC.out, nums_size]; exact hr32.out)
      have oC : Hid (C.all (·.oneCell') = true) := Lib.hid (by rw [hC.out]; exact nums_one _ _)
      have hz6 := sizeH _ zC.out
      have X1 : Hid (∀ W, Tab W → TreeM W g seed (keysF seed) zeroL → Calls Tryd.prog 52 #[.slice (some ⟨g, 2, none⟩) 8 8] W fun e w' => e = .returned (.agg C) ∧ Below W.heap.size W w') := Lib.hid fun W h hM => by
        have := root_any (keysF seed) (keysF_hashes seed) (some ⟨g, 2, none⟩) 8 W hM.list h (by rw [keysF_length]; decide)
        rw [keysF_length] at this
        rw [hC.out]; exact this
      clear HN0 hk9
      go_wp2_with (first
        | (go_at_call 52; (with_reducible refine (X1.out _ (HT.out.next HE.out.below) HE.out.tree).mono ?_); rintro e w1 ⟨rfl, hb⟩; have H1 := Lib.hid (HE.out.next hb); clear hb)
        | (refine wpList_store_mid rfl 23 _ _ rfl g 258 C rfl rfl (by rw [zC.out]; exact H1.out.tree.there 8 (by omega)) hz6 oC.out ?_))
      go_ret
      have H2 := H1.out.putRoot (keysF_length seed) (rootF seed) hr32.out
      rw [← hC.out] at H2
      exact ⟨_, rfl, ⟨g, rfl, H2.tree⟩, H2.below⟩
end Go.Proofs.YtpndccoikhejgaaDoor
namespace Go.Proofs.YtpndccoikhejgaaDoor
open Go.RowKit Go.Great
set_option linter.unusedVariables false
set_option maxRecDepth 100000

def RtH (w wr : World) : Prop := Row wr w.heap.size 23 (nums .u8 (List.replicate 32 0)) ∧ Below w.heap.size w wr
theorem RtH.start (w : World) : RtH w (w.alloc (.cells (nums .u8 (List.replicate 32 0)) 23)) := ⟨Row.made _ _ _, (Below.refl _ _).alloc (Nat.le_refl _) _⟩
attribute [local go_sem ↓ high] read_at write_at
set_option maxHeartbeats 2000000 in
theorem keyroot_some (g : Nat) (seed : ByteArray) (ms : List (List Int)) (rt : List Int) (hr : rt.length = 32) (w : World) (h : TreeM w g seed ms rt) :
    Calls Tryd.prog 27 #[.pointer (some ⟨g, 0, none⟩)] w fun e w' => e = .returned (.agg (nums .u8 rt)) ∧ Below w.heap.size w w' := by
  obtain ⟨C, hC⟩ : ∃ C, Hid (C = nums .u8 rt) := ⟨_, Lib.hid rfl⟩
  have zC : Hid (C.size = 32) := Lib.hid (by rw [hC.out, nums_size]; exact hr)
  have oC : Hid (C.all (·.oneCell') = true) := Lib.hid (by rw [hC.out]; exact nums_one _ _)
  have zZ : Hid ((nums .u8 (List.replicate 32 0)).size = 32) := Lib.hid (by rw [nums_size]; simp)
  have H0 := Lib.hid (RtH.start w)
  have HM := Lib.hid h
  rw [← hC.out]
  clear h
  go_enter Tryd.func27, Tryd.ntmps27
  go_upto_region 1 with fail
  refine world_gen (fun X => RtH w X) H0.out (fun X HX => ?_)
  have HX := Lib.hid HX
  have HT := Lib.hid (HM.out.next HX.out.2)
  have l1 : (readAt (.pointer (some ⟨g, 258, none⟩))).run Tryd.prog X = .ok (.agg C) X := by rw [hC.out]; exact HT.out.readRoot hr
  have s1 := HX.out.1.write zZ.out zC.out oC.out
  go_wp2_with (go_at_call 53; (with_reducible refine (isNone_at g true _ HT.out.made).mono ?_); rintro e w1 ⟨rfl, rfl⟩)
  refine bodyPost_ret (results_cell_row rfl _ _ w.heap.size 23 _ (0, 0) _ rfl (HX.out.1.whole _) Tryd.underlying23 rfl (sizeH _ zC.out)) rfl ⟨rfl, below_setRow HX.out.2 (Nat.le_refl _)⟩
set_option maxHeartbeats 2000000 in
theorem keyroot_none (v : Value) (w : World) (h : ∀ W, Below w.heap.size w W → Calls Tryd.prog 53 #[v] W fun e w' => e = .returned (.bool true) ∧ W = w') :
    Calls Tryd.prog 27 #[v] w fun e w' => e = .returned (.agg (nums .u8 zeroL)) ∧ Below w.heap.size w w' := by
  have zZ : Hid ((nums .u8 (List.replicate 32 0)).size = 32) := Lib.hid (by rw [nums_size]; simp)
  have oZ : Hid ((nums .u8 (List.replicate 32 0)).all (·.oneCell') = true) := Lib.hid (nums_one _ _)
  have H0 := Lib.hid (RtH.start w)
  have HN := Lib.hid h
  clear h
  show Calls _ _ _ _ fun e w' => e = .returned (.agg (nums .u8 (List.replicate 32 0))) ∧ Below w.heap.size w w'
  go_enter Tryd.func27, Tryd.ntmps27
  go_upto_region 1 with fail
  refine world_gen (fun X => RtH w X) H0.out (fun X HX => ?_)
  have HX := Lib.hid HX
  have hq := HX.out.2
  have hZ := sizeH _ zZ.out
  go_wp2_with (first
    | (go_at_call 53; (with_reducible refine (HN.out _ hq).mono ?_); rintro e w1 ⟨rfl, rfl⟩)
    | (refine wpList_store_row rfl 23 _ _ rfl w.heap.size (nums .u8 (List.replicate 32 0)) rfl rfl 23 _ HX.out.1 hZ (by rw [zZ.out]) oZ.out ?_))
  refine bodyPost_ret (results_cell_row rfl _ _ w.heap.size 23 _ (0, 0) _ rfl (HX.out.1.whole _) Tryd.underlying23 rfl hZ) rfl ⟨rfl, below_setRow HX.out.2 (Nat.le_refl _)⟩
end Go.Proofs.YtpndccoikhejgaaDoor
