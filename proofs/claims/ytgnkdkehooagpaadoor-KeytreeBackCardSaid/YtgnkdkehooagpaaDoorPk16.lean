/-
  Several texts in one (a claim has room for 60 files): TreeTop, KeyNew.
-/
import Derived.Test.YtgnkdkehooagpaaDoorPk15
import Derived.Laws.EntriesVeiled
import Derived.Test.YtgnkdkehooagpaaDoorPk08
import Derived.Test.YtgnkdkehooagpaaDoorPk12
import Derived.Test.YtgnkdkehooagpaaDoorPk04
namespace Go.Proofs.YtgnkdkehooagpaaDoor
open Go.RowKit
set_option linter.unusedVariables false
set_option maxRecDepth 100000

/-- What Root holds: its list, its result. -/
structure TopH (w wr : World) (A : Option Addr) (n c : Nat) (ls : List (List Int)) : Prop where
  lst : Row wr w.heap.size 27 #[.slice A n c]
  out : Row wr (w.heap.size + 1) 23 (nums .u8 (List.replicate 32 0))
  hl : HL wr w.heap.size A ls
  tab : Tab wr
  below : Below w.heap.size w wr
theorem TopH.next {w wr w1 : World} {A : Option Addr} {n c : Nat} {ls : List (List Int)} (h : TopH w wr A n c ls) (hb : Below wr.heap.size wr w1) : TopH w w1 A n c ls :=
  ⟨h.lst.next hb, h.out.next hb, h.hl.next hb h.below.size, h.tab.next hb, below_new h.below hb⟩
theorem TopH.start {w : World} {A : Option Addr} {n c : Nat} {ls : List (List Int)} (h3 : HL w w.heap.size A ls) (h4 : Tab w) :
    TopH w ((w.alloc (.cells #[.slice A n c] 27)).alloc (.cells (nums .u8 (List.replicate 32 0)) 23)) A n c ls := by
  have hb : Below w.heap.size w ((w.alloc (.cells #[.slice A n c] 27)).alloc (.cells (nums .u8 (List.replicate 32 0)) 23)) := ((Below.refl _ _).alloc (Nat.le_refl _) _).alloc (by simp) _
  exact ⟨(Row.made _ _ _).alloc _, Row.made2 _ _ _ _, h3.next hb (Nat.le_refl _), h4.next hb, hb⟩
theorem TopH.fn {w wr : World} {A : Option Addr} {n c : Nat} {ls : List (List Int)} (h : TopH w wr A n c ls) (v : Value) : TopH w (wr.alloc (.cells #[v] 65)) A n c ls ∧ Row (wr.alloc (.cells #[v] 65)) wr.heap.size 65 #[v] :=
  ⟨h.next ((Below.refl _ _).alloc (Nat.le_refl _) _), Row.made _ _ _⟩
attribute [local go_sem ↓ high] read_at write_at
set_option maxHeartbeats 4000000 in
set_option maxRecDepth 100000 in
theorem root_any (ls : List (List Int)) (hh : hashes ls) (A : Option Addr) (c : Nat) (w : World) (hA : HL w w.heap.size A ls) (hT : Tab w) (hm : ls.length ≤ 9223372036854775807) :
    Calls Tryd.prog 19 #[.slice A ls.length c] w fun ev w' => ev = .returned (.agg (nums .u8 (rootL ls))) ∧ Below w.heap.size w w' := by
  obtain ⟨n, hn⟩ : ∃ n, Hid (n = ls.length) := ⟨_, Lib.hid rfl⟩
  have hnm : n ≤ 9223372036854775807 := by rw [hn.out]; exact hm
  obtain ⟨C, hC⟩ : ∃ C, Hid (C = nums .u8 (rootL ls)) := ⟨_, Lib.hid rfl⟩
  have zC : Hid (C.size = 32) := Lib.hid (by rw [hC.out, nums_size]; exact (rootL_is _ hh).1)
  have oC : Hid (C.all (·.oneCell') = true) := Lib.hid (by rw [hC.out]; exact nums_one _ _)
  have zZ : Hid ((nums .u8 (List.replicate 32 0)).size = 32) := Lib.hid (by rw [nums_size]; simp)
  have h6 := sizeH C.size zC.out
  rw [← hn.out]
  have HS := Lib.hid (TopH.start (n := n) (c := c) hA hT)
  have HM := Lib.hid hm
  clear hA hT hm
  by_cases h0 : n = 0
  · have S1 : Hid (∀ W, Tab W → Calls Tryd.prog 34 #[.string ⟨#[]⟩] W fun ev w' => ev = .returned (.agg C) ∧ Below W.heap.size W w') := Lib.hid fun W h => by
      rw [hC.out, rootL_none ls (by rw [← hn.out]; exact h0)]; exact sum_any ⟨#[]⟩ (by decide) W h
    have hd : ((n : Int) == 0) = true := by rw [h0]; rfl
    clear h0
    go_enter Tryd.func19, Tryd.ntmps19
    go_upto_region 1 with fail
    refine world_gen (fun wx => TopH w wx A n c ls) HS.out (fun wx HQ => ?_)
    have HQ := Lib.hid HQ
    have c1 := HQ.out.lst.cell 0
    go_wp2_with (first
      | (go_at_call 34; (with_reducible refine (S1.out _ HQ.out.tab).mono ?_); rintro e w1 ⟨rfl, hb⟩; have HQ := Lib.hid (HQ.out.next hb); clear hb)
      | (refine wpList_store_row rfl 23 _ _ rfl (w.heap.size + 1) C rfl rfl 23 _ HQ.out.out h6 (by rw [zC.out, zZ.out]) oC.out ?_))
    refine bodyPost_ret (results_cell_row rfl _ _ (w.heap.size + 1) 23 _ (0, 0) _ rfl (HQ.out.out.whole _) Tryd.underlying23 rfl h6) rfl ⟨by rw [hC.out], below_setRow HQ.out.below (by omega)⟩
  · have hd : ((n : Int) == 0) = false := by simp; omega
    have X1 : Hid (∀ W gf, TopH w W A n c ls → Row W gf 65 #[halfF w.heap.size gf] → Calls Tryd.prog 39 #[.int .i64 0, .int .i64 (n : Int), .pointer (some ⟨w.heap.size, 0, none⟩), .pointer (some ⟨gf, 0, none⟩)] W fun ev w' => ev = .returned (.agg C) ∧ Below W.heap.size W w') := Lib.hid fun W gf H h2 => by
      have := half_any ls hh A c w.heap.size gf HM.out n 0 n W (by omega) (by rw [hn.out]; exact Nat.le_refl _) (by omega) H.tab (by rw [← hn.out]; exact H.lst) h2 (H.hl.more H.below.size)
      have e : part ls 0 n = ls := by rw [hn.out]; exact part_all ls
      rw [e] at this
      rw [hC.out]
      exact this
    clear h0
    go_enter Tryd.func19, Tryd.ntmps19
    go_upto_region 1 with fail
    refine world_gen (fun wx => TopH w wx A n c ls) HS.out (fun wx HQ => ?_)
    have HQ := Lib.hid HQ
    have c1 := HQ.out.lst.cell 0
    go_upto_region 5 with fail
    refine world_gen (fun wy => TopH w wy A n c ls ∧ Row wy wx.heap.size 65 #[halfF w.heap.size wx.heap.size]) (HQ.out.fn _) (fun wy HP => ?_)
    clear c1 HQ
    have HP := Lib.hid HP
    have c1 := HP.out.1.lst.cell 0
    have c2 : wy.cell? ⟨wx.heap.size, 0, none⟩ = some (.func (.func 39) #[] #[.pointer (some ⟨w.heap.size, 0, none⟩), .pointer (some ⟨wx.heap.size, 0, none⟩)]) := HP.out.2.cell 0
    go_wp2_with (first
      | (go_at_call 39; (with_reducible refine (X1.out _ _ HP.out.1 HP.out.2).mono ?_); rintro e w1 ⟨rfl, hb⟩; have HQ := Lib.hid (HP.out.1.next hb); clear hb)
      | (refine wpList_store_row rfl 23 _ _ rfl (w.heap.size + 1) C rfl rfl 23 _ HQ.out.out h6 (by rw [zC.out, zZ.out]) oC.out ?_))
    refine bodyPost_ret (results_cell_row rfl _ _ (w.heap.size + 1) 23 _ (0, 0) _ rfl (HQ.out.out.whole _) Tryd.underlying23 rfl h6) rfl ⟨by rw [hC.out], below_setRow HQ.out.below (by omega)⟩
end Go.Proofs.YtgnkdkehooagpaaDoor
namespace Go.Proofs.YtgnkdkehooagpaaDoor
open Go.RowKit Go.Great
set_option linter.unusedVariables false
set_option maxRecDepth 100000

/-- What New holds: the tree that it makes. -/
structure NewH (w wr : World) (g : Nat) (seed : ByteArray) (ms : List (List Int)) (rt : List Int) : Prop where
  tree : TreeM wr g seed ms rt
  below : Below w.heap.size w wr
  lo : w.heap.size ≤ g
section
variable {w wr w1 : World} {g : Nat} {seed : ByteArray} {ms : List (List Int)} {rt : List Int}
theorem NewH.next (h : NewH w wr g seed ms rt) (hb : Below wr.heap.size wr w1) : NewH w w1 g seed ms rt := ⟨h.tree.next hb, below_new h.below hb, h.lo⟩
theorem NewH.put (h : NewH w wr g seed ms rt) (k : Nat) (hk : k < 8) (hm : ms.length = 8) (x : List Int) (hx : x.length = 32) : NewH w (wr.setCells g (2 + k * 32) (nums .u8 x).toList) g seed (ms.set k x) rt :=
  ⟨h.tree.put k hk hm x hx, h.below.trans ((below_setCells_w (Nat.le_refl g) _ _ _).mono h.lo), h.lo⟩
theorem NewH.putRoot (h : NewH w wr g seed ms rt) (hm : ms.length = 8) (x : List Int) (hx : x.length = 32) : NewH w (wr.setCells g 258 (nums .u8 x).toList) g seed ms x :=
  ⟨h.tree.putRoot hm x hx, h.below.trans ((below_setCells_w (Nat.le_refl g) _ _ _).mono h.lo), h.lo⟩
end
theorem NewH.start (w : World) (seed : ByteArray) : NewH w (w.alloc (.cells (treeZ true seed) 47)) w.heap.size seed (keysM seed 0) zeroL := ⟨TreeM.start (Row.made _ _ _), (Below.refl _ _).alloc (Nat.le_refl _) _, Nat.le_refl _⟩
attribute [local go_sem ↓ high] read_at write_at
set_option maxHeartbeats 8000000 in
theorem keynew_any (seed : ByteArray) (w : World) (hT : Tab w) (hs : seed.size ≤ 100000) :
    Calls Tryd.prog 8 #[.string seed] w fun e w' => ∃ v, e = .returned v ∧ treeR w' v seed ∧ Below w.heap.size w w' := by
  have PU : Hid (∀ (W : World) (k : Nat), k < 8 → Tab W → Calls Tryd.prog 18 #[.string seed, .int .i64 (k : Int)] W fun e w' => ∃ A c, e = .returned (.slice A 512 c) ∧ 512 ≤ c ∧ c ≤ maxLen ∧ HL w' w'.heap.size A (pubN seed k 512) ∧ Below W.heap.size W w') := Lib.hid fun W k hk h => by
    refine (lpublic_any seed (k : Int) W h hs (by unfold num64; omega)).mono ?_
    rintro e w' ⟨A, c, h1, h2, h3, h4, h5⟩
    rw [pubF_ok (by omega)] at h1 h2 h4
    rw [pubN_length] at h1 h2
    exact ⟨A, c, h1, h2, h3, h4, h5⟩
  have KY : Hid (∀ (W : World) (A : Option Addr) (c k : Nat), Tab W → HL W W.heap.size A (pubN seed k 512) → 512 ≤ c ∧ c ≤ maxLen → Calls Tryd.prog 17 #[.slice A 512 c] W fun e w' => e = .returned (.agg (nums .u8 (keyF (pubN seed k 512)))) ∧ Below W.heap.size W w') := Lib.hid fun W A c k h hA hc => by
    have := lkey_any (pubN seed k 512) A c W h (pubN_hashes _ _ _) hA (by rw [pubN_length]; exact hc.1) hc.2
    rwa [pubN_length] at this
  have HT := Lib.hid hT
  have H0 := Lib.hid (NewH.start w seed)
  clear hs hT
  go_enter Tryd.func8, Tryd.ntmps8
  go_upto_region 2 with (refine wpList_buildTree rfl _ rfl seed rfl ?_)
  obtain ⟨g, hg⟩ : ∃ g, g = w.heap.size := ⟨_, rfl⟩
  rw [← hg] at H0 ⊢
  refine world_gen (fun X => NewH w X g seed (keysM seed 0) zeroL) H0.out (fun X HX => ?_)
  have HX := Lib.hid HX
  clear H0 hg
  go_wp2
  go_loopw [8] (fun s8 wr => ∃ (k : Nat), s8 = .int .i64 ((k : Nat) : Int) ∧ k ≤ 8 ∧ Hid (NewH w wr g seed (keysM seed k) zeroL)) (fun s8 _ => (8 - intOf s8).toNat)
  case atStart => exact ⟨0, rfl, by omega, HX⟩
  case round =>
    clear HX
    obtain ⟨k, rfl, hk, HN0⟩ := hrel
    by_cases hlt : k < 8
    · have hwk : IntKind.i64.wrap (k : Int) = (k : Int) := by rw [IntKind.wrap_i64]; omega
      have hlt2 : (k : Int) < 8 := by omega
      have hkb : Hid (k < 8) := Lib.hid hlt
      obtain ⟨y, hy⟩ : ∃ y, Hid (y = keyF (pubN seed k 512)) := ⟨_, Lib.hid rfl⟩
      obtain ⟨C, hC⟩ : ∃ C, Hid (C = nums .u8 y) := ⟨_, Lib.hid rfl⟩
      have hy32 : Hid (y.length = 32) := Lib.hid (by rw [hy.out]; exact (keyF_is _).1)
      have zC : Hid (C.size = 32) := Lib.hid (by rw [hC.out, nums_size]; exact hy32.out)
      have oC : Hid (C.all (·.oneCell') = true) := Lib.hid (by rw [hC.out]; exact nums_one _ _)
      have NM : Hid ((keysM seed k).set k y = keysM seed (k + 1)) := Lib.hid (by rw [hy.out]; exact keysM_step seed k)
      have X1 : Hid (∀ W, Tab W → Calls Tryd.prog 18 #[.string seed, .int .i64 (k : Int)] W fun e w' => ∃ A c, e = .returned (.slice A 512 c) ∧ 512 ≤ c ∧ c ≤ maxLen ∧ HL w' w'.heap.size A (pubN seed k 512) ∧ Below W.heap.size W w') := Lib.hid fun W h => PU.out W k hkb.out h
      have X2 : Hid (∀ W A c, Tab W → HL W W.heap.size A (pubN seed k 512) → 512 ≤ c ∧ c ≤ maxLen → Calls Tryd.prog 17 #[.slice A 512 c] W fun e w' => e = .returned (.agg C) ∧ Below W.heap.size W w') := Lib.hid fun W A c h hA hc => by
        rw [hC.out, hy.out]; exact KY.out W A c k h hA hc
      have hz6 := sizeH _ zC.out
      clear hy
      go_upto_region 5 with fail
      have HN := Lib.hid (HN0.out.next (Below.refl _ _).drew)
      clear HN0
      refine wp_region_fk (fun _ => True) (.get 0 (.get 1 (.get 2 (.get 3 (.get 6 (.get 7 (.call 4 (.call 5 (.get 8 (.call 9 .done)))))))))) (by kernel_rfl) rfl (by kernel_rfl) (by kernel_rfl) (by intro c a d v w h; cases d <;> exact h) trivial (fun Q' hQ => ?_)
      have HS : Hid (True) := Lib.hid trivial
      have HQ := Lib.hid hQ
      clear hQ
      refine wpFk_get rfl (by rfl) (fun K hK => ?_)
      refine ⟨?_, fun w' hS' => ?_, ?_⟩
      rotate_left
      · go_simp
        try (with_reducible rfl)
      try go_simp
      refine hK _ ?_
      clear hK K
      refine wpFk_get rfl (by rfl) (fun K hK => ?_)
      refine ⟨?_, fun w' hS' => ?_, ?_⟩
      rotate_left
      · go_simp
        try (with_reducible rfl)
      try go_simp
      refine hK _ ?_
      clear hK K
      refine wpFk_get rfl (by rfl) (fun K hK => ?_)
      refine ⟨?_, fun w' hS' => ?_, ?_⟩
      rotate_left
      · go_simp
        try (with_reducible rfl)
      try go_simp
      refine hK _ ?_
      clear hK K
      refine wpFk_get rfl (by rfl) (fun K hK => ?_)
      refine ⟨?_, fun w' hS' => ?_, ?_⟩
      rotate_left
      · go_simp
        try (with_reducible rfl)
      try go_simp
      refine hK _ ?_
      clear hK K
      refine wpFk_get rfl (by rfl) (fun K hK => ?_)
      refine ⟨?_, fun w' hS' => ?_, ?_⟩
      rotate_left
      · go_simp
        try (with_reducible rfl)
      try go_simp
      refine hK _ ?_
      clear hK K
      refine wpFk_get rfl (by rfl) (fun K hK => ?_)
      refine ⟨?_, fun w' hS' => ?_, ?_⟩
      rotate_left
      · go_simp
        try (with_reducible rfl)
      try go_simp
      refine hK _ ?_
      clear hK K
      refine wpFk_call rfl (by rfl) (fun K hK => ?_)
      go_simp
      go_at_call 18
      (with_reducible refine (X1.out _ (HT.out.next HN.out.below)).mono ?_)
      rintro e w1 ⟨A, c, rfl, hc, hcm, hA, hb⟩
      have H1 := Lib.hid (HN.out.next hb)
      have HA := Lib.hid hA
      have HC := Lib.hid (And.intro hc hcm)
      clear hb hA hc hcm
      refine hK _ _ HS.out ?_
      clear hK K
      refine wpFk_call rfl (by rfl) (fun K hK => ?_)
      go_simp
      go_at_call 17
      (with_reducible refine (X2.out _ _ _ (HT.out.next H1.out.below) HA.out HC.out).mono ?_)
      rintro e w3 ⟨rfl, hb⟩
      have H3 := Lib.hid (H1.out.next hb)
      clear hb H1 HA HC
      refine hK _ _ HS.out ?_
      clear hK K
      refine wpFk_get rfl (by rfl) (fun K hK => ?_)
      refine ⟨?_, fun w' hS' => ?_, ?_⟩
      rotate_left
      · go_simp
        try (with_reducible rfl)
      try go_simp
      refine hK _ ?_
      clear hK K
      refine wpFk_call rfl (by rfl) (fun K hK => ?_)
      refine wp_store_mid 23 _ _ rfl g (2 + k * 32) C rfl rfl (by rw [zC.out]; exact H3.out.tree.there k (by have := hkb.out; omega)) hz6 oC.out ?_
      refine hK _ _ HS.out ?_
      clear hK K
      refine wpFk_done ?_
      refine HQ.out _ _ ?_
      have H4 : Hid (NewH w (w3.setCells g (2 + k * 32) C.toList) g seed (keysM seed (k + 1)) zeroL) := Lib.hid (by rw [← NM.out, hC.out]; exact H3.out.put k hkb.out (keysM_length _ _) y hy32.out)
      clear H3 HN HQ HS
      go_wp2
      go_roundw
      case rel => exact ⟨k + 1, by go_num, by omega, H4⟩
      case measure => simp [intOf]; omega
    · have hk9 : k = 8 := by omega
      have HE : Hid (NewH w wr g seed (keysF seed) zeroL) := Lib.hid (by have := HN0.out; rw [hk9, keysM_done] at this; exact this)
      obtain ⟨C, hC⟩ : ∃ C, Hid (C = nums .u8 (rootF seed)) := ⟨_, Lib.hid rfl⟩
      have hr32 : Hid ((rootF seed).length = 32) := Lib.hid (rootF_is seed).1
      have zC : Hid (C.size = 32) := Lib.hid (by rw [hC.out, nums_size]; exact hr32.out)
      have oC : Hid (C.all (·.oneCell') = true) := Lib.hid (by rw [hC.out]; exact nums_one _ _)
      have hz6 := sizeH _ zC.out
      have X1 : Hid (∀ W, Tab W → TreeM W g seed (keysF seed) zeroL → Calls Tryd.prog 19 #[.slice (some ⟨g, 2, none⟩) 8 8] W fun e w' => e = .returned (.agg C) ∧ Below W.heap.size W w') := Lib.hid fun W h hM => by
        have := root_any (keysF seed) (keysF_hashes seed) (some ⟨g, 2, none⟩) 8 W hM.list h (by rw [keysF_length]; decide)
        rw [keysF_length] at this
        rw [hC.out]; exact this
      clear HN0 hk9
      go_wp2_with (first
        | (go_at_call 19; (with_reducible refine (X1.out _ (HT.out.next HE.out.below) HE.out.tree).mono ?_); rintro e w1 ⟨rfl, hb⟩; have H1 := Lib.hid (HE.out.next hb); clear hb)
        | (refine wpList_store_mid rfl 23 _ _ rfl g 258 C rfl rfl (by rw [zC.out]; exact H1.out.tree.there 8 (by omega)) hz6 oC.out ?_))
      go_ret
      have H2 := H1.out.putRoot (keysF_length seed) (rootF seed) hr32.out
      rw [← hC.out] at H2
      exact ⟨_, rfl, ⟨g, rfl, H2.tree⟩, H2.below⟩
end Go.Proofs.YtgnkdkehooagpaaDoor
