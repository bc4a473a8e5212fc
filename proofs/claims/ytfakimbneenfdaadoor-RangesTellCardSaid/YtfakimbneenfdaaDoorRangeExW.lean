/-
  The chapter's examples, as the statements of layer 5 call them ('ranged'): true; the call makes new memory, nothing that was there changes. Condition: the two tables as they were laid.
-/
import Derived.Test.YtfakimbneenfdaaDoorListMem
import Derived.Test.YtfakimbneenfdaaDoorRangeEx
import Derived.Test.YtfakimbneenfdaaDoorRangeSome
import Derived.Test.YtfakimbneenfdaaDoorFork
namespace Go.Proofs.YtfakimbneenfdaaDoor
open Go.RowKit
set_option linter.unusedVariables false
set_option maxRecDepth 100000

/-- A range into a block that is made for it. -/
theorem range_put (W : World) (s : Int) (A : Option Addr) (k c : Nat) :
    Row (W.alloc (.cells #[.int .i64 s, .slice A k c] 24)) W.heap.size 24 #[.int .i64 s, .slice A k c] ∧
    Below W.heap.size W (W.alloc (.cells #[.int .i64 s, .slice A k c] 24)) :=
  ⟨Row.made W 24 #[.int .i64 s, .slice A k c], (Below.refl _ _).alloc (Nat.le_refl _) _⟩
theorem own_HW {w w1 : World} {A : Option Addr} {k c : Nat} {ls : List (List Int)} (h : OwnL w w1 (.slice A k c) k ls) (hk : k = ls.length) (hh : hashes ls) : HW w1 A ls := by subst hk; exact own_HL h.1 hh
theorem own_HW2 {w : World} {B g : Nat} {A : Option Addr} {k c : Nat} {ls : List (List Int)} (h : w.ownsRow B 31 32 (.slice A k c) k (cellsL ls)) (hk : k = ls.length) (hh : hashes ls) (hg : g < B) (x y : Value) : HW ((w.setCell ⟨g, 0, none⟩ x).setCell ⟨g, 1, none⟩ y) A ls := by
  subst hk
  exact own_HL (own_at h (fun b hb _ => (Below.heap_setCell _ _ _ b (by show b ≠ g; omega)).trans (Below.heap_setCell _ _ _ b (by show b ≠ g; omega)))) hh
/-- What the examples hold on to, step by step. -/
def Ex1 (w : World) (g : Nat) (ls : List (List Int)) (W : World) : Prop := HW W (some ⟨g, 0, none⟩) ls ∧ Tab W ∧ Below w.heap.size w W
theorem Ex1.next {w W W1 : World} {g : Nat} {ls : List (List Int)} (h : Ex1 w g ls W) (hb : Below W.heap.size W W1) : Ex1 w g ls W1 := ⟨h.1.next hb, h.2.1.next hb, below_new h.2.2 hb⟩
/-- A range that was stored. -/
def RgW (W : World) (b : Nat) (s : Int) (A : Option Addr) (k c : Nat) (hs : List (List Int)) : Prop := Row W b 24 #[.int .i64 s, .slice A k c] ∧ HW W A hs
theorem RgW.next {W W1 : World} {b : Nat} {s : Int} {A : Option Addr} {k c : Nat} {hs : List (List Int)} (h : RgW W b s A k c hs) (hb : Below W.heap.size W W1) : RgW W1 b s A k c hs := ⟨h.1.next hb, h.2.next hb⟩
attribute [local go_sem ↓ high] read_at write_at eq_at neq_at
set_option maxHeartbeats 40000000 in
theorem ranged_any (w : World) (hT : Tab w) :
    Calls Tryd.prog 12 #[] w fun e w' => e = .returned (.bool true) ∧ Below w.heap.size w w' := by
  have hh := someN_hashes 9 (by omega) 6 (by omega)
  obtain ⟨ls, hls⟩ : ∃ ls, Hid (ls = someN 9 6) := ⟨_, Lib.hid rfl⟩
  rw [← hls.out] at hh
  have hl6 : Hid (ls = [someH 9 0, someH 9 1, someH 9 2, someH 9 3, someH 9 4, someH 9 5]) := Lib.hid hls.out
  obtain ⟨Ha, hHa⟩ : ∃ H, Hid (H = [rootL [someH 9 0, someH 9 1, someH 9 2, someH 9 3], someH 9 4]) := ⟨_, Lib.hid rfl⟩
  have haa : Hid (hashes Ha) := Lib.hid (by
    rw [hHa.out]
    intro x hx
    rcases List.mem_cons.1 hx with rfl | hx
    · exact rootL_is _ (by have := hashes_take hh 4; rw [hl6.out] at this; exact this)
    · rw [List.mem_singleton.1 hx]
      have := hashes_at hh 4 (by rw [hl6.out]; decide)
      rw [hl6.out] at this
      exact this)
  have S0 : Hid (∀ W, Calls Tryd.prog 30 #[.int .i64 6, .int .u8 9] W fun ev w' => (∃ g c, ev = .returned (.slice (some ⟨g, 0, none⟩) 6 c) ∧ (6 ≤ c ∧ c ≤ maxLen) ∧ HW w' (some ⟨g, 0, none⟩) ls) ∧ Below W.heap.size W w') := Lib.hid fun W =>
    (some2_any 6 (by omega) 9 (by omega) W).mono fun ev w' ⟨⟨A, c, he, hc, hA, hg⟩, hb⟩ => by
      rcases hg with hg | ⟨g, rfl⟩
      · omega
      · exact ⟨⟨g, c, he, hc, by rw [hls.out]; exact hA⟩, hb⟩
  have hh5 : hashes (ls.take 5) := hashes_take hh 5
  obtain ⟨x5, hx5⟩ : ∃ x, Hid (x = someH 9 5) := ⟨_, Lib.hid rfl⟩
  obtain ⟨x4, hx4⟩ : ∃ x, Hid (x = someH 9 4) := ⟨_, Lib.hid rfl⟩
  have hx5i : x5.length = 32 ∧ bytes x5 := by
    have := hashes_at hh 5 (by rw [hl6.out]; decide)
    rw [hl6.out] at this
    rw [hx5.out]; exact this
  obtain ⟨Hb, hHb⟩ : ∃ H, Hid (H = [rootL [someH 9 0, someH 9 1, someH 9 2, someH 9 3], nodeL (someH 9 4) (someH 9 5)]) := ⟨_, Lib.hid rfl⟩
  obtain ⟨Hp, hHp⟩ : ∃ H, Hid (H = [someH 9 1, nodeL (someH 9 2) (someH 9 3), someH 9 4]) := ⟨_, Lib.hid rfl⟩
  obtain ⟨Ho, hHo⟩ : ∃ H, Hid (H = [someH 9 0]) := ⟨_, Lib.hid rfl⟩
  have E1 : extF 0 [] (ls.take 5) = (5, Ha, 0) := by rw [hl6.out, hHa.out]; exact ext_five _ _ _ _ _
  have E2 : extF 5 Ha [x5] = (6, Hb, 0) := by rw [hHa.out, hHb.out, hx5.out]; exact ext_six _ _ _
  have E3 : partF 1 ((ls.drop 1).take 4) = (Hp, 0) := by rw [hl6.out, hHp.out]; exact part_five _ _ _ _
  have E4 : extF 0 [] (ls.take 1) = (1, Ho, 0) := by rw [hl6.out, hHo.out]; exact ext_one _
  have E5 : mergeF 1 Ho 5 Hp = (5, Ha, 0) := by rw [hHo.out, hHp.out, hHa.out]; exact merge_five _ _ _ _ _
  have la : Hid (Ha.length = 2) := Lib.hid (by rw [hHa.out]; rfl)
  have lb : Hid (Hb.length = 2) := Lib.hid (by rw [hHb.out]; rfl)
  have lp : Hid (Hp.length = 3) := Lib.hid (by rw [hHp.out]; rfl)
  have lo : Hid (Ho.length = 1) := Lib.hid (by rw [hHo.out]; rfl)
  have l6 : Hid (ls.length = 6) := Lib.hid (by rw [hl6.out]; rfl)
  have hab : Hid (hashes Hb) := Lib.hid (by have := extF_hashes (s := 5) (ls := [x5]) haa.out (fun l h => by rw [List.mem_singleton.1 h]; exact hx5i); rw [E2] at this; exact this)
  have hap : Hid (hashes Hp) := Lib.hid (by have := partF_hashes (f := 1) (hashes_take (hashes_drop hh 1) 4); rw [E3] at this; exact this)
  have hao : Hid (hashes Ho) := Lib.hid (by have := extF_hashes (s := 0) (hs := []) (fun _ h => nomatch h) (hashes_take hh 1); rw [E4] at this; exact this)
  have O1 : Hid (∀ W g c, Ex1 w g ls W → 6 ≤ c ∧ c ≤ maxLen → Calls Tryd.prog 25 #[.slice (some ⟨g, 0, none⟩) 5 c] W fun e w' => ∃ A c', e = .returned (.tuple #[.agg #[.int .i64 5, .slice A 2 c'], .int .i64 0]) ∧ HW w' A Ha ∧ Below W.heap.size W w') := Lib.hid fun W g c H h => by
    have := of_any W H.2.1 (some ⟨g, 0, none⟩) c (ls.take 5) hh5 (H.1.take 5) (by rw [List.length_take, l6.out]; omega) h.2
    rw [E1, List.length_take, l6.out] at this
    refine this.mono ?_
    rintro e w' ⟨A, c', rfl, ho⟩
    exact ⟨A, c', by rw [la.out], own_HW ho rfl haa.out, ho.2⟩
  obtain ⟨X5, hX5⟩ : ∃ X, Hid (X = nums .u8 x5) := ⟨_, Lib.hid rfl⟩
  have O2 : Hid (∀ W A c, Tab W → HW W A Ha → Calls Tryd.prog 28 #[.agg #[.int .i64 5, .slice A 2 c], .agg X5] W fun e w' => ∃ A c', e = .returned (.tuple #[.agg #[.int .i64 6, .slice A 2 c'], .int .i64 0]) ∧ OwnL W w' (.slice A 2 c') 2 Hb) := Lib.hid fun W A c H h => by
    have := append_any W H 5 (by decide) A c Ha haa.out h x5 hx5i
    rw [E2, la.out, ← hX5.out] at this
    refine this.mono ?_
    rintro e w' ⟨A, c', rfl, ho⟩
    refine ⟨A, c', by rw [lb.out], ?_⟩
    have h2 : OwnL W w' (.slice A Hb.length c') Hb.length Hb := ho
    rwa [lb.out] at h2
  have O3 : Hid (∀ W g c, Ex1 w g ls W → 6 ≤ c ∧ c ≤ maxLen → Calls Tryd.prog 22 #[.int .i64 1, .slice (some ⟨g, 32, none⟩) 4 (c - 1)] W fun e w' => ∃ A c', e = .returned (.tuple #[.slice A 3 c', .int .i64 0]) ∧ HW w' A Hp ∧ Below W.heap.size W w') := Lib.hid fun W g c H h => by
    have h1 := (H.1.drop 1).take 4
    rw [add_flat] at h1
    have := part_any W H.2.1 1 (by decide) (some ⟨g, 32, none⟩) (c - 1) ((ls.drop 1).take 4) (hashes_take (hashes_drop hh 1) 4) h1 (by rw [List.length_take, List.length_drop, l6.out]; omega) (by have := h.2; omega)
    rw [E3, List.length_take, List.length_drop, l6.out] at this
    refine this.mono ?_
    rintro e w' ⟨A, c', rfl, _, _, h4, hb⟩
    exact ⟨A, c', by rw [lp.out], h4, hb⟩
  have O4 : Hid (∀ W g c, Ex1 w g ls W → 6 ≤ c ∧ c ≤ maxLen → Calls Tryd.prog 25 #[.slice (some ⟨g, 0, none⟩) 1 c] W fun e w' => ∃ A c', e = .returned (.tuple #[.agg #[.int .i64 1, .slice A 1 c'], .int .i64 0]) ∧ HW w' A Ho ∧ Below W.heap.size W w') := Lib.hid fun W g c H h => by
    have := of_any W H.2.1 (some ⟨g, 0, none⟩) c (ls.take 1) (hashes_take hh 1) (H.1.take 1) (by rw [List.length_take, l6.out]; omega) h.2
    rw [E4, List.length_take, l6.out] at this
    refine this.mono ?_
    rintro e w' ⟨A, c', rfl, ho⟩
    exact ⟨A, c', by rw [lo.out], own_HW ho rfl hao.out, ho.2⟩
  have O5 : Hid (∀ W A c A2 c2, Tab W → HW W A Ho → HW W A2 Hp → Calls Tryd.prog 20 #[.agg #[.int .i64 1, .slice A 1 c], .int .i64 5, .slice A2 3 c2] W fun e w' => ∃ A c', e = .returned (.tuple #[.agg #[.int .i64 5, .slice A 2 c'], .int .i64 0]) ∧ HW w' A Ha ∧ Below W.heap.size W w') := Lib.hid fun W A c A2 c2 H h h2 => by
    have := merge_any W H 1 A c Ho hao.out h 5 A2 c2 Hp hap.out h2 (by rw [lp.out]; decide)
    rw [E5, lo.out, lp.out] at this
    refine this.mono ?_
    rintro e w' ⟨A, c', rfl, ho⟩
    exact ⟨A, c', by rw [la.out], own_HW ho rfl haa.out, ho.2⟩
  obtain ⟨F, hF⟩ : ∃ F, Hid (F = nums .u8 (rootL (ls.take 4))) := ⟨_, Lib.hid rfl⟩
  have O6 : Hid (∀ W g c, Ex1 w g ls W → Calls Tryd.prog 29 #[.slice (some ⟨g, 0, none⟩) 4 c] W fun e w' => e = .returned (.agg F) ∧ Below W.heap.size W w') := Lib.hid fun W g c H => by
    have := root_any (ls.take 4) (hashes_take hh 4) (some ⟨g, 0, none⟩) c W (H.1.take 4) H.2.1 (by rw [List.length_take, l6.out]; decide)
    rw [List.length_take, l6.out, ← hF.out] at this
    exact this
  have HT := Lib.hid hT
  clear hT E1 E2 E3 E4 E5 hh5
  go_enter Tryd.func12, Tryd.ntmps12
  go_upto_region 2 with (go_at_call 30; (with_reducible refine (S0.out _).mono ?_); rintro e w1 ⟨⟨g, c, rfl, hc, hA⟩, hb⟩; have H1 : Hid (Ex1 w g ls w1) := Lib.hid ⟨hA, HT.out.next hb, hb⟩; have HC := Lib.hid hc; clear hb hA hc)
  clear S0
  have hc6 : 6 ≤ c := HC.out.1
  have b5 : (5 : Int) ≤ (c : Int) := by omega
  have b1 : (1 : Int) ≤ (c : Int) := by omega
  have b4 : (4 : Int) ≤ (c : Int) := by omega
  have hc1 : ¬ (c = 1) := by omega
  have hct : ((c : Int) - 1).toNat = c - 1 := by omega
  go_upto_region 3 with (go_at_call 25; (with_reducible refine (O1.out _ _ _ H1.out HC.out).mono ?_); rintro e w2 ⟨Aa, ca, rfl, hA, hb⟩; have H2 := Lib.hid (H1.out.next hb); have HA := Lib.hid hA; clear hb hA)
  have HP := Lib.hid (range_put w2 5 Aa 2 ca)
  refine world_gen (fun W => Ex1 w g ls W ∧ RgW W w2.heap.size 5 Aa 2 ca Ha) ⟨H2.out.next HP.out.2, HP.out.1, HA.out.next HP.out.2⟩ (fun w3 H3 => ?_)
  clear HP HA H2 H1 O1
  have H3 := Lib.hid H3
  go_cut [4, 5] (fun s4 s5 wx => ∃ b A c', s4 = .pointer (some ⟨b, 0, none⟩) ∧ s5 = .int .i64 0 ∧ Hid (Ex1 w g ls wx ∧ RgW wx w2.heap.size 5 Aa 2 ca Ha ∧ RgW wx b 6 A 2 c' Hb))
  case first =>
    have S5 : Hid (∀ W, Below w3.heap.size w3 W → (readAt (.pointer (some ⟨g, 160, none⟩))).run Tryd.prog W = .ok (.agg X5) W) := Lib.hid fun W hW => by
      have h1 : HL W W.heap.size (some ⟨g, 0, none⟩) ls := H3.out.1.1.next hW
      have := h1.read hh 5 (by rw [l6.out]; decide)
      rw [add_flat, hl6.out] at this
      rw [hX5.out, hx5.out]; exact this
    have O2' : Hid (∀ W, Below w3.heap.size w3 W → Calls Tryd.prog 28 #[.agg #[.int .i64 5, .slice Aa 2 ca], .agg X5] W fun e w' => ∃ A c', e = .returned (.tuple #[.agg #[.int .i64 6, .slice A 2 c'], .int .i64 0]) ∧ OwnL W w' (.slice A 2 c') 2 Hb) := Lib.hid fun W hW =>
      O2.out W Aa ca (H3.out.1.2.1.next hW) (H3.out.2.2.next hW)
    refine wp_region_fk (Below w3.heap.size w3) (.get 0 (.get 1 (.get 2 (.get 3 (.fork 4 8 (.get 5 (.get 6 (.get 7 (.call 8 (.call 9 (.get 10 .done)))))) (.call 4 (.get 5 (.get 6 (.get 7 (.call 9 (.get 10 .done))))))))))) (by kernel_rfl) rfl (by kernel_rfl) (by kernel_rfl) (by intro c a d v w h; cases d <;> exact h) (Below.refl w3.heap.size w3).drew (fun Q' hQ => ?_)
    have HS := Lib.hid (Below.refl w3.heap.size w3).drew
    have HQ := Lib.hid hQ
    clear hQ
    refine wpFk_get rfl (by rfl) (fun K hK => ?_)
    refine ⟨?_, fun w' hS' => ?_, ?_⟩
    rotate_left
    · have c0 := (H3.out.2.1.next hS').cell 0
      have c1 := (H3.out.2.1.next hS').cell 1
      go_simp
      try (with_reducible rfl)
    try go_simp
    refine hK _ ?_
    clear hK K
    refine wpFk_get rfl (by rfl) (fun K hK => ?_)
    refine ⟨?_, fun w' hS' => ?_, ?_⟩
    rotate_left
    · go_simp
      try (with_reducible rfl)
    try go_simp
    refine hK _ ?_
    clear hK K
    refine wpFk_get rfl (by rfl) (fun K hK => ?_)
    refine ⟨?_, fun w' hS' => ?_, ?_⟩
    rotate_left
    · go_simp
      try (with_reducible rfl)
    try go_simp
    refine hK _ ?_
    clear hK K
    refine wpFk_get rfl (by rfl) (fun K hK => ?_)
    refine ⟨_, fun w' hS' => get_load rfl rfl (S5.out _ hS'), ?_⟩
    try go_simp
    refine hK _ ?_
    clear hK K
    refine wpFk_fork ?_ ?_
    · refine wpFk_call rfl (by rfl) (fun K hK => ?_)
      go_simp
      go_at_call 28
      refine (O2'.out _ HS.out).mono ?_
      rintro e w4 ⟨Ab, cb, rfl, ho⟩
      have HO := Lib.hid ho
      have hb := ho.2
      replace HS := Lib.hid (below_new HS.out hb)
      clear hb ho
      refine hK _ _ HS.out ?_
      clear hK K
      refine wpFk_get rfl (by rfl) (fun K hK => ?_)
      refine ⟨?_, fun w' hS' => ?_, ?_⟩
      rotate_left
      · go_simp
        try (with_reducible rfl)
      try go_simp
      refine hK _ ?_
      clear hK K
      refine wpFk_get rfl (by rfl) (fun K hK => ?_)
      refine ⟨?_, fun w' hS' => ?_, ?_⟩
      rotate_left
      · go_simp
        try (with_reducible rfl)
      try go_simp
      refine hK _ ?_
      clear hK K
      refine wpFk_get rfl (by rfl) (fun K hK => ?_)
      refine ⟨?_, fun w' hS' => ?_, ?_⟩
      rotate_left
      · go_simp
        try (with_reducible rfl)
      try go_simp
      refine hK _ ?_
      clear hK K
      refine wpFk_call rfl (by rfl) (fun K hK => ?_)
      go_simp
      have HSb := HS
      have HZ := Lib.hid (Row.made w4 24 #[.int .i64 0, .slice none 0 0])
      replace HS := Lib.hid (HS.out.alloc HS.out.size (.cells #[.int .i64 0, .slice none 0 0] 24))
      refine hK _ _ HS.out ?_
      clear hK K
      refine wpFk_call rfl (by rfl) (fun K hK => ?_)
      go_simp
      have HF := Lib.hid (Row.made w4 24 #[.int .i64 6, .slice Ab 2 cb])
      replace HS := Lib.hid (HSb.out.alloc HSb.out.size (.cells #[.int .i64 6, .slice Ab 2 cb] 24))
      refine hK _ _ HS.out ?_
      clear hK K
      refine wpFk_get rfl (by rfl) (fun K hK => ?_)
      refine ⟨?_, fun w' hS' => ?_, ?_⟩
      rotate_left
      · go_simp
        try (with_reducible rfl)
      try go_simp
      refine hK _ ?_
      clear hK K
      refine wpFk_done ?_
      refine HQ.out _ _ ?_
      go_wp2
      go_meet
      case rel => exact ⟨_, _, _, rfl, rfl, Lib.hid ⟨H3.out.1.next HS.out, H3.out.2.next HS.out, HF.out, (own_HW HO.out lb.out.symm hab.out).next ((Below.refl w4.heap.size w4).alloc (Nat.le_refl _) _)⟩⟩
    · refine wpFk_call rfl (by rfl) (fun K hK => ?_)
      go_simp
      have HSb := HS
      have HZ := Lib.hid (Row.made w3.drew 24 #[.int .i64 0, .slice none 0 0])
      replace HS := Lib.hid (HS.out.alloc HS.out.size (.cells #[.int .i64 0, .slice none 0 0] 24))
      refine hK _ _ HS.out ?_
      clear hK K
      refine wpFk_call rfl (by rfl) (fun K hK => ?_)
      go_simp
      go_at_call 28
      refine (O2'.out _ HS.out).mono ?_
      rintro e w4 ⟨Ab, cb, rfl, ho⟩
      have HO := Lib.hid ho
      have hb := ho.2
      have HZ4 : Hid (Row w4 w3.heap.size 24 #[.int .i64 0, .slice none 0 0]) := Lib.hid (HZ.out.next hb)
      have z0 := HZ4.out.cell 0
      have z1 := HZ4.out.cell 1
      have f0 := HZ4.out.free 0
      have f1 := HZ4.out.free 1
      replace HS := Lib.hid (below_new HS.out hb)
      clear hb ho
      refine hK _ _ HS.out ?_
      clear hK K
      refine wpFk_get rfl (by rfl) (fun K hK => ?_)
      refine ⟨?_, fun w' hS' => ?_, ?_⟩
      rotate_left
      · go_simp
        try (with_reducible rfl)
      try go_simp
      refine hK _ ?_
      clear hK K
      refine wpFk_get rfl (by rfl) (fun K hK => ?_)
      refine ⟨?_, fun w' hS' => ?_, ?_⟩
      rotate_left
      · go_simp
        try (with_reducible rfl)
      try go_simp
      refine hK _ ?_
      clear hK K
      refine wpFk_get rfl (by rfl) (fun K hK => ?_)
      refine ⟨?_, fun w' hS' => ?_, ?_⟩
      rotate_left
      · go_simp
        try (with_reducible rfl)
      try go_simp
      refine hK _ ?_
      clear hK K
      refine wpFk_call rfl (by rfl) (fun K hK => ?_)
      go_simp
      have HF := Lib.hid ((HZ4.out.put 0 (.int .i64 6)).put 1 (.slice Ab 2 cb))
      replace HS := Lib.hid ((HS.out.setCell (p := ⟨w3.heap.size, 0, none⟩) (Nat.le_refl _) (.int .i64 6)).setCell (p := ⟨w3.heap.size, 1, none⟩) (Nat.le_refl _) (.slice Ab 2 cb))
      refine hK _ _ HS.out ?_
      clear hK K
      refine wpFk_get rfl (by rfl) (fun K hK => ?_)
      refine ⟨?_, fun w' hS' => ?_, ?_⟩
      rotate_left
      · go_simp
        try (with_reducible rfl)
      try go_simp
      refine hK _ ?_
      clear hK K
      refine wpFk_done ?_
      refine HQ.out _ _ ?_
      go_wp2
      go_meet
      case rel => exact ⟨_, _, _, rfl, rfl, Lib.hid ⟨H3.out.1.next HS.out, H3.out.2.next HS.out, HF.out, own_HW2 HO.out.1 lb.out.symm hab.out (by simp) _ _⟩⟩
  case rest =>
    obtain ⟨b4, Ab, cb, rfl, rfl, H4⟩ := hcut
    clear H3 O2
    have H4a := Lib.hid H4.out.1
    go_upto_region 5 with (go_at_call 22; (with_reducible refine (O3.out _ _ _ H4a.out HC.out).mono ?_); rintro e w5 ⟨Ap, cp, rfl, hA, hb⟩; have H5 : Hid (Ex1 w g ls w5 ∧ RgW w5 w2.heap.size 5 Aa 2 ca Ha ∧ RgW w5 b4 6 Ab 2 cb Hb ∧ HW w5 Ap Hp) := Lib.hid ⟨H4.out.1.next hb, H4.out.2.1.next hb, H4.out.2.2.next hb, hA⟩; clear hb hA)
    clear H4a H4 O3
    have H5a := Lib.hid H5.out.1
    go_upto_region 6 with (go_at_call 25; (with_reducible refine (O4.out _ _ _ H5a.out HC.out).mono ?_); rintro e w6 ⟨Ao, co, rfl, hA, hb⟩; have H6 : Hid ((Ex1 w g ls w6 ∧ RgW w6 w2.heap.size 5 Aa 2 ca Ha ∧ RgW w6 b4 6 Ab 2 cb Hb ∧ HW w6 Ap Hp) ∧ HW w6 Ao Ho) := Lib.hid ⟨⟨H5.out.1.next hb, H5.out.2.1.next hb, H5.out.2.2.1.next hb, H5.out.2.2.2.next hb⟩, hA⟩; clear hb hA)
    clear H5a H5 O4
    have HP := Lib.hid (range_put w6 1 Ao 1 co)
    refine world_gen (fun W => (Ex1 w g ls W ∧ RgW W w2.heap.size 5 Aa 2 ca Ha ∧ RgW W b4 6 Ab 2 cb Hb ∧ HW W Ap Hp) ∧ RgW W w6.heap.size 1 Ao 1 co Ho) ⟨⟨H6.out.1.1.next HP.out.2, H6.out.1.2.1.next HP.out.2, H6.out.1.2.2.1.next HP.out.2, H6.out.1.2.2.2.next HP.out.2⟩, HP.out.1, H6.out.2.next HP.out.2⟩ (fun w7 H7 => ?_)
    clear HP H6
    have H7 := Lib.hid H7
    have H7t := Lib.hid H7.out.1.1.2.1
    have H7o := Lib.hid H7.out.2.2
    have H7p := Lib.hid H7.out.1.2.2.2
    have c0 : w7.cell? ⟨w6.heap.size, 0, none⟩ = some (.int .i64 1) := H7.out.2.1.cell 0
    have c1 : w7.cell? ⟨w6.heap.size, 1, none⟩ = some (.slice Ao 1 co) := H7.out.2.1.cell 1
    go_upto_region 7 with (go_at_call 20; (with_reducible refine (O5.out _ _ _ _ _ H7t.out H7o.out H7p.out).mono ?_); rintro e w8 ⟨Ac, cc, rfl, hA, hb⟩; have H8 : Hid ((Ex1 w g ls w8 ∧ RgW w8 w2.heap.size 5 Aa 2 ca Ha ∧ RgW w8 b4 6 Ab 2 cb Hb ∧ HW w8 Ap Hp) ∧ HW w8 Ac Ha) := Lib.hid ⟨⟨H7.out.1.1.next hb, H7.out.1.2.1.next hb, H7.out.1.2.2.1.next hb, H7.out.1.2.2.2.next hb⟩, hA⟩; clear hb hA c0 c1)
    clear H7 H7t H7o H7p O5
    have HP := Lib.hid (range_put w8 5 Ac 2 cc)
    refine world_gen (fun W => (Ex1 w g ls W ∧ RgW W w2.heap.size 5 Aa 2 ca Ha ∧ RgW W b4 6 Ab 2 cb Hb ∧ HW W Ap Hp) ∧ RgW W w8.heap.size 5 Ac 2 cc Ha) ⟨⟨H8.out.1.1.next HP.out.2, H8.out.1.2.1.next HP.out.2, H8.out.1.2.2.1.next HP.out.2, H8.out.1.2.2.2.next HP.out.2⟩, HP.out.1, H8.out.2.next HP.out.2⟩ (fun w9 H9 => ?_)
    clear HP H8
    have H9 := Lib.hid H9
    have H9a := Lib.hid H9.out.1.1
    have zF : Hid (F.size = 32) := Lib.hid (by rw [hF.out, nums_size]; exact (rootL_is _ (hashes_take hh 4)).1)
    have oF : Hid (F.all (·.oneCell') = true) := Lib.hid (by rw [hF.out]; exact nums_one _ _)
    go_upto_region 8 with (go_at_call 29; (with_reducible refine (O6.out _ _ _ H9a.out).mono ?_); rintro e w10 ⟨rfl, hb⟩; obtain ⟨w11, s11, hr11, hb11, hz11⟩ := made_write w10 F zF.out oF.out; have H11 : Hid (((Ex1 w g ls w11 ∧ RgW w11 w2.heap.size 5 Aa 2 ca Ha ∧ RgW w11 b4 6 Ab 2 cb Hb ∧ HW w11 Ap Hp) ∧ RgW w11 w8.heap.size 5 Ac 2 cc Ha) ∧ Row w11 w10.heap.size 31 F) := Lib.hid ⟨⟨⟨(H9.out.1.1.next hb).next hb11, (H9.out.1.2.1.next hb).next hb11, (H9.out.1.2.2.1.next hb).next hb11, (H9.out.1.2.2.2.next hb).next hb11⟩, (H9.out.2.next hb).next hb11⟩, hr11⟩; clear hr11 hb11 hz11 hb)
    clear H9 H9a O6 s11
    obtain ⟨X1, hX1⟩ : ∃ X, Hid (X = nums .u8 (someH 9 1)) := ⟨_, Lib.hid rfl⟩
    obtain ⟨X2, hX2⟩ : ∃ X, Hid (X = nums .u8 (someH 9 2)) := ⟨_, Lib.hid rfl⟩
    obtain ⟨X3, hX3⟩ : ∃ X, Hid (X = nums .u8 (someH 9 3)) := ⟨_, Lib.hid rfl⟩
    obtain ⟨X4, hX4⟩ : ∃ X, Hid (X = nums .u8 (someH 9 4)) := ⟨_, Lib.hid rfl⟩
    obtain ⟨Y45, hY45⟩ : ∃ X, Hid (X = nums .u8 (nodeL (someH 9 4) (someH 9 5))) := ⟨_, Lib.hid rfl⟩
    obtain ⟨Y23, hY23⟩ : ∃ X, Hid (X = nums .u8 (nodeL (someH 9 2) (someH 9 3))) := ⟨_, Lib.hid rfl⟩
    have RD : Hid (∀ W, Below w11.heap.size w11 W → (readAt (.pointer (some ⟨g, 32, none⟩))).run Tryd.prog W = .ok (.agg X1) W ∧ (readAt (.pointer (some ⟨g, 64, none⟩))).run Tryd.prog W = .ok (.agg X2) W ∧ (readAt (.pointer (some ⟨g, 96, none⟩))).run Tryd.prog W = .ok (.agg X3) W ∧ (readAt (.pointer (some ⟨g, 128, none⟩))).run Tryd.prog W = .ok (.agg X4) W ∧ (readAt (.pointer (some ⟨g, 160, none⟩))).run Tryd.prog W = .ok (.agg X5) W) := Lib.hid fun W hW => by
      have h1 : HL W W.heap.size (some ⟨g, 0, none⟩) ls := H11.out.1.1.1.1.next hW
      have r1 := h1.read hh 1 (by rw [l6.out]; decide)
      have r2 := h1.read hh 2 (by rw [l6.out]; decide)
      have r3 := h1.read hh 3 (by rw [l6.out]; decide)
      have r4 := h1.read hh 4 (by rw [l6.out]; decide)
      have r5 := h1.read hh 5 (by rw [l6.out]; decide)
      rw [add_flat, hl6.out] at r1 r2 r3 r4 r5
      exact ⟨by rw [hX1.out]; exact r1, by rw [hX2.out]; exact r2, by rw [hX3.out]; exact r3, by rw [hX4.out]; exact r4, by rw [hX5.out, hx5.out]; exact r5⟩
    have hi : ∀ k, k < 6 → (someH 9 k).length = 32 ∧ bytes (someH 9 k) := fun k hk => by
      have h1 := hashes_at hh k (by rw [l6.out]; exact hk)
      rw [hl6.out] at h1
      match k, hk with
      | 0, _ => exact h1
      | 1, _ => exact h1
      | 2, _ => exact h1
      | 3, _ => exact h1
      | 4, _ => exact h1
      | 5, _ => exact h1
    have hrF : rootL (ls.take 4) = rootL [someH 9 0, someH 9 1, someH 9 2, someH 9 3] := by rw [hl6.out]; rfl
    have QA : Hid ((Ha.map fun l => Value.agg (nums .u8 l)) = [.agg F, .agg X4]) := Lib.hid (by rw [hHa.out, hF.out, hX4.out, hrF]; rfl)
    have QB : Hid ((Hb.map fun l => Value.agg (nums .u8 l)) = [.agg F, .agg Y45]) := Lib.hid (by rw [hHb.out, hF.out, hY45.out, hrF]; rfl)
    have QP : Hid ((Hp.map fun l => Value.agg (nums .u8 l)) = [.agg X1, .agg Y23, .agg X4]) := Lib.hid (by rw [hHp.out, hX1.out, hY23.out, hX4.out]; rfl)
    have SL : ∀ (W : World) (A B : Option Addr) (L : List (List Int)) (n c d : Nat), n = L.length → n ≤ 100 → hashes L → HW W A L → HW W B L → Calls Tryd.prog 24 #[.slice A n c, .slice B n d] W fun e w' => e = .returned (.bool true) ∧ Below W.heap.size W w' := fun W A B L n c d hn hn2 hL h1 h2 => by
      subst hn
      refine (lsame_any L L hL hL (by omega) (by omega) A B c d W h1 h2).mono ?_
      rintro e w' ⟨he, k, rfl⟩
      exact ⟨by rw [he, decide_eq_true rfl], below_drewN (Below.refl _ _) k⟩
    have SA : Hid (∀ W B, Below w11.heap.size w11 W → HW W B Ha → Calls Tryd.prog 24 #[.slice Aa 2 ca, .slice B 2 2] W fun e w' => e = .returned (.bool true) ∧ Below W.heap.size W w') := Lib.hid fun W B hW hB => SL W Aa B Ha 2 ca 2 la.out.symm (by decide) haa.out ((H11.out.1.1.2.1.next hW).2) hB
    have SB : Hid (∀ W B, Below w11.heap.size w11 W → HW W B Hb → Calls Tryd.prog 24 #[.slice Ab 2 cb, .slice B 2 2] W fun e w' => e = .returned (.bool true) ∧ Below W.heap.size W w') := Lib.hid fun W B hW hB => SL W Ab B Hb 2 cb 2 lb.out.symm (by decide) hab.out ((H11.out.1.1.2.2.1.next hW).2) hB
    have SP : Hid (∀ W B, Below w11.heap.size w11 W → HW W B Hp → Calls Tryd.prog 24 #[.slice Ap 3 cp, .slice B 3 3] W fun e w' => e = .returned (.bool true) ∧ Below W.heap.size W w') := Lib.hid fun W B hW hB => SL W Ap B Hp 3 cp 3 lp.out.symm (by decide) hap.out (H11.out.1.1.2.2.2.next hW) hB
    have SR : Hid (∀ W, Below w11.heap.size w11 W → Calls Tryd.prog 27 #[.agg #[.int .i64 5, .slice Aa 2 ca], .agg #[.int .i64 5, .slice Ac 2 cc]] W fun e w' => e = .returned (.bool true) ∧ Below W.heap.size W w') := Lib.hid fun W hW => by
      have := rsame_any W 5 5 Aa Ac ca cc Ha Ha haa.out haa.out (by rw [la.out]; decide) (by rw [la.out]; decide) ((H11.out.1.1.2.1.next hW).2) ((H11.out.1.2.next hW).2)
      rw [la.out, show sameB 5 Ha 5 Ha = true from decide_eq_true ⟨rfl, rfl⟩] at this
      exact this
    have N45 : Hid (∀ W, Below w11.heap.size w11 W → Calls Tryd.prog 36 #[.agg X4, .agg X5] W fun e w' => e = .returned (.agg Y45) ∧ Below W.heap.size W w') := Lib.hid fun W hW => by
      rw [hX4.out, hX5.out, hx5.out, hY45.out]
      exact node_any _ _ (hi 4 (by decide)).1 (hi 5 (by decide)).1 W (H11.out.1.1.1.2.1.next hW)
    have N23 : Hid (∀ W, Below w11.heap.size w11 W → Calls Tryd.prog 36 #[.agg X2, .agg X3] W fun e w' => e = .returned (.agg Y23) ∧ Below W.heap.size W w') := Lib.hid fun W hW => by
      rw [hX2.out, hX3.out, hY23.out]
      exact node_any _ _ (hi 2 (by decide)).1 (hi 3 (by decide)).1 W (H11.out.1.1.1.2.1.next hW)
    have QZ : ∀ W, (neqAt (.agg F) (.agg (nums .u8 zero32))).run Tryd.prog W = .ok (.bool true) W := fun W => by
      have h1 := rootL_is _ (hashes_take hh 4)
      have h2 : rootL (ls.take 4) ≠ zero32 := by
        rw [hrF]
        intro e
        have := first_four
        rw [e] at this
        simp at this
      rw [hF.out, neqAt_hash _ _ h1.1 rfl h1.2 zero32_bytes W, decide_eq_false h2]; rfl
    clear SL hrF hi
    refine wp_region_fk (Below w11.heap.size w11) (.get 0 (.get 1 (.get 2 (.get 3 (.get 4 (.get 5 (.get 6 (.get 7 (.get 8 (.get 9 (.get 10 (.get 11 (.get 12 (.get 13 (.get 14 (.get 15 (.get 16 (.get 17 (.get 18 (.get 19 (.get 20 (.get 21 (.get 22 (.get 23 (.get 24 (.get 25 (.get 26 (.get 27 (.get 28 (.get 29 (.call 30 (.call 31 (.get 32 (.get 33 (.get 34 (.get 35 (.get 36 (.get 37 (.get 38 (.get 39 (.get 40 (.get 41 (.get 42 (.call 43 (.call 44 (.call 45 (.get 46 (.get 47 (.get 48 (.get 49 (.get 50 (.get 51 (.get 52 (.get 53 (.get 54 (.get 55 (.get 56 (.get 57 (.get 59 (.get 60 (.get 61 (.call 58 (.call 62 (.call 63 (.get 64 (.get 65 (.get 66 (.get 67 (.call 68 (.get 69 (.get 70 (.get 71 (.get 72 (.get 73 (.get 74 (.get 75 .done)))))))))))))))))))))))))))))))))))))))))))))))))))))))))))))))))))))))))))) (by kernel_rfl) rfl (by kernel_rfl) (by kernel_rfl) (by intro c a d v w h; cases d <;> exact h) (Below.refl w11.heap.size w11).drew (fun Q' hQ => ?_)
    have HS := Lib.hid (Below.refl w11.heap.size w11).drew
    have HQ := Lib.hid hQ
    clear hQ
    refine wpFk_get rfl (by rfl) (fun K hK => ?_)
    refine ⟨?_, fun w' hS' => ?_, ?_⟩
    rotate_left
    · go_simp
      try (with_reducible rfl)
    try go_simp
    refine hK _ ?_
    clear hK K
    refine wpFk_get rfl (by rfl) (fun K hK => ?_)
    refine ⟨?_, fun w' hS' => ?_, ?_⟩
    rotate_left
    · go_simp
      try (with_reducible rfl)
    try go_simp
    refine hK _ ?_
    clear hK K
    refine wpFk_get rfl (by rfl) (fun K hK => ?_)
    refine ⟨?_, fun w' hS' => ?_, ?_⟩
    rotate_left
    · go_simp
      try (with_reducible rfl)
    try go_simp
    refine hK _ ?_
    clear hK K
    refine wpFk_get rfl (by rfl) (fun K hK => ?_)
    refine ⟨?_, fun w' hS' => ?_, ?_⟩
    rotate_left
    · go_simp
      try (with_reducible rfl)
    try go_simp
    refine hK _ ?_
    clear hK K
    refine wpFk_get rfl (by rfl) (fun K hK => ?_)
    refine ⟨?_, fun w' hS' => ?_, ?_⟩
    rotate_left
    · go_simp
      try (with_reducible rfl)
    try go_simp
    refine hK _ ?_
    clear hK K
    refine wpFk_get rfl (by rfl) (fun K hK => ?_)
    refine ⟨?_, fun w' hS' => ?_, ?_⟩
    rotate_left
    · go_simp
      try (with_reducible rfl)
    try go_simp
    refine hK _ ?_
    clear hK K
    refine wpFk_get rfl (by rfl) (fun K hK => ?_)
    refine ⟨?_, fun w' hS' => ?_, ?_⟩
    rotate_left
    · go_simp
      try (with_reducible rfl)
    try go_simp
    refine hK _ ?_
    clear hK K
    refine wpFk_get rfl (by rfl) (fun K hK => ?_)
    refine ⟨?_, fun w' hS' => ?_, ?_⟩
    rotate_left
    · go_simp
      try (with_reducible rfl)
    try go_simp
    refine hK _ ?_
    clear hK K
    refine wpFk_get rfl (by rfl) (fun K hK => ?_)
    refine ⟨?_, fun w' hS' => ?_, ?_⟩
    rotate_left
    · go_simp
      try (with_reducible rfl)
    try go_simp
    refine hK _ ?_
    clear hK K
    refine wpFk_get rfl (by rfl) (fun K hK => ?_)
    refine ⟨?_, fun w' hS' => ?_, ?_⟩
    rotate_left
    · go_simp
      try (with_reducible rfl)
    try go_simp
    refine hK _ ?_
    clear hK K
    refine wpFk_get rfl (by rfl) (fun K hK => ?_)
    refine ⟨?_, fun w' hS' => ?_, ?_⟩
    rotate_left
    · go_simp
      try (with_reducible rfl)
    try go_simp
    refine hK _ ?_
    clear hK K
    refine wpFk_get rfl (by rfl) (fun K hK => ?_)
    refine ⟨?_, fun w' hS' => ?_, ?_⟩
    rotate_left
    · go_simp
      try (with_reducible rfl)
    try go_simp
    refine hK _ ?_
    clear hK K
    refine wpFk_get rfl (by rfl) (fun K hK => ?_)
    refine ⟨?_, fun w' hS' => ?_, ?_⟩
    rotate_left
    · go_simp
      try (with_reducible rfl)
    try go_simp
    refine hK _ ?_
    clear hK K
    refine wpFk_get rfl (by rfl) (fun K hK => ?_)
    refine ⟨?_, fun w' hS' => ?_, ?_⟩
    rotate_left
    · go_simp
      try (with_reducible rfl)
    try go_simp
    refine hK _ ?_
    clear hK K
    refine wpFk_get rfl (by rfl) (fun K hK => ?_)
    refine ⟨?_, fun w' hS' => ?_, ?_⟩
    rotate_left
    · go_simp
      try (with_reducible rfl)
    try go_simp
    refine hK _ ?_
    clear hK K
    refine wpFk_get rfl (by rfl) (fun K hK => ?_)
    refine ⟨?_, fun w' hS' => ?_, ?_⟩
    rotate_left
    · go_simp
      try (with_reducible rfl)
    try go_simp
    refine hK _ ?_
    clear hK K
    refine wpFk_get rfl (by rfl) (fun K hK => ?_)
    refine ⟨?_, fun w' hS' => ?_, ?_⟩
    rotate_left
    · go_simp
      try (with_reducible rfl)
    try go_simp
    refine hK _ ?_
    clear hK K
    refine wpFk_get rfl (by rfl) (fun K hK => ?_)
    refine ⟨?_, fun w' hS' => ?_, ?_⟩
    rotate_left
    · go_simp
      try (with_reducible rfl)
    try go_simp
    refine hK _ ?_
    clear hK K
    refine wpFk_get rfl (by rfl) (fun K hK => ?_)
    refine ⟨?_, fun w' hS' => ?_, ?_⟩
    rotate_left
    · go_simp
      try (with_reducible rfl)
    try go_simp
    refine hK _ ?_
    clear hK K
    refine wpFk_get rfl (by rfl) (fun K hK => ?_)
    refine ⟨?_, fun w' hS' => ?_, ?_⟩
    rotate_left
    · go_simp
      try (with_reducible rfl)
    try go_simp
    refine hK _ ?_
    clear hK K
    refine wpFk_get rfl (by rfl) (fun K hK => ?_)
    refine ⟨?_, fun w' hS' => ?_, ?_⟩
    rotate_left
    · have c0 := (H11.out.1.1.2.1.next hS').1.cell 0
      have c1 := (H11.out.1.1.2.1.next hS').1.cell 1
      go_simp
      try (with_reducible rfl)
    try go_simp
    refine hK _ ?_
    clear hK K
    refine wpFk_get rfl (by rfl) (fun K hK => ?_)
    refine ⟨?_, fun w' hS' => ?_, ?_⟩
    rotate_left
    · go_simp
      try (with_reducible rfl)
    try go_simp
    refine hK _ ?_
    clear hK K
    refine wpFk_get rfl (by rfl) (fun K hK => ?_)
    refine ⟨?_, fun w' hS' => ?_, ?_⟩
    rotate_left
    · go_simp
      try (with_reducible rfl)
    try go_simp
    refine hK _ ?_
    clear hK K
    refine wpFk_get rfl (by rfl) (fun K hK => ?_)
    refine ⟨?_, fun w' hS' => ?_, ?_⟩
    rotate_left
    · go_simp
      try (with_reducible rfl)
    try go_simp
    refine hK _ ?_
    clear hK K
    refine wpFk_get rfl (by rfl) (fun K hK => ?_)
    refine ⟨?_, fun w' hS' => ?_, ?_⟩
    rotate_left
    · go_simp
      try (with_reducible rfl)
    try go_simp
    refine hK _ ?_
    clear hK K
    refine wpFk_get rfl (by rfl) (fun K hK => ?_)
    refine ⟨?_, fun w' hS' => ?_, ?_⟩
    rotate_left
    · have c0 := (H11.out.1.1.2.1.next hS').1.cell 0
      have c1 := (H11.out.1.1.2.1.next hS').1.cell 1
      go_simp
      try (with_reducible rfl)
    try go_simp
    refine hK _ ?_
    clear hK K
    refine wpFk_get rfl (by rfl) (fun K hK => ?_)
    refine ⟨_, fun w' hS' => get_load rfl rfl ((H11.out.2.next hS').read zF.out), ?_⟩
    try go_simp
    refine hK _ ?_
    clear hK K
    refine wpFk_get rfl (by rfl) (fun K hK => ?_)
    refine ⟨?_, fun w' hS' => ?_, ?_⟩
    rotate_left
    · go_simp
      try (with_reducible rfl)
    try go_simp
    refine hK _ ?_
    clear hK K
    refine wpFk_get rfl (by rfl) (fun K hK => ?_)
    refine ⟨?_, fun w' hS' => ?_, ?_⟩
    rotate_left
    · go_simp
      try (with_reducible rfl)
    try go_simp
    refine hK _ ?_
    clear hK K
    refine wpFk_get rfl (by rfl) (fun K hK => ?_)
    refine ⟨_, fun w' hS' => get_load rfl rfl (RD.out _ hS').2.2.2.1, ?_⟩
    try go_simp
    refine hK _ ?_
    clear hK K
    refine wpFk_call rfl (by rfl) (fun K hK => ?_)
    refine wp_buildL 2 _ rfl Ha haa.out la.out.symm (by decide) (by decide) ?_ ?_
    · rw [QA.out]; rfl
    intro wb1 hl hb
    have HL1 := Lib.hid hl
    replace HS := Lib.hid (below_new HS.out hb)
    clear hl hb
    try go_simp
    refine hK _ _ HS.out ?_
    clear hK K
    refine wpFk_call rfl (by rfl) (fun K hK => ?_)
    go_simp
    go_at_call 24
    refine (SA.out _ _ HS.out HL1.out).mono ?_
    rintro e w2x ⟨rfl, hb⟩
    replace HS := Lib.hid (below_new HS.out hb)
    clear hb
    refine hK _ _ HS.out ?_
    clear hK K
    refine wpFk_get rfl (by rfl) (fun K hK => ?_)
    refine ⟨?_, fun w' hS' => ?_, ?_⟩
    rotate_left
    · go_simp
      try (with_reducible rfl)
    try go_simp
    refine hK _ ?_
    clear hK K
    refine wpFk_get rfl (by rfl) (fun K hK => ?_)
    refine ⟨?_, fun w' hS' => ?_, ?_⟩
    rotate_left
    · go_simp
      try (with_reducible rfl)
    try go_simp
    refine hK _ ?_
    clear hK K
    refine wpFk_get rfl (by rfl) (fun K hK => ?_)
    refine ⟨?_, fun w' hS' => ?_, ?_⟩
    rotate_left
    · go_simp
      try (with_reducible rfl)
    try go_simp
    refine hK _ ?_
    clear hK K
    refine wpFk_get rfl (by rfl) (fun K hK => ?_)
    refine ⟨?_, fun w' hS' => ?_, ?_⟩
    rotate_left
    · have c0 := (H11.out.1.1.2.2.1.next hS').1.cell 0
      have c1 := (H11.out.1.1.2.2.1.next hS').1.cell 1
      go_simp
      try (with_reducible rfl)
    try go_simp
    refine hK _ ?_
    clear hK K
    refine wpFk_get rfl (by rfl) (fun K hK => ?_)
    refine ⟨_, fun w' hS' => get_load rfl rfl ((H11.out.2.next hS').read zF.out), ?_⟩
    try go_simp
    refine hK _ ?_
    clear hK K
    refine wpFk_get rfl (by rfl) (fun K hK => ?_)
    refine ⟨?_, fun w' hS' => ?_, ?_⟩
    rotate_left
    · go_simp
      try (with_reducible rfl)
    try go_simp
    refine hK _ ?_
    clear hK K
    refine wpFk_get rfl (by rfl) (fun K hK => ?_)
    refine ⟨?_, fun w' hS' => ?_, ?_⟩
    rotate_left
    · go_simp
      try (with_reducible rfl)
    try go_simp
    refine hK _ ?_
    clear hK K
    refine wpFk_get rfl (by rfl) (fun K hK => ?_)
    refine ⟨_, fun w' hS' => get_load rfl rfl (RD.out _ hS').2.2.2.1, ?_⟩
    try go_simp
    refine hK _ ?_
    clear hK K
    refine wpFk_get rfl (by rfl) (fun K hK => ?_)
    refine ⟨?_, fun w' hS' => ?_, ?_⟩
    rotate_left
    · go_simp
      try (with_reducible rfl)
    try go_simp
    refine hK _ ?_
    clear hK K
    refine wpFk_get rfl (by rfl) (fun K hK => ?_)
    refine ⟨?_, fun w' hS' => ?_, ?_⟩
    rotate_left
    · go_simp
      try (with_reducible rfl)
    try go_simp
    refine hK _ ?_
    clear hK K
    refine wpFk_get rfl (by rfl) (fun K hK => ?_)
    refine ⟨_, fun w' hS' => get_load rfl rfl (RD.out _ hS').2.2.2.2, ?_⟩
    try go_simp
    refine hK _ ?_
    clear hK K
    refine wpFk_call rfl (by rfl) (fun K hK => ?_)
    go_simp
    go_at_call 36
    refine (N45.out _ HS.out).mono ?_
    rintro e w2x ⟨rfl, hb⟩
    replace HS := Lib.hid (below_new HS.out hb)
    clear hb
    refine hK _ _ HS.out ?_
    clear hK K
    refine wpFk_call rfl (by rfl) (fun K hK => ?_)
    refine wp_buildL 2 _ rfl Hb hab.out lb.out.symm (by decide) (by decide) ?_ ?_
    · rw [QB.out]; rfl
    intro wb2 hl hb
    have HL2 := Lib.hid hl
    replace HS := Lib.hid (below_new HS.out hb)
    clear hl hb
    try go_simp
    refine hK _ _ HS.out ?_
    clear hK K
    refine wpFk_call rfl (by rfl) (fun K hK => ?_)
    go_simp
    go_at_call 24
    refine (SB.out _ _ HS.out HL2.out).mono ?_
    rintro e w2x ⟨rfl, hb⟩
    replace HS := Lib.hid (below_new HS.out hb)
    clear hb
    refine hK _ _ HS.out ?_
    clear hK K
    refine wpFk_get rfl (by rfl) (fun K hK => ?_)
    refine ⟨?_, fun w' hS' => ?_, ?_⟩
    rotate_left
    · go_simp
      try (with_reducible rfl)
    try go_simp
    refine hK _ ?_
    clear hK K
    refine wpFk_get rfl (by rfl) (fun K hK => ?_)
    refine ⟨?_, fun w' hS' => ?_, ?_⟩
    rotate_left
    · go_simp
      try (with_reducible rfl)
    try go_simp
    refine hK _ ?_
    clear hK K
    refine wpFk_get rfl (by rfl) (fun K hK => ?_)
    refine ⟨?_, fun w' hS' => ?_, ?_⟩
    rotate_left
    · go_simp
      try (with_reducible rfl)
    try go_simp
    refine hK _ ?_
    clear hK K
    refine wpFk_get rfl (by rfl) (fun K hK => ?_)
    refine ⟨?_, fun w' hS' => ?_, ?_⟩
    rotate_left
    · go_simp
      try (with_reducible rfl)
    try go_simp
    refine hK _ ?_
    clear hK K
    refine wpFk_get rfl (by rfl) (fun K hK => ?_)
    refine ⟨?_, fun w' hS' => ?_, ?_⟩
    rotate_left
    · go_simp
      try (with_reducible rfl)
    try go_simp
    refine hK _ ?_
    clear hK K
    refine wpFk_get rfl (by rfl) (fun K hK => ?_)
    refine ⟨_, fun w' hS' => get_load rfl rfl (RD.out _ hS').1, ?_⟩
    try go_simp
    refine hK _ ?_
    clear hK K
    refine wpFk_get rfl (by rfl) (fun K hK => ?_)
    refine ⟨?_, fun w' hS' => ?_, ?_⟩
    rotate_left
    · go_simp
      try (with_reducible rfl)
    try go_simp
    refine hK _ ?_
    clear hK K
    refine wpFk_get rfl (by rfl) (fun K hK => ?_)
    refine ⟨?_, fun w' hS' => ?_, ?_⟩
    rotate_left
    · go_simp
      try (with_reducible rfl)
    try go_simp
    refine hK _ ?_
    clear hK K
    refine wpFk_get rfl (by rfl) (fun K hK => ?_)
    refine ⟨_, fun w' hS' => get_load rfl rfl (RD.out _ hS').2.1, ?_⟩
    try go_simp
    refine hK _ ?_
    clear hK K
    refine wpFk_get rfl (by rfl) (fun K hK => ?_)
    refine ⟨?_, fun w' hS' => ?_, ?_⟩
    rotate_left
    · go_simp
      try (with_reducible rfl)
    try go_simp
    refine hK _ ?_
    clear hK K
    refine wpFk_get rfl (by rfl) (fun K hK => ?_)
    refine ⟨?_, fun w' hS' => ?_, ?_⟩
    rotate_left
    · go_simp
      try (with_reducible rfl)
    try go_simp
    refine hK _ ?_
    clear hK K
    refine wpFk_get rfl (by rfl) (fun K hK => ?_)
    refine ⟨_, fun w' hS' => get_load rfl rfl (RD.out _ hS').2.2.1, ?_⟩
    try go_simp
    refine hK _ ?_
    clear hK K
    refine wpFk_get rfl (by rfl) (fun K hK => ?_)
    refine ⟨?_, fun w' hS' => ?_, ?_⟩
    rotate_left
    · go_simp
      try (with_reducible rfl)
    try go_simp
    refine hK _ ?_
    clear hK K
    refine wpFk_get rfl (by rfl) (fun K hK => ?_)
    refine ⟨?_, fun w' hS' => ?_, ?_⟩
    rotate_left
    · go_simp
      try (with_reducible rfl)
    try go_simp
    refine hK _ ?_
    clear hK K
    refine wpFk_get rfl (by rfl) (fun K hK => ?_)
    refine ⟨_, fun w' hS' => get_load rfl rfl (RD.out _ hS').2.2.2.1, ?_⟩
    try go_simp
    refine hK _ ?_
    clear hK K
    refine wpFk_call rfl (by rfl) (fun K hK => ?_)
    go_simp
    go_at_call 36
    refine (N23.out _ HS.out).mono ?_
    rintro e w2x ⟨rfl, hb⟩
    replace HS := Lib.hid (below_new HS.out hb)
    clear hb
    refine hK _ _ HS.out ?_
    clear hK K
    refine wpFk_call rfl (by rfl) (fun K hK => ?_)
    refine wp_buildL 3 _ rfl Hp hap.out lp.out.symm (by decide) (by decide) ?_ ?_
    · rw [QP.out]; rfl
    intro wb3 hl hb
    have HL3 := Lib.hid hl
    replace HS := Lib.hid (below_new HS.out hb)
    clear hl hb
    try go_simp
    refine hK _ _ HS.out ?_
    clear hK K
    refine wpFk_call rfl (by rfl) (fun K hK => ?_)
    go_simp
    go_at_call 24
    refine (SP.out _ _ HS.out HL3.out).mono ?_
    rintro e w2x ⟨rfl, hb⟩
    replace HS := Lib.hid (below_new HS.out hb)
    clear hb
    refine hK _ _ HS.out ?_
    clear hK K
    refine wpFk_get rfl (by rfl) (fun K hK => ?_)
    refine ⟨?_, fun w' hS' => ?_, ?_⟩
    rotate_left
    · go_simp
      try (with_reducible rfl)
    try go_simp
    refine hK _ ?_
    clear hK K
    refine wpFk_get rfl (by rfl) (fun K hK => ?_)
    refine ⟨?_, fun w' hS' => ?_, ?_⟩
    rotate_left
    · go_simp
      try (with_reducible rfl)
    try go_simp
    refine hK _ ?_
    clear hK K
    refine wpFk_get rfl (by rfl) (fun K hK => ?_)
    refine ⟨?_, fun w' hS' => ?_, ?_⟩
    rotate_left
    · have c0 := (H11.out.1.1.2.1.next hS').1.cell 0
      have c1 := (H11.out.1.1.2.1.next hS').1.cell 1
      go_simp
      try (with_reducible rfl)
    try go_simp
    refine hK _ ?_
    clear hK K
    refine wpFk_get rfl (by rfl) (fun K hK => ?_)
    refine ⟨?_, fun w' hS' => ?_, ?_⟩
    rotate_left
    · have c0 := (H11.out.1.2.next hS').1.cell 0
      have c1 := (H11.out.1.2.next hS').1.cell 1
      go_simp
      try (with_reducible rfl)
    try go_simp
    refine hK _ ?_
    clear hK K
    refine wpFk_call rfl (by rfl) (fun K hK => ?_)
    go_simp
    go_at_call 27
    refine (SR.out _ HS.out).mono ?_
    rintro e w2x ⟨rfl, hb⟩
    replace HS := Lib.hid (below_new HS.out hb)
    clear hb
    refine hK _ _ HS.out ?_
    clear hK K
    refine wpFk_get rfl (by rfl) (fun K hK => ?_)
    refine ⟨?_, fun w' hS' => ?_, ?_⟩
    rotate_left
    · go_simp
      try (with_reducible rfl)
    try go_simp
    refine hK _ ?_
    clear hK K
    refine wpFk_get rfl (by rfl) (fun K hK => ?_)
    refine ⟨?_, fun w' hS' => ?_, ?_⟩
    rotate_left
    · go_simp
      try (with_reducible rfl)
    try go_simp
    refine hK _ ?_
    clear hK K
    refine wpFk_get rfl (by rfl) (fun K hK => ?_)
    refine ⟨_, fun w' hS' => get_load rfl rfl ((H11.out.2.next hS').read zF.out), ?_⟩
    try go_simp
    refine hK _ ?_
    clear hK K
    refine wpFk_get rfl (by rfl) (fun K hK => ?_)
    refine ⟨?_, fun w' hS' => ?_, ?_⟩
    rotate_left
    · go_simp
      try (with_reducible rfl)
    try go_simp
    refine hK _ ?_
    clear hK K
    refine wpFk_get rfl (by rfl) (fun K hK => ?_)
    refine ⟨_, fun w' hS' => get_neqH rfl rfl rfl (QZ _), ?_⟩
    try go_simp
    refine hK _ ?_
    clear hK K
    refine wpFk_get rfl (by rfl) (fun K hK => ?_)
    refine ⟨?_, fun w' hS' => ?_, ?_⟩
    rotate_left
    · go_simp
      try (with_reducible rfl)
    try go_simp
    refine hK _ ?_
    clear hK K
    refine wpFk_get rfl (by rfl) (fun K hK => ?_)
    refine ⟨?_, fun w' hS' => ?_, ?_⟩
    rotate_left
    · go_simp
      try (with_reducible rfl)
    try go_simp
    refine hK _ ?_
    clear hK K
    refine wpFk_done ?_
    refine HQ.out _ _ ?_
    go_wp2
    go_ret
    exact ⟨rfl, below_new H11.out.1.1.1.2.2 HS.out⟩
end Go.Proofs.YtfakimbneenfdaaDoor
