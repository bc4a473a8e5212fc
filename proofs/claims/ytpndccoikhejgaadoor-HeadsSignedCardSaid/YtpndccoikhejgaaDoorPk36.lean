/-
  KeySign.
-/
import Derived.Test.YtpndccoikhejgaaDoorPk32
import Derived.Test.YtpndccoikhejgaaDoorPk23
import Derived.Test.YtpndccoikhejgaaDoorPk35
import Derived.Test.YtpndccoikhejgaaDoorPk20
import Derived.Test.YtpndccoikhejgaaDoorPk04
namespace Go.Proofs.YtpndccoikhejgaaDoor
open Go.RowKit Go.Great
set_option linter.unusedVariables false
set_option maxRecDepth 100000

/-- What Sign holds: the tree, the digest, its result. -/
structure SgH (w wr : World) (g : Nat) (seed : ByteArray) (D : Array Value) : Prop where
  tree : TreeM wr g seed (keysF seed) (rootF seed)
  dig : Row wr w.heap.size 23 D
  seal_ : ∃ i s B n c, Row wr (w.heap.size + 1) 32 (sealV i s B n c)
  below : Below w.heap.size w wr
  lo : g < w.heap.size
theorem SgH.next {w wr w1 : World} {g : Nat} {seed : ByteArray} {D : Array Value} (h : SgH w wr g seed D) (hb : Below wr.heap.size wr w1) : SgH w w1 g seed D := by
  obtain ⟨i, s, B, n, c, hr⟩ := h.seal_
  exact ⟨h.tree.next hb, h.dig.next hb, ⟨i, s, B, n, c, hr.next hb⟩, below_new h.below hb, h.lo⟩
theorem SgH.put {w wr : World} {g : Nat} {seed : ByteArray} {D : Array Value} (h : SgH w wr g seed D) (i : Int) (s : ByteArray) (B : Option Addr) (n c : Nat) : SgH w (wr.setRow (w.heap.size + 1) (sealV i s B n c)) g seed D := by
  obtain ⟨i', s', B', n', c', hr⟩ := h.seal_
  have hb : Below w.heap.size wr (wr.setRow (w.heap.size + 1) (sealV i s B n c)) := below_setRow (Below.refl _ _) (by omega)
  exact ⟨h.tree.old hb h.lo, h.dig.wfar (by omega) _, ⟨i, s, B, n, c, hr.whole _⟩, h.below.trans hb, h.lo⟩
attribute [local go_sem ↓ high] read_at write_at read_s write_s
set_option maxHeartbeats 4000000 in
theorem keysign_none (v : Value) (i : Int) (d : List Int) (hd : d.length = 32 ∧ bytes d) (w : World) (h : ∀ W, Below w.heap.size w W → Calls Tryd.prog 53 #[v] W fun e w' => e = .returned (.bool true) ∧ W = w') :
    Calls Tryd.prog 26 #[v, .int .i64 i, .agg (nums .u8 d)] w (GivesS w ((0, ⟨#[]⟩, []), 1)) := by
  obtain ⟨D, hD⟩ : ∃ D, Hid (D = nums .u8 d) := ⟨_, Lib.hid rfl⟩
  have H0 := Lib.hid (SlH.start w D)
  have HN := Lib.hid h
  rw [← hD.out]
  clear h hd hD
  go_enter Tryd.func26, Tryd.ntmps26
  go_upto_region 1 with fail
  refine world_gen (fun X => SlH w X D) H0.out (fun X HX => ?_)
  have HX := Lib.hid HX
  have hq := HX.out.2.2
  have s1 := HX.out.2.1.writeS rfl (sealV_size 0 ⟨#[]⟩ none 0 0) (sealV_one 0 ⟨#[]⟩ none 0 0)
  unfold sealV at s1
  go_wp2_with (go_at_call 53; (with_reducible refine (HN.out _ hq).mono ?_); rintro e w1 ⟨rfl, rfl⟩)
  refine bodyPost_ret (results_row2 (p := 6) (u := 7) rfl _ _ (w.heap.size + 1) 32 _ (0, 0) _ rfl (HX.out.2.1.whole _) Tryd.underlying32 rfl (sizeS _ rfl) (.int .i64 1) rfl) rfl ⟨none, 0, rfl, Nat.le_refl _, by decide, HL.nil _ _ _, below_setRow HX.out.2.2 (by omega)⟩
set_option maxHeartbeats 8000000 in
theorem keysign_some (g : Nat) (seed : ByteArray) (hs : seed.size ≤ 100000) (i : Int) (h64 : num64 i) (d : List Int) (hd : d.length = 32 ∧ bytes d) (w : World) (hT : Tab w) (hM : TreeM w g seed (keysF seed) (rootF seed)) :
    Calls Tryd.prog 26 #[.pointer (some ⟨g, 0, none⟩), .int .i64 i, .agg (nums .u8 d)] w (GivesS w (sealF seed i d)) := by
  obtain ⟨D, hD⟩ : ∃ D, Hid (D = nums .u8 d) := ⟨_, Lib.hid rfl⟩
  have zD : Hid (D.size = 32) := Lib.hid (by rw [hD.out, nums_size]; exact hd.1)
  have H0 := Lib.hid (SlH.start w D)
  have HM := Lib.hid hM
  have HT := Lib.hid hT
  have NN : Hid (∀ W, TreeM W g seed (keysF seed) (rootF seed) → Calls Tryd.prog 53 #[.pointer (some ⟨g, 0, none⟩)] W fun e w' => e = .returned (.bool false) ∧ W = w') := Lib.hid fun W h => isNone_at g true W h.made
  rw [← hD.out]
  by_cases h : i < 0 ∨ 7 < i
  · have KY : Hid (∀ W, Calls Tryd.prog 54 #[.int .i64 i] W fun e w' => e = .returned (.bool false) ∧ W = w') := Lib.hid fun W => isKey8_no i h W
    rw [sealF_no h]
    clear h hs h64 hd hD hM hT
    go_enter Tryd.func26, Tryd.ntmps26
    go_upto_region 1 with fail
    refine world_gen (fun X => SlH w X D) H0.out (fun X HX => ?_)
    have HX := Lib.hid HX
    have hq := HM.out.next HX.out.2.2
    have s1 := HX.out.2.1.writeS rfl (sealV_size 0 ⟨#[]⟩ none 0 0) (sealV_one 0 ⟨#[]⟩ none 0 0)
    unfold sealV at s1
    go_wp2_with (first
      | (go_at_call 53; (with_reducible refine (NN.out _ hq).mono ?_); rintro e w1 ⟨rfl, rfl⟩)
      | (go_at_call 54; (with_reducible refine (KY.out _).mono ?_); rintro e w1 ⟨rfl, rfl⟩))
    refine bodyPost_ret (results_row2 (p := 6) (u := 7) rfl _ _ (w.heap.size + 1) 32 _ (0, 0) _ rfl (HX.out.2.1.whole _) Tryd.underlying32 rfl (sizeS _ rfl) (.int .i64 2) rfl) rfl ⟨none, 0, rfl, Nat.le_refl _, by decide, HL.nil _ _ _, below_setRow HX.out.2.2 (by omega)⟩
  · obtain ⟨I, rfl⟩ : ∃ I : Nat, i = I := ⟨i.toNat, by omega⟩
    have hI : I < 8 := by omega
    have KY : Hid (∀ W, Calls Tryd.prog 54 #[.int .i64 (I : Int)] W fun e w' => e = .returned (.bool true) ∧ W = w') := Lib.hid fun W => isKey8_yes (I : Int) (by omega) W
    rw [sealF_ok hI]
    obtain ⟨E, hE⟩ : ∃ E, Hid (E = sigF seed I d) := ⟨_, Lib.hid rfl⟩
    obtain ⟨ps, hps⟩ : ∃ ps, Hid (ps = pathL (keysF seed) I) := ⟨_, Lib.hid rfl⟩
    have lps : Hid (ps.length = 3) := Lib.hid (by rw [hps.out]; exact path8_length seed I hI)
    have XP : Hid (∀ W, Tab W → TreeM W g seed (keysF seed) (rootF seed) → Calls Tryd.prog 55 #[.slice (some ⟨g, 2, none⟩) 8 8, .int .i64 (I : Int)] W fun e w' => ∃ A2 c2, e = .returned (.tuple #[.slice A2 3 c2, .int .i64 0]) ∧ 3 ≤ c2 ∧ c2 ≤ maxLen ∧ HW w' A2 ps ∧ Below W.heap.size W w') := Lib.hid fun W hW h => by
      have := path_any (keysF seed) (keysF_hashes seed) (some ⟨g, 2, none⟩) 8 W h.list hW (by rw [keysF_length]; exact Nat.le_refl _) (by decide) (I : Int)
      rw [keysF_length] at this
      refine this.mono ?_
      rintro e w' ⟨A2, c2, e1, e2, e3, e4, e5⟩
      have hp : pathF (keysF seed) (I : Int) = (ps, 0) := by rw [hps.out]; exact pathF_ok (by rw [keysF_length]; exact hI)
      rw [hp] at e1 e2 e4
      rw [show ((ps, (0 : Int)).1.length) = 3 from lps.out] at e1 e2
      exact ⟨A2, c2, e1, e2, e3, e4, e5⟩
    have XS : Hid (∀ W, Tab W → Calls Tryd.prog 56 #[.string seed, .int .i64 (I : Int), .agg D] W fun e w' => e = .returned (.string E) ∧ Below W.heap.size W w') := Lib.hid fun W hW => by
      rw [hD.out, hE.out]; exact lsign_any seed (I : Int) d W hW hs h64 hd
    rw [← hE.out, ← hps.out]
    clear h hs h64 hd hD hM hT hI
    go_enter Tryd.func26, Tryd.ntmps26
    go_upto_region 1 with fail
    refine world_gen (fun X => SlH w X D) H0.out (fun X HX => ?_)
    have HX := Lib.hid HX
    clear H0
    have hM2 := Lib.hid (HM.out.next HX.out.2.2)
    have hT2 := Lib.hid (HT.out.next HX.out.2.2)
    go_upto_region 6 with (first
      | (go_at_call 53; (with_reducible refine (NN.out _ hM2.out).mono ?_); rintro e w1 ⟨rfl, rfl⟩)
      | (go_at_call 54; (with_reducible refine (KY.out _).mono ?_); rintro e w1 ⟨rfl, rfl⟩)
      | (go_at_call 55; (with_reducible refine (XP.out _ hT2.out hM2.out).mono ?_); rintro e w1 ⟨A2, c2, rfl, hc2, hcm2, hP, hb⟩; have H1 : Hid (SgH w w1 g seed D) := Lib.hid (by have h := HX.out.next hb; exact ⟨HM.out.next h.2.2, h.1, ⟨_, _, _, _, _, h.2.1⟩, h.2.2, HM.out.lt⟩); have HP := Lib.hid hP; have HC := Lib.hid (And.intro hc2 hcm2); clear hP hb hc2 hcm2))
    clear HX NN KY XP hM2 hT2
    refine wp_region_fk (fun W => SgH w W g seed D) (.get 0 (.get 1 (.get 2 (.get 3 (.get 4 (.get 5 (.get 6 (.get 8 (.call 7 (.get 9 (.call 10 (.get 11 .done)))))))))))) (by kernel_rfl) rfl (by kernel_rfl) (by kernel_rfl) (by intro c a d v w h; cases d <;> exact h) (H1.out.next (Below.refl _ _).drew) (fun Q' hQ => ?_)
    have HS := Lib.hid (H1.out.next (Below.refl _ _).drew)
    have HQ := Lib.hid hQ
    clear hQ H1
    refine wpFk_get rfl (by rfl) (fun K hK => ?_)
    refine ⟨?_, fun w' hS' => ?_, ?_⟩
    rotate_left
    · go_simp
      try (with_reducible rfl)
    try go_simp
    refine hK _ ?_
    clear hK K
    refine wpFk_get rfl (by rfl) (fun K hK => ?_)
    refine ⟨?_, fun w' hS' => ?_, ?_⟩
    rotate_left
    · go_simp
      try (with_reducible rfl)
    try go_simp
    refine hK _ ?_
    clear hK K
    refine wpFk_get rfl (by rfl) (fun K hK => ?_)
    refine ⟨?_, fun w' hS' => ?_, ?_⟩
    rotate_left
    · go_simp
      try (with_reducible rfl)
    try go_simp
    refine hK _ ?_
    clear hK K
    refine wpFk_get rfl (by rfl) (fun K hK => ?_)
    refine ⟨?_, fun w' hS' => ?_, ?_⟩
    rotate_left
    · go_simp
      try (with_reducible rfl)
    try go_simp
    refine hK _ ?_
    clear hK K
    refine wpFk_get rfl (by rfl) (fun K hK => ?_)
    refine ⟨?_, fun w' hS' => ?_, ?_⟩
    rotate_left
    · have c1 := hS'.tree.sd
      go_simp
      try (with_reducible rfl)
    try go_simp
    refine hK _ ?_
    clear hK K
    refine wpFk_get rfl (by rfl) (fun K hK => ?_)
    refine ⟨?_, fun w' hS' => ?_, ?_⟩
    rotate_left
    · go_simp
      try (with_reducible rfl)
    try go_simp
    refine hK _ ?_
    clear hK K
    refine wpFk_get rfl (by rfl) (fun K hK => ?_)
    refine ⟨_, fun w' hS' => get_load rfl rfl (hS'.dig.read zD.out), ?_⟩
    try go_simp
    refine hK _ ?_
    clear hK K
    refine wpFk_get rfl (by rfl) (fun K hK => ?_)
    refine ⟨?_, fun w' hS' => ?_, ?_⟩
    rotate_left
    · go_simp
      try (with_reducible rfl)
    try go_simp
    refine hK _ ?_
    clear hK K
    refine wpFk_call rfl (by rfl) (fun K hK => ?_)
    go_simp
    go_at_call 56
    (with_reducible refine (XS.out _ (HT.out.next HS.out.below)).mono ?_)
    rintro e w2 ⟨rfl, hb⟩
    have HP2 := Lib.hid (HW.next (HW.next HP.out (Below.refl _ _).drew) hb)
    replace HS := Lib.hid (HS.out.next hb)
    clear hb
    refine hK _ _ HS.out ?_
    clear hK K
    refine wpFk_get rfl (by rfl) (fun K hK => ?_)
    refine ⟨?_, fun w' hS' => ?_, ?_⟩
    rotate_left
    · go_simp
      try (with_reducible rfl)
    try go_simp
    refine hK _ ?_
    clear hK K
    refine wpFk_call rfl (by rfl) (fun K hK => ?_)
    obtain ⟨zi, zs, zB, zn, zc, hZ⟩ := HS.out.seal_
    have s6 := hZ.writeS rfl (sealV_size (I : Int) E A2 3 c2) (sealV_one (I : Int) E A2 3 c2)
    unfold sealV at s6
    go_simp
    clear s6
    have HF := Lib.hid (SgH.put HS.out (I : Int) E A2 3 c2)
    have HR := Lib.hid (hZ.whole (sealV (I : Int) E A2 3 c2))
    have HW2 := Lib.hid (HW.far_seal HP2.out hZ (sealV (I : Int) E A2 3 c2))
    clear HS HP2 hZ
    have HS := HF
    refine hK _ _ HS.out ?_
    clear hK K
    refine wpFk_get rfl (by rfl) (fun K hK => ?_)
    refine ⟨?_, fun w' hS' => ?_, ?_⟩
    rotate_left
    · go_simp
      try (with_reducible rfl)
    try go_simp
    refine hK _ ?_
    clear hK K
    refine wpFk_done ?_
    refine HQ.out _ _ ?_
    clear HQ HF HP
    go_wp2
    refine bodyPost_ret (results_row2 (p := 6) (u := 7) rfl _ _ (w.heap.size + 1) 32 _ (0, 0) _ rfl HR.out Tryd.underlying32 rfl (sizeS _ rfl) (.int .i64 0) rfl) rfl ⟨A2, c2, ?_, ?_, HC.out.2, ?_, HS.out.below⟩
    · show _ = Ending.returned (.tuple #[.agg (sealV (I : Int) E A2 ps.length c2), .int .i64 0])
      rw [lps.out]
    · show ps.length ≤ c2
      rw [lps.out]; exact HC.out.1
    · exact HW2.out
end Go.Proofs.YtpndccoikhejgaaDoor
