/-
  LampRecover.
-/
import Derived.Test.YtpndccoikhejgaaDoorPk33
import Derived.Test.YtpndccoikhejgaaDoorPk16
import Derived.Test.YtpndccoikhejgaaDoorPk04
namespace Go.Proofs.YtpndccoikhejgaaDoor
open Go.RowKit Go.Great
set_option linter.unusedVariables false
set_option maxRecDepth 100000

theorem there_low {w w1 : World} {g o n B : Nat} (h : w.there g o n) (hb : Below B w w1) (hg : g < B) : w1.there g o n := fun j hj =>
  have e := hb.block g hg
  ⟨by rw [World.cell?_of_block e]; exact (h j hj).1, by rw [World.frozen?_of_block e]; exact (h j hj).2⟩
theorem RecH.far {w wr w1 : World} {D : Array Value} {ms : List (List Int)} (h : RecH w wr D ms) (hb : Below (w.heap.size + 3) wr w1) : RecH w w1 D ms :=
  ⟨h.dig.below hb (by omega), h.out.below hb (by omega), h.lst.next hb (Nat.le_refl _), fun k hk => there_low (h.room k hk) hb (by omega), h.below.trans (hb.mono (by omega)), Nat.le_trans h.size hb.size⟩
/-- And beside it a hash in a block of its own. -/
structure RecO (w wr : World) (D : Array Value) (ms : List (List Int)) (g : Nat) (C : Array Value) : Prop where
  rec_ : RecH w wr D ms
  row : Row wr g 23 C
  lo : w.heap.size + 3 ≤ g
theorem RecO.next {w wr w1 : World} {D C : Array Value} {ms : List (List Int)} {g : Nat} (h : RecO w wr D ms g C) (hb : Below wr.heap.size wr w1) : RecO w w1 D ms g C := ⟨h.rec_.next hb, h.row.next hb, h.lo⟩
theorem RecO.start {w wr : World} {D : Array Value} {ms : List (List Int)} (h : RecH w wr D ms) : RecO w (wr.alloc (.cells (nums .u8 (List.replicate 32 0)) 23)) D ms wr.heap.size (nums .u8 (List.replicate 32 0)) :=
  ⟨h.next ((Below.refl _ _).alloc (Nat.le_refl _) _), Row.made _ _ _, h.size⟩
theorem RecO.put {w wr : World} {D C C' : Array Value} {ms : List (List Int)} {g : Nat} (h : RecO w wr D ms g C) : RecO w (wr.setRow g C') D ms g C' :=
  ⟨h.rec_.far (below_setRow (Below.refl _ _) h.lo), h.row.whole _, h.lo⟩
theorem text_take (s : ByteArray) (a b k : Nat) (h : 32 * k + 32 ≤ b) (hb : a + b ≤ s.size) : ((((textL s).drop a).take b).drop (32 * k)).take 32 = ((textL s).drop (a + 32 * k)).take 32 := by
  rw [List.drop_take, List.take_take, List.drop_drop, show min 32 (b - 32 * k) = 32 by omega]
attribute [local go_sem ↓ high] read_at write_at
set_option maxHeartbeats 8000000 in
theorem lrecover_any : RecoverSays := by
  intro s d w hT hs hd
  unfold maxLen at hs
  obtain ⟨i0, hi0, hz0, hz1, hz2⟩ := info_parts infoHash
  obtain ⟨D, hD⟩ : ∃ D, Hid (D = nums .u8 d) := ⟨_, Lib.hid rfl⟩
  have zD : Hid (D.size = 32) := Lib.hid (by rw [hD.out, nums_size]; exact hd.1)
  have zZ : Hid ((nums .u8 (List.replicate 32 0)).size = 32) := Lib.hid (by rw [nums_size]; simp)
  have oZ : Hid ((nums .u8 (List.replicate 32 0)).all (·.oneCell') = true) := Lib.hid (nums_one _ _)
  have hZ := sizeH _ zZ.out
  have H0 := Lib.hid (RecX.start w D)
  have HT := Lib.hid hT
  rw [← hD.out]
  by_cases hs6 : s.size = 16384
  · obtain ⟨T, hTx⟩ : ∃ T, Hid (T = textL s) := ⟨_, Lib.hid rfl⟩
    have HLB : Hid (T.length = 16384 ∧ bytes T) := Lib.hid (by rw [hTx.out]; exact ⟨by rw [textL_length, hs6], textL_bytes s⟩)
    have HF : Hid (recF s d = (keyF (recL T d), 0)) := Lib.hid (by rw [recF_ok hs6, hTx.out])
    have AT : Hid (∀ (W : World) (i : Nat), i ≤ 255 → Calls Tryd.prog 79 #[.agg D, .int .i64 (i : Int)] W fun e w' => e = .returned (.int .i64 ((2 * i + bitN d i : Nat) : Int)) ∧ Below W.heap.size W w') := Lib.hid fun W i h => by
      rw [hD.out]; exact at_any d hd.1 i h W
    have KY : Hid (∀ (W : World) (c : Nat), Tab W → HL W W.heap.size (some ⟨w.heap.size + 2, 0, none⟩) (recL T d) → 512 ≤ c ∧ c ≤ maxLen → Calls Tryd.prog 50 #[.slice (some ⟨w.heap.size + 2, 0, none⟩) 512 c] W fun e w' => e = .returned (.agg (nums .u8 (keyF (recL T d)))) ∧ Below W.heap.size W w') := Lib.hid fun W c hW h hc => by
      have := lkey_any (recL T d) _ c W hW (recL_hashes T d HLB.out.2 HLB.out.1) h (by rw [recL_length]; exact hc.1) hc.2
      rwa [recL_length] at this
    have UH : Hid (∀ (a : ByteArray) (W : World), 32 ≤ a.size → a.size ≤ 16384 → Calls Tryd.prog 67 #[.string a] W fun e w' => e = .returned (.tuple #[.agg (nums .u8 ((textL a).take 32)), .string (a.extract 32 a.size), .bool true]) ∧ Below W.heap.size W w') := Lib.hid fun a W h1 h2 => by
      have := unhash_any a (by unfold maxLen; omega) W
      rwa [unhV_yes a (by omega)] at this
    obtain ⟨C, hC⟩ : ∃ C, Hid (C = nums .u8 (keyF (recL T d))) := ⟨_, Lib.hid rfl⟩
    have zC : Hid (C.size = 32) := Lib.hid (by rw [hC.out, nums_size]; exact (keyF_is _).1)
    have oC : Hid (C.all (·.oneCell') = true) := Lib.hid (by rw [hC.out]; exact nums_one _ _)
    have n1 : (s.size : Int) = 16384 := by omega
    have TA : Hid (textL (s.extract 0 8192) = (T.drop 0).take 8192) := Lib.hid (by rw [textL_extract, hTx.out])
    have TB : Hid (textL (s.extract 8192 16384) = (T.drop 8192).take 8192) := Lib.hid (by rw [textL_extract, hTx.out])
    have TC : Hid (∀ a b k : Nat, 32 * k + 32 ≤ b → a + b ≤ 16384 → (((T.drop a).take b).drop (32 * k)).take 32 = (T.drop (a + 32 * k)).take 32) := Lib.hid fun a b k h1 h2 => by
      rw [hTx.out]; exact text_take s a b k h1 (by rw [hs6]; exact h2)
    have TL : Hid (∀ a b k : Nat, a + b ≤ 16384 → (((T.drop a).take b).drop (32 * k)).length = b - 32 * k) := Lib.hid fun a b k h => by
      rw [List.length_drop, List.length_take, List.length_drop, HLB.out.1]; omega
    rw [HF.out]
    show Calls _ _ _ _ fun e w' => e = .returned (.tuple #[.agg (nums .u8 (keyF (recL T d))), .int .i64 0]) ∧ Below w.heap.size w w'
    rw [← hC.out] at KY ⊢
    clear hd hD hs hC hT
    go_enter Tryd.func62, Tryd.ntmps62
    go_upto_region 1 with fail
    refine world_gen (fun X => RecX w X D) H0.out (fun X HX => ?_)
    have HX : Hid (RecX w X.drew D) := Lib.hid ⟨HX.1, HX.2.1.drew, HX.2.2.1.drew, HX.2.2.2.drew⟩
    clear H0
    go_upto_region 3 with fail
    refine wp_region_fk (fun _ => True) (.get 0 (.get 1 (.get 2 (.get 3 (.get 4 (.get 5 .done)))))) (by kernel_rfl) rfl (by kernel_rfl) (by kernel_rfl) (by intro c a d v w h; cases d <;> exact h) trivial (fun Q' hQ => ?_)
    have HS : Hid True := Lib.hid trivial
    have HQ := Lib.hid hQ
    clear hQ
    refine wpFk_get rfl (by rfl) (fun K hK => ?_)
    refine ⟨?_, fun w' hS' => ?_, ?_⟩
    rotate_left
    · go_simp
      try (with_reducible rfl)
    try go_simp
    refine hK _ ?_
    clear hK K
    refine wpFk_get rfl (by rfl) (fun K hK => ?_)
    refine ⟨?_, fun w' hS' => ?_, ?_⟩
    rotate_left
    · go_simp
      try (with_reducible rfl)
    try go_simp
    refine hK _ ?_
    clear hK K
    refine wpFk_get rfl (by rfl) (fun K hK => ?_)
    refine ⟨?_, fun w' hS' => ?_, ?_⟩
    rotate_left
    · go_simp
      try (with_reducible rfl)
    try go_simp
    refine hK _ ?_
    clear hK K
    refine wpFk_get rfl (by rfl) (fun K hK => ?_)
    refine ⟨?_, fun w' hS' => ?_, ?_⟩
    rotate_left
    · go_simp
      try (with_reducible rfl)
    try go_simp
    refine hK _ ?_
    clear hK K
    refine wpFk_get rfl (by rfl) (fun K hK => ?_)
    refine ⟨?_, fun w' hS' => ?_, ?_⟩
    rotate_left
    · go_simp
      try (with_reducible rfl)
    try go_simp
    refine hK _ ?_
    clear hK K
    refine wpFk_get rfl (by rfl) (fun K hK => ?_)
    refine ⟨?_, fun w' hS' => ?_, ?_⟩
    rotate_left
    · go_simp
      try (with_reducible rfl)
    try go_simp
    refine hK _ ?_
    clear hK K
    refine wpFk_done ?_
    refine HQ.out _ _ ?_
    clear HQ HS
    go_upto_region 5 with (at_make; refine wpList_make_full _ rfl _ _ 27 rfl (w.heap.size + 2) 23 i0 _ 32 Tryd.underlying27 hi0 hz0 hz1 _ _ _ _ 512 rfl rfl rfl rfl (by rw [hz2]; decide) (by decide) (by rw [HX.out.1]; exact Nat.le_refl _) ?_; rw [HX.out.1]; intro w1 hown hgr; have HK := Lib.hid (RecH.start HX.out.1 HX.out.2.1 HX.out.2.2.1 HX.out.2.2.2 T d hown hgr); clear hown hgr HX)
    go_wp2
    go_loopw [6, 7, 21] (fun s6 s7 s21 wr => ∃ (k : Nat) (a b : ByteArray), s21 = .int .i64 ((k : Nat) : Int) ∧ s6 = .string a ∧ s7 = .string b ∧ k ≤ 256 ∧ Hid (textL a = ((T.drop 0).take 8192).drop (32 * k) ∧ textL b = ((T.drop 8192).take 8192).drop (32 * k)) ∧ Hid (RecH w wr D (recM T d k))) (fun _ _ s21 _ => (256 - intOf s21).toNat)
    case atStart => exact ⟨0, _, _, rfl, rfl, rfl, by omega, Lib.hid ⟨TA.out, TB.out⟩, HK⟩
    case round =>
      clear HK TA TB
      obtain ⟨k, a, b, rfl, rfl, rfl, hk, HTT, HQ⟩ := hrel
      by_cases hlt : k < 256
      · have hwk : IntKind.i64.wrap (k : Int) = (k : Int) := by rw [IntKind.wrap_i64]; omega
        have hkb : Hid (k ≤ 255) := Lib.hid (by omega)
        obtain ⟨q, hq⟩ : ∃ q, Hid (q = bitN d k) := ⟨_, Lib.hid rfl⟩
        have hq1 : q ≤ 1 := by rw [hq.out]; exact bitN_le d k
        obtain ⟨u, hu⟩ : ∃ u, Hid (u = 2 * k + q) := ⟨_, Lib.hid rfl⟩
        obtain ⟨v, hv⟩ : ∃ v, Hid (v = 2 * k + 1 - q) := ⟨_, Lib.hid rfl⟩
        have sza : a.size = 8192 - 32 * k := by rw [← textL_length, HTT.out.1]; exact TL.out 0 8192 k (by decide)
        have szb : b.size = 8192 - 32 * k := by rw [← textL_length, HTT.out.2]; exact TL.out 8192 8192 k (by decide)
        obtain ⟨x, hx⟩ : ∃ x, Hid (x = (T.drop (32 * k)).take 32) := ⟨_, Lib.hid rfl⟩
        obtain ⟨z, hz⟩ : ∃ z, Hid (z = (T.drop (8192 + 32 * k)).take 32) := ⟨_, Lib.hid rfl⟩
        have ex : (textL a).take 32 = x := by rw [HTT.out.1, hx.out, TC.out 0 8192 k (by omega) (by decide), Nat.zero_add]
        have ez : (textL b).take 32 = z := by rw [HTT.out.2, hz.out, TC.out 8192 8192 k (by omega) (by decide)]
        have hx32 : Hid (x.length = 32) := Lib.hid (by rw [← ex, List.length_take, textL_length]; omega)
        have hz32 : Hid (z.length = 32) := Lib.hid (by rw [← ez, List.length_take, textL_length]; omega)
        obtain ⟨X1, hX1⟩ : ∃ X, Hid (X = nums .u8 x) := ⟨_, Lib.hid rfl⟩
        have zX : Hid (X1.size = 32) := Lib.hid (by rw [hX1.out, nums_size]; exact hx32.out)
        have oX : Hid (X1.all (·.oneCell') = true) := Lib.hid (by rw [hX1.out]; exact nums_one _ _)
        obtain ⟨y, hy⟩ : ∃ y, Hid (y = pubH x) := ⟨_, Lib.hid rfl⟩
        obtain ⟨Y, hY⟩ : ∃ Y, Hid (Y = nums .u8 y) := ⟨_, Lib.hid rfl⟩
        have hy32 : Hid (y.length = 32) := Lib.hid (by rw [hy.out]; exact (pubH_is _).1)
        have zY : Hid (Y.size = 32) := Lib.hid (by rw [hY.out, nums_size]; exact hy32.out)
        have oY : Hid (Y.all (·.oneCell') = true) := Lib.hid (by rw [hY.out]; exact nums_one _ _)
        obtain ⟨Z, hZz⟩ : ∃ Z, Hid (Z = nums .u8 z) := ⟨_, Lib.hid rfl⟩
        have zZz : Hid (Z.size = 32) := Lib.hid (by rw [hZz.out, nums_size]; exact hz32.out)
        have oZz : Hid (Z.all (·.oneCell') = true) := Lib.hid (by rw [hZz.out]; exact nums_one _ _)
        obtain ⟨a2, ha2⟩ : ∃ c, Hid (c = a.extract 32 a.size) := ⟨_, Lib.hid rfl⟩
        obtain ⟨b2, hb2⟩ : ∃ c, Hid (c = b.extract 32 b.size) := ⟨_, Lib.hid rfl⟩
        have HTN : Hid (textL a2 = ((T.drop 0).take 8192).drop (32 * (k + 1)) ∧ textL b2 = ((T.drop 8192).take 8192).drop (32 * (k + 1))) := Lib.hid ⟨by
          rw [ha2.out, textL_rest, HTT.out.1, List.drop_drop]; rfl, by rw [hb2.out, textL_rest, HTT.out.2, List.drop_drop]; rfl⟩
        have C1 : Hid (∀ W, Calls Tryd.prog 79 #[.agg D, .int .i64 (k : Int)] W fun e w' => e = .returned (.int .i64 (u : Int)) ∧ Below W.heap.size W w') := Lib.hid fun W => by rw [hu.out, hq.out]; exact AT.out W k hkb.out
        have C2 : Hid (∀ W, Calls Tryd.prog 67 #[.string a] W fun e w' => e = .returned (.tuple #[.agg X1, .string a2, .bool true]) ∧ Below W.heap.size W w') := Lib.hid fun W => by
          have := UH.out a W (by omega) (by omega)
          rw [ex] at this
          rw [hX1.out, ha2.out]; exact this
        have C3 : Hid (∀ W, Tab W → Calls Tryd.prog 73 #[.agg X1] W fun e w' => e = .returned (.agg Y) ∧ Below W.heap.size W w') := Lib.hid fun W h => by
          rw [hX1.out, hY.out, hy.out]; exact hashOf_any x hx32.out W h
        have C4 : Hid (∀ W, Calls Tryd.prog 80 #[.int .i64 (u : Int)] W fun e w' => e = .returned (.int .i64 (v : Int)) ∧ W = w') := Lib.hid fun W => by rw [hu.out, hv.out]; exact beside_any k q hkb.out hq1 W
        have C5 : Hid (∀ W, Calls Tryd.prog 67 #[.string b] W fun e w' => e = .returned (.tuple #[.agg Z, .string b2, .bool true]) ∧ Below W.heap.size W w') := Lib.hid fun W => by
          have := UH.out b W (by omega) (by omega)
          rw [ez] at this
          rw [hZz.out, hb2.out]; exact this
        have u1 : (u : Int) < 512 := by have := hu.out; omega
        have v1 : (v : Int) < 512 := by have := hv.out; omega
        have u2 : Hid (u < 512) := Lib.hid (by omega)
        have v2 : Hid (v < 512) := Lib.hid (by omega)
        have NM : Hid (((recM T d k).set u y).set v z = recM T d (k + 1)) := Lib.hid (by rw [hu.out, hv.out, hy.out, hz.out, hx.out]; exact recM_step T d k q (by have := hkb.out; omega) hq.out)
        have hy6 := sizeH _ zY.out
        have hz6 := sizeH _ zZz.out
        have l1 := HQ.out.dig.read zD.out
        clear sza szb ex ez hq1
        go_upto_region 10 with (go_at_call 79; (with_reducible refine (C1.out _).mono ?_); rintro e w1 ⟨rfl, hb⟩; have H1 := Lib.hid (HQ.out.next hb); clear hb)
        clear l1 HQ
        refine world_gen (fun X => RecO w X D (recM T d k) w1.heap.size (nums .u8 (List.replicate 32 0))) (RecO.start H1.out) (fun W2 H2 => ?_)
        have H2 := Lib.hid H2
        clear H1
        obtain ⟨g, hg⟩ : ∃ g, g = w1.heap.size := ⟨_, rfl⟩
        rw [← hg] at H2 ⊢
        clear hg
        go_upto_region 11 with (go_at_call 67; (with_reducible refine (C2.out _).mono ?_); rintro e w3 ⟨rfl, hb⟩; have H3 := Lib.hid (H2.out.next hb); clear hb; have s3 := H3.out.row.write zZ.out zX.out oX.out)
        refine world_gen (fun X => RecO w X D (recM T d k) g X1) H3.out.put (fun W4 H4 => ?_)
        have H4 := Lib.hid H4
        clear s3 H3 H2
        have l2 := H4.out.row.read zX.out
        go_upto_region 12 with (first
          | (go_at_call 73; (with_reducible refine (C3.out _ (HT.out.next H4.out.rec_.below)).mono ?_); rintro e w5 ⟨rfl, hb⟩; have H5 := Lib.hid (H4.out.rec_.next hb); clear hb)
          | (refine wpList_store_mid rfl 23 _ _ rfl (w.heap.size + 2) (u * 32) Y rfl rfl (by rw [zY.out]; exact H5.out.room u u2.out) hy6 oY.out ?_))
        have H6 : Hid (RecH w (w5.setCells (w.heap.size + 2) (u * 32) Y.toList) D ((recM T d k).set u y)) := Lib.hid (by rw [hY.out]; exact H5.out.put u u2.out (recM_length _ _ _) y hy32.out)
        refine world_gen (fun X => RecH w X D ((recM T d k).set u y)) H6.out (fun W7 H7 => ?_)
        have H7 := Lib.hid H7
        clear H6 H5 H4 l2
        go_upto_region 13 with (first
          | (go_at_call 80; (with_reducible refine (C4.out _).mono ?_); rintro e w8 ⟨rfl, rfl⟩)
          | (go_at_call 67; (with_reducible refine (C5.out _).mono ?_); rintro e w9 ⟨rfl, hb⟩; have H9 := Lib.hid (H7.out.next hb); clear hb)
          | (refine wpList_store_mid rfl 23 _ _ rfl (w.heap.size + 2) (v * 32) Z rfl rfl (by rw [zZz.out]; exact H9.out.room v v2.out) hz6 oZz.out ?_))
        have HQ2 : Hid (RecH w (w9.setCells (w.heap.size + 2) (v * 32) Z.toList) D (recM T d (k + 1))) := Lib.hid (by rw [← NM.out, hZz.out]; exact H9.out.put v v2.out (by rw [List.length_set]; exact recM_length _ _ _) z hz32.out)
        go_wp2
        go_roundw
        case rel => exact ⟨k + 1, a2, b2, by go_num, rfl, rfl, by omega, HTN, HQ2⟩
        case measure => simp [intOf]; omega
      · have hk9 : k = 256 := by omega
        have HE : Hid (RecH w wr D (recL T d)) := Lib.hid (by have := HQ.out; rw [hk9, recM_done] at this; exact this)
        clear HQ hk9
        go_wp2_with (go_at_call 50; (with_reducible refine (KY.out _ _ (HT.out.next HE.out.below) HE.out.list ⟨by decide, by decide⟩).mono ?_); rintro e w1 ⟨rfl, hb⟩; have H1 := Lib.hid (HE.out.next hb); clear hb HE; have s6 := H1.out.out.write zZ.out zC.out oC.out)
        refine bodyPost_ret (results_row2 rfl _ _ (w.heap.size + 1) 23 _ (0, 0) _ rfl (H1.out.out.whole C) Tryd.underlying23 rfl (sizeH _ zC.out) _ rfl) rfl ⟨rfl, below_setRow H1.out.below (by omega)⟩
  · have d1 : ((s.size : Int) != 16384) = true := by simp; omega
    rw [recF_no hs6]
    show Calls _ _ _ _ fun e w' => e = .returned (.tuple #[.agg (nums .u8 (List.replicate 32 0)), .int .i64 10]) ∧ Below w.heap.size w w'
    clear hd hs6
    go_enter Tryd.func62, Tryd.ntmps62
    go_upto_region 1 with fail
    refine world_gen (fun X => RecX w X D) H0.out (fun X HX => ?_)
    have HX := Lib.hid HX
    go_wp2_with (refine wpList_store_row rfl 23 _ _ rfl (w.heap.size + 1) (nums .u8 (List.replicate 32 0)) rfl rfl 23 _ HX.out.2.2.1 hZ (by rw [zZ.out]) oZ.out ?_)
    refine bodyPost_ret (results_row2 rfl _ _ (w.heap.size + 1) 23 _ (0, 0) _ rfl (HX.out.2.2.1.whole _) Tryd.underlying23 rfl hZ _ rfl) rfl ⟨rfl, below_setRow HX.out.2.2.2 (by omega)⟩
end Go.Proofs.YtpndccoikhejgaaDoor
