/-
  RefRecover.
-/
import Derived.Test.YtpndccoikhejgaaDoorPk14
import Derived.Test.YtpndccoikhejgaaDoorPk06
import Derived.Test.YtpndccoikhejgaaDoorPk15
namespace Go.Proofs.YtpndccoikhejgaaDoor
open Go.RowKit Go.Great
set_option linter.unusedVariables false
set_option maxRecDepth 100000

/-- The public hashes so far: of the first k pairs, zero behind them. -/
def recM (T d : List Int) (k : Nat) : List (List Int) := (List.range 512).map fun j => if j < 2 * k then recAt T d j else zeroL
theorem recM_length (T d : List Int) (k : Nat) : (recM T d k).length = 512 := by simp [recM]
theorem recM_get (T d : List Int) (k j : Nat) (h : j < 512) : (recM T d k).getD j [] = if j < 2 * k then recAt T d j else zeroL := by simp [recM, List.getD, h]
theorem recM_done (T d : List Int) : recM T d 256 = recL T d := by
  unfold recM recL
  refine List.map_congr_left (fun j hj => ?_)
  have hj : j < 512 := by simpa using hj
  rw [if_pos (by omega)]
theorem list_getD_ext {a b : List (List Int)} (h : a.length = b.length) (hh : ∀ j, j < a.length → a.getD j [] = b.getD j []) : a = b := by
  refine List.ext_getElem h (fun j h1 h2 => ?_)
  have e := hh j h1
  rw [List.getD_eq_getElem?_getD, List.getD_eq_getElem?_getD, List.getElem?_eq_getElem h1, List.getElem?_eq_getElem h2] at e
  exact e
theorem recM_step (T d : List Int) (k b : Nat) (hk : k < 256) (hb : b = bitN d k) : ((recM T d k).set (2 * k + b) (pubH ((T.drop (32 * k)).take 32))).set (2 * k + 1 - b) ((T.drop (8192 + 32 * k)).take 32) = recM T d (k + 1) := by
  have hb1 : b ≤ 1 := by rw [hb]; exact bitN_le d k
  refine list_getD_ext (by simp [recM_length]) (fun j hj => ?_)
  have hj : j < 512 := by simpa [recM_length] using hj
  rw [setL_getD _ _ _ _ (by rw [List.length_set, recM_length]; exact hj), setL_getD _ _ _ _ (by rw [recM_length]; exact hj), recM_get _ _ _ _ hj, recM_get _ _ _ _ hj]
  by_cases h1 : j = 2 * k + 1 - b
  · rw [if_pos h1, if_pos (by omega)]
    unfold recAt
    rw [show j / 2 = k by omega, ← hb, if_neg (by omega)]
  · rw [if_neg h1]
    by_cases h2 : j = 2 * k + b
    · rw [if_pos h2, if_pos (by omega)]
      unfold recAt
      rw [show j / 2 = k by omega, ← hb, if_pos (by omega)]
    · rw [if_neg h2]
      by_cases h3 : j < 2 * k
      · rw [if_pos h3, if_pos (by omega)]
      · rw [if_neg h3, if_neg (by omega)]
/-- What Recover holds: the digest, its result, the public hashes so far. -/
structure RecH (w wr : World) (D : Array Value) (ms : List (List Int)) : Prop where
  dig : Row wr w.heap.size 23 D
  out : Row wr (w.heap.size + 1) 23 (nums .u8 (List.replicate 32 0))
  lst : HL wr (w.heap.size + 3) (some ⟨w.heap.size + 2, 0, none⟩) ms
  room : ∀ k, k < 512 → wr.there (w.heap.size + 2) (k * 32) 32
  below : Below w.heap.size w wr
  size : w.heap.size + 3 ≤ wr.heap.size
section
variable {w wr w1 : World} {D : Array Value} {ms : List (List Int)}
theorem there_next {g o n : Nat} (h : wr.there g o n) (hb : Below wr.heap.size wr w1) (hg : g < wr.heap.size) : w1.there g o n := fun j hj =>
  have e := hb.block g hg
  ⟨by rw [World.cell?_of_block e]; exact (h j hj).1, by rw [World.frozen?_of_block e]; exact (h j hj).2⟩
theorem RecH.next (h : RecH w wr D ms) (hb : Below wr.heap.size wr w1) : RecH w w1 D ms :=
  ⟨h.dig.next hb, h.out.next hb, h.lst.next hb h.size, fun k hk => there_next (h.room k hk) hb (by have := h.size; omega), below_new h.below hb, Nat.le_trans h.size hb.size⟩
theorem RecH.put (h : RecH w wr D ms) (k : Nat) (hk : k < 512) (hm : ms.length = 512) (x : List Int) (hx : x.length = 32) : RecH w (wr.setCells (w.heap.size + 2) (k * 32) (nums .u8 x).toList) D (ms.set k x) :=
  have hb : Below (w.heap.size + 2) wr (wr.setCells (w.heap.size + 2) (k * 32) (nums .u8 x).toList) := below_setCells_w (Nat.le_refl _) _ _ _
  ⟨h.dig.below hb (by omega), h.out.below hb (by omega), h.lst.set k (by rw [hm]; exact hk) x hx (h.room k hk), fun j hj => World.there_setCells (h.room j hj) _ _ _, h.below.trans (hb.mono (by omega)), by rw [size_setCells]; exact h.size⟩
theorem RecH.list (h : RecH w wr D ms) : HL wr wr.heap.size (some ⟨w.heap.size + 2, 0, none⟩) ms := h.lst.more h.size
end
theorem zero_cell (z : Array Value) (hz : z = nums .u8 (List.replicate 32 0)) (n i : Nat) (h : i < n) : (madeCells z n).toList[i]? = some (.int .u8 0) := by
  have h32 : z.size = 32 := by rw [hz, nums_size]; simp
  have hlt : i % z.size < z.size := Nat.mod_lt _ (by omega)
  rw [Array.getElem?_toList]
  unfold madeCells
  rw [Array.getElem?_map, Array.getElem?_range, if_pos h]
  show some (z[i % z.size]!) = _
  rw [getElem!_pos z (i % z.size) hlt]
  have e := nums_get .u8 (List.replicate 32 0) (i % z.size) (by simp; omega)
  rw [← hz, Array.getElem?_eq_getElem hlt] at e
  rw [e, List.getD_eq_getElem?_getD, List.getElem?_replicate]
  split <;> rfl
theorem RecH.start {wx w1 : World} {w : World} {D : Array Value} (hs : wx.heap.size = w.heap.size + 2) (h1 : Row wx w.heap.size 23 D) (h2 : Row wx (w.heap.size + 1) 23 (nums .u8 (List.replicate 32 0))) (h3 : Below w.heap.size w wx) (T d : List Int)
    (h4 : w1.ownsRow (w.heap.size + 2) 23 32 (.slice (some ⟨w.heap.size + 2, 0, none⟩) 512 512) 512 (madeCells (Value.agg (nums .u8 (List.replicate 32 0))).cells (512 * 32)).toList) (h5 : wx.grownBy w1 none) : RecH w w1 D (recM T d 0) := by
  have hb : Below (w.heap.size + 2) wx w1 := (Below.refl _ _).grown h5 (by omega) (fun k hk => by cases hk)
  refine ⟨h1.below hb (by omega), h2.below hb (by omega), ?_, fun k hk => own_room h4 k hk, h3.trans (hb.mono (by omega)), by have : w.heap.size + 2 < w1.heap.size := (h4.lt _ rfl).2; omega⟩
  intro i hi
  rw [recM_length] at hi
  refine ⟨_, rfl, by show w.heap.size + 2 < _; omega, fun j hj => ?_⟩
  rw [recM_get _ _ _ _ hi, if_neg (by omega)]
  have e := h4.cells (g := w.heap.size + 2) rfl (i * 32 + j) (.int .u8 0) (zero_cell _ rfl _ _ (by omega))
  rw [e]
  unfold zeroL
  rw [List.getD_eq_getElem?_getD, List.getElem?_replicate, if_pos hj]; rfl
/-- What Recover holds ahead of its list. -/
def RecX (w X : World) (D : Array Value) : Prop := X.heap.size = w.heap.size + 2 ∧ Row X w.heap.size 23 D ∧ Row X (w.heap.size + 1) 23 (nums .u8 (List.replicate 32 0)) ∧ Below w.heap.size w X
theorem RecX.start (w : World) (D : Array Value) : RecX w ((w.alloc (.cells D 23)).alloc (.cells (nums .u8 (List.replicate 32 0)) 23)) D :=
  ⟨by simp, (Row.made _ _ _).alloc _, Row.made2 _ _ _ _, ((Below.refl _ _).alloc (Nat.le_refl _) _).alloc (by simp) _⟩
theorem text_part (s : ByteArray) (a b : Nat) (h : a ≤ b) : strOfNums (((textL s).drop a).take (b - a)) = s.extract a b := by rw [← textL_extract, text_nums]
attribute [local go_sem ↓ high] read_at write_at
set_option maxHeartbeats 8000000 in
theorem refRecover_any (s : ByteArray) (hs : s.size ≤ maxLen) (d : List Int) (hd : d.length = 32 ∧ bytes d) (w : World) :
    Calls Tryd.prog 64 #[.string s, .agg (nums .u8 d)] w fun e w' => e = .returned (.tuple #[.agg (nums .u8 (recF s d).1), .int .i64 (recF s d).2]) ∧ Below w.heap.size w w' := by
  unfold maxLen at hs
  obtain ⟨i0, hi0, hz0, hz1, hz2⟩ := info_parts infoHash
  obtain ⟨D, hD⟩ : ∃ D, Hid (D = nums .u8 d) := ⟨_, Lib.hid rfl⟩
  have zD : Hid (D.size = 32) := Lib.hid (by rw [hD.out, nums_size]; exact hd.1)
  have zZ : Hid ((nums .u8 (List.replicate 32 0)).size = 32) := Lib.hid (by rw [nums_size]; simp)
  have oZ : Hid ((nums .u8 (List.replicate 32 0)).all (·.oneCell') = true) := Lib.hid (nums_one _ _)
  have hZ := sizeH _ zZ.out
  have H0 := Lib.hid (RecX.start w D)
  rw [← hD.out]
  by_cases hs6 : s.size = 16384
  · obtain ⟨S, hS⟩ : ∃ S, Hid (S = strOfNums d) := ⟨_, Lib.hid rfl⟩
    obtain ⟨T, hT⟩ : ∃ T, Hid (T = textL s) := ⟨_, Lib.hid rfl⟩
    have HT : Hid (T.length = 16384 ∧ bytes T) := Lib.hid (by rw [hT.out]; exact ⟨by rw [textL_length, hs6], textL_bytes s⟩)
    have BI : Hid (∀ (W : World) (i : Nat), i ≤ 255 → Calls Tryd.prog 85 #[.string S, .int .i64 (i : Int)] W fun e w' => e = .returned (.int .i64 (bitN d i : Int)) ∧ W = w') := Lib.hid fun W i h => by
      have := refBit_any S (i : Int) W (by rw [hS.out, strOfNums_size, hd.1]; decide) (by omega)
      rwa [hS.out, bitN_is, ← hS.out] at this
    have CV : Hid (∀ W, Row W w.heap.size 23 D → (convert 48 9 (.slice (some ⟨w.heap.size, 0, none⟩) 32 32)).run Tryd.prog W = .ok (.string S) W) := Lib.hid fun W h => by
      rw [hS.out]; exact conv_row (by rw [← hD.out]; exact h) hd.1
    have HF : Hid (recF s d = (keyF (recL T d), 0)) := Lib.hid (by rw [recF_ok hs6, hT.out])
    have SM : Hid (∀ (W : World) (a : Nat), a + 32 ≤ 16384 → Calls Tryd.prog 38 #[.string (⟨#[3]⟩ ++ s.extract a (a + 32))] W fun e w' => e = .returned (.agg (nums .u8 (pubH ((T.drop a).take 32)))) ∧ Below W.heap.size W w') := Lib.hid fun W a h => by
      have := refSum_any (⟨#[3]⟩ ++ s.extract a (a + 32)) (by rw [ByteArray.size_append, ByteArray.size_extract]; show 1 + _ ≤ _; omega) W
      have e := text_part s a (a + 32) (by omega)
      rw [show a + 32 - a = 32 by omega, ← hT.out] at e
      unfold pubH
      rw [e]; exact this
    have UH : Hid (∀ (W : World) (a : Nat), a + 32 ≤ 16384 → Calls Tryd.prog 46 #[.string (s.extract a s.size)] W fun e w' => (∃ v, e = .returned (.tuple #[.agg (nums .u8 ((T.drop a).take 32)), .string v, .bool true])) ∧ Below W.heap.size W w') := Lib.hid fun W a h => by
      have hsz : (s.extract a s.size).size = 16384 - a := by rw [ByteArray.size_extract]; omega
      refine (refUnhash_any (s.extract a s.size) (by rw [hsz]; unfold maxLen; omega) W).mono ?_
      rintro e w' ⟨rfl, hb⟩
      refine ⟨⟨(s.extract a s.size).extract 32 (s.extract a s.size).size, ?_⟩, hb⟩
      rw [unhV_yes _ (by rw [hsz]; omega), textL_rest, ← hT.out]
    have KY : Hid (∀ (W : World) (c : Nat), HL W W.heap.size (some ⟨w.heap.size + 2, 0, none⟩) (recL T d) → Calls Tryd.prog 86 #[.slice (some ⟨w.heap.size + 2, 0, none⟩) 512 c] W fun e w' => e = .returned (.agg (nums .u8 (keyF (recL T d)))) ∧ Below W.heap.size W w') := Lib.hid fun W c h => by
      have := refKey_any (recL T d) (recL_hashes T d HT.out.2 HT.out.1) _ c W h (by rw [recL_length]; decide)
      rwa [recL_length] at this
    obtain ⟨C, hC⟩ : ∃ C, Hid (C = nums .u8 (keyF (recL T d))) := ⟨_, Lib.hid rfl⟩
    have zC : Hid (C.size = 32) := Lib.hid (by rw [hC.out, nums_size]; exact (keyF_is _).1)
    have oC : Hid (C.all (·.oneCell') = true) := Lib.hid (by rw [hC.out]; exact nums_one _ _)
    have n1 : (s.size : Int) = 16384 := by omega
    rw [HF.out]
    show Calls _ _ _ _ fun e w' => e = .returned (.tuple #[.agg (nums .u8 (keyF (recL T d))), .int .i64 0]) ∧ Below w.heap.size w w'
    rw [← hC.out] at KY ⊢
    clear hd hD hS hT hs hC
    go_enter Tryd.func64, Tryd.ntmps64
    go_upto_region 1 with fail
    refine world_gen (fun X => RecX w X D) H0.out (fun X HX => ?_)
    have HX := Lib.hid HX
    clear H0
    go_upto_region 4 with (at_make; refine wpList_make_full _ rfl _ _ 27 rfl (w.heap.size + 2) 23 i0 _ 32 Tryd.underlying27 hi0 hz0 hz1 _ _ _ _ 512 rfl rfl rfl rfl (by rw [hz2]; decide) (by decide) (by rw [HX.out.1]; exact Nat.le_refl _) ?_; rw [HX.out.1]; intro w1 hown hgr; have HK := Lib.hid (RecH.start HX.out.1 HX.out.2.1 HX.out.2.2.1 HX.out.2.2.2 T d hown hgr); clear hown hgr HX)
    go_wp2
    go_loopw [7] (fun s7 wr => ∃ (k : Nat), s7 = .int .i64 ((k : Nat) : Int) ∧ k ≤ 256 ∧ Hid (RecH w wr D (recM T d k))) (fun s7 _ => (256 - intOf s7).toNat)
    case atStart => exact ⟨0, rfl, by omega, HK⟩
    case round =>
      clear HK
      obtain ⟨k, rfl, hk, HQ⟩ := hrel
      by_cases hlt : k < 256
      · have hwk : IntKind.i64.wrap (k : Int) = (k : Int) := by rw [IntKind.wrap_i64]; omega
        have hkb : Hid (k ≤ 255) := Lib.hid (by omega)
        obtain ⟨b, hb⟩ : ∃ b, Hid (b = bitN d k) := ⟨_, Lib.hid rfl⟩
        have hb1 : b ≤ 1 := by rw [hb.out]; exact bitN_le d k
        have X1 : Hid (∀ W, Calls Tryd.prog 85 #[.string S, .int .i64 (k : Int)] W fun e w' => e = .returned (.int .i64 (b : Int)) ∧ W = w') := Lib.hid fun W => by rw [hb.out]; exact BI.out W k hkb.out
        obtain ⟨y, hy⟩ : ∃ y, Hid (y = pubH ((T.drop (32 * k)).take 32)) := ⟨_, Lib.hid rfl⟩
        obtain ⟨Y, hY⟩ : ∃ Y, Hid (Y = nums .u8 y) := ⟨_, Lib.hid rfl⟩
        have hy32 : Hid (y.length = 32) := Lib.hid (by rw [hy.out]; exact (pubH_is _).1)
        have zY : Hid (Y.size = 32) := Lib.hid (by rw [hY.out, nums_size]; exact hy32.out)
        have oY : Hid (Y.all (·.oneCell') = true) := Lib.hid (by rw [hY.out]; exact nums_one _ _)
        obtain ⟨z, hz⟩ : ∃ z, Hid (z = (T.drop (8192 + 32 * k)).take 32) := ⟨_, Lib.hid rfl⟩
        obtain ⟨Z, hZz⟩ : ∃ Z, Hid (Z = nums .u8 z) := ⟨_, Lib.hid rfl⟩
        have hz32 : Hid (z.length = 32) := Lib.hid (by rw [hz.out, List.length_take, List.length_drop, HT.out.1]; have := hkb.out; omega)
        have zZz : Hid (Z.size = 32) := Lib.hid (by rw [hZz.out, nums_size]; exact hz32.out)
        have oZz : Hid (Z.all (·.oneCell') = true) := Lib.hid (by rw [hZz.out]; exact nums_one _ _)
        obtain ⟨p, hp⟩ : ∃ p, p = 32 * k := ⟨_, rfl⟩
        obtain ⟨q, hq⟩ : ∃ q, q = p + 32 := ⟨_, rfl⟩
        obtain ⟨r, hr⟩ : ∃ r, r = 8192 + p := ⟨_, rfl⟩
        obtain ⟨u, hu⟩ : ∃ u, u = 2 * k + b := ⟨_, rfl⟩
        obtain ⟨v, hv⟩ : ∃ v, v = 2 * k + 1 - b := ⟨_, rfl⟩
        have hw1 : IntKind.i64.wrap (32 * (k : Int)) = (p : Int) := by rw [IntKind.wrap_i64]; omega
        have hw2 : IntKind.i64.wrap ((p : Int) + 32) = (q : Int) := by rw [IntKind.wrap_i64]; omega
        have hw3 : IntKind.i64.wrap (8192 + (p : Int)) = (r : Int) := by rw [IntKind.wrap_i64]; omega
        have hw4 : IntKind.i64.wrap (2 * (k : Int)) = 2 * (k : Int) := by rw [IntKind.wrap_i64]; omega
        have hw5 : IntKind.i64.wrap (2 * (k : Int) + (b : Int)) = (u : Int) := by rw [IntKind.wrap_i64]; omega
        have hw6 : IntKind.i64.wrap (2 * (k : Int) + 1) = 2 * (k : Int) + 1 := by rw [IntKind.wrap_i64]; omega
        have hw7 : IntKind.i64.wrap (2 * (k : Int) + 1 - (b : Int)) = (v : Int) := by rw [IntKind.wrap_i64]; omega
        have p0 : (0 : Int) ≤ (p : Int) := by omega
        have p1 : (p : Int) ≤ (q : Int) := by omega
        have p2 : (q : Int) ≤ (s.size : Int) := by omega
        have p3 : (0 : Int) ≤ (r : Int) := by omega
        have p4 : (r : Int) ≤ (s.size : Int) := by omega
        have u1 : (u : Int) < 512 := by omega
        have v1 : (v : Int) < 512 := by omega
        have u2 : Hid (u < 512) := Lib.hid (by omega)
        have v2 : Hid (v < 512) := Lib.hid (by omega)
        obtain ⟨S3, hS3⟩ : ∃ S3, Hid (S3 = ⟨#[3]⟩ ++ s.extract p q) := ⟨_, Lib.hid rfl⟩
        have a1 : ∀ W, (Op.stringOp .add ⟨#[3]⟩ (s.extract p q)).run Tryd.prog W = .ok (.string S3) W := fun W => by rw [hS3.out]; exact join_text _ _ (by rw [ByteArray.size_extract]; show 1 + _ ≤ _; omega) W
        have X2 : Hid (∀ W, Calls Tryd.prog 38 #[.string S3] W fun e w' => e = .returned (.agg Y) ∧ Below W.heap.size W w') := Lib.hid fun W => by
          rw [hS3.out, hY.out, hy.out, hq, hp]; exact SM.out W (32 * k) (by have := hkb.out; omega)
        have X3 : Hid (∀ W, Calls Tryd.prog 46 #[.string (s.extract r 16384)] W fun e w' => (∃ v, e = .returned (.tuple #[.agg Z, .string v, .bool true])) ∧ Below W.heap.size W w') := Lib.hid fun W => by
          rw [hZz.out, hz.out, hr, hp, ← hs6]; exact UH.out W (8192 + 32 * k) (by have := hkb.out; omega)
        have NM : Hid (((recM T d k).set u y).set v z = recM T d (k + 1)) := Lib.hid (by rw [hu, hv, hy.out, hz.out]; exact recM_step T d k b (by have := hkb.out; omega) hb.out)
        have c1 := CV.out wr HQ.out.dig
        have hy6 := sizeH _ zY.out
        have hz6 := sizeH _ zZz.out
        clear hp hq hr hu hv hy hz hb
        go_upto_region 8 with (go_at_call 85; (with_reducible refine (X1.out _).mono ?_); rintro e wb ⟨rfl, rfl⟩)
        clear c1
        go_upto_region 9 with (first
          | (go_at_call 38; (with_reducible refine (X2.out _).mono ?_); rintro e w1 ⟨rfl, hb2⟩; have H1 := Lib.hid (HQ.out.next hb2); clear hb2)
          | (refine wpList_store_mid rfl 23 _ _ rfl (w.heap.size + 2) (u * 32) Y rfl rfl (by rw [zY.out]; exact H1.out.room u u2.out) hy6 oY.out ?_))
        have H8 : Hid (RecH w (w1.setCells (w.heap.size + 2) (u * 32) Y.toList) D ((recM T d k).set u y)) := Lib.hid (by rw [hY.out]; exact H1.out.put u u2.out (recM_length _ _ _) y hy32.out)
        refine world_gen (fun X => RecH w X D ((recM T d k).set u y)) H8.out (fun X HX => ?_)
        have HX := Lib.hid HX
        clear H8 H1 HQ X2 X1 a1
        go_upto_region 10 with (go_at_call 46; (with_reducible refine (X3.out _).mono ?_); rintro e w2 ⟨⟨vv, rfl⟩, hb3⟩; obtain ⟨w3, s3, hr3, hb3', hz3⟩ := made_write w2 Z zZz.out oZz.out; have H9 := Lib.hid ((HX.out.next hb3).next hb3'); have l9 := hr3.read zZz.out; clear hr3 hb3 hb3' hz3)
        clear s3 HX X3
        have HQ2 : Hid (RecH w (w3.setCells (w.heap.size + 2) (v * 32) Z.toList) D (recM T d (k + 1))) := Lib.hid (by rw [← NM.out, hZz.out]; exact H9.out.put v v2.out (by rw [List.length_set]; exact recM_length _ _ _) z hz32.out)
        go_wp2_with (refine wpList_store_mid rfl 23 _ _ rfl (w.heap.size + 2) (v * 32) Z rfl rfl (by rw [zZz.out]; exact H9.out.room v v2.out) hz6 oZz.out ?_)
        go_roundw
        case rel => exact ⟨k + 1, by go_num, by omega, HQ2⟩
        case measure => simp [intOf]; omega
      · have hk9 : k = 256 := by omega
        subst hk9
        have HE : Hid (RecH w wr D (recL T d)) := Lib.hid (by rw [← recM_done]; exact HQ.out)
        clear HQ hlt
        go_wp2_with (go_at_call 86; (with_reducible refine (KY.out _ _ HE.out.list).mono ?_); rintro e w1 ⟨rfl, hb⟩; have H1 := Lib.hid (HE.out.next hb); clear hb HE; have s6 := H1.out.out.write zZ.out zC.out oC.out)
        refine bodyPost_ret (results_row2 rfl _ _ (w.heap.size + 1) 23 _ (0, 0) _ rfl (H1.out.out.whole C) Tryd.underlying23 rfl (sizeH _ zC.out) _ rfl) rfl ⟨rfl, below_setRow H1.out.below (by omega)⟩
  · have d1 : ((s.size : Int) != 16384) = true := by simp; omega
    rw [recF_no hs6]
    show Calls _ _ _ _ fun e w' => e = .returned (.tuple #[.agg (nums .u8 (List.replicate 32 0)), .int .i64 10]) ∧ Below w.heap.size w w'
    clear hd hs6
    go_enter Tryd.func64, Tryd.ntmps64
    go_upto_region 1 with fail
    refine world_gen (fun X => RecX w X D) H0.out (fun X HX => ?_)
    have HX := Lib.hid HX
    go_wp2_with (refine wpList_store_row rfl 23 _ _ rfl (w.heap.size + 1) (nums .u8 (List.replicate 32 0)) rfl rfl 23 _ HX.out.2.2.1 hZ (by rw [zZ.out]) oZ.out ?_)
    refine bodyPost_ret (results_row2 rfl _ _ (w.heap.size + 1) 23 _ (0, 0) _ rfl (HX.out.2.2.1.whole _) Tryd.underlying23 rfl hZ _ rfl) rfl ⟨rfl, below_setRow HX.out.2.2.2 (by omega)⟩
end Go.Proofs.YtpndccoikhejgaaDoor
