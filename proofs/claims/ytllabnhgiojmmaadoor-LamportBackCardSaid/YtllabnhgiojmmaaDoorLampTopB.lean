/-
  Proved: called with any text, any three numbers and any two hashes, the statement LamportBack (of a signature and its digest what stands for the key is recovered; of another digest, or with another byte, something else; where two unlike texts have one hash it asks the examples alone) returns true, and its arguments read as before. Condition: the two tables of the package sha hold what the program's text lays, which the card ties to that text.

  Several texts in one (a claim has room for 60 files), the card last: RefRecover, LampLawS, LampLawB, LampSmall, LampSecret, LampSign, ByteMark, LampKey, LampRecover, LampPublic, LampBCard.
-/
import Derived.Test.YtllabnhgiojmmaaDoorRefKey
import Derived.Test.YtllabnhgiojmmaaDoorBitOnly
import Derived.Test.YtllabnhgiojmmaaDoorListSet
import Derived.Test.YtllabnhgiojmmaaDoorRefUnhash
import Derived.Test.YtllabnhgiojmmaaDoorLampKeyed
import Derived.Test.YtllabnhgiojmmaaDoorRefSign
import Derived.Test.YtllabnhgiojmmaaDoorLampSays
import Derived.Test.YtllabnhgiojmmaaDoorHash
import Derived.Test.YtllabnhgiojmmaaDoorPut
import Derived.Test.YtllabnhgiojmmaaDoorByteTwo
import Derived.Test.YtllabnhgiojmmaaDoorByteMem
import Derived.Lib.SlBytesConst
import Derived.Test.YtllabnhgiojmmaaDoorUnhashB
import Derived.Test.YtllabnhgiojmmaaDoorFork
import Derived.Test.YtllabnhgiojmmaaDoorLampArg
namespace Go.Proofs.YtllabnhgiojmmaaDoor
open Go.RowKit Go.Great
set_option linter.unusedVariables false
set_option maxRecDepth 100000

/-- The public hashes so far: of the first k pairs, zero behind them. -/
def recM (T d : List Int) (k : Nat) : List (List Int) := (List.range 512).map fun j => if j < 2 * k then recAt T d j else zeroL
theorem recM_length (T d : List Int) (k : Nat) : (recM T d k).length = 512 := by simp [recM]
theorem recM_get (T d : List Int) (k j : Nat) (h : j < 512) : (recM T d k).getD j [] = if j < 2 * k then recAt T d j else zeroL := by simp [recM, List.getD, h]
theorem recM_done (T d : List Int) : recM T d 256 = recL T d := by
  unfold recM recL
  refine List.map_congr_left (fun j hj => ?_)
  have hj : j < 512 := by simpa using hj
  rw [if_pos (by omega)]
theorem list_getD_ext {a b : List (List Int)} (h : a.length = b.length) (hh : ∀ j, j < a.length → a.getD j [] = b.getD j []) : a = b := by
  refine List.ext_getElem h (fun j h1 h2 => ?_)
  have e := hh j h1
  rw [List.getD_eq_getElem?_getD, List.getD_eq_getElem?_getD, List.getElem?_eq_getElem h1, List.getElem?_eq_getElem h2] at e
  exact e
theorem recM_step (T d : List Int) (k b : Nat) (hk : k < 256) (hb : b = bitN d k) : ((recM T d k).set (2 * k + b) (pubH ((T.drop (32 * k)).take 32))).set (2 * k + 1 - b) ((T.drop (8192 + 32 * k)).take 32) = recM T d (k + 1) := by
  have hb1 : b ≤ 1 := by rw [hb]; exact bitN_le d k
  refine list_getD_ext (by simp [recM_length]) (fun j hj => ?_)
  have hj : j < 512 := by simpa [recM_length] using hj
  rw [setL_getD _ _ _ _ (by rw [List.length_set, recM_length]; exact hj), setL_getD _ _ _ _ (by rw [recM_length]; exact hj), recM_get _ _ _ _ hj, recM_get _ _ _ _ hj]
  by_cases h1 : j = 2 * k + 1 - b
  · rw [if_pos h1, if_pos (by omega)]
    unfold recAt
    rw [show j / 2 = k by omega, ← hb, if_neg (by omega)]
  · rw [if_neg h1]
    by_cases h2 : j = 2 * k + b
    · rw [if_pos h2, if_pos (by omega)]
      unfold recAt
      rw [show j / 2 = k by omega, ← hb, if_pos (by omega)]
    · rw [if_neg h2]
      by_cases h3 : j < 2 * k
      · rw [if_pos h3, if_pos (by omega)]
      · rw [if_neg h3, if_neg (by omega)]
/-- What Recover holds: the digest, its result, the public hashes so far. -/
structure RecH (w wr : World) (D : Array Value) (ms : List (List Int)) : Prop where
  dig : Row wr w.heap.size 24 D
  out : Row wr (w.heap.size + 1) 24 (nums .u8 (List.replicate 32 0))
  lst : HL wr (w.heap.size + 3) (some ⟨w.heap.size + 2, 0, none⟩) ms
  room : ∀ k, k < 512 → wr.there (w.heap.size + 2) (k * 32) 32
  below : Below w.heap.size w wr
  size : w.heap.size + 3 ≤ wr.heap.size
section
variable {w wr w1 : World} {D : Array Value} {ms : List (List Int)}
theorem there_next {g o n : Nat} (h : wr.there g o n) (hb : Below wr.heap.size wr w1) (hg : g < wr.heap.size) : w1.there g o n := fun j hj =>
  have e := hb.block g hg
  ⟨by rw [World.cell?_of_block e]; exact (h j hj).1, by rw [World.frozen?_of_block e]; exact (h j hj).2⟩
theorem RecH.next (h : RecH w wr D ms) (hb : Below wr.heap.size wr w1) : RecH w w1 D ms :=
  ⟨h.dig.next hb, h.out.next hb, h.lst.next hb h.size, fun k hk => there_next (h.room k hk) hb (by have := h.size; omega), below_new h.below hb, Nat.le_trans h.size hb.size⟩
theorem RecH.put (h : RecH w wr D ms) (k : Nat) (hk : k < 512) (hm : ms.length = 512) (x : List Int) (hx : x.length = 32) : RecH w (wr.setCells (w.heap.size + 2) (k * 32) (nums .u8 x).toList) D (ms.set k x) :=
  have hb : Below (w.heap.size + 2) wr (wr.setCells (w.heap.size + 2) (k * 32) (nums .u8 x).toList) := below_setCells_w (Nat.le_refl _) _ _ _
  ⟨h.dig.below hb (by omega), h.out.below hb (by omega), h.lst.set k (by rw [hm]; exact hk) x hx (h.room k hk), fun j hj => World.there_setCells (h.room j hj) _ _ _, h.below.trans (hb.mono (by omega)), by rw [size_setCells]; exact h.size⟩
theorem RecH.list (h : RecH w wr D ms) : HL wr wr.heap.size (some ⟨w.heap.size + 2, 0, none⟩) ms := h.lst.more h.size
end
theorem zero_cell (z : Array Value) (hz : z = nums .u8 (List.replicate 32 0)) (n i : Nat) (h : i < n) : (madeCells z n).toList[i]? = some (.int .u8 0) := by
  have h32 : z.size = 32 := by rw [hz, nums_size]; simp
  have hlt : i % z.size < z.size := Nat.mod_lt _ (by omega)
  rw [Array.getElem?_toList]
  unfold madeCells
  rw [Array.getElem?_map, Array.getElem?_range, if_pos h]
  show some (z[i % z.size]!) = _
  rw [getElem!_pos z (i % z.size) hlt]
  have e := nums_get .u8 (List.replicate 32 0) (i % z.size) (by simp; omega)
  rw [← hz, Array.getElem?_eq_getElem hlt] at e
  rw [e, List.getD_eq_getElem?_getD, List.getElem?_replicate]
  split <;> rfl
theorem RecH.start {wx w1 : World} {w : World} {D : Array Value} (hs : wx.heap.size = w.heap.size + 2) (h1 : Row wx w.heap.size 24 D) (h2 : Row wx (w.heap.size + 1) 24 (nums .u8 (List.replicate 32 0))) (h3 : Below w.heap.size w wx) (T d : List Int)
    (h4 : w1.ownsRow (w.heap.size + 2) 24 32 (.slice (some ⟨w.heap.size + 2, 0, none⟩) 512 512) 512 (madeCells (Value.agg (nums .u8 (List.replicate 32 0))).cells (512 * 32)).toList) (h5 : wx.grownBy w1 none) : RecH w w1 D (recM T d 0) := by
  have hb : Below (w.heap.size + 2) wx w1 := (Below.refl _ _).grown h5 (by omega) (fun k hk => by cases hk)
  refine ⟨h1.below hb (by omega), h2.below hb (by omega), ?_, fun k hk => own_room h4 k hk, h3.trans (hb.mono (by omega)), by have : w.heap.size + 2 < w1.heap.size := (h4.lt _ rfl).2; omega⟩
  intro i hi
  rw [recM_length] at hi
  refine ⟨_, rfl, by show w.heap.size + 2 < _; omega, fun j hj => ?_⟩
  rw [recM_get _ _ _ _ hi, if_neg (by omega)]
  have e := h4.cells (g := w.heap.size + 2) rfl (i * 32 + j) (.int .u8 0) (zero_cell _ rfl _ _ (by omega))
  rw [e]
  unfold zeroL
  rw [List.getD_eq_getElem?_getD, List.getElem?_replicate, if_pos hj]; rfl
/-- What Recover holds ahead of its list. -/
def RecX (w X : World) (D : Array Value) : Prop := X.heap.size = w.heap.size + 2 ∧ Row X w.heap.size 24 D ∧ Row X (w.heap.size + 1) 24 (nums .u8 (List.replicate 32 0)) ∧ Below w.heap.size w X
theorem RecX.start (w : World) (D : Array Value) : RecX w ((w.alloc (.cells D 24)).alloc (.cells (nums .u8 (List.replicate 32 0)) 24)) D :=
  ⟨by simp, (Row.made _ _ _).alloc _, Row.made2 _ _ _ _, ((Below.refl _ _).alloc (Nat.le_refl _) _).alloc (by simp) _⟩
theorem text_part (s : ByteArray) (a b : Nat) (h : a ≤ b) : strOfNums (((textL s).drop a).take (b - a)) = s.extract a b := by rw [← textL_extract, text_nums]
attribute [local go_sem ↓ high] read_at write_at
set_option maxHeartbeats 8000000 in
theorem refRecover_any (s : ByteArray) (hs : s.size ≤ maxLen) (d : List Int) (hd : d.length = 32 ∧ bytes d) (w : World) :
    Calls Tryd.prog 14 #[.string s, .agg (nums .u8 d)] w fun e w' => e = .returned (.tuple #[.agg (nums .u8 (recF s d).1), .int .i64 (recF s d).2]) ∧ Below w.heap.size w w' := by
  unfold maxLen at hs
  obtain ⟨i0, hi0, hz0, hz1, hz2⟩ := info_parts infoHash
  obtain ⟨D, hD⟩ : ∃ D, Hid (D = nums .u8 d) := ⟨_, Lib.hid rfl⟩
  have zD : Hid (D.size = 32) := Lib.hid (by rw [hD.out, nums_size]; exact hd.1)
  have zZ : Hid ((nums .u8 (List.replicate 32 0)).size = 32) := Lib.hid (by rw [nums_size]; simp)
  have oZ : Hid ((nums .u8 (List.replicate 32 0)).all (·.oneCell') = true) := Lib.hid (nums_one _ _)
  have hZ := sizeH _ zZ.out
  have H0 := Lib.hid (RecX.start w D)
  rw [← hD.out]
  by_cases hs6 : s.size = 16384
  · obtain ⟨S, hS⟩ : ∃ S, Hid (S = strOfNums d) := ⟨_, Lib.hid rfl⟩
    obtain ⟨T, hT⟩ : ∃ T, Hid (T = textL s) := ⟨_, Lib.hid rfl⟩
    have HT : Hid (T.length = 16384 ∧ bytes T) := Lib.hid (by rw [hT.out]; exact ⟨by rw [textL_length, hs6], textL_bytes s⟩)
    have BI : Hid (∀ (W : World) (i : Nat), i ≤ 255 → Calls Tryd.prog 26 #[.string S, .int .i64 (i : Int)] W fun e w' => e = .returned (.int .i64 (bitN d i : Int)) ∧ W = w') := Lib.hid fun W i h => by
      have := refBit_any S (i : Int) W (by rw [hS.out, strOfNums_size, hd.1]; decide) (by omega)
      rwa [hS.out, bitN_is, ← hS.out] at this
    have CV : Hid (∀ W, Row W w.heap.size 24 D → (convert 41 9 (.slice (some ⟨w.heap.size, 0, none⟩) 32 32)).run Tryd.prog W = .ok (.string S) W) := Lib.hid fun W h => by
      rw [hS.out]; exact conv_row (by rw [← hD.out]; exact h) hd.1
    have HF : Hid (recF s d = (keyF (recL T d), 0)) := Lib.hid (by rw [recF_ok hs6, hT.out])
    have SM : Hid (∀ (W : World) (a : Nat), a + 32 ≤ 16384 → Calls Tryd.prog 27 #[.string (⟨#[3]⟩ ++ s.extract a (a + 32))] W fun e w' => e = .returned (.agg (nums .u8 (pubH ((T.drop a).take 32)))) ∧ Below W.heap.size W w') := Lib.hid fun W a h => by
      have := refSum_any (⟨#[3]⟩ ++ s.extract a (a + 32)) (by rw [ByteArray.size_append, ByteArray.size_extract]; show 1 + _ ≤ _; omega) W
      have e := text_part s a (a + 32) (by omega)
      rw [show a + 32 - a = 32 by omega, ← hT.out] at e
      unfold pubH
      rw [e]; exact this
    have UH : Hid (∀ (W : World) (a : Nat), a + 32 ≤ 16384 → Calls Tryd.prog 31 #[.string (s.extract a s.size)] W fun e w' => (∃ v, e = .returned (.tuple #[.agg (nums .u8 ((T.drop a).take 32)), .string v, .bool true])) ∧ Below W.heap.size W w') := Lib.hid fun W a h => by
      have hsz : (s.extract a s.size).size = 16384 - a := by rw [ByteArray.size_extract]; omega
      refine (refUnhash_any (s.extract a s.size) (by rw [hsz]; unfold maxLen; omega) W).mono ?_
      rintro e w' ⟨rfl, hb⟩
      refine ⟨⟨(s.extract a s.size).extract 32 (s.extract a s.size).size, ?_⟩, hb⟩
      rw [unhV_yes _ (by rw [hsz]; omega), textL_rest, ← hT.out]
    have KY : Hid (∀ (W : World) (c : Nat), HL W W.heap.size (some ⟨w.heap.size + 2, 0, none⟩) (recL T d) → Calls Tryd.prog 19 #[.slice (some ⟨w.heap.size + 2, 0, none⟩) 512 c] W fun e w' => e = .returned (.agg (nums .u8 (keyF (recL T d)))) ∧ Below W.heap.size W w') := Lib.hid fun W c h => by
      have := refKey_any (recL T d) (recL_hashes T d HT.out.2 HT.out.1) _ c W h (by rw [recL_length]; decide)
      rwa [recL_length] at this
    obtain ⟨C, hC⟩ : ∃ C, Hid (C = nums .u8 (keyF (recL T d))) := ⟨_, Lib.hid rfl⟩
    have zC : Hid (C.size = 32) := Lib.hid (by rw [hC.out, nums_size]; exact (keyF_is _).1)
    have oC : Hid (C.all (·.oneCell') = true) := Lib.hid (by rw [hC.out]; exact nums_one _ _)
    have n1 : (s.size : Int) = 16384 := by omega
    rw [HF.out]
    show Calls _ _ _ _ fun e w' => e = .returned (.tuple #[.agg (nums .u8 (keyF (recL T d))), .int .i64 0]) ∧ Below w.heap.size w w'
    rw [← hC.out] at KY ⊢
    clear hd hD hS hT hs hC
    go_enter Tryd.func14, Tryd.ntmps14
    go_upto_region 1 with fail
    refine world_gen (fun X => RecX w X D) H0.out (fun X HX => ?_)
    have HX := Lib.hid HX
    clear H0
    go_upto_region 4 with (at_make; refine wpList_make_full _ rfl _ _ 33 rfl (w.heap.size + 2) 24 i0 _ 32 Tryd.underlying33 hi0 hz0 hz1 _ _ _ _ 512 rfl rfl rfl rfl (by rw [hz2]; decide) (by decide) (by rw [HX.out.1]; exact Nat.le_refl _) ?_; rw [HX.out.1]; intro w1 hown hgr; have HK := Lib.hid (RecH.start HX.out.1 HX.out.2.1 HX.out.2.2.1 HX.out.2.2.2 T d hown hgr); clear hown hgr HX)
    go_wp2
    go_loopw [7] (fun s7 wr => ∃ (k : Nat), s7 = .int .i64 ((k : Nat) : Int) ∧ k ≤ 256 ∧ Hid (RecH w wr D (recM T d k))) (fun s7 _ => (256 - intOf s7).toNat)
    case atStart => exact ⟨0, rfl, by omega, HK⟩
    case round =>
      clear HK
      obtain ⟨k, rfl, hk, HQ⟩ := hrel
      by_cases hlt : k < 256
      · have hwk : IntKind.i64.wrap (k : Int) = (k : Int) := by rw [IntKind.wrap_i64]; omega
        have hkb : Hid (k ≤ 255) := Lib.hid (by omega)
        obtain ⟨b, hb⟩ : ∃ b, Hid (b = bitN d k) := ⟨_, Lib.hid rfl⟩
        have hb1 : b ≤ 1 := by rw [hb.out]; exact bitN_le d k
        have X1 : Hid (∀ W, Calls Tryd.prog 26 #[.string S, .int .i64 (k : Int)] W fun e w' => e = .returned (.int .i64 (b : Int)) ∧ W = w') := Lib.hid fun W => by rw [hb.out]; exact BI.out W k hkb.out
        obtain ⟨y, hy⟩ : ∃ y, Hid (y = pubH ((T.drop (32 * k)).take 32)) := ⟨_, Lib.hid rfl⟩
        obtain ⟨Y, hY⟩ : ∃ Y, Hid (Y = nums .u8 y) := ⟨_, Lib.hid rfl⟩
        have hy32 : Hid (y.length = 32) := Lib.hid (by rw [hy.out]; exact (pubH_is _).1)
        have zY : Hid (Y.size = 32) := Lib.hid (by rw [hY.out, nums_size]; exact hy32.out)
        have oY : Hid (Y.all (·.oneCell') = true) := Lib.hid (by rw [hY.out]; exact nums_one _ _)
        obtain ⟨z, hz⟩ : ∃ z, Hid (z = (T.drop (8192 + 32 * k)).take 32) := ⟨_, Lib.hid rfl⟩
        obtain ⟨Z, hZz⟩ : ∃ Z, Hid (Z = nums .u8 z) := ⟨_, Lib.hid rfl⟩
        have hz32 : Hid (z.length = 32) := Lib.hid (by rw [hz.out, List.length_take, List.length_drop, HT.out.1]; have := hkb.out; omega)
        have zZz : Hid (Z.size = 32) := Lib.hid (by rw [hZz.out, nums_size]; exact hz32.out)
        have oZz : Hid (Z.all (·.oneCell') = true) := Lib.hid (by rw [hZz.out]; exact nums_one _ _)
        obtain ⟨p, hp⟩ : ∃ p, p = 32 * k := ⟨_, rfl⟩
        obtain ⟨q, hq⟩ : ∃ q, q = p + 32 := ⟨_, rfl⟩
        obtain ⟨r, hr⟩ : ∃ r, r = 8192 + p := ⟨_, rfl⟩
        obtain ⟨u, hu⟩ : ∃ u, u = 2 * k + b := ⟨_, rfl⟩
        obtain ⟨v, hv⟩ : ∃ v, v = 2 * k + 1 - b := ⟨_, rfl⟩
        have hw1 : IntKind.i64.wrap (32 * (k : Int)) = (p : Int) := by rw [IntKind.wrap_i64]; omega
        have hw2 : IntKind.i64.wrap ((p : Int) + 32) = (q : Int) := by rw [IntKind.wrap_i64]; omega
        have hw3 : IntKind.i64.wrap (8192 + (p : Int)) = (r : Int) := by rw [IntKind.wrap_i64]; omega
        have hw4 : IntKind.i64.wrap (2 * (k : Int)) = 2 * (k : Int) := by rw [IntKind.wrap_i64]; omega
        have hw5 : IntKind.i64.wrap (2 * (k : Int) + (b : Int)) = (u : Int) := by rw [IntKind.wrap_i64]; omega
        have hw6 : IntKind.i64.wrap (2 * (k : Int) + 1) = 2 * (k : Int) + 1 := by rw [IntKind.wrap_i64]; omega
        have hw7 : IntKind.i64.wrap (2 * (k : Int) + 1 - (b : Int)) = (v : Int) := by rw [IntKind.wrap_i64]; omega
        have p0 : (0 : Int) ≤ (p : Int) := by omega
        have p1 : (p : Int) ≤ (q : Int) := by omega
        have p2 : (q : Int) ≤ (s.size : Int) := by omega
        have p3 : (0 : Int) ≤ (r : Int) := by omega
        have p4 : (r : Int) ≤ (s.size : Int) := by omega
        have u1 : (u : Int) < 512 := by omega
        have v1 : (v : Int) < 512 := by omega
        have u2 : Hid (u < 512) := Lib.hid (by omega)
        have v2 : Hid (v < 512) := Lib.hid (by omega)
        obtain ⟨S3, hS3⟩ : ∃ S3, Hid (S3 = ⟨#[3]⟩ ++ s.extract p q) := ⟨_, Lib.hid rfl⟩
        have a1 : ∀ W, (Op.stringOp .add ⟨#[3]⟩ (s.extract p q)).run Tryd.prog W = .ok (.string S3) W := fun W => by rw [hS3.out]; exact join_text _ _ (by rw [ByteArray.size_extract]; show 1 + _ ≤ _; omega) W
        have X2 : Hid (∀ W, Calls Tryd.prog 27 #[.string S3] W fun e w' => e = .returned (.agg Y) ∧ Below W.heap.size W w') := Lib.hid fun W => by
          rw [hS3.out, hY.out, hy.out, hq, hp]; exact SM.out W (32 * k) (by have := hkb.out; omega)
        have X3 : Hid (∀ W, Calls Tryd.prog 31 #[.string (s.extract r 16384)] W fun e w' => (∃ v, e = .returned (.tuple #[.agg Z, .string v, .bool true])) ∧ Below W.heap.size W w') := Lib.hid fun W => by
          rw [hZz.out, hz.out, hr, hp, ← hs6]; exact UH.out W (8192 + 32 * k) (by have := hkb.out; omega)
        have NM : Hid (((recM T d k).set u y).set v z = recM T d (k + 1)) := Lib.hid (by rw [hu, hv, hy.out, hz.out]; exact recM_step T d k b (by have := hkb.out; omega) hb.out)
        have c1 := CV.out wr HQ.out.dig
        have hy6 := sizeH _ zY.out
        have hz6 := sizeH _ zZz.out
        clear hp hq hr hu hv hy hz hb
        go_upto_region 8 with (go_at_call 26; (with_reducible refine (X1.out _).mono ?_); rintro e wb ⟨rfl, rfl⟩)
        clear c1
        go_upto_region 9 with (first
          | (go_at_call 27; (with_reducible refine (X2.out _).mono ?_); rintro e w1 ⟨rfl, hb2⟩; have H1 := Lib.hid (HQ.out.next hb2); clear hb2)
          | (refine wpList_store_mid rfl 24 _ _ rfl (w.heap.size + 2) (u * 32) Y rfl rfl (by rw [zY.out]; exact H1.out.room u u2.out) hy6 oY.out ?_))
        have H8 : Hid (RecH w (w1.setCells (w.heap.size + 2) (u * 32) Y.toList) D ((recM T d k).set u y)) := Lib.hid (by rw [hY.out]; exact H1.out.put u u2.out (recM_length _ _ _) y hy32.out)
        refine world_gen (fun X => RecH w X D ((recM T d k).set u y)) H8.out (fun X HX => ?_)
        have HX := Lib.hid HX
        clear H8 H1 HQ X2 X1 a1
        go_upto_region 10 with (go_at_call 31; (with_reducible refine (X3.out _).mono ?_); rintro e w2 ⟨⟨vv, rfl⟩, hb3⟩; obtain ⟨w3, s3, hr3, hb3', hz3⟩ := made_write w2 Z zZz.out oZz.out; have H9 := Lib.hid ((HX.out.next hb3).next hb3'); have l9 := hr3.read zZz.out; clear hr3 hb3 hb3' hz3)
        clear s3 HX X3
        have HQ2 : Hid (RecH w (w3.setCells (w.heap.size + 2) (v * 32) Z.toList) D (recM T d (k + 1))) := Lib.hid (by rw [← NM.out, hZz.out]; exact H9.out.put v v2.out (by rw [List.length_set]; exact recM_length _ _ _) z hz32.out)
        go_wp2_with (refine wpList_store_mid rfl 24 _ _ rfl (w.heap.size + 2) (v * 32) Z rfl rfl (by rw [zZz.out]; exact H9.out.room v v2.out) hz6 oZz.out ?_)
        go_roundw
        case rel => exact ⟨k + 1, by go_num, by omega, HQ2⟩
        case measure => simp [intOf]; omega
      · have hk9 : k = 256 := by omega
        subst hk9
        have HE : Hid (RecH w wr D (recL T d)) := Lib.hid (by rw [← recM_done]; exact HQ.out)
        clear HQ hlt
        go_wp2_with (go_at_call 19; (with_reducible refine (KY.out _ _ HE.out.list).mono ?_); rintro e w1 ⟨rfl, hb⟩; have H1 := Lib.hid (HE.out.next hb); clear hb HE; have s6 := H1.out.out.write zZ.out zC.out oC.out)
        refine bodyPost_ret (results_row2 rfl _ _ (w.heap.size + 1) 24 _ (0, 0) _ rfl (H1.out.out.whole C) Tryd.underlying24 rfl (sizeH _ zC.out) _ rfl) rfl ⟨rfl, below_setRow H1.out.below (by omega)⟩
  · have d1 : ((s.size : Int) != 16384) = true := by simp; omega
    rw [recF_no hs6]
    show Calls _ _ _ _ fun e w' => e = .returned (.tuple #[.agg (nums .u8 (List.replicate 32 0)), .int .i64 10]) ∧ Below w.heap.size w w'
    clear hd hs6
    go_enter Tryd.func14, Tryd.ntmps14
    go_upto_region 1 with fail
    refine world_gen (fun X => RecX w X D) H0.out (fun X HX => ?_)
    have HX := Lib.hid HX
    go_wp2_with (refine wpList_store_row rfl 24 _ _ rfl (w.heap.size + 1) (nums .u8 (List.replicate 32 0)) rfl rfl 24 _ HX.out.2.2.1 hZ (by rw [zZ.out]) oZ.out ?_)
    refine bodyPost_ret (results_row2 rfl _ _ (w.heap.size + 1) 24 _ (0, 0) _ rfl (HX.out.2.2.1.whole _) Tryd.underlying24 rfl hZ _ rfl) rfl ⟨rfl, below_setRow HX.out.2.2.2 (by omega)⟩
end Go.Proofs.YtllabnhgiojmmaaDoor
namespace Go.Proofs.YtllabnhgiojmmaaDoor
open Go.RowKit Go.Great
set_option linter.unusedVariables false
set_option maxRecDepth 100000

/-- What the statement holds: its numbers, its digests. -/
structure SgH (w : World) (N DD : Array Value) (W : World) : Prop where
  num : Row W w.heap.size 22 N
  dig : Row W (w.heap.size + 1) 25 DD
  tab : Tab W
  below : Below w.heap.size w W
theorem SgH.next {w W W1 : World} {N DD : Array Value} (h : SgH w N DD W) (hb : Below W.heap.size W W1) : SgH w N DD W1 := ⟨h.num.next hb, h.dig.next hb, h.tab.next hb, below_new h.below hb⟩
theorem SgH.drew {w W : World} {N DD : Array Value} (h : SgH w N DD W) : SgH w N DD W.drew := h.next (Below.refl _ _).drew
theorem read_two {W : World} {g : Nat} {t : TypeId} {a b : List Int} (h : Row W g t (nums .u8 (a ++ b))) (ha : a.length = 32) (hb : b.length = 32) :
    (readAt (.pointer (some ⟨g, 0, none⟩))).run Tryd.prog W = .ok (.agg (nums .u8 a)) W ∧ (readAt (.pointer (some ⟨g, 32, none⟩))).run Tryd.prog W = .ok (.agg (nums .u8 b)) W := by
  constructor
  · refine read_flat W ⟨g, 0, none⟩ a ha (fun j hj => ?_)
    rw [add_flat, h.num (by rw [List.length_append]; omega), List.getD_eq_getElem?_getD, List.getElem?_append_left (by omega), ← List.getD_eq_getElem?_getD]
  · have := read_flat W ((⟨g, 0, none⟩ : Addr).add 32) b hb (fun j hj => by
      rw [add_of_add, add_flat, h.num (by rw [List.length_append]; omega), List.getD_eq_getElem?_getD, List.getElem?_append_right (by omega), ha, Nat.add_sub_cancel_left, ← List.getD_eq_getElem?_getD])
    rwa [add_flat] at this
theorem and_255 (x : Int) : bits .and .i64 x 255 = x % 256 := by
  have oa : (BitVec.ofInt 64 x).toNat = (x % 18446744073709551616).toNat := by rw [BitVec.toNat_ofInt]; rfl
  have ob : (BitVec.ofInt 64 (255 : Int)).toNat = 255 := by decide
  show IntKind.i64.wrap ((BitVec.ofInt 64 x &&& BitVec.ofInt 64 255).toNat : Int) = _
  rw [BitVec.toNat_and, oa, ob, show (255 : Nat) = 2 ^ 8 - 1 by decide, Nat.and_two_pow_sub_one_eq_mod, IntKind.wrap_i64]
  omega
theorem and_bit (x : Int) : bits .and .i64 x 1 = x % 2 := by
  have oa : (BitVec.ofInt 64 x).toNat = (x % 18446744073709551616).toNat := by rw [BitVec.toNat_ofInt]; rfl
  have ob : (BitVec.ofInt 64 (1 : Int)).toNat = 1 := by decide
  show IntKind.i64.wrap ((BitVec.ofInt 64 x &&& BitVec.ofInt 64 1).toNat : Int) = _
  rw [BitVec.toNat_and, oa, ob, show (1 : Nat) = 2 ^ 1 - 1 by decide, Nat.and_two_pow_sub_one_eq_mod, IntKind.wrap_i64]
  omega
attribute [local go_sem ↓ high] read_at write_at eq_at neq_at
set_option maxHeartbeats 8000000 in
theorem lsignlaw_any (SEC : SecretSays) (SIG : SignSays) (REC : RecoverSays) (seed : ByteArray) (hs : seed.size ≤ maxLen) (n0 n1 n2 : Int) (hn : num64 n0 ∧ num64 n1 ∧ num64 n2) (d0 d1 : List Int) (hd0 : d0.length = 32 ∧ bytes d0) (hd1 : d1.length = 32 ∧ bytes d1) (w : World) (hT : Tab w) :
    Calls Tryd.prog 3 #[.string seed, .agg (nums .i64 [n0, n1, n2]), .agg (nums .u8 (d0 ++ d1))] w fun e w' => e = .returned (.bool true) ∧ Below w.heap.size w w' := by
  have KED : Hid (∀ W, Tab W → Calls Tryd.prog 8 #[] W fun e w' => e = .returned (.bool true) ∧ Below W.heap.size W w') := Lib.hid fun W h => keyed_any SEC SIG REC W h
  obtain ⟨N, hN⟩ : ∃ N, N = nums .i64 [n0, n1, n2] := ⟨_, rfl⟩
  obtain ⟨DD, hDD⟩ : ∃ D, D = nums .u8 (d0 ++ d1) := ⟨_, rfl⟩
  obtain ⟨D0, hD0⟩ : ∃ D, Hid (D = nums .u8 d0) := ⟨_, Lib.hid rfl⟩
  obtain ⟨D1, hD1⟩ : ∃ D, Hid (D = nums .u8 d1) := ⟨_, Lib.hid rfl⟩
  have HT := Lib.hid hT
  rw [← hN, ← hDD]
  have H0 : Hid (SgH w N DD ((w.alloc (.cells N 22)).alloc (.cells DD 25))) := Lib.hid ⟨(Row.made _ _ _).alloc _, Row.made2 _ _ _ _, hT.next (((Below.refl _ _).alloc (Nat.le_refl _) _).alloc (by simp) _), ((Below.refl _ _).alloc (Nat.le_refl _) _).alloc (by simp) _⟩
  have zN : N.size = 3 := by rw [hN]; rfl
  have zDD : DD.size = 64 := by rw [hDD, nums_size, List.length_append]; omega
  have CL : Hid (∀ W, Row W w.heap.size 22 N → W.cell? ⟨w.heap.size, 0, none⟩ = some (.int .i64 n0) ∧ W.cell? ⟨w.heap.size, 1, none⟩ = some (.int .i64 n1) ∧ W.cell? ⟨w.heap.size, 2, none⟩ = some (.int .i64 n2)) := Lib.hid fun W h => by
    subst hN; exact ⟨h.cell 0, h.cell 1, h.cell 2⟩
  have RD : Hid (∀ W, Row W (w.heap.size + 1) 25 DD → (readAt (.pointer (some ⟨w.heap.size + 1, 0, none⟩))).run Tryd.prog W = .ok (.agg D0) W ∧ (readAt (.pointer (some ⟨w.heap.size + 1, 32, none⟩))).run Tryd.prog W = .ok (.agg D1) W) := Lib.hid fun W h => by
    subst hDD; rw [hD0.out, hD1.out]; exact read_two h hd0.1 hd1.1
  clear hN hDD
  by_cases h3 : 300 < seed.size
  · have e1 : decide (300 < (seed.size : Int)) = true := decide_eq_true (by omega)
    have e2 : (300 : Int) < (seed.size : Int) := by omega
    clear hs hT hn hd0 hd1
    go_enter Tryd.func3, Tryd.ntmps3
    go_upto_region 1 with fail
    refine world_gen (fun X => SgH w N DD X) H0.out (fun X HX => ?_)
    have HX := Lib.hid HX
    go_wp2_with (go_at_call 8; (with_reducible refine (KED.out _ HX.out.tab).mono ?_); rintro e w1 ⟨rfl, hb⟩; have HX := Lib.hid (HX.out.next hb); clear hb)
    go_ret
    exact ⟨rfl, HX.out.below⟩
  have e1 : decide (300 < (seed.size : Int)) = false := decide_eq_false (by omega)
  have e2 : ¬ (300 : Int) < (seed.size : Int) := by omega
  obtain ⟨E, hE⟩ : ∃ E, Hid (E = sigF seed n0 d0) := ⟨_, Lib.hid rfl⟩
  have hEz : E.size ≤ maxLen := by
    rw [hE.out]; unfold sigF
    split
    · decide
    · rw [strOfNums_size, sigL_length]; decide
  have PS : Hid (∀ W, Tab W → Calls Tryd.prog 9 #[.string seed, .int .i64 n0, .agg D0] W fun e w' => e = .returned (.string E) ∧ Below W.heap.size W w') := Lib.hid fun W h => by
    rw [hE.out, hD0.out]; exact SIG seed n0 d0 W h (by omega) hn.1 hd0
  have RS : Hid (∀ W, Calls Tryd.prog 10 #[.string seed, .int .i64 n0, .agg D0] W fun e w' => e = .returned (.string E) ∧ Below W.heap.size W w') := Lib.hid fun W => by
    rw [hE.out, hD0.out]; exact refSign_any seed (by omega) n0 hn.1 d0 hd0 W
  obtain ⟨X1, hX1⟩ : ∃ X, Hid (X = nums .u8 (secF seed n0 n1 n2)) := ⟨_, Lib.hid rfl⟩
  obtain ⟨X2, hX2⟩ : ∃ X, Hid (X = nums .u8 (secF seed n0 (n1 % 256) (n2 % 2))) := ⟨_, Lib.hid rfl⟩
  have hn1 := hn.1
  have hn2 := hn.2.1
  have hn3 := hn.2.2
  have PA : Hid (∀ W, Tab W → Calls Tryd.prog 11 #[.string seed, .int .i64 n0, .int .i64 n1, .int .i64 n2] W fun e w' => e = .returned (.agg X1) ∧ Below W.heap.size W w') := Lib.hid fun W h => by
    rw [hX1.out]; exact SEC seed n0 n1 n2 W h (by omega) hn1 hn2 hn3
  have QA : Hid (∀ W, Calls Tryd.prog 12 #[.string seed, .int .i64 n0, .int .i64 n1, .int .i64 n2] W fun e w' => e = .returned (.agg X1) ∧ Below W.heap.size W w') := Lib.hid fun W => by
    rw [hX1.out]; exact refSecret_any seed (by omega) n0 n1 n2 ⟨hn1, hn2, hn3⟩ W
  have PB : Hid (∀ W, Tab W → Calls Tryd.prog 11 #[.string seed, .int .i64 n0, .int .i64 (n1 % 256), .int .i64 (n2 % 2)] W fun e w' => e = .returned (.agg X2) ∧ Below W.heap.size W w') := Lib.hid fun W h => by
    rw [hX2.out]; exact SEC seed n0 _ _ W h (by omega) hn1 (by unfold num64; omega) (by unfold num64; omega)
  have QB : Hid (∀ W, Calls Tryd.prog 12 #[.string seed, .int .i64 n0, .int .i64 (n1 % 256), .int .i64 (n2 % 2)] W fun e w' => e = .returned (.agg X2) ∧ Below W.heap.size W w') := Lib.hid fun W => by
    rw [hX2.out]; exact refSecret_any seed (by omega) n0 _ _ ⟨hn1, by omega, by omega⟩ W
  have NA : Hid (∀ W, (neqAt (.agg X1) (.agg X1)).run Tryd.prog W = .ok (.bool false) W) := Lib.hid fun W => by
    rw [hX1.out, neqAt_hash _ _ (secF_is _ _ _ _).1 (secF_is _ _ _ _).1 (secF_is _ _ _ _).2 (secF_is _ _ _ _).2 W, decide_eq_true rfl]; rfl
  have NB : Hid (∀ W, (neqAt (.agg X2) (.agg X2)).run Tryd.prog W = .ok (.bool false) W) := Lib.hid fun W => by
    rw [hX2.out, neqAt_hash _ _ (secF_is _ _ _ _).1 (secF_is _ _ _ _).1 (secF_is _ _ _ _).2 (secF_is _ _ _ _).2 W, decide_eq_true rfl]; rfl
  have RC : Hid (∀ (d : List Int) (W : World), d.length = 32 ∧ bytes d → Tab W → Calls Tryd.prog 13 #[.string E, .agg (nums .u8 d)] W fun e w' => e = .returned (.tuple #[.agg (nums .u8 (recF E d).1), .int .i64 (recF E d).2]) ∧ Below W.heap.size W w') := Lib.hid fun d W h hW => REC E d W hW hEz h
  have RR : Hid (∀ (d : List Int) (W : World), d.length = 32 ∧ bytes d → Calls Tryd.prog 14 #[.string E, .agg (nums .u8 d)] W fun e w' => e = .returned (.tuple #[.agg (nums .u8 (recF E d).1), .int .i64 (recF E d).2]) ∧ Below W.heap.size W w') := Lib.hid fun d W h => refRecover_any E hEz d h W
  have HD := Lib.hid (And.intro hd0 hd1)
  have ha1 := and_255 n1
  have ha2 := and_bit n2
  clear hs hT hn hd0 hd1 h3 hE hEz hX1 hX2 hn1 hn2 hn3
  go_enter Tryd.func3, Tryd.ntmps3
  go_upto_region 1 with fail
  refine world_gen (fun X => SgH w N DD X) H0.out (fun X HX => ?_)
  have HX := Lib.hid HX
  clear H0
  obtain ⟨c0, c1, c2⟩ := CL.out _ HX.out.num
  obtain ⟨l0, l1⟩ := RD.out _ HX.out.dig
  go_upto_region 4 with (go_at_call 9; (with_reducible refine (PS.out _ HX.out.tab).mono ?_); rintro e w1 ⟨rfl, hb⟩; have H1 := Lib.hid (HX.out.next hb); clear hb)
  clear c0 c1 c2 l0 l1 HX
  refine wp_region_fk (SgH w N DD) (.get 0 (.get 1 (.get 2 (.get 3 (.get 4 (.get 5 (.call 6 (.get 7 (.get 8 (.get 9 (.get 10 (.get 11 (.get 12 (.get 13 (.get 14 (.get 15 (.get 17 (.get 18 (.get 19 (.get 20 (.get 21 (.get 22 (.get 23 (.call 16 (.call 24 (.get 25 (.get 26 (.get 27 (.get 28 (.get 29 (.get 30 (.get 31 (.get 32 (.get 33 (.get 34 (.get 35 (.get 36 (.get 38 (.get 39 (.get 40 (.get 41 (.get 42 (.get 43 (.get 44 (.get 45 (.get 46 (.call 37 (.call 47 (.get 48 (.get 49 .done)))))))))))))))))))))))))))))))))))))))))))))))))) (by kernel_rfl) rfl (by kernel_rfl) (by kernel_rfl) (by intro c a d v w h; cases d <;> exact h) H1.out.drew (fun Q' hQ => ?_)
  have HS := Lib.hid H1.out.drew
  have HQ := Lib.hid hQ
  clear hQ
  refine wpFk_get rfl (by rfl) (fun K hK => ?_)
  refine ⟨?_, fun w' hS' => ?_, ?_⟩
  rotate_left
  · go_simp
    try (with_reducible rfl)
  try go_simp
  refine hK _ ?_
  clear hK K
  refine wpFk_get rfl (by rfl) (fun K hK => ?_)
  refine ⟨?_, fun w' hS' => ?_, ?_⟩
  rotate_left
  · go_simp
    try (with_reducible rfl)
  try go_simp
  refine hK _ ?_
  clear hK K
  refine wpFk_get rfl (by rfl) (fun K hK => ?_)
  refine ⟨?_, fun w' hS' => ?_, ?_⟩
  rotate_left
  · go_simp
    try (with_reducible rfl)
  try go_simp
  refine hK _ ?_
  clear hK K
  refine wpFk_get rfl (by rfl) (fun K hK => ?_)
  refine ⟨?_, fun w' hS' => ?_, ?_⟩
  rotate_left
  · have ⟨c0, c1, c2⟩ := CL.out _ hS'.num
    go_simp
    try (with_reducible rfl)
  try go_simp
  refine hK _ ?_
  clear hK K
  refine wpFk_get rfl (by rfl) (fun K hK => ?_)
  refine ⟨?_, fun w' hS' => ?_, ?_⟩
  rotate_left
  · go_simp
    try (with_reducible rfl)
  try go_simp
  refine hK _ ?_
  clear hK K
  refine wpFk_get rfl (by rfl) (fun K hK => ?_)
  refine ⟨_, fun w' hS' => get_load rfl rfl (RD.out _ hS'.dig).1, ?_⟩
  try go_simp
  refine hK _ ?_
  clear hK K
  refine wpFk_call rfl (by rfl) (fun K hK => ?_)
  go_simp
  go_at_call 10
  (with_reducible refine (RS.out _).mono ?_)
  rintro e w2x ⟨rfl, hb⟩
  replace HS := Lib.hid (HS.out.next hb)
  clear hb
  refine hK _ _ HS.out ?_
  clear hK K
  refine wpFk_get rfl (by rfl) (fun K hK => ?_)
  refine ⟨?_, fun w' hS' => ?_, ?_⟩
  rotate_left
  · go_simp
    try (with_reducible rfl)
  try go_simp
  refine hK _ ?_
  clear hK K
  refine wpFk_get rfl (by rfl) (fun K hK => ?_)
  refine ⟨?_, fun w' hS' => ?_, ?_⟩
  rotate_left
  · go_simp
    try (with_reducible rfl)
  try go_simp
  refine hK _ ?_
  clear hK K
  refine wpFk_get rfl (by rfl) (fun K hK => ?_)
  refine ⟨?_, fun w' hS' => ?_, ?_⟩
  rotate_left
  · go_simp
    try (with_reducible rfl)
  try go_simp
  refine hK _ ?_
  clear hK K
  refine wpFk_get rfl (by rfl) (fun K hK => ?_)
  refine ⟨?_, fun w' hS' => ?_, ?_⟩
  rotate_left
  · go_simp
    try (with_reducible rfl)
  try go_simp
  refine hK _ ?_
  clear hK K
  refine wpFk_get rfl (by rfl) (fun K hK => ?_)
  refine ⟨?_, fun w' hS' => ?_, ?_⟩
  rotate_left
  · have ⟨c0, c1, c2⟩ := CL.out _ hS'.num
    go_simp
    try (with_reducible rfl)
  try go_simp
  refine hK _ ?_
  clear hK K
  refine wpFk_get rfl (by rfl) (fun K hK => ?_)
  refine ⟨?_, fun w' hS' => ?_, ?_⟩
  rotate_left
  · go_simp
    try (with_reducible rfl)
  try go_simp
  refine hK _ ?_
  clear hK K
  refine wpFk_get rfl (by rfl) (fun K hK => ?_)
  refine ⟨?_, fun w' hS' => ?_, ?_⟩
  rotate_left
  · have ⟨c0, c1, c2⟩ := CL.out _ hS'.num
    go_simp
    try (with_reducible rfl)
  try go_simp
  refine hK _ ?_
  clear hK K
  refine wpFk_get rfl (by rfl) (fun K hK => ?_)
  refine ⟨?_, fun w' hS' => ?_, ?_⟩
  rotate_left
  · go_simp
    try (with_reducible rfl)
  try go_simp
  refine hK _ ?_
  clear hK K
  refine wpFk_get rfl (by rfl) (fun K hK => ?_)
  refine ⟨?_, fun w' hS' => ?_, ?_⟩
  rotate_left
  · have ⟨c0, c1, c2⟩ := CL.out _ hS'.num
    go_simp
    try (with_reducible rfl)
  try go_simp
  refine hK _ ?_
  clear hK K
  refine wpFk_get rfl (by rfl) (fun K hK => ?_)
  refine ⟨?_, fun w' hS' => ?_, ?_⟩
  rotate_left
  · go_simp
    try (with_reducible rfl)
  try go_simp
  refine hK _ ?_
  clear hK K
  refine wpFk_get rfl (by rfl) (fun K hK => ?_)
  refine ⟨?_, fun w' hS' => ?_, ?_⟩
  rotate_left
  · go_simp
    try (with_reducible rfl)
  try go_simp
  refine hK _ ?_
  clear hK K
  refine wpFk_get rfl (by rfl) (fun K hK => ?_)
  refine ⟨?_, fun w' hS' => ?_, ?_⟩
  rotate_left
  · have ⟨c0, c1, c2⟩ := CL.out _ hS'.num
    go_simp
    try (with_reducible rfl)
  try go_simp
  refine hK _ ?_
  clear hK K
  refine wpFk_get rfl (by rfl) (fun K hK => ?_)
  refine ⟨?_, fun w' hS' => ?_, ?_⟩
  rotate_left
  · go_simp
    try (with_reducible rfl)
  try go_simp
  refine hK _ ?_
  clear hK K
  refine wpFk_get rfl (by rfl) (fun K hK => ?_)
  refine ⟨?_, fun w' hS' => ?_, ?_⟩
  rotate_left
  · have ⟨c0, c1, c2⟩ := CL.out _ hS'.num
    go_simp
    try (with_reducible rfl)
  try go_simp
  refine hK _ ?_
  clear hK K
  refine wpFk_get rfl (by rfl) (fun K hK => ?_)
  refine ⟨?_, fun w' hS' => ?_, ?_⟩
  rotate_left
  · go_simp
    try (with_reducible rfl)
  try go_simp
  refine hK _ ?_
  clear hK K
  refine wpFk_get rfl (by rfl) (fun K hK => ?_)
  refine ⟨?_, fun w' hS' => ?_, ?_⟩
  rotate_left
  · have ⟨c0, c1, c2⟩ := CL.out _ hS'.num
    go_simp
    try (with_reducible rfl)
  try go_simp
  refine hK _ ?_
  clear hK K
  refine wpFk_call rfl (by rfl) (fun K hK => ?_)
  go_simp
  go_at_call 11
  (with_reducible refine (PA.out _ HS.out.tab).mono ?_)
  rintro e w2x ⟨rfl, hb⟩
  replace HS := Lib.hid (HS.out.next hb)
  clear hb
  refine hK _ _ HS.out ?_
  clear hK K
  refine wpFk_call rfl (by rfl) (fun K hK => ?_)
  go_simp
  go_at_call 12
  (with_reducible refine (QA.out _).mono ?_)
  rintro e w2x ⟨rfl, hb⟩
  replace HS := Lib.hid (HS.out.next hb)
  clear hb
  refine hK _ _ HS.out ?_
  clear hK K
  refine wpFk_get rfl (by rfl) (fun K hK => ?_)
  refine ⟨_, fun w' hS' => get_neqH rfl rfl rfl (NA.out _), ?_⟩
  try go_simp
  refine hK _ ?_
  clear hK K
  refine wpFk_get rfl (by rfl) (fun K hK => ?_)
  refine ⟨?_, fun w' hS' => ?_, ?_⟩
  rotate_left
  · go_simp
    try (with_reducible rfl)
  try go_simp
  refine hK _ ?_
  clear hK K
  refine wpFk_get rfl (by rfl) (fun K hK => ?_)
  refine ⟨?_, fun w' hS' => ?_, ?_⟩
  rotate_left
  · go_simp
    try (with_reducible rfl)
  try go_simp
  refine hK _ ?_
  clear hK K
  refine wpFk_get rfl (by rfl) (fun K hK => ?_)
  refine ⟨?_, fun w' hS' => ?_, ?_⟩
  rotate_left
  · go_simp
    try (with_reducible rfl)
  try go_simp
  refine hK _ ?_
  clear hK K
  refine wpFk_get rfl (by rfl) (fun K hK => ?_)
  refine ⟨?_, fun w' hS' => ?_, ?_⟩
  rotate_left
  · go_simp
    try (with_reducible rfl)
  try go_simp
  refine hK _ ?_
  clear hK K
  refine wpFk_get rfl (by rfl) (fun K hK => ?_)
  refine ⟨?_, fun w' hS' => ?_, ?_⟩
  rotate_left
  · have ⟨c0, c1, c2⟩ := CL.out _ hS'.num
    go_simp
    try (with_reducible rfl)
  try go_simp
  refine hK _ ?_
  clear hK K
  refine wpFk_get rfl (by rfl) (fun K hK => ?_)
  refine ⟨?_, fun w' hS' => ?_, ?_⟩
  rotate_left
  · go_simp
    try (with_reducible rfl)
  try go_simp
  refine hK _ ?_
  clear hK K
  refine wpFk_get rfl (by rfl) (fun K hK => ?_)
  refine ⟨?_, fun w' hS' => ?_, ?_⟩
  rotate_left
  · have ⟨c0, c1, c2⟩ := CL.out _ hS'.num
    go_simp
    try (with_reducible rfl)
  try go_simp
  refine hK _ ?_
  clear hK K
  refine wpFk_get rfl (by rfl) (fun K hK => ?_)
  refine ⟨?_, fun w' hS' => ?_, ?_⟩
  rotate_left
  · go_simp
    try (with_reducible rfl)
  try go_simp
  refine hK _ ?_
  clear hK K
  refine wpFk_get rfl (by rfl) (fun K hK => ?_)
  refine ⟨?_, fun w' hS' => ?_, ?_⟩
  rotate_left
  · go_simp
    try (with_reducible rfl)
  try go_simp
  refine hK _ ?_
  clear hK K
  refine wpFk_get rfl (by rfl) (fun K hK => ?_)
  refine ⟨?_, fun w' hS' => ?_, ?_⟩
  rotate_left
  · have ⟨c0, c1, c2⟩ := CL.out _ hS'.num
    go_simp
    try (with_reducible rfl)
  try go_simp
  refine hK _ ?_
  clear hK K
  refine wpFk_get rfl (by rfl) (fun K hK => ?_)
  refine ⟨?_, fun w' hS' => ?_, ?_⟩
  rotate_left
  · go_simp
    try (with_reducible rfl)
  try go_simp
  refine hK _ ?_
  clear hK K
  refine wpFk_get rfl (by rfl) (fun K hK => ?_)
  refine ⟨?_, fun w' hS' => ?_, ?_⟩
  rotate_left
  · go_simp
    try (with_reducible rfl)
  try go_simp
  refine hK _ ?_
  clear hK K
  refine wpFk_get rfl (by rfl) (fun K hK => ?_)
  refine ⟨?_, fun w' hS' => ?_, ?_⟩
  rotate_left
  · go_simp
    try (with_reducible rfl)
  try go_simp
  refine hK _ ?_
  clear hK K
  refine wpFk_get rfl (by rfl) (fun K hK => ?_)
  refine ⟨?_, fun w' hS' => ?_, ?_⟩
  rotate_left
  · have ⟨c0, c1, c2⟩ := CL.out _ hS'.num
    go_simp
    try (with_reducible rfl)
  try go_simp
  refine hK _ ?_
  clear hK K
  refine wpFk_get rfl (by rfl) (fun K hK => ?_)
  refine ⟨?_, fun w' hS' => ?_, ?_⟩
  rotate_left
  · go_simp
    try (with_reducible rfl)
  try go_simp
  refine hK _ ?_
  clear hK K
  refine wpFk_get rfl (by rfl) (fun K hK => ?_)
  refine ⟨?_, fun w' hS' => ?_, ?_⟩
  rotate_left
  · have ⟨c0, c1, c2⟩ := CL.out _ hS'.num
    go_simp
    try (with_reducible rfl)
  try go_simp
  refine hK _ ?_
  clear hK K
  refine wpFk_get rfl (by rfl) (fun K hK => ?_)
  refine ⟨?_, fun w' hS' => ?_, ?_⟩
  rotate_left
  · go_simp
    try (with_reducible rfl)
  try go_simp
  refine hK _ ?_
  clear hK K
  refine wpFk_get rfl (by rfl) (fun K hK => ?_)
  refine ⟨?_, fun w' hS' => ?_, ?_⟩
  rotate_left
  · go_simp
    try (with_reducible rfl)
  try go_simp
  refine hK _ ?_
  clear hK K
  refine wpFk_get rfl (by rfl) (fun K hK => ?_)
  refine ⟨?_, fun w' hS' => ?_, ?_⟩
  rotate_left
  · have ⟨c0, c1, c2⟩ := CL.out _ hS'.num
    go_simp
    try (with_reducible rfl)
  try go_simp
  refine hK _ ?_
  clear hK K
  refine wpFk_get rfl (by rfl) (fun K hK => ?_)
  refine ⟨?_, fun w' hS' => ?_, ?_⟩
  rotate_left
  · go_simp
    try (with_reducible rfl)
  try go_simp
  refine hK _ ?_
  clear hK K
  refine wpFk_call rfl (by rfl) (fun K hK => ?_)
  go_simp
  go_at_call 11
  (with_reducible refine (PB.out _ HS.out.tab).mono ?_)
  rintro e w2x ⟨rfl, hb⟩
  replace HS := Lib.hid (HS.out.next hb)
  clear hb
  refine hK _ _ HS.out ?_
  clear hK K
  refine wpFk_call rfl (by rfl) (fun K hK => ?_)
  go_simp
  go_at_call 12
  (with_reducible refine (QB.out _).mono ?_)
  rintro e w2x ⟨rfl, hb⟩
  replace HS := Lib.hid (HS.out.next hb)
  clear hb
  refine hK _ _ HS.out ?_
  clear hK K
  refine wpFk_get rfl (by rfl) (fun K hK => ?_)
  refine ⟨_, fun w' hS' => get_neqH rfl rfl rfl (NB.out _), ?_⟩
  try go_simp
  refine hK _ ?_
  clear hK K
  refine wpFk_get rfl (by rfl) (fun K hK => ?_)
  refine ⟨?_, fun w' hS' => ?_, ?_⟩
  rotate_left
  · go_simp
    try (with_reducible rfl)
  try go_simp
  refine hK _ ?_
  clear hK K
  refine wpFk_done ?_
  refine HQ.out _ _ ?_
  go_wp2
  go_loopw [8] (fun s8 wr => ∃ k : Nat, s8 = .int .i64 ((k : Nat) : Int) ∧ k ≤ 2 ∧ Hid (SgH w N DD wr)) (fun s8 _ => (2 - intOf s8).toNat)
  case atStart => exact ⟨0, rfl, by omega, HS⟩
  case round =>
    clear HS
    obtain ⟨k, rfl, hk, HX⟩ := hrel
    by_cases hlt : k < 2
    · have hwk : IntKind.i64.wrap (k : Int) = (k : Int) := by rw [IntKind.wrap_i64]; omega
      obtain ⟨d, D, hd, hD, hl⟩ : ∃ d D, Hid (d.length = 32 ∧ bytes d) ∧ Hid (D = nums .u8 d) ∧ Hid (∀ W, Row W (w.heap.size + 1) 25 DD → (readAt (.pointer (some ⟨w.heap.size + 1, k * 32, none⟩))).run Tryd.prog W = .ok (.agg D) W) := by
        rcases (show k = 0 ∨ k = 1 by omega) with rfl | rfl
        · exact ⟨d0, D0, Lib.hid HD.out.1, hD0, Lib.hid fun W h => (RD.out W h).1⟩
        · exact ⟨d1, D1, Lib.hid HD.out.2, hD1, Lib.hid fun W h => (RD.out W h).2⟩
      obtain ⟨C, hC⟩ : ∃ C, Hid (C = nums .u8 (recF E d).1) := ⟨_, Lib.hid rfl⟩
      obtain ⟨r, hr⟩ : ∃ r, Hid (r = (recF E d).2) := ⟨_, Lib.hid rfl⟩
      have zC : Hid (C.size = 32) := Lib.hid (by rw [hC.out, nums_size]; exact (recF_is _ _).1)
      have oC : Hid (C.all (·.oneCell') = true) := Lib.hid (by rw [hC.out]; exact nums_one _ _)
      have R1 : Hid (∀ W, Tab W → Calls Tryd.prog 13 #[.string E, .agg D] W fun e w' => e = .returned (.tuple #[.agg C, .int .i64 r]) ∧ Below W.heap.size W w') := Lib.hid fun W h => by rw [hC.out, hr.out, hD.out]; exact RC.out d W hd.out h
      have R2 : Hid (∀ W, Calls Tryd.prog 14 #[.string E, .agg D] W fun e w' => e = .returned (.tuple #[.agg C, .int .i64 r]) ∧ Below W.heap.size W w') := Lib.hid fun W => by rw [hC.out, hr.out, hD.out]; exact RR.out d W hd.out
      have e1 : ∀ W, (neqAt (.agg C) (.agg C)).run Tryd.prog W = .ok (.bool false) W := fun W => by
        rw [hC.out, neqAt_hash _ _ (recF_is _ _).1 (recF_is _ _).1 (recF_is _ _).2 (recF_is _ _).2 W, decide_eq_true rfl]; rfl
      have lk := hl.out _ HX.out.dig
      go_upto_region 10 with (go_at_call 13; (with_reducible refine (R1.out _ HX.out.tab).mono ?_); rintro e w1 ⟨rfl, hb⟩; obtain ⟨w2, s2, hr2, hb2, hz2⟩ := made_write w1 C zC.out oC.out; have H2 := Lib.hid ((HX.out.next hb).next hb2); have HR2 := Lib.hid hr2; clear hr2 hb2 hz2 hb)
      clear s2 lk HX
      have lk := hl.out _ H2.out.dig
      go_upto_region 11 with (go_at_call 14; (with_reducible refine (R2.out _).mono ?_); rintro e w3 ⟨rfl, hb⟩; obtain ⟨w4, s4, hr4, hb4, hz4⟩ := made_write w3 C zC.out oC.out; have H4 := Lib.hid ((H2.out.next hb).next hb4); have HR4 := Lib.hid (And.intro ((HR2.out.next hb).next hb4) hr4); clear hr4 hb4 hz4 hb)
      clear s4 lk H2 HR2
      have l9 := HR4.out.1.read zC.out
      have l11 := HR4.out.2.read zC.out
      go_wp2
      go_roundw
      case rel => exact ⟨k + 1, by go_num, by omega, H4⟩
      case measure => simp [intOf]; omega
    · go_wp2_with (go_at_call 8; (with_reducible refine (KED.out _ HX.out.tab).mono ?_); rintro e w9 ⟨rfl, hb⟩; have HZ := Lib.hid (HX.out.next hb); clear hb)
      go_ret
      exact ⟨rfl, HZ.out.below⟩
end Go.Proofs.YtllabnhgiojmmaaDoor
namespace Go.Proofs.YtllabnhgiojmmaaDoor
open Go.RowKit Go.Great
set_option linter.unusedVariables false
set_option maxRecDepth 100000

/-- What the statement holds: its numbers, its digests, what stands for the key. -/
structure BcH (w : World) (N DD K : Array Value) (g8 : Nat) (W : World) : Prop where
  num : Row W w.heap.size 40 N
  dig : Row W (w.heap.size + 1) 25 DD
  key : Row W g8 24 K
  tab : Tab W
  below : Below w.heap.size w W
  lo : w.heap.size + 1 < g8
theorem BcH.next {w W W1 : World} {N DD K : Array Value} {g8 : Nat} (h : BcH w N DD K g8 W) (hb : Below W.heap.size W W1) : BcH w N DD K g8 W1 := ⟨h.num.next hb, h.dig.next hb, h.key.next hb, h.tab.next hb, below_new h.below hb, h.lo⟩
theorem BcH.drew {w W : World} {N DD K : Array Value} {g8 : Nat} (h : BcH w N DD K g8 W) : BcH w N DD K g8 W.drew := h.next (Below.refl _ _).drew
/-- And ahead of that. -/
structure BaH (w : World) (N DD : Array Value) (W : World) : Prop where
  num : Row W w.heap.size 40 N
  dig : Row W (w.heap.size + 1) 25 DD
  tab : Tab W
  below : Below w.heap.size w W
theorem BaH.next {w W W1 : World} {N DD : Array Value} (h : BaH w N DD W) (hb : Below W.heap.size W W1) : BaH w N DD W1 := ⟨h.num.next hb, h.dig.next hb, h.tab.next hb, below_new h.below hb⟩
/-- Hashes in blocks of their own. -/
def RowsH (ps : List (Nat × Array Value)) (W : World) : Prop := ∀ (i g : Nat) (C : Array Value), ps[i]? = some (g, C) → Row W g 24 C
theorem RowsH.nil (W : World) : RowsH [] W := fun i g C h => by simp at h
theorem RowsH.get {ps : List (Nat × Array Value)} {W : World} (h : RowsH ps W) (i : Nat) {g : Nat} {C : Array Value} (hi : ps[i]? = some (g, C)) : Row W g 24 C := h i g C hi
theorem RowsH.cons {ps : List (Nat × Array Value)} {W : World} {g : Nat} {C : Array Value} (h : RowsH ps W) (hr : Row W g 24 C) : RowsH ((g, C) :: ps) W := fun i g' C' hi => by
  cases i with
  | zero => simp at hi; obtain ⟨rfl, rfl⟩ := hi; exact hr
  | succ i => exact h i g' C' (by simpa using hi)
theorem RowsH.next {ps : List (Nat × Array Value)} {W W1 : World} (h : RowsH ps W) (hb : Below W.heap.size W W1) : RowsH ps W1 := fun i g C hi => (h i g C hi).next hb
theorem Got.drew {w : World} {B g cap : Nat} {l : List Int} {m : Nat} (h : Got w B g cap l m) : Got w.drew B g cap l m := h.same rfl
theorem Got.free {w : World} {B g cap : Nat} {l : List Int} {m : Nat} (h : Got w B g cap l m) (i : Nat) (hi : i < m) : w.frozen? ⟨g, i, none⟩ = false := by
  obtain ⟨h1, h2, h3, cur, fz, hr, hf, hc, ht⟩ := h
  obtain ⟨lo, hi'⟩ := fz
  rcases hf with hf | hf
  · simp only [Prod.mk.injEq] at hf; obtain ⟨rfl, rfl⟩ := hf; exact frozen_of_row w g i cur _ hr
  · have : ¬ lo ≤ i := by simp at hf; omega
    simp [World.frozen?, hr, this]
theorem Got.set {w : World} {B g cap : Nat} {l : List Int} {m : Nat} (h : Got w B g cap l m) (i : Nat) (x : Int) : Got (w.setCell ⟨g, i, none⟩ (.int .u8 x)) B g cap (l.set i x) m := by
  obtain ⟨h1, h2, h3, cur, fz, hr, hf, hc, ht⟩ := h
  refine ⟨by rw [List.length_set]; exact h1, h2, h3, cur.setIfInBounds i (.int .u8 x), fz, ?_, ?_, by simp [hc], ?_⟩
  · rw [setCell_eq_setRow w g i cur _ fz _ hr]; exact setRow_heap w g cur _ _ _ hr
  · simpa using hf
  · rw [Array.toList_setIfInBounds, List.take_set, ht, ← List.map_set]
/-- And behind that: other hashes, and the signature's bytes in a slice. -/
structure BfH (w : World) (N DD K : Array Value) (g8 : Nat) (ps : List (Nat × Array Value)) (g14 cap : Nat) (l : List Int) (W : World) : Prop where
  bc : BcH w N DD K g8 W
  rows : RowsH ps W
  got : Got W g14 g14 cap l 16384
section
variable {w W W1 : World} {N DD K C : Array Value} {g8 g14 cap g : Nat} {ps : List (Nat × Array Value)} {l : List Int}
theorem BfH.next (h : BfH w N DD K g8 ps g14 cap l W) (hb : Below W.heap.size W W1) : BfH w N DD K g8 ps g14 cap l W1 := ⟨h.bc.next hb, h.rows.next hb, h.got.same (hb.block _ h.got.lt)⟩
theorem BfH.drew (h : BfH w N DD K g8 ps g14 cap l W) : BfH w N DD K g8 ps g14 cap l W.drew := h.next (Below.refl _ _).drew
theorem BfH.cons (h : BfH w N DD K g8 ps g14 cap l W) (hr : Row W g 24 C) : BfH w N DD K g8 ((g, C) :: ps) g14 cap l W := ⟨h.bc, h.rows.cons hr, h.got⟩
theorem BfH.store (h : BfH w N DD K g8 ps g14 cap l W) (hT : Tab w) (h8 : g8 < g14) (hp : ∀ (i g : Nat) (C : Array Value), ps[i]? = some (g, C) → g < g14) (i : Nat) (x : Int) : BfH w N DD K g8 ps g14 cap (l.set i x) (W.setCell ⟨g14, i, none⟩ (.int .u8 x)) := by
  have hb : Below g14 W (W.setCell ⟨g14, i, none⟩ (.int .u8 x)) := (Below.refl g14 W).setCell (p := ⟨g14, i, none⟩) (Nat.le_refl _) _
  have hlo := h.bc.lo
  have hw : Below w.heap.size w (W.setCell ⟨g14, i, none⟩ (.int .u8 x)) := h.bc.below.trans (hb.mono (by omega))
  exact ⟨⟨h.bc.num.below hb (by omega), h.bc.dig.below hb (by omega), h.bc.key.below hb h8, hT.next hw, hw, hlo⟩, fun j g C hj => (h.rows j g C hj).below hb (hp j g C hj), h.got.set i x⟩
end
theorem wrap_two (x : Int) (h0 : 0 ≤ x) (h1 : x < 65536) : wrap64 x = x := by unfold wrap64; omega
attribute [local go_sem ↓ high] read_at write_at eq_at neq_at
set_option maxHeartbeats 8000000 in
theorem lbacklaw_any (SEC : SecretSays) (SIG : SignSays) (REC : RecoverSays) (PUB : PublicSays) (KEY : KeySays) (seed : ByteArray) (hs : seed.size ≤ maxLen) (n0 n1 n2 : Int) (hn : (0 ≤ n0 ∧ n0 < 65536) ∧ (0 ≤ n1 ∧ n1 < 65536) ∧ (0 ≤ n2 ∧ n2 < 65536)) (d0 d1 : List Int) (hd0 : d0.length = 32 ∧ bytes d0) (hd1 : d1.length = 32 ∧ bytes d1) (w : World) (hT : Tab w) :
    Calls Tryd.prog 6 #[.string seed, .agg (nums .u16 [n0, n1, n2]), .agg (nums .u8 (d0 ++ d1))] w fun e w' => e = .returned (.bool true) ∧ Below w.heap.size w w' := by
  have KED : Hid (∀ W, Tab W → Calls Tryd.prog 8 #[] W fun e w' => e = .returned (.bool true) ∧ Below W.heap.size W w') := Lib.hid fun W h => keyed_any SEC SIG REC W h
  obtain ⟨N, hN⟩ : ∃ N, N = nums .u16 [n0, n1, n2] := ⟨_, rfl⟩
  obtain ⟨DD, hDD⟩ : ∃ D, D = nums .u8 (d0 ++ d1) := ⟨_, rfl⟩
  obtain ⟨D0, hD0⟩ : ∃ D, Hid (D = nums .u8 d0) := ⟨_, Lib.hid rfl⟩
  obtain ⟨D1, hD1⟩ : ∃ D, Hid (D = nums .u8 d1) := ⟨_, Lib.hid rfl⟩
  have HT := Lib.hid hT
  rw [← hN, ← hDD]
  have H0 : Hid (BaH w N DD ((w.alloc (.cells N 40)).alloc (.cells DD 25))) := Lib.hid ⟨(Row.made _ _ _).alloc _, Row.made2 _ _ _ _, hT.next (((Below.refl _ _).alloc (Nat.le_refl _) _).alloc (by simp) _), ((Below.refl _ _).alloc (Nat.le_refl _) _).alloc (by simp) _⟩
  have zN : N.size = 3 := by rw [hN]; rfl
  have zDD : DD.size = 64 := by rw [hDD, nums_size, List.length_append]; omega
  have CL : Hid (∀ W, Row W w.heap.size 40 N → W.cell? ⟨w.heap.size, 0, none⟩ = some (.int .u16 n0) ∧ W.cell? ⟨w.heap.size, 1, none⟩ = some (.int .u16 n1) ∧ W.cell? ⟨w.heap.size, 2, none⟩ = some (.int .u16 n2)) := Lib.hid fun W h => by
    subst hN; exact ⟨h.cell 0, h.cell 1, h.cell 2⟩
  have RD : Hid (∀ W, Row W (w.heap.size + 1) 25 DD → (readAt (.pointer (some ⟨w.heap.size + 1, 0, none⟩))).run Tryd.prog W = .ok (.agg D0) W ∧ (readAt (.pointer (some ⟨w.heap.size + 1, 32, none⟩))).run Tryd.prog W = .ok (.agg D1) W) := Lib.hid fun W h => by
    subst hDD; rw [hD0.out, hD1.out]; exact read_two h hd0.1 hd1.1
  clear hN hDD
  by_cases h3 : 100 < seed.size
  · have e1 : decide (100 < (seed.size : Int)) = true := decide_eq_true (by omega)
    have e2 : (100 : Int) < (seed.size : Int) := by omega
    clear hs hT hn hd0 hd1
    go_enter Tryd.func6, Tryd.ntmps6
    go_upto_region 1 with fail
    refine world_gen (fun X => BaH w N DD X) H0.out (fun X HX => ?_)
    have HX := Lib.hid HX
    go_wp2_with (go_at_call 8; (with_reducible refine (KED.out _ HX.out.tab).mono ?_); rintro e w1 ⟨rfl, hb⟩; have HX := Lib.hid (HX.out.next hb); clear hb)
    go_ret
    exact ⟨rfl, HX.out.below⟩
  have e1 : decide (100 < (seed.size : Int)) = false := decide_eq_false (by omega)
  have e2 : ¬ (100 : Int) < (seed.size : Int) := by omega
  obtain ⟨I, hI⟩ : ∃ I : Nat, n0 = I := ⟨n0.toNat, by omega⟩
  subst hI
  obtain ⟨j, hj⟩ : ∃ j : Nat, j = n1.toNat % 16384 := ⟨_, rfl⟩
  have hI2 : I ≤ 2147483647 := by omega
  obtain ⟨E, hE⟩ : ∃ E, Hid (E = sigF seed I d0) := ⟨_, Lib.hid rfl⟩
  have hEz : E.size = 16384 := by rw [hE.out]; exact sigF_size seed I d0 hI2
  have hEi : (E.size : Int) = 16384 := by omega
  obtain ⟨K, hK⟩ : ∃ K, Hid (K = nums .u8 (keyF (pubN seed I 512))) := ⟨_, Lib.hid rfl⟩
  obtain ⟨ky, hky⟩ : ∃ k, Hid (k = keyF (pubN seed I 512)) := ⟨_, Lib.hid rfl⟩
  have ky32 : Hid (ky.length = 32 ∧ bytes ky) := Lib.hid (by rw [hky.out]; exact keyF_is _)
  have hK2 : Hid (K = nums .u8 ky) := Lib.hid (by rw [hK.out, hky.out])
  have zK : Hid (K.size = 32) := Lib.hid (by rw [hK2.out, nums_size]; exact ky32.out.1)
  have oK : Hid (K.all (·.oneCell') = true) := Lib.hid (by rw [hK.out]; exact nums_one _ _)
  have PP : Hid (∀ W, Tab W → Calls Tryd.prog 17 #[.string seed, .int .i64 (I : Int)] W fun e w' => ∃ A c, e = .returned (.slice A 512 c) ∧ (512 ≤ c ∧ c ≤ maxLen) ∧ HW w' A (pubN seed I 512) ∧ Below W.heap.size W w') := Lib.hid fun W hW => by
    refine (PUB seed I W hW (by omega) (by unfold num64; omega)).mono ?_
    rintro e w' ⟨A, c, h1, h2, h3, h4, h5⟩
    rw [pubF_ok hI2] at h1 h2 h4
    rw [pubN_length] at h1 h2
    exact ⟨A, c, h1, ⟨h2, h3⟩, h4, h5⟩
  have QP : Hid (∀ W, Calls Tryd.prog 15 #[.string seed, .int .i64 (I : Int)] W fun e w' => ∃ A c, e = .returned (.slice A 512 c) ∧ HW w' A (pubN seed I 512) ∧ Below W.heap.size W w') := Lib.hid fun W => by
    refine (refPublic_any seed (by omega) I (by omega) W).mono ?_
    rintro e w' ⟨A, c, h1, h2, h3, h4, h5⟩
    rw [pubF_ok hI2] at h1 h4
    rw [pubN_length] at h1
    exact ⟨A, c, h1, h4, h5⟩
  have LP : Hid (∀ W A c, Tab W → HW W A (pubN seed I 512) → (512 ≤ c ∧ c ≤ maxLen) → Calls Tryd.prog 18 #[.slice A 512 c] W fun e w' => e = .returned (.agg K) ∧ Below W.heap.size W w') := Lib.hid fun W A c hW h hc => by
    have := KEY (pubN seed I 512) A c W hW (pubN_hashes _ _ _) h (by rw [pubN_length]; exact hc.1) hc.2
    rwa [pubN_length, ← hK.out] at this
  have LQ : Hid (∀ W A c, HW W A (pubN seed I 512) → Calls Tryd.prog 19 #[.slice A 512 c] W fun e w' => e = .returned (.agg K) ∧ Below W.heap.size W w') := Lib.hid fun W A c h => by
    have := refKey_any (pubN seed I 512) (pubN_hashes _ _ _) A c W h (by rw [pubN_length]; decide)
    rwa [pubN_length, ← hK.out] at this
  have PS : Hid (∀ W, Tab W → Calls Tryd.prog 9 #[.string seed, .int .i64 (I : Int), .agg D0] W fun e w' => e = .returned (.string E) ∧ Below W.heap.size W w') := Lib.hid fun W h => by
    rw [hE.out, hD0.out]; exact SIG seed I d0 W h (by omega) (by unfold num64; omega) hd0
  have RC : Hid (∀ (t : ByteArray) (d : List Int) (W : World), t.size = 16384 → d.length = 32 ∧ bytes d → Tab W → Calls Tryd.prog 13 #[.string t, .agg (nums .u8 d)] W fun e w' => e = .returned (.tuple #[.agg (nums .u8 (recF t d).1), .int .i64 0]) ∧ Below W.heap.size W w') := Lib.hid fun t d W ht h hW => by
    have := REC t d W hW (by rw [ht]; decide) h
    have e : (recF t d).2 = 0 := by rw [recF_ok ht]
    rwa [e] at this
  have RR : Hid (∀ (t : ByteArray) (d : List Int) (W : World), t.size = 16384 → d.length = 32 ∧ bytes d → Calls Tryd.prog 14 #[.string t, .agg (nums .u8 d)] W fun e w' => e = .returned (.tuple #[.agg (nums .u8 (recF t d).1), .int .i64 0]) ∧ Below W.heap.size W w') := Lib.hid fun t d W ht h => by
    have := refRecover_any t (by rw [ht]; decide) d h W
    have e : (recF t d).2 = 0 := by rw [recF_ok ht]
    rwa [e] at this
  obtain ⟨bl, hbl⟩ : ∃ b, Hid (b = (recF E d1).1) := ⟨_, Lib.hid rfl⟩
  have bl32 : Hid (bl.length = 32 ∧ bytes bl) := Lib.hid (by rw [hbl.out]; exact recF_is _ _)
  obtain ⟨B, hB⟩ : ∃ B, Hid (B = nums .u8 bl) := ⟨_, Lib.hid rfl⟩
  have zB : Hid (B.size = 32) := Lib.hid (by rw [hB.out, nums_size]; exact bl32.out.1)
  have oB : Hid (B.all (·.oneCell') = true) := Lib.hid (by rw [hB.out]; exact nums_one _ _)
  have BK : Hid (d0 = d1 → bl = ky) := Lib.hid fun h => by
    rw [hbl.out, hky.out, ← h, hE.out, recF_sig seed I d0 hI2]
  have A1 : Hid (∀ W, Tab W → Calls Tryd.prog 13 #[.string E, .agg D0] W fun e w' => e = .returned (.tuple #[.agg K, .int .i64 0]) ∧ Below W.heap.size W w') := Lib.hid fun W hW => by
    have := RC.out E d0 W hEz hd0 hW
    have e : (recF E d0).1 = ky := by rw [hE.out, recF_sig seed I d0 hI2, hky.out]
    rwa [e, ← hK2.out, ← hD0.out] at this
  have A2 : Hid (∀ W, Tab W → Calls Tryd.prog 13 #[.string E, .agg D1] W fun e w' => e = .returned (.tuple #[.agg B, .int .i64 0]) ∧ Below W.heap.size W w') := Lib.hid fun W hW => by
    have := RC.out E d1 W hEz hd1 hW
    rwa [← hbl.out, ← hB.out, ← hD1.out] at this
  have A3 : Hid (∀ W, Calls Tryd.prog 14 #[.string E, .agg D1] W fun e w' => e = .returned (.tuple #[.agg B, .int .i64 0]) ∧ Below W.heap.size W w') := Lib.hid fun W => by
    have := RR.out E d1 W hEz hd1
    rwa [← hbl.out, ← hB.out, ← hD1.out] at this
  have HD := Lib.hid (And.intro hd0 hd1)
  have NK : Hid (∀ W, (neqAt (.agg K) (.agg K)).run Tryd.prog W = .ok (.bool false) W) := Lib.hid fun W => by
    rw [hK2.out, neqAt_hash _ _ ky32.out.1 ky32.out.1 ky32.out.2 ky32.out.2 W, decide_eq_true rfl]; rfl
  have EZ := Lib.hid hEz
  have j1 : j < 16384 := by omega
  have j2 : (j : Int) < 16384 := by omega
  have j3 : (0 : Int) ≤ (j : Int) := by omega
  have j4 : n1 % 16384 = (j : Int) := by omega
  have j5 : n1.tmod 16384 = (j : Int) := by rw [Int.tmod_eq_emod_of_nonneg (by omega)]; exact j4
  have j6 : wrap64 (j : Int) = (j : Int) := wrap_two _ j3 (by omega)
  have j7 : wrap64 (I : Int) = (I : Int) := wrap_two _ hn.1.1 hn.1.2
  have j8 : wrap64 n1 = n1 := wrap_two _ hn.2.1.1 hn.2.1.2
  have J4 := Lib.hid (And.intro j4 (And.intro j5 (And.intro j6 (And.intro j2 j3))))
  clear hs hT hd0 hd1 h3 hE hK hky hbl hEz hn hj j1 j2 j3 j4 j5 j6
  go_enter Tryd.func6, Tryd.ntmps6
  go_upto_region 1 with fail
  refine world_gen (fun X => BaH w N DD X) H0.out (fun X HX => ?_)
  have HX := Lib.hid HX
  clear H0
  obtain ⟨c0, c1, c2⟩ := CL.out _ HX.out.num
  go_upto_region 5 with (first
    | (go_at_call 17; (with_reducible refine (PP.out _ HX.out.tab).mono ?_); rintro e w1 ⟨A, c, rfl, hc, hA, hb⟩; have H1 := Lib.hid (HX.out.next hb); have HA := Lib.hid hA; have HC := Lib.hid hc; clear hA hb hc)
    | (go_at_call 18; (with_reducible refine (LP.out _ _ _ H1.out.tab HA.out HC.out).mono ?_); rintro e w2 ⟨rfl, hb⟩; obtain ⟨w3, s3, hr3, hb3, hz3⟩ := made_write w2 K zK.out oK.out; have H3 : Hid (BcH w N DD K w2.heap.size w3) := Lib.hid (by have h := (H1.out.next hb).next hb3; exact ⟨h.num, h.dig, hr3, h.tab, h.below, (H1.out.next hb).dig.lt⟩); clear hr3 hb3 hz3 hb))
  clear s3 c0 c1 c2 HX H1 HA HC
  obtain ⟨g8, hg8⟩ : ∃ g, g = w2.heap.size := ⟨_, rfl⟩
  rw [← hg8] at H3 ⊢
  clear hg8
  obtain ⟨l0, l1⟩ := RD.out _ H3.out.dig
  go_upto_region 6 with (go_at_call 9; (with_reducible refine (PS.out _ H3.out.tab).mono ?_); rintro e w4 ⟨rfl, hb⟩; have H4 := Lib.hid (H3.out.next hb); clear hb)
  clear l0 l1 H3
  refine wp_region_fk (BcH w N DD K g8) (.get 0 (.get 1 (.get 2 (.get 3 (.get 4 (.get 5 (.get 6 (.call 7 (.call 8 (.get 9 (.get 10 .done))))))))))) (by kernel_rfl) rfl (by kernel_rfl) (by kernel_rfl) (by intro c a d v w h; cases d <;> exact h) H4.out.drew (fun Q' hQ => ?_)
  have HS := Lib.hid H4.out.drew
  have HQ := Lib.hid hQ
  clear hQ H4
  refine wpFk_get rfl (by rfl) (fun K hK => ?_)
  refine ⟨?_, fun w' hS' => ?_, ?_⟩
  rotate_left
  · go_simp
    try (with_reducible rfl)
  try go_simp
  refine hK _ ?_
  clear hK K
  refine wpFk_get rfl (by rfl) (fun K hK => ?_)
  refine ⟨?_, fun w' hS' => ?_, ?_⟩
  rotate_left
  · go_simp
    try (with_reducible rfl)
  try go_simp
  refine hK _ ?_
  clear hK K
  refine wpFk_get rfl (by rfl) (fun K hK => ?_)
  refine ⟨?_, fun w' hS' => ?_, ?_⟩
  rotate_left
  · go_simp
    try (with_reducible rfl)
  try go_simp
  refine hK _ ?_
  clear hK K
  refine wpFk_get rfl (by rfl) (fun K hK => ?_)
  refine ⟨?_, fun w' hS' => ?_, ?_⟩
  rotate_left
  · go_simp
    try (with_reducible rfl)
  try go_simp
  refine hK _ ?_
  clear hK K
  refine wpFk_get rfl (by rfl) (fun K hK => ?_)
  refine ⟨_, fun w' hS' => get_load rfl rfl (hS'.key.read zK.out), ?_⟩
  try go_simp
  refine hK _ ?_
  clear hK K
  refine wpFk_get rfl (by rfl) (fun K hK => ?_)
  refine ⟨?_, fun w' hS' => ?_, ?_⟩
  rotate_left
  · go_simp
    try (with_reducible rfl)
  try go_simp
  refine hK _ ?_
  clear hK K
  refine wpFk_get rfl (by rfl) (fun K hK => ?_)
  refine ⟨?_, fun w' hS' => ?_, ?_⟩
  rotate_left
  · go_simp
    try (with_reducible rfl)
  try go_simp
  refine hK _ ?_
  clear hK K
  refine wpFk_call rfl (by rfl) (fun K hK => ?_)
  go_simp
  go_at_call 15
  (with_reducible refine (QP.out _).mono ?_)
  rintro e w2x ⟨A, c, rfl, hA, hb⟩
  replace HS := Lib.hid (HS.out.next hb)
  have HA := Lib.hid hA
  clear hb hA
  refine hK _ _ HS.out ?_
  clear hK K
  refine wpFk_call rfl (by rfl) (fun K hK => ?_)
  go_simp
  go_at_call 19
  (with_reducible refine (LQ.out _ _ _ HA.out).mono ?_)
  rintro e w3x ⟨rfl, hb⟩
  replace HS := Lib.hid (HS.out.next hb)
  clear hb HA
  refine hK _ _ HS.out ?_
  clear hK K
  refine wpFk_get rfl (by rfl) (fun K hK => ?_)
  refine ⟨_, fun w' hS' => get_neqH rfl rfl rfl (NK.out _), ?_⟩
  try go_simp
  refine hK _ ?_
  clear hK K
  refine wpFk_get rfl (by rfl) (fun K hK => ?_)
  refine ⟨?_, fun w' hS' => ?_, ?_⟩
  rotate_left
  · go_simp
    try (with_reducible rfl)
  try go_simp
  refine hK _ ?_
  clear hK K
  refine wpFk_done ?_
  refine HQ.out _ _ ?_
  clear HQ
  obtain ⟨l0, l1⟩ := RD.out _ HS.out.dig
  go_upto_region 9 with (go_at_call 13; (with_reducible refine (A1.out _ HS.out.tab).mono ?_); rintro e w5 ⟨rfl, hb⟩; obtain ⟨w5m, s9, hr, hb2, hz⟩ := made_write w5 K zK.out oK.out; have H6 := Lib.hid ((HS.out.next hb).next hb2); have P6 : Hid (RowsH [(w5.heap.size, K)] w5m) := Lib.hid ((RowsH.nil _).cons hr); clear hr hb2 hz hb)
  clear s9 l0 l1 HS
  obtain ⟨g10, hg⟩ : ∃ g, g = w5.heap.size := ⟨_, rfl⟩
  rw [← hg] at P6 ⊢
  clear hg
  obtain ⟨l0, l1⟩ := RD.out _ H6.out.dig
  go_upto_region 10 with (go_at_call 13; (with_reducible refine (A2.out _ H6.out.tab).mono ?_); rintro e w7 ⟨rfl, hb⟩; obtain ⟨w7m, s9, hr, hb2, hz⟩ := made_write w7 B zB.out oB.out; have H8 := Lib.hid ((H6.out.next hb).next hb2); have P8 : Hid (RowsH [(w7.heap.size, B), (g10, K)] w7m) := Lib.hid (((P6.out.next hb).next hb2).cons hr); clear hr hb2 hz hb)
  clear s9 l0 l1 H6 P6
  obtain ⟨g12, hg⟩ : ∃ g, g = w7.heap.size := ⟨_, rfl⟩
  rw [← hg] at P8 ⊢
  clear hg
  obtain ⟨wb, cap, cv, hG, hBl⟩ := conv_text w7m E
  rw [EZ.out] at cv hG
  have LT : Hid (g8 < w7m.heap.size ∧ ∀ (i g : Nat) (C : Array Value), ([(g12, B), (g10, K)] : List (Nat × Array Value))[i]? = some (g, C) → g < w7m.heap.size) := Lib.hid ⟨H8.out.key.lt, fun i g C hi => (P8.out i g C hi).lt⟩
  have H10 : Hid (BfH w N DD K g8 [(g12, B), (g10, K)] w7m.heap.size cap (textL E) wb) := Lib.hid ⟨H8.out.next hBl.out, P8.out.next hBl.out, hG.out⟩
  clear hG hBl H8 P8
  go_upto_region 11 with fail
  clear cv
  obtain ⟨g14, hg⟩ : ∃ g, g = w7m.heap.size := ⟨_, rfl⟩
  rw [← hg] at H10 LT ⊢
  clear hg
  obtain ⟨c0, c1, c2⟩ := CL.out _ H10.out.bc.num
  have jt := J4.out.2.1
  have jw := J4.out.2.2.1
  go_upto_region 12 with fail
  clear c0 c1 c2 jt jw
  have j2 := J4.out.2.2.2.1
  have j3 := J4.out.2.2.2.2
  have j1 : j < 16384 := by omega
  have cT := H10.out.got.drew.cell j j1
  have fT := H10.out.got.drew.free j j1
  obtain ⟨c0, c1, c2⟩ := CL.out _ H10.out.bc.num.drew
  refine wp_region_still_tail 13 (by kernel_rfl) (by kernel_rfl) ?_
  simp only [List.take_succ_cons, List.take_zero, List.drop_succ_cons, List.drop_zero]
  refine wpStill_hide (fun Q' hQ => ?_)
  have HQ := Lib.hid hQ
  clear hQ
  iterate 13 ((refine (wpStill_step (fun K hK => ?_) : wpStill _ _ _ _ (_ :: _) _)); go_simp; refine hK _ ?_; clear hK K)
  refine wpStill_nil ?_
  refine HQ.out _ ?_
  change wpList _ _ _ _ _ wb.drew
  go_upto_region 13 with fail
  refine world_gen (fun X => ∃ x, BfH w N DD K g8 [(g12, B), (g10, K)] g14 cap ((textL E).set j x) X) ⟨_, H10.out.drew.store HT.out LT.out.1 LT.out.2 j _⟩ (fun X HX => ?_)
  obtain ⟨x, HX⟩ := HX
  have H12 := Lib.hid HX
  clear HX HQ cT fT c0 c1 c2 LT H10
  obtain ⟨l2, hl2⟩ : ∃ l, l = (textL E).set j x := ⟨_, rfl⟩
  obtain ⟨T2, hT2⟩ : ∃ T, Hid (T = strOfNums l2) := ⟨_, Lib.hid rfl⟩
  have zl : l2.length = 16384 := by rw [hl2, List.length_set, textL_length]; exact EZ.out
  have zT : T2.size = 16384 := by rw [hT2.out, strOfNums_size, zl]
  rw [← hl2] at H12
  clear hl2 j1 j2 j3
  obtain ⟨cl, hcl⟩ : ∃ b, Hid (b = (recF T2 d0).1) := ⟨_, Lib.hid rfl⟩
  have cl32 : Hid (cl.length = 32 ∧ bytes cl) := Lib.hid (by rw [hcl.out]; exact recF_is _ _)
  obtain ⟨C, hC⟩ : ∃ C, Hid (C = nums .u8 cl) := ⟨_, Lib.hid rfl⟩
  have zC : Hid (C.size = 32) := Lib.hid (by rw [hC.out, nums_size]; exact cl32.out.1)
  have oC : Hid (C.all (·.oneCell') = true) := Lib.hid (by rw [hC.out]; exact nums_one _ _)
  have R1 : Hid (∀ W, Tab W → Calls Tryd.prog 13 #[.string T2, .agg D0] W fun e w' => e = .returned (.tuple #[.agg C, .int .i64 0]) ∧ Below W.heap.size W w') := Lib.hid fun W hW => by
    have := RC.out T2 d0 W zT HD.out.1 hW
    rwa [← hcl.out, ← hC.out, ← hD0.out] at this
  have R2 : Hid (∀ W, Calls Tryd.prog 14 #[.string T2, .agg D0] W fun e w' => e = .returned (.tuple #[.agg C, .int .i64 0]) ∧ Below W.heap.size W w') := Lib.hid fun W => by
    have := RR.out T2 d0 W zT HD.out.1
    rwa [← hcl.out, ← hC.out, ← hD0.out] at this
  have CV : Hid (∀ W, Got W g14 g14 cap l2 16384 → (convert 41 9 (.slice (some ⟨g14, 0, none⟩) 16384 cap)).run Tryd.prog W = .ok (.string T2) W) := Lib.hid fun W h => by
    rw [hT2.out]
    exact run_convert_bytes_arg W 41 5 Tryd.underlying41 Tryd.underlying5 g14 0 16384 cap l2 zl (fun i hi => by rw [Nat.zero_add]; exact h.cell i hi) 9 Tryd.underlying9
  clear zl zT
  have cv := CV.out _ H12.out.got
  obtain ⟨l0, l1⟩ := RD.out _ H12.out.bc.dig
  go_upto_region 14 with (go_at_call 13; (with_reducible refine (R1.out _ H12.out.bc.tab).mono ?_); rintro e w13 ⟨rfl, hb⟩; obtain ⟨w13m, s9, hr, hb2, hz⟩ := made_write w13 C zC.out oC.out; have H13 := Lib.hid (((H12.out.next hb).next hb2).cons hr); clear hr hb2 hz hb)
  clear s9 l0 l1 cv H12
  obtain ⟨g16, hg⟩ : ∃ g, g = w13.heap.size := ⟨_, rfl⟩
  rw [← hg] at H13 ⊢
  clear hg
  obtain ⟨l0, l1⟩ := RD.out _ H13.out.bc.dig
  go_upto_region 15 with (go_at_call 14; (with_reducible refine (A3.out _).mono ?_); rintro e w14 ⟨rfl, hb⟩; obtain ⟨w14m, s9, hr, hb2, hz⟩ := made_write w14 B zB.out oB.out; have H14 := Lib.hid (((H13.out.next hb).next hb2).cons hr); clear hr hb2 hz hb)
  clear s9 l0 l1 H13
  obtain ⟨g18, hg⟩ : ∃ g, g = w14.heap.size := ⟨_, rfl⟩
  rw [← hg] at H14 ⊢
  clear hg
  have cv := CV.out _ H14.out.got
  obtain ⟨l0, l1⟩ := RD.out _ H14.out.bc.dig
  go_upto_region 16 with (go_at_call 14; (with_reducible refine (R2.out _).mono ?_); rintro e w15 ⟨rfl, hb⟩; obtain ⟨w15m, s9, hr, hb2, hz⟩ := made_write w15 C zC.out oC.out; have H15 := Lib.hid (((H14.out.next hb).next hb2).cons hr); clear hr hb2 hz hb)
  clear s9 l0 l1 cv H14
  obtain ⟨g20, hg⟩ : ∃ g, g = w15.heap.size := ⟨_, rfl⟩
  rw [← hg] at H15 ⊢
  clear hg
  have EQ : Hid (∀ (a b : List Int) (W : World), a.length = 32 ∧ bytes a → b.length = 32 ∧ bytes b → (eqAt (.agg (nums .u8 a)) (.agg (nums .u8 b))).run Tryd.prog W = .ok (.bool (decide (a = b))) W) := Lib.hid fun a b W h1 h2 => eqAt_hash a b h1.1 h2.1 h1.2 h2.2 W
  have NQ : Hid (∀ (a b : List Int) (W : World), a.length = 32 ∧ bytes a → b.length = 32 ∧ bytes b → (neqAt (.agg (nums .u8 a)) (.agg (nums .u8 b))).run Tryd.prog W = .ok (.bool (!decide (a = b))) W) := Lib.hid fun a b W h1 h2 => neqAt_hash a b h1.1 h2.1 h1.2 h2.2 W
  have E0 : Hid (∀ W, (eqAt (.agg K) (.agg K)).run Tryd.prog W = .ok (.bool true) W) := Lib.hid fun W => by rw [hK2.out, EQ.out ky ky W ky32.out ky32.out, decide_eq_true rfl]
  have l18 := (H15.out.rows.get 1 rfl).read zB.out
  have l20 := (H15.out.rows.get 0 rfl).read zC.out
  have l8 := H15.out.bc.key.read zK.out
  obtain ⟨l0, l1⟩ := RD.out _ H15.out.bc.dig
  by_cases hd : d0 = d1
  · have q1 : ∀ W, (neqAt (.agg D0) (.agg D1)).run Tryd.prog W = .ok (.bool false) W := fun W => by rw [hD0.out, hD1.out, NQ.out d0 d1 W HD.out.1 HD.out.2, decide_eq_true hd]; rfl
    have E3 : Hid (∀ W, (eqAt (.agg D0) (.agg D1)).run Tryd.prog W = .ok (.bool true) W) := Lib.hid fun W => by rw [hD0.out, hD1.out, EQ.out d0 d1 W HD.out.1 HD.out.2, decide_eq_true hd]
    have E2 : Hid (∀ W, (eqAt (.agg B) (.agg K)).run Tryd.prog W = .ok (.bool true) W) := Lib.hid fun W => by rw [hB.out, hK2.out, EQ.out bl ky W bl32.out ky32.out, decide_eq_true (BK.out hd)]
    by_cases hc : cl = ky
    · have q4 : ∀ W, (eqAt (.agg C) (.agg K)).run Tryd.prog W = .ok (.bool true) W := fun W => by rw [hC.out, hK2.out, EQ.out cl ky W cl32.out ky32.out, decide_eq_true hc]
      clear hd hc
      go_wp2_with (go_at_call 8; (with_reducible refine (KED.out _ H15.out.bc.tab).mono ?_); rintro e w9 ⟨rfl, hb⟩; have HZ := Lib.hid (H15.out.next hb); clear hb)
      go_ret
      exact ⟨rfl, HZ.out.bc.below⟩
    · have q4 : ∀ W, (eqAt (.agg C) (.agg K)).run Tryd.prog W = .ok (.bool false) W := fun W => by rw [hC.out, hK2.out, EQ.out cl ky W cl32.out ky32.out, decide_eq_false hc]
      have N4 : Hid (∀ W, (neqAt (.agg C) (.agg K)).run Tryd.prog W = .ok (.bool true) W) := Lib.hid fun W => by rw [hC.out, hK2.out, NQ.out cl ky W cl32.out ky32.out, decide_eq_false hc]; rfl
      clear hd hc
      go_upto_region 18 with fail
      clear q1 q4 l18 l20 l8 l0 l1
      refine wp_region_fk (BfH w N DD K g8 [(g20, C), (g18, B), (g16, C), (g12, B), (g10, K)] g14 cap l2) (.get 0 (.get 1 (.get 2 (.get 3 (.get 4 (.get 5 (.get 6 (.get 7 (.get 8 (.get 9 (.get 10 (.get 11 (.get 12 (.get 13 (.get 14 (.get 15 (.get 16 (.get 17 (.get 18 (.get 19 (.get 20 (.get 21 (.get 22 (.get 23 (.get 24 (.get 25 (.get 26 (.get 27 (.get 28 (.get 29 (.get 30 (.get 31 (.call 32 (.get 33 (.get 34 .done))))))))))))))))))))))))))))))))))) (by kernel_rfl) rfl (by kernel_rfl) (by kernel_rfl) (by intro c a d v w h; cases d <;> exact h) H15.out.drew (fun Q' hQ => ?_)
      have HS := Lib.hid H15.out.drew
      have HQ := Lib.hid hQ
      clear hQ H15
      refine wpFk_get rfl (by rfl) (fun K hK => ?_)
      refine ⟨_, fun w' hS' => get_load rfl rfl ((hS'.rows.get 4 rfl).read zK.out), ?_⟩
      try go_simp
      refine hK _ ?_
      clear hK K
      refine wpFk_get rfl (by rfl) (fun K hK => ?_)
      refine ⟨_, fun w' hS' => get_load rfl rfl (hS'.bc.key.read zK.out), ?_⟩
      try go_simp
      refine hK _ ?_
      clear hK K
      refine wpFk_get rfl (by rfl) (fun K hK => ?_)
      refine ⟨_, fun w' hS' => get_eqH rfl rfl rfl (E0.out _), ?_⟩
      try go_simp
      refine hK _ ?_
      clear hK K
      refine wpFk_get rfl (by rfl) (fun K hK => ?_)
      refine ⟨?_, fun w' hS' => ?_, ?_⟩
      rotate_left
      · go_simp
        try (with_reducible rfl)
      try go_simp
      refine hK _ ?_
      clear hK K
      refine wpFk_get rfl (by rfl) (fun K hK => ?_)
      refine ⟨?_, fun w' hS' => ?_, ?_⟩
      rotate_left
      · go_simp
        try (with_reducible rfl)
      try go_simp
      refine hK _ ?_
      clear hK K
      refine wpFk_get rfl (by rfl) (fun K hK => ?_)
      refine ⟨?_, fun w' hS' => ?_, ?_⟩
      rotate_left
      · go_simp
        try (with_reducible rfl)
      try go_simp
      refine hK _ ?_
      clear hK K
      refine wpFk_get rfl (by rfl) (fun K hK => ?_)
      refine ⟨?_, fun w' hS' => ?_, ?_⟩
      rotate_left
      · go_simp
        try (with_reducible rfl)
      try go_simp
      refine hK _ ?_
      clear hK K
      refine wpFk_get rfl (by rfl) (fun K hK => ?_)
      refine ⟨?_, fun w' hS' => ?_, ?_⟩
      rotate_left
      · go_simp
        try (with_reducible rfl)
      try go_simp
      refine hK _ ?_
      clear hK K
      refine wpFk_get rfl (by rfl) (fun K hK => ?_)
      refine ⟨_, fun w' hS' => get_load rfl rfl ((hS'.rows.get 3 rfl).read zB.out), ?_⟩
      try go_simp
      refine hK _ ?_
      clear hK K
      refine wpFk_get rfl (by rfl) (fun K hK => ?_)
      refine ⟨_, fun w' hS' => get_load rfl rfl (hS'.bc.key.read zK.out), ?_⟩
      try go_simp
      refine hK _ ?_
      clear hK K
      refine wpFk_get rfl (by rfl) (fun K hK => ?_)
      refine ⟨_, fun w' hS' => get_eqH rfl rfl rfl (E2.out _), ?_⟩
      try go_simp
      refine hK _ ?_
      clear hK K
      refine wpFk_get rfl (by rfl) (fun K hK => ?_)
      refine ⟨?_, fun w' hS' => ?_, ?_⟩
      rotate_left
      · go_simp
        try (with_reducible rfl)
      try go_simp
      refine hK _ ?_
      clear hK K
      refine wpFk_get rfl (by rfl) (fun K hK => ?_)
      refine ⟨_, fun w' hS' => get_load rfl rfl (RD.out _ hS'.bc.dig).1, ?_⟩
      try go_simp
      refine hK _ ?_
      clear hK K
      refine wpFk_get rfl (by rfl) (fun K hK => ?_)
      refine ⟨?_, fun w' hS' => ?_, ?_⟩
      rotate_left
      · go_simp
        try (with_reducible rfl)
      try go_simp
      refine hK _ ?_
      clear hK K
      refine wpFk_get rfl (by rfl) (fun K hK => ?_)
      refine ⟨_, fun w' hS' => get_load rfl rfl (RD.out _ hS'.bc.dig).2, ?_⟩
      try go_simp
      refine hK _ ?_
      clear hK K
      refine wpFk_get rfl (by rfl) (fun K hK => ?_)
      refine ⟨_, fun w' hS' => get_eqH rfl rfl rfl (E3.out _), ?_⟩
      try go_simp
      refine hK _ ?_
      clear hK K
      refine wpFk_get rfl (by rfl) (fun K hK => ?_)
      refine ⟨?_, fun w' hS' => ?_, ?_⟩
      rotate_left
      · go_simp
        try (with_reducible rfl)
      try go_simp
      refine hK _ ?_
      clear hK K
      refine wpFk_get rfl (by rfl) (fun K hK => ?_)
      refine ⟨?_, fun w' hS' => ?_, ?_⟩
      rotate_left
      · go_simp
        try (with_reducible rfl)
      try go_simp
      refine hK _ ?_
      clear hK K
      refine wpFk_get rfl (by rfl) (fun K hK => ?_)
      refine ⟨?_, fun w' hS' => ?_, ?_⟩
      rotate_left
      · go_simp
        try (with_reducible rfl)
      try go_simp
      refine hK _ ?_
      clear hK K
      refine wpFk_get rfl (by rfl) (fun K hK => ?_)
      refine ⟨?_, fun w' hS' => ?_, ?_⟩
      rotate_left
      · go_simp
        try (with_reducible rfl)
      try go_simp
      refine hK _ ?_
      clear hK K
      refine wpFk_get rfl (by rfl) (fun K hK => ?_)
      refine ⟨?_, fun w' hS' => ?_, ?_⟩
      rotate_left
      · go_simp
        try (with_reducible rfl)
      try go_simp
      refine hK _ ?_
      clear hK K
      refine wpFk_get rfl (by rfl) (fun K hK => ?_)
      refine ⟨?_, fun w' hS' => ?_, ?_⟩
      rotate_left
      · go_simp
        try (with_reducible rfl)
      try go_simp
      refine hK _ ?_
      clear hK K
      refine wpFk_get rfl (by rfl) (fun K hK => ?_)
      refine ⟨?_, fun w' hS' => ?_, ?_⟩
      rotate_left
      · go_simp
        try (with_reducible rfl)
      try go_simp
      refine hK _ ?_
      clear hK K
      refine wpFk_get rfl (by rfl) (fun K hK => ?_)
      refine ⟨_, fun w' hS' => get_load rfl rfl ((hS'.rows.get 2 rfl).read zC.out), ?_⟩
      try go_simp
      refine hK _ ?_
      clear hK K
      refine wpFk_get rfl (by rfl) (fun K hK => ?_)
      refine ⟨_, fun w' hS' => get_load rfl rfl (hS'.bc.key.read zK.out), ?_⟩
      try go_simp
      refine hK _ ?_
      clear hK K
      refine wpFk_get rfl (by rfl) (fun K hK => ?_)
      refine ⟨_, fun w' hS' => get_neqH rfl rfl rfl (N4.out _), ?_⟩
      try go_simp
      refine hK _ ?_
      clear hK K
      refine wpFk_get rfl (by rfl) (fun K hK => ?_)
      refine ⟨?_, fun w' hS' => ?_, ?_⟩
      rotate_left
      · go_simp
        try (with_reducible rfl)
      try go_simp
      refine hK _ ?_
      clear hK K
      refine wpFk_get rfl (by rfl) (fun K hK => ?_)
      refine ⟨?_, fun w' hS' => ?_, ?_⟩
      rotate_left
      · go_simp
        try (with_reducible rfl)
      try go_simp
      refine hK _ ?_
      clear hK K
      refine wpFk_get rfl (by rfl) (fun K hK => ?_)
      refine ⟨?_, fun w' hS' => ?_, ?_⟩
      rotate_left
      · go_simp
        try (with_reducible rfl)
      try go_simp
      refine hK _ ?_
      clear hK K
      refine wpFk_get rfl (by rfl) (fun K hK => ?_)
      refine ⟨?_, fun w' hS' => ?_, ?_⟩
      rotate_left
      · go_simp
        try (with_reducible rfl)
      try go_simp
      refine hK _ ?_
      clear hK K
      refine wpFk_get rfl (by rfl) (fun K hK => ?_)
      refine ⟨?_, fun w' hS' => ?_, ?_⟩
      rotate_left
      · go_simp
        try (with_reducible rfl)
      try go_simp
      refine hK _ ?_
      clear hK K
      refine wpFk_get rfl (by rfl) (fun K hK => ?_)
      refine ⟨?_, fun w' hS' => ?_, ?_⟩
      rotate_left
      · go_simp
        try (with_reducible rfl)
      try go_simp
      refine hK _ ?_
      clear hK K
      refine wpFk_call rfl (by rfl) (fun K hK => ?_)
      go_simp
      go_at_call 8
      (with_reducible refine (KED.out _ HS.out.bc.tab).mono ?_)
      rintro e w2x ⟨rfl, hb⟩
      replace HS := Lib.hid (HS.out.next hb)
      clear hb
      refine hK _ _ HS.out ?_
      clear hK K
      refine wpFk_get rfl (by rfl) (fun K hK => ?_)
      refine ⟨?_, fun w' hS' => ?_, ?_⟩
      rotate_left
      · go_simp
        try (with_reducible rfl)
      try go_simp
      refine hK _ ?_
      clear hK K
      refine wpFk_get rfl (by rfl) (fun K hK => ?_)
      refine ⟨?_, fun w' hS' => ?_, ?_⟩
      rotate_left
      · go_simp
        try (with_reducible rfl)
      try go_simp
      refine hK _ ?_
      clear hK K
      refine wpFk_done ?_
      refine HQ.out _ _ ?_
      go_wp2
      go_ret
      exact ⟨rfl, HS.out.bc.below⟩
  · have q1 : ∀ W, (neqAt (.agg D0) (.agg D1)).run Tryd.prog W = .ok (.bool true) W := fun W => by rw [hD0.out, hD1.out, NQ.out d0 d1 W HD.out.1 HD.out.2, decide_eq_false hd]; rfl
    have E3 : Hid (∀ W, (eqAt (.agg D0) (.agg D1)).run Tryd.prog W = .ok (.bool false) W) := Lib.hid fun W => by rw [hD0.out, hD1.out, EQ.out d0 d1 W HD.out.1 HD.out.2, decide_eq_false hd]
    by_cases hb : bl = ky
    · have q2 : ∀ W, (eqAt (.agg B) (.agg K)).run Tryd.prog W = .ok (.bool true) W := fun W => by rw [hB.out, hK2.out, EQ.out bl ky W bl32.out ky32.out, decide_eq_true hb]
      clear hd hb
      go_wp2_with (go_at_call 8; (with_reducible refine (KED.out _ H15.out.bc.tab).mono ?_); rintro e w9 ⟨rfl, hb⟩; have HZ := Lib.hid (H15.out.next hb); clear hb)
      go_ret
      exact ⟨rfl, HZ.out.bc.below⟩
    · have E2 : Hid (∀ W, (eqAt (.agg B) (.agg K)).run Tryd.prog W = .ok (.bool false) W) := Lib.hid fun W => by rw [hB.out, hK2.out, EQ.out bl ky W bl32.out ky32.out, decide_eq_false hb]
      have q2 := E2.out
      by_cases hc : cl = ky
      · have q4 : ∀ W, (eqAt (.agg C) (.agg K)).run Tryd.prog W = .ok (.bool true) W := fun W => by rw [hC.out, hK2.out, EQ.out cl ky W cl32.out ky32.out, decide_eq_true hc]
        clear hd hb hc
        go_wp2_with (go_at_call 8; (with_reducible refine (KED.out _ H15.out.bc.tab).mono ?_); rintro e w9 ⟨rfl, hb⟩; have HZ := Lib.hid (H15.out.next hb); clear hb)
        go_ret
        exact ⟨rfl, HZ.out.bc.below⟩
      · have q4 : ∀ W, (eqAt (.agg C) (.agg K)).run Tryd.prog W = .ok (.bool false) W := fun W => by rw [hC.out, hK2.out, EQ.out cl ky W cl32.out ky32.out, decide_eq_false hc]
        have N4 : Hid (∀ W, (neqAt (.agg C) (.agg K)).run Tryd.prog W = .ok (.bool true) W) := Lib.hid fun W => by rw [hC.out, hK2.out, NQ.out cl ky W cl32.out ky32.out, decide_eq_false hc]; rfl
        clear hd hb hc
        go_upto_region 18 with fail
        clear q1 q4 l18 l20 l8 l0 l1
        refine wp_region_fk (BfH w N DD K g8 [(g20, C), (g18, B), (g16, C), (g12, B), (g10, K)] g14 cap l2) (.get 0 (.get 1 (.get 2 (.get 3 (.get 4 (.get 5 (.get 6 (.get 7 (.get 8 (.get 9 (.get 10 (.get 11 (.get 12 (.get 13 (.get 14 (.get 15 (.get 16 (.get 17 (.get 18 (.get 19 (.get 20 (.get 21 (.get 22 (.get 23 (.get 24 (.get 25 (.get 26 (.get 27 (.get 28 (.get 29 (.get 30 (.get 31 (.call 32 (.get 33 (.get 34 .done))))))))))))))))))))))))))))))))))) (by kernel_rfl) rfl (by kernel_rfl) (by kernel_rfl) (by intro c a d v w h; cases d <;> exact h) H15.out.drew (fun Q' hQ => ?_)
        have HS := Lib.hid H15.out.drew
        have HQ := Lib.hid hQ
        clear hQ H15
        refine wpFk_get rfl (by rfl) (fun K hK => ?_)
        refine ⟨_, fun w' hS' => get_load rfl rfl ((hS'.rows.get 4 rfl).read zK.out), ?_⟩
        try go_simp
        refine hK _ ?_
        clear hK K
        refine wpFk_get rfl (by rfl) (fun K hK => ?_)
        refine ⟨_, fun w' hS' => get_load rfl rfl (hS'.bc.key.read zK.out), ?_⟩
        try go_simp
        refine hK _ ?_
        clear hK K
        refine wpFk_get rfl (by rfl) (fun K hK => ?_)
        refine ⟨_, fun w' hS' => get_eqH rfl rfl rfl (E0.out _), ?_⟩
        try go_simp
        refine hK _ ?_
        clear hK K
        refine wpFk_get rfl (by rfl) (fun K hK => ?_)
        refine ⟨?_, fun w' hS' => ?_, ?_⟩
        rotate_left
        · go_simp
          try (with_reducible rfl)
        try go_simp
        refine hK _ ?_
        clear hK K
        refine wpFk_get rfl (by rfl) (fun K hK => ?_)
        refine ⟨?_, fun w' hS' => ?_, ?_⟩
        rotate_left
        · go_simp
          try (with_reducible rfl)
        try go_simp
        refine hK _ ?_
        clear hK K
        refine wpFk_get rfl (by rfl) (fun K hK => ?_)
        refine ⟨?_, fun w' hS' => ?_, ?_⟩
        rotate_left
        · go_simp
          try (with_reducible rfl)
        try go_simp
        refine hK _ ?_
        clear hK K
        refine wpFk_get rfl (by rfl) (fun K hK => ?_)
        refine ⟨?_, fun w' hS' => ?_, ?_⟩
        rotate_left
        · go_simp
          try (with_reducible rfl)
        try go_simp
        refine hK _ ?_
        clear hK K
        refine wpFk_get rfl (by rfl) (fun K hK => ?_)
        refine ⟨?_, fun w' hS' => ?_, ?_⟩
        rotate_left
        · go_simp
          try (with_reducible rfl)
        try go_simp
        refine hK _ ?_
        clear hK K
        refine wpFk_get rfl (by rfl) (fun K hK => ?_)
        refine ⟨_, fun w' hS' => get_load rfl rfl ((hS'.rows.get 3 rfl).read zB.out), ?_⟩
        try go_simp
        refine hK _ ?_
        clear hK K
        refine wpFk_get rfl (by rfl) (fun K hK => ?_)
        refine ⟨_, fun w' hS' => get_load rfl rfl (hS'.bc.key.read zK.out), ?_⟩
        try go_simp
        refine hK _ ?_
        clear hK K
        refine wpFk_get rfl (by rfl) (fun K hK => ?_)
        refine ⟨_, fun w' hS' => get_eqH rfl rfl rfl (E2.out _), ?_⟩
        try go_simp
        refine hK _ ?_
        clear hK K
        refine wpFk_get rfl (by rfl) (fun K hK => ?_)
        refine ⟨?_, fun w' hS' => ?_, ?_⟩
        rotate_left
        · go_simp
          try (with_reducible rfl)
        try go_simp
        refine hK _ ?_
        clear hK K
        refine wpFk_get rfl (by rfl) (fun K hK => ?_)
        refine ⟨_, fun w' hS' => get_load rfl rfl (RD.out _ hS'.bc.dig).1, ?_⟩
        try go_simp
        refine hK _ ?_
        clear hK K
        refine wpFk_get rfl (by rfl) (fun K hK => ?_)
        refine ⟨?_, fun w' hS' => ?_, ?_⟩
        rotate_left
        · go_simp
          try (with_reducible rfl)
        try go_simp
        refine hK _ ?_
        clear hK K
        refine wpFk_get rfl (by rfl) (fun K hK => ?_)
        refine ⟨_, fun w' hS' => get_load rfl rfl (RD.out _ hS'.bc.dig).2, ?_⟩
        try go_simp
        refine hK _ ?_
        clear hK K
        refine wpFk_get rfl (by rfl) (fun K hK => ?_)
        refine ⟨_, fun w' hS' => get_eqH rfl rfl rfl (E3.out _), ?_⟩
        try go_simp
        refine hK _ ?_
        clear hK K
        refine wpFk_get rfl (by rfl) (fun K hK => ?_)
        refine ⟨?_, fun w' hS' => ?_, ?_⟩
        rotate_left
        · go_simp
          try (with_reducible rfl)
        try go_simp
        refine hK _ ?_
        clear hK K
        refine wpFk_get rfl (by rfl) (fun K hK => ?_)
        refine ⟨?_, fun w' hS' => ?_, ?_⟩
        rotate_left
        · go_simp
          try (with_reducible rfl)
        try go_simp
        refine hK _ ?_
        clear hK K
        refine wpFk_get rfl (by rfl) (fun K hK => ?_)
        refine ⟨?_, fun w' hS' => ?_, ?_⟩
        rotate_left
        · go_simp
          try (with_reducible rfl)
        try go_simp
        refine hK _ ?_
        clear hK K
        refine wpFk_get rfl (by rfl) (fun K hK => ?_)
        refine ⟨?_, fun w' hS' => ?_, ?_⟩
        rotate_left
        · go_simp
          try (with_reducible rfl)
        try go_simp
        refine hK _ ?_
        clear hK K
        refine wpFk_get rfl (by rfl) (fun K hK => ?_)
        refine ⟨?_, fun w' hS' => ?_, ?_⟩
        rotate_left
        · go_simp
          try (with_reducible rfl)
        try go_simp
        refine hK _ ?_
        clear hK K
        refine wpFk_get rfl (by rfl) (fun K hK => ?_)
        refine ⟨?_, fun w' hS' => ?_, ?_⟩
        rotate_left
        · go_simp
          try (with_reducible rfl)
        try go_simp
        refine hK _ ?_
        clear hK K
        refine wpFk_get rfl (by rfl) (fun K hK => ?_)
        refine ⟨?_, fun w' hS' => ?_, ?_⟩
        rotate_left
        · go_simp
          try (with_reducible rfl)
        try go_simp
        refine hK _ ?_
        clear hK K
        refine wpFk_get rfl (by rfl) (fun K hK => ?_)
        refine ⟨_, fun w' hS' => get_load rfl rfl ((hS'.rows.get 2 rfl).read zC.out), ?_⟩
        try go_simp
        refine hK _ ?_
        clear hK K
        refine wpFk_get rfl (by rfl) (fun K hK => ?_)
        refine ⟨_, fun w' hS' => get_load rfl rfl (hS'.bc.key.read zK.out), ?_⟩
        try go_simp
        refine hK _ ?_
        clear hK K
        refine wpFk_get rfl (by rfl) (fun K hK => ?_)
        refine ⟨_, fun w' hS' => get_neqH rfl rfl rfl (N4.out _), ?_⟩
        try go_simp
        refine hK _ ?_
        clear hK K
        refine wpFk_get rfl (by rfl) (fun K hK => ?_)
        refine ⟨?_, fun w' hS' => ?_, ?_⟩
        rotate_left
        · go_simp
          try (with_reducible rfl)
        try go_simp
        refine hK _ ?_
        clear hK K
        refine wpFk_get rfl (by rfl) (fun K hK => ?_)
        refine ⟨?_, fun w' hS' => ?_, ?_⟩
        rotate_left
        · go_simp
          try (with_reducible rfl)
        try go_simp
        refine hK _ ?_
        clear hK K
        refine wpFk_get rfl (by rfl) (fun K hK => ?_)
        refine ⟨?_, fun w' hS' => ?_, ?_⟩
        rotate_left
        · go_simp
          try (with_reducible rfl)
        try go_simp
        refine hK _ ?_
        clear hK K
        refine wpFk_get rfl (by rfl) (fun K hK => ?_)
        refine ⟨?_, fun w' hS' => ?_, ?_⟩
        rotate_left
        · go_simp
          try (with_reducible rfl)
        try go_simp
        refine hK _ ?_
        clear hK K
        refine wpFk_get rfl (by rfl) (fun K hK => ?_)
        refine ⟨?_, fun w' hS' => ?_, ?_⟩
        rotate_left
        · go_simp
          try (with_reducible rfl)
        try go_simp
        refine hK _ ?_
        clear hK K
        refine wpFk_get rfl (by rfl) (fun K hK => ?_)
        refine ⟨?_, fun w' hS' => ?_, ?_⟩
        rotate_left
        · go_simp
          try (with_reducible rfl)
        try go_simp
        refine hK _ ?_
        clear hK K
        refine wpFk_call rfl (by rfl) (fun K hK => ?_)
        go_simp
        go_at_call 8
        (with_reducible refine (KED.out _ HS.out.bc.tab).mono ?_)
        rintro e w2x ⟨rfl, hb⟩
        replace HS := Lib.hid (HS.out.next hb)
        clear hb
        refine hK _ _ HS.out ?_
        clear hK K
        refine wpFk_get rfl (by rfl) (fun K hK => ?_)
        refine ⟨?_, fun w' hS' => ?_, ?_⟩
        rotate_left
        · go_simp
          try (with_reducible rfl)
        try go_simp
        refine hK _ ?_
        clear hK K
        refine wpFk_get rfl (by rfl) (fun K hK => ?_)
        refine ⟨?_, fun w' hS' => ?_, ?_⟩
        rotate_left
        · go_simp
          try (with_reducible rfl)
        try go_simp
        refine hK _ ?_
        clear hK K
        refine wpFk_done ?_
        refine HQ.out _ _ ?_
        go_wp2
        go_ret
        exact ⟨rfl, HS.out.bc.below⟩
end Go.Proofs.YtllabnhgiojmmaaDoor
namespace Go.Proofs.YtllabnhgiojmmaaDoor
open Go.RowKit Go.Great
set_option linter.unusedVariables false
set_option maxRecDepth 100000

/-- What stands ahead in all that a key's secrets are made of. -/
def keyT (seed : ByteArray) (index : Int) : ByteArray := ⟨#[2]⟩ ++ textS seed ++ putS index 4
theorem keyT_size (seed : ByteArray) (index : Int) (h : seed.size ≤ 100000) : (keyT seed index).size ≤ 100019 := by
  have h1 := textS_size seed (by omega)
  have h2 := putS_size index 4
  unfold keyT
  rw [ByteArray.size_append, ByteArray.size_append]
  show 1 + (textS seed).size + _ ≤ _
  omega
/-- A secret, by its place among a key's. -/
def secN (seed : ByteArray) (index : Int) (n : Nat) : List Int := sumL (keyT seed index ++ putS n 2)
theorem secN_is (seed : ByteArray) (index : Int) (n : Nat) : (secN seed index n).length = 32 ∧ bytes (secN seed index n) := ⟨sumL_length _, sumL_bytes _⟩
theorem secN_at (seed : ByteArray) (index i b : Nat) : secN seed index (2 * i + b) = secL seed index i b := rfl
theorem secN_pub (seed : ByteArray) (index n : Nat) : pubH (secN seed index n) = pubAt seed index n := by
  unfold pubAt
  rw [← secN_at, show 2 * (n / 2) + n % 2 = n by omega]
/-- A block for an argument, and one for the result. -/
def ArgH (w wr : World) (A : Array Value) : Prop := Row wr w.heap.size 24 A ∧ Row wr (w.heap.size + 1) 24 (nums .u8 (List.replicate 32 0)) ∧ Below w.heap.size w wr
theorem ArgH.start (w : World) (A : Array Value) : ArgH w ((w.alloc (.cells A 24)).alloc (.cells (nums .u8 (List.replicate 32 0)) 24)) A :=
  ⟨(Row.made _ _ _).alloc _, Row.made2 _ _ _ _, ((Below.refl _ _).alloc (Nat.le_refl _) _).alloc (by simp) _⟩
theorem ArgH.next {w wr w1 : World} {A : Array Value} (h : ArgH w wr A) (hb : Below wr.heap.size wr w1) : ArgH w w1 A := ⟨h.1.next hb, h.2.1.next hb, below_new h.2.2 hb⟩
set_option maxHeartbeats 1000000 in
theorem isKey_any (x : Int) (w : World) : Calls Tryd.prog 20 #[.int .i64 x] w fun e w' => e = .returned (.bool (decide (0 ≤ x ∧ x ≤ 2147483647))) ∧ w = w' := by
  by_cases h1 : 0 ≤ x
  · have d1 : decide (0 ≤ x) = true := decide_eq_true h1
    by_cases h2 : x ≤ 2147483647
    · have d2 : decide (x ≤ 2147483647) = true := decide_eq_true h2
      have d3 : decide (0 ≤ x ∧ x ≤ 2147483647) = true := decide_eq_true ⟨h1, h2⟩
      rw [d3]
      go_enter Tryd.func20, Tryd.ntmps20
      go_wp2
      go_ret
      exact ⟨rfl, rfl⟩
    · have d2 : decide (x ≤ 2147483647) = false := decide_eq_false h2
      have d3 : decide (0 ≤ x ∧ x ≤ 2147483647) = false := decide_eq_false (fun h => h2 h.2)
      rw [d3]
      go_enter Tryd.func20, Tryd.ntmps20
      go_wp2
      go_ret
      exact ⟨rfl, rfl⟩
  · have d1 : decide (0 ≤ x) = false := decide_eq_false h1
    have d3 : decide (0 ≤ x ∧ x ≤ 2147483647) = false := decide_eq_false (fun h => h1 h.1)
    rw [d3]
    go_enter Tryd.func20, Tryd.ntmps20
    go_wp2
    go_ret
    exact ⟨rfl, rfl⟩
theorem isKey_yes (x : Int) (h : 0 ≤ x ∧ x ≤ 2147483647) (w : World) : Calls Tryd.prog 20 #[.int .i64 x] w fun e w' => e = .returned (.bool true) ∧ w = w' := by
  have := isKey_any x w
  rwa [decide_eq_true h] at this
theorem isKey_no (x : Int) (h : x < 0 ∨ 2147483647 < x) (w : World) : Calls Tryd.prog 20 #[.int .i64 x] w fun e w' => e = .returned (.bool false) ∧ w = w' := by
  have := isKey_any x w
  rwa [decide_eq_false (by omega)] at this
set_option maxHeartbeats 1000000 in
theorem keyText_any (seed : ByteArray) (hs : seed.size ≤ 100000) (index : Int) (hi : 0 ≤ index ∧ index ≤ 2147483647) (w : World) :
    Calls Tryd.prog 21 #[.string seed, .int .i64 index] w fun e w' => e = .returned (.string (keyT seed index)) ∧ Below w.heap.size w w' := by
  obtain ⟨T, hT⟩ : ∃ T, Hid (T = textS seed) := ⟨_, Lib.hid rfl⟩
  obtain ⟨P, hP⟩ : ∃ P, Hid (P = putS index 4) := ⟨_, Lib.hid rfl⟩
  obtain ⟨A1, hA1⟩ : ∃ A, Hid (A = ⟨#[2]⟩ ++ T) := ⟨_, Lib.hid rfl⟩
  obtain ⟨A2, hA2⟩ : ∃ A, Hid (A = A1 ++ P) := ⟨_, Lib.hid rfl⟩
  have hK : keyT seed index = A2 := by rw [hA2.out, hA1.out, hT.out, hP.out]; rfl
  have st := textS_size seed (by omega)
  have sp := putS_size index 4
  rw [← hT.out] at st
  rw [← hP.out] at sp
  have sA : A1.size ≤ 100011 := by rw [hA1.out, ByteArray.size_append]; show 1 + T.size ≤ _; omega
  have a1 : ∀ W, (Op.stringOp .add ⟨#[2]⟩ T).run Tryd.prog W = .ok (.string A1) W := fun W => by rw [hA1.out]; exact join_text _ _ (by show 1 + T.size ≤ _; omega) W
  have a2 : ∀ W, (Op.stringOp .add A1 P).run Tryd.prog W = .ok (.string A2) W := fun W => by rw [hA2.out]; exact join_text _ _ (by omega) W
  have X1 : Hid (∀ W, Calls Tryd.prog 33 #[.string seed] W fun e w' => e = .returned (.string T) ∧ Below W.heap.size W w') := Lib.hid fun W => by rw [hT.out]; exact text_any seed (by omega) W
  have X2 : Hid (∀ W, Calls Tryd.prog 34 #[.int .u64 index, .int .i64 4] W fun e w' => e = .returned (.string P) ∧ Below W.heap.size W w') := Lib.hid fun W => by rw [hP.out]; exact put_any index 4 W (by omega)
  have hw : IntKind.u64.wrap index = index := by rw [IntKind.wrap_u64]; omega
  rw [hK]
  clear hK st sp sA hs
  go_enter Tryd.func21, Tryd.ntmps21
  go_wp2_with (first
    | (go_at_call 33; (with_reducible refine (X1.out _).mono ?_); rintro e w1 ⟨rfl, hb⟩; have HB := Lib.hid hb; clear hb)
    | (go_at_call 34; (with_reducible refine (X2.out _).mono ?_); rintro e w2 ⟨rfl, hb⟩; have HC := Lib.hid (below_new HB.out hb); clear hb))
  go_ret
  exact ⟨rfl, HC.out⟩
attribute [local go_sem ↓ high] read_at write_at
set_option maxHeartbeats 1000000 in
theorem secret_any (key : ByteArray) (hk : key.size ≤ 200000) (n : Nat) (hn : n < 9223372036854775808) (w : World) (hT : Tab w) :
    Calls Tryd.prog 22 #[.string key, .int .i64 (n : Int)] w fun e w' => e = .returned (.agg (nums .u8 (sumL (key ++ putS n 2)))) ∧ Below w.heap.size w w' := by
  have H0 := Lib.hid (OutH.start w)
  have zZ : Hid ((nums .u8 (List.replicate 32 0)).size = 32) := Lib.hid (by rw [nums_size]; simp)
  obtain ⟨P, hP⟩ : ∃ P, Hid (P = putS n 2) := ⟨_, Lib.hid rfl⟩
  obtain ⟨A, hA⟩ : ∃ A, Hid (A = key ++ P) := ⟨_, Lib.hid rfl⟩
  obtain ⟨C, hC⟩ : ∃ C, Hid (C = nums .u8 (sumL A)) := ⟨_, Lib.hid rfl⟩
  have zC : Hid (C.size = 32) := Lib.hid (by rw [hC.out, nums_size]; exact sumL_length _)
  have oC : Hid (C.all (·.oneCell') = true) := Lib.hid (by rw [hC.out]; exact nums_one _ _)
  have sp := putS_size n 2
  rw [← hP.out] at sp
  have a1 : ∀ W, (Op.stringOp .add key P).run Tryd.prog W = .ok (.string A) W := fun W => by rw [hA.out]; exact join_text _ _ (by omega) W
  have X1 : Hid (∀ W, Calls Tryd.prog 34 #[.int .u64 (n : Int), .int .i64 2] W fun e w' => e = .returned (.string P) ∧ Below W.heap.size W w') := Lib.hid fun W => by rw [hP.out]; exact put_any n 2 W (by omega)
  have X2 : Hid (∀ W, Tab W → Calls Tryd.prog 32 #[.string A] W fun e w' => e = .returned (.agg C) ∧ Below W.heap.size W w') := Lib.hid fun W h => by
    rw [hC.out]; exact sum_any A (by rw [hA.out, ByteArray.size_append]; omega) W h
  have hw : IntKind.u64.wrap (n : Int) = (n : Int) := by rw [IntKind.wrap_u64]; omega
  have HT := Lib.hid hT
  rw [← hP.out, ← hA.out, ← hC.out]
  clear sp hk hT
  go_enter Tryd.func22, Tryd.ntmps22
  go_upto_region 1 with fail
  refine world_gen (fun X => OutH w X) H0.out (fun X HX => ?_)
  have HX := Lib.hid HX
  go_wp2_with (first
    | (go_at_call 34; (with_reducible refine (X1.out _).mono ?_); rintro e w1 ⟨rfl, hb⟩; have HX := Lib.hid (HX.out.next hb); clear hb)
    | (go_at_call 32; have hq := HT.out.next HX.out.2; (with_reducible refine (X2.out _ hq).mono ?_); rintro e w1 ⟨rfl, hb⟩; have HX := Lib.hid (HX.out.next hb); clear hb hq; have s6 := HX.out.1.write zZ.out zC.out oC.out))
  refine bodyPost_ret (results_cell_row rfl _ _ w.heap.size 24 _ (0, 0) _ rfl (HX.out.1.whole _) Tryd.underlying24 rfl (sizeH _ zC.out)) rfl ⟨rfl, below_setRow HX.out.2 (Nat.le_refl _)⟩
set_option maxHeartbeats 1000000 in
theorem hashOf_any (x : List Int) (hx : x.length = 32) (w : World) (hT : Tab w) :
    Calls Tryd.prog 24 #[.agg (nums .u8 x)] w fun e w' => e = .returned (.agg (nums .u8 (pubH x))) ∧ Below w.heap.size w w' := by
  obtain ⟨X, hX⟩ : ∃ X, Hid (X = nums .u8 x) := ⟨_, Lib.hid rfl⟩
  obtain ⟨C, hC⟩ : ∃ C, Hid (C = nums .u8 (pubH x)) := ⟨_, Lib.hid rfl⟩
  obtain ⟨S, hS⟩ : ∃ S, Hid (S = strOfNums x) := ⟨_, Lib.hid rfl⟩
  obtain ⟨A, hA⟩ : ∃ A, Hid (A = ⟨#[3]⟩ ++ S) := ⟨_, Lib.hid rfl⟩
  have zX : Hid (X.size = 32) := Lib.hid (by rw [hX.out, nums_size]; exact hx)
  have zZ : Hid ((nums .u8 (List.replicate 32 0)).size = 32) := Lib.hid (by rw [nums_size]; simp)
  have zC : Hid (C.size = 32) := Lib.hid (by rw [hC.out, nums_size]; exact (pubH_is _).1)
  have oC : Hid (C.all (·.oneCell') = true) := Lib.hid (by rw [hC.out]; exact nums_one _ _)
  have zS : S.size = 32 := by rw [hS.out, strOfNums_size]; exact hx
  have a1 : ∀ W, (Op.stringOp .add ⟨#[3]⟩ S).run Tryd.prog W = .ok (.string A) W := fun W => by rw [hA.out]; exact join_text _ _ (by show 1 + S.size ≤ _; omega) W
  have X1 : Hid (∀ W, Calls Tryd.prog 36 #[.agg X] W fun e w' => e = .returned (.string S) ∧ Below W.heap.size W w') := Lib.hid fun W => by rw [hX.out, hS.out]; exact hash_any x hx W
  have X2 : Hid (∀ W, Tab W → Calls Tryd.prog 32 #[.string A] W fun e w' => e = .returned (.agg C) ∧ Below W.heap.size W w') := Lib.hid fun W h => by
    have := sum_any A (by rw [hA.out, ByteArray.size_append]; show 1 + S.size ≤ _; omega) W h
    rw [hA.out, hS.out] at this
    rw [hC.out, hA.out, hS.out]; exact this
  have H0 := Lib.hid (ArgH.start w X)
  have HT := Lib.hid hT
  rw [← hX.out, ← hC.out]
  clear zS hT hx
  go_enter Tryd.func24, Tryd.ntmps24
  go_upto_region 1 with fail
  refine world_gen (fun Y => ArgH w Y X) H0.out (fun Y HY => ?_)
  have HQ := Lib.hid HY
  have s1 := HQ.out.1.read zX.out
  go_wp2_with (first
    | (go_at_call 36; (with_reducible refine (X1.out _).mono ?_); rintro e w1 ⟨rfl, hb⟩; have HQ := Lib.hid (HQ.out.next hb); clear hb s1)
    | (go_at_call 32; have hq := HT.out.next HQ.out.2.2; (with_reducible refine (X2.out _ hq).mono ?_); rintro e w2 ⟨rfl, hb⟩; have HQ := Lib.hid (HQ.out.next hb); clear hb hq; have s3 := HQ.out.2.1.write zZ.out zC.out oC.out))
  refine bodyPost_ret (results_cell_row rfl _ _ (w.heap.size + 1) 24 _ (0, 0) _ rfl (HQ.out.2.1.whole _) Tryd.underlying24 rfl (sizeH _ zC.out)) rfl ⟨rfl, below_setRow HQ.out.2.2 (by omega)⟩
set_option maxHeartbeats 1000000 in
theorem at_any (d : List Int) (hd : d.length = 32) (i : Nat) (hi : i ≤ 255) (w : World) :
    Calls Tryd.prog 23 #[.agg (nums .u8 d), .int .i64 (i : Int)] w fun e w' => e = .returned (.int .i64 ((2 * i + bitN d i : Nat) : Int)) ∧ Below w.heap.size w w' := by
  obtain ⟨D, hD⟩ : ∃ X, Hid (X = nums .u8 d) := ⟨_, Lib.hid rfl⟩
  obtain ⟨S, hS⟩ : ∃ S, Hid (S = strOfNums d) := ⟨_, Lib.hid rfl⟩
  obtain ⟨b, hb⟩ : ∃ b, Hid (b = bitN d i) := ⟨_, Lib.hid rfl⟩
  have hb1 : b ≤ 1 := by rw [hb.out]; exact bitN_le d i
  obtain ⟨n, hn⟩ : ∃ n, n = 2 * i + b := ⟨_, rfl⟩
  have zD : Hid (D.size = 32) := Lib.hid (by rw [hD.out, nums_size]; exact hd)
  have X1 : Hid (∀ W, Calls Tryd.prog 36 #[.agg D] W fun e w' => e = .returned (.string S) ∧ Below W.heap.size W w') := Lib.hid fun W => by rw [hD.out, hS.out]; exact hash_any d hd W
  have X2 : Hid (∀ W, Calls Tryd.prog 35 #[.string S, .int .i64 (i : Int)] W fun e w' => e = .returned (.int .i64 (b : Int)) ∧ W = w') := Lib.hid fun W => by
    have := bit_any S (i : Int) W (by rw [hS.out, strOfNums_size, hd]; decide) (by omega)
    rwa [hS.out, bitN_is, ← hS.out, ← hb.out] at this
  have H0 : Hid (Row (w.alloc (.cells D 24)) w.heap.size 24 D ∧ Below w.heap.size w (w.alloc (.cells D 24))) := Lib.hid ⟨Row.made _ _ _, (Below.refl _ _).alloc (Nat.le_refl _) _⟩
  have hw1 : IntKind.i64.wrap (2 * (i : Int)) = 2 * (i : Int) := by rw [IntKind.wrap_i64]; omega
  have hw2 : IntKind.i64.wrap (2 * (i : Int) + (b : Int)) = (n : Int) := by rw [IntKind.wrap_i64]; omega
  rw [← hD.out, ← hb.out, ← hn]
  clear hd hi hb hb1 hn
  go_enter Tryd.func23, Tryd.ntmps23
  go_upto_region 1 with fail
  refine world_gen (fun X => Row X w.heap.size 24 D ∧ Below w.heap.size w X) H0.out (fun X HX => ?_)
  have HX := Lib.hid HX
  have s1 := HX.out.1.read zD.out
  go_wp2_with (first
    | (go_at_call 36; (with_reducible refine (X1.out _).mono ?_); rintro e w1 ⟨rfl, hb⟩; have HB := Lib.hid (below_new HX.out.2 hb); clear hb s1)
    | (go_at_call 35; (with_reducible refine (X2.out _).mono ?_); rintro e w2 ⟨rfl, rfl⟩))
  go_ret
  exact ⟨rfl, HB.out⟩
theorem xor_bit (k b : Nat) (hk : k ≤ 255) (hb : b ≤ 1) : bits .xor .i64 ((2 * k + b : Nat) : Int) 1 = ((2 * k + 1 - b : Nat) : Int) := by
  have oa : (BitVec.ofInt 64 ((2 * k + b : Nat) : Int)).toNat = 2 * k + b := by
    rw [BitVec.toNat_ofInt]; show (((2 * k + b : Nat) : Int) % 18446744073709551616).toNat = _; omega
  have ob : (BitVec.ofInt 64 (1 : Int)).toNat = 1 := by decide
  have hx : (2 * k + b) ^^^ 1 = 2 * k + 1 - b := by
    have h1 : ((2 * k + b) ^^^ 1) / 2 = (2 * k + b) / 2 ^^^ 1 / 2 := Nat.xor_div_two
    have h2 : ((2 * k + b) ^^^ 1) % 2 ^ 1 = (2 * k + b) % 2 ^ 1 ^^^ 1 % 2 ^ 1 := Nat.xor_mod_two_pow
    rw [show 1 / 2 = 0 from rfl, Nat.xor_zero] at h1
    rw [show (2 * k + b) % 2 ^ 1 = b by omega] at h2
    rcases (show b = 0 ∨ b = 1 by omega) with rfl | rfl
    · rw [show 0 ^^^ 1 % 2 ^ 1 = 1 from rfl] at h2; omega
    · rw [show 1 ^^^ 1 % 2 ^ 1 = 0 from rfl] at h2; omega
  show IntKind.i64.wrap ((BitVec.ofInt 64 _ ^^^ BitVec.ofInt 64 1).toNat : Int) = _
  rw [BitVec.toNat_xor, oa, ob, hx, IntKind.wrap_i64]
  omega
set_option maxHeartbeats 1000000 in
theorem beside_any (k b : Nat) (hk : k ≤ 255) (hb : b ≤ 1) (w : World) :
    Calls Tryd.prog 25 #[.int .i64 ((2 * k + b : Nat) : Int)] w fun e w' => e = .returned (.int .i64 ((2 * k + 1 - b : Nat) : Int)) ∧ w = w' := by
  have hx := xor_bit k b hk hb
  obtain ⟨n, hn⟩ : ∃ n, n = 2 * k + b := ⟨_, rfl⟩
  obtain ⟨m, hm⟩ : ∃ m, m = 2 * k + 1 - b := ⟨_, rfl⟩
  rw [← hn, ← hm] at hx ⊢
  clear hn hm hk hb
  go_enter Tryd.func25, Tryd.ntmps25
  go_wp2
  go_ret
  exact ⟨rfl, rfl⟩
end Go.Proofs.YtllabnhgiojmmaaDoor
namespace Go.Proofs.YtllabnhgiojmmaaDoor
open Go.RowKit Go.Great
set_option linter.unusedVariables false
set_option maxRecDepth 100000

attribute [local go_sem ↓ high] read_at write_at
set_option maxHeartbeats 8000000 in
theorem lsecret_any : SecretSays := by
  intro seed index i bit w hT hs hx hi hb
  unfold num64 at hx hi hb
  have H0 := Lib.hid (OutH.start w)
  have zZ : Hid ((nums .u8 (List.replicate 32 0)).size = 32) := Lib.hid (by rw [nums_size]; simp)
  have oZ : Hid ((nums .u8 (List.replicate 32 0)).all (·.oneCell') = true) := Lib.hid (nums_one _ _)
  have hZ := sizeH _ zZ.out
  by_cases h1 : index < 0 ∨ 2147483647 < index
  · have KY : Hid (∀ W, Calls Tryd.prog 20 #[.int .i64 index] W fun e w' => e = .returned (.bool false) ∧ W = w') := Lib.hid fun W => isKey_no index h1 W
    have HF : Hid (secF seed index i bit = zeroL) := Lib.hid (secF_no (by omega))
    rw [HF.out]
    clear hx hi hb hs HF h1
    go_enter Tryd.func11, Tryd.ntmps11
    go_upto_region 1 with fail
    refine world_gen (fun X => OutH w X) H0.out (fun X HX => ?_)
    have HX := Lib.hid HX
    go_wp2_with (first
      | (go_at_call 20; (with_reducible refine (KY.out _).mono ?_); rintro e w1 ⟨rfl, rfl⟩)
      | (refine wpList_store_row rfl 24 _ _ rfl w.heap.size (nums .u8 (List.replicate 32 0)) rfl rfl 24 _ HX.out.1 hZ (by rw [zZ.out]) oZ.out ?_))
    refine bodyPost_ret (results_cell_row rfl _ _ w.heap.size 24 _ (0, 0) _ rfl (HX.out.1.whole _) Tryd.underlying24 rfl hZ) rfl ⟨rfl, below_setRow HX.out.2 (Nat.le_refl _)⟩
  have KY : Hid (∀ W, Calls Tryd.prog 20 #[.int .i64 index] W fun e w' => e = .returned (.bool true) ∧ W = w') := Lib.hid fun W => isKey_yes index (by omega) W
  by_cases h2 : i < 0
  · have d0 : decide (i < 0) = true := decide_eq_true h2
    have HF : Hid (secF seed index i bit = zeroL) := Lib.hid (secF_no (by omega))
    rw [HF.out]
    clear hx hi hb hs HF h1 h2
    go_enter Tryd.func11, Tryd.ntmps11
    go_upto_region 1 with fail
    refine world_gen (fun X => OutH w X) H0.out (fun X HX => ?_)
    have HX := Lib.hid HX
    go_wp2_with (first
      | (go_at_call 20; (with_reducible refine (KY.out _).mono ?_); rintro e w1 ⟨rfl, rfl⟩)
      | (refine wpList_store_row rfl 24 _ _ rfl w.heap.size (nums .u8 (List.replicate 32 0)) rfl rfl 24 _ HX.out.1 hZ (by rw [zZ.out]) oZ.out ?_))
    refine bodyPost_ret (results_cell_row rfl _ _ w.heap.size 24 _ (0, 0) _ rfl (HX.out.1.whole _) Tryd.underlying24 rfl hZ) rfl ⟨rfl, below_setRow HX.out.2 (Nat.le_refl _)⟩
  have d0 : decide (i < 0) = false := decide_eq_false h2
  by_cases h3 : 256 ≤ i
  · have d1 : decide (256 ≤ i) = true := decide_eq_true h3
    have HF : Hid (secF seed index i bit = zeroL) := Lib.hid (secF_no (by omega))
    rw [HF.out]
    clear hx hi hb hs HF h1 h2 h3
    go_enter Tryd.func11, Tryd.ntmps11
    go_upto_region 1 with fail
    refine world_gen (fun X => OutH w X) H0.out (fun X HX => ?_)
    have HX := Lib.hid HX
    go_wp2_with (first
      | (go_at_call 20; (with_reducible refine (KY.out _).mono ?_); rintro e w1 ⟨rfl, rfl⟩)
      | (refine wpList_store_row rfl 24 _ _ rfl w.heap.size (nums .u8 (List.replicate 32 0)) rfl rfl 24 _ HX.out.1 hZ (by rw [zZ.out]) oZ.out ?_))
    refine bodyPost_ret (results_cell_row rfl _ _ w.heap.size 24 _ (0, 0) _ rfl (HX.out.1.whole _) Tryd.underlying24 rfl hZ) rfl ⟨rfl, below_setRow HX.out.2 (Nat.le_refl _)⟩
  have d1 : decide (256 ≤ i) = false := decide_eq_false h3
  by_cases h4 : bit < 0
  · have d2 : decide (bit < 0) = true := decide_eq_true h4
    have HF : Hid (secF seed index i bit = zeroL) := Lib.hid (secF_no (by omega))
    rw [HF.out]
    clear hx hi hb hs HF h1 h2 h3 h4
    go_enter Tryd.func11, Tryd.ntmps11
    go_upto_region 1 with fail
    refine world_gen (fun X => OutH w X) H0.out (fun X HX => ?_)
    have HX := Lib.hid HX
    go_wp2_with (first
      | (go_at_call 20; (with_reducible refine (KY.out _).mono ?_); rintro e w1 ⟨rfl, rfl⟩)
      | (refine wpList_store_row rfl 24 _ _ rfl w.heap.size (nums .u8 (List.replicate 32 0)) rfl rfl 24 _ HX.out.1 hZ (by rw [zZ.out]) oZ.out ?_))
    refine bodyPost_ret (results_cell_row rfl _ _ w.heap.size 24 _ (0, 0) _ rfl (HX.out.1.whole _) Tryd.underlying24 rfl hZ) rfl ⟨rfl, below_setRow HX.out.2 (Nat.le_refl _)⟩
  have d2 : decide (bit < 0) = false := decide_eq_false h4
  by_cases h5 : 1 < bit
  · have d3 : decide (1 < bit) = true := decide_eq_true h5
    have HF : Hid (secF seed index i bit = zeroL) := Lib.hid (secF_no (by omega))
    rw [HF.out]
    clear hx hi hb hs HF h1 h2 h3 h4 h5
    go_enter Tryd.func11, Tryd.ntmps11
    go_upto_region 1 with fail
    refine world_gen (fun X => OutH w X) H0.out (fun X HX => ?_)
    have HX := Lib.hid HX
    go_wp2_with (first
      | (go_at_call 20; (with_reducible refine (KY.out _).mono ?_); rintro e w1 ⟨rfl, rfl⟩)
      | (refine wpList_store_row rfl 24 _ _ rfl w.heap.size (nums .u8 (List.replicate 32 0)) rfl rfl 24 _ HX.out.1 hZ (by rw [zZ.out]) oZ.out ?_))
    refine bodyPost_ret (results_cell_row rfl _ _ w.heap.size 24 _ (0, 0) _ rfl (HX.out.1.whole _) Tryd.underlying24 rfl hZ) rfl ⟨rfl, below_setRow HX.out.2 (Nat.le_refl _)⟩
  have d3 : decide (1 < bit) = false := decide_eq_false h5
  obtain ⟨I, rfl⟩ : ∃ I : Nat, index = I := ⟨index.toNat, by omega⟩
  obtain ⟨K, rfl⟩ : ∃ K : Nat, i = K := ⟨i.toNat, by omega⟩
  obtain ⟨B, rfl⟩ : ∃ B : Nat, bit = B := ⟨bit.toNat, by omega⟩
  rw [secF_ok (by omega) (by omega) (by omega), ← secN_at]
  obtain ⟨C, hC⟩ : ∃ C, Hid (C = nums .u8 (secN seed I (2 * K + B))) := ⟨_, Lib.hid rfl⟩
  have zC : Hid (C.size = 32) := Lib.hid (by rw [hC.out, nums_size]; exact (secN_is _ _ _).1)
  have oC : Hid (C.all (·.oneCell') = true) := Lib.hid (by rw [hC.out]; exact nums_one _ _)
  obtain ⟨T, hTx⟩ : ∃ T, Hid (T = keyT seed I) := ⟨_, Lib.hid rfl⟩
  obtain ⟨n, hn⟩ : ∃ n, n = 2 * K + B := ⟨_, rfl⟩
  have X1 : Hid (∀ W, Calls Tryd.prog 21 #[.string seed, .int .i64 (I : Int)] W fun e w' => e = .returned (.string T) ∧ Below W.heap.size W w') := Lib.hid fun W => by
    rw [hTx.out]; exact keyText_any seed hs I (by omega) W
  have X2 : Hid (∀ W, Tab W → Calls Tryd.prog 22 #[.string T, .int .i64 (n : Int)] W fun e w' => e = .returned (.agg C) ∧ Below W.heap.size W w') := Lib.hid fun W h => by
    have := keyT_size seed I hs
    rw [hC.out, hTx.out, hn]; exact secret_any (keyT seed I) (by omega) (2 * K + B) (by omega) W h
  have hw1 : IntKind.i64.wrap (2 * (K : Int)) = 2 * (K : Int) := by rw [IntKind.wrap_i64]; omega
  have hw2 : IntKind.i64.wrap (2 * (K : Int) + (B : Int)) = (n : Int) := by rw [IntKind.wrap_i64]; omega
  have HT := Lib.hid hT
  rw [← hC.out]
  clear h1 h2 h3 h4 h5 hx hi hb hs hn hT
  go_enter Tryd.func11, Tryd.ntmps11
  go_upto_region 1 with fail
  refine world_gen (fun X => OutH w X) H0.out (fun X HX => ?_)
  have HX := Lib.hid HX
  go_wp2_with (first
    | (go_at_call 20; (with_reducible refine (KY.out _).mono ?_); rintro e w1 ⟨rfl, rfl⟩)
    | (go_at_call 21; (with_reducible refine (X1.out _).mono ?_); rintro e w1 ⟨rfl, hb⟩; have HX := Lib.hid (HX.out.next hb); clear hb)
    | (go_at_call 22; have hq := HT.out.next HX.out.2; (with_reducible refine (X2.out _ hq).mono ?_); rintro e w2 ⟨rfl, hb⟩; have HX := Lib.hid (HX.out.next hb); clear hb hq; have s6 := HX.out.1.write zZ.out zC.out oC.out))
  refine bodyPost_ret (results_cell_row rfl _ _ w.heap.size 24 _ (0, 0) _ rfl (HX.out.1.whole _) Tryd.underlying24 rfl (sizeH _ zC.out)) rfl ⟨rfl, below_setRow HX.out.2 (Nat.le_refl _)⟩
end Go.Proofs.YtllabnhgiojmmaaDoor
namespace Go.Proofs.YtllabnhgiojmmaaDoor
open Go.RowKit Go.Great
set_option linter.unusedVariables false
set_option maxRecDepth 100000

/-- What Sign holds: the digest, and the bytes so far. -/
structure SgnH (w : World) (B : Nat) (wr : World) (D : Array Value) (v : Value) (n : Nat) (bs : List Int) : Prop where
  dig : Row wr w.heap.size 24 D
  own : wr.ownsRow B 5 1 v n (cellsB bs)
  below : Below w.heap.size w wr
  lo : w.heap.size < B
  hi : B ≤ wr.heap.size
section
variable {w wr w1 : World} {B : Nat} {D : Array Value} {v v' : Value} {n m : Nat} {bs us : List Int}
theorem SgnH.next (h : SgnH w B wr D v n bs) (hb : Below wr.heap.size wr w1) : SgnH w B w1 D v n bs :=
  ⟨h.dig.next hb, own_below h.own hb, below_new h.below hb, h.lo, Nat.le_trans h.hi hb.size⟩
theorem SgnH.put (h : SgnH w B wr D v n bs) (h1 : w1.ownsRow B 5 1 v' m (cellsB us)) (hg : wr.grownBy w1 v.ownBlock) : SgnH w B w1 D v' m us :=
  have hb := own_grown h.own hg h.hi
  ⟨h.dig.below hb h.lo, h1, h.below.trans (hb.mono (Nat.le_of_lt h.lo)), h.lo, Nat.le_trans h.hi hb.size⟩
end
attribute [local go_sem ↓ high] read_at write_at
set_option maxHeartbeats 8000000 in
theorem lsign_some (seed : ByteArray) (hs : seed.size ≤ 100000) (index : Nat) (hi : index ≤ 2147483647) (d : List Int) (hd : d.length = 32 ∧ bytes d) (w : World) (hT : Tab w) :
    Calls Tryd.prog 9 #[.string seed, .int .i64 (index : Int), .agg (nums .u8 d)] w fun e w' => e = .returned (.string (strOfNums (sigL seed index d))) ∧ Below w.heap.size w w' := by
  obtain ⟨i0, hi0, hz0, hz1, hz2⟩ := info_parts info_byte
  obtain ⟨D, hD⟩ : ∃ D, Hid (D = nums .u8 d) := ⟨_, Lib.hid rfl⟩
  have zD : Hid (D.size = 32) := Lib.hid (by rw [hD.out, nums_size]; exact hd.1)
  obtain ⟨E, hE⟩ : ∃ E, Hid (E = strOfNums (sigL seed index d)) := ⟨_, Lib.hid rfl⟩
  obtain ⟨T, hTx⟩ : ∃ T, Hid (T = keyT seed index) := ⟨_, Lib.hid rfl⟩
  have KY : Hid (∀ W, Calls Tryd.prog 20 #[.int .i64 (index : Int)] W fun e w' => e = .returned (.bool true) ∧ W = w') := Lib.hid fun W => isKey_yes _ (by omega) W
  have XT : Hid (∀ W, Calls Tryd.prog 21 #[.string seed, .int .i64 (index : Int)] W fun e w' => e = .returned (.string T) ∧ Below W.heap.size W w') := Lib.hid fun W => by
    rw [hTx.out]; exact keyText_any seed hs index (by omega) W
  have SE : Hid (∀ (W : World) (i b : Nat), i ≤ 255 → b ≤ 1 → Tab W → Calls Tryd.prog 22 #[.string T, .int .i64 ((2 * i + b : Nat) : Int)] W fun e w' => e = .returned (.agg (nums .u8 (secL seed index i b))) ∧ Below W.heap.size W w') := Lib.hid fun W i b h1 h2 h => by
    have := keyT_size seed index hs
    rw [hTx.out, ← secN_at]; exact secret_any (keyT seed index) (by omega) (2 * i + b) (by omega) W h
  have AT : Hid (∀ (W : World) (i : Nat), i ≤ 255 → Calls Tryd.prog 23 #[.agg D, .int .i64 (i : Int)] W fun e w' => e = .returned (.int .i64 ((2 * i + bitN d i : Nat) : Int)) ∧ Below W.heap.size W w') := Lib.hid fun W i h => by
    rw [hD.out]; exact at_any d hd.1 i h W
  have H0 : Hid (Row (w.alloc (.cells D 24)) w.heap.size 24 D ∧ Below w.heap.size w (w.alloc (.cells D 24))) := Lib.hid ⟨Row.made _ _ _, (Below.refl _ _).alloc (Nat.le_refl _) _⟩
  have HT := Lib.hid hT
  rw [← hD.out, ← hE.out]
  clear hs hi hd hT
  go_enter Tryd.func9, Tryd.ntmps9
  go_upto_region 1 with fail
  refine world_gen (fun X => Row X w.heap.size 24 D ∧ Below w.heap.size w X) H0.out (fun X HX => ?_)
  have HX := Lib.hid HX
  clear H0
  go_upto_region 5 with (first
    | (go_at_call 20; (with_reducible refine (KY.out _).mono ?_); rintro e w1 ⟨rfl, rfl⟩)
    | (go_at_call 21; (with_reducible refine (XT.out _).mono ?_); rintro e w1 ⟨rfl, hb⟩; have H1 := Lib.hid (And.intro (HX.out.1.next hb) (below_new HX.out.2 hb)); clear hb HX)
    | (at_make; refine wpList_make_own _ rfl _ _ 41 rfl w1.heap.size 5 i0 (.int .u8 0) 1 Tryd.underlying41 hi0 hz0 hz1 _ _ _ 16384 rfl rfl rfl (by rw [hz2]; decide) (by decide) (Nat.le_refl _) ?_; intro w2 hown hgr; have HK : Hid (SgnH w w1.heap.size w2 D (.slice (some ⟨w1.heap.size, 0, none⟩) 0 16384) 0 []) := Lib.hid (by have hb := (Below.refl w1.heap.size w1).grown hgr (Nat.le_refl _) (fun k hk => by cases hk); exact ⟨H1.out.1.next hb, hown, below_new H1.out.2 hb, H1.out.1.lt, hb.size⟩); clear hown hgr H1))
  obtain ⟨B, hB⟩ : ∃ B, B = w1.heap.size := ⟨_, rfl⟩
  rw [← hB] at HK ⊢
  clear hB
  go_wp2
  go_loopw [8, 20] (fun s8 s20 wr => ∃ (k : Nat) (v : Value), s20 = .int .i64 ((k : Nat) : Int) ∧ v = s8 ∧ k ≤ 256 ∧ Hid (SgnH w B wr D v (32 * k) (sigA seed index d k).flatten)) (fun _ s20 _ => (256 - intOf s20).toNat)
  case atStart => exact ⟨0, _, rfl, rfl, by omega, HK⟩
  case round =>
    clear HK
    obtain ⟨k, v, rfl, rfl, hk, HQ⟩ := hrel
    by_cases hlt : k < 256
    · have hwk : IntKind.i64.wrap (k : Int) = (k : Int) := by rw [IntKind.wrap_i64]; omega
      have hkb : Hid (k ≤ 255) := Lib.hid (by omega)
      obtain ⟨b, hb⟩ : ∃ b, Hid (b = bitN d k) := ⟨_, Lib.hid rfl⟩
      have hb1 : Hid (b ≤ 1) := Lib.hid (by rw [hb.out]; exact bitN_le d k)
      obtain ⟨n, hn⟩ : ∃ n, Hid (n = 2 * k + b) := ⟨_, Lib.hid rfl⟩
      obtain ⟨x, hx⟩ : ∃ x, Hid (x = secL seed index k b) := ⟨_, Lib.hid rfl⟩
      obtain ⟨X, hX⟩ : ∃ X, Hid (X = nums .u8 x) := ⟨_, Lib.hid rfl⟩
      have hx32 : Hid (x.length = 32) := Lib.hid (by rw [hx.out]; exact (secL_is _ _ _ _).1)
      have zX : Hid (X.size = 32) := Lib.hid (by rw [hX.out, nums_size]; exact hx32.out)
      have oX : Hid (X.all (·.oneCell') = true) := Lib.hid (by rw [hX.out]; exact nums_one _ _)
      have X1 : Hid (∀ W, Calls Tryd.prog 23 #[.agg D, .int .i64 (k : Int)] W fun e w' => e = .returned (.int .i64 (n : Int)) ∧ Below W.heap.size W w') := Lib.hid fun W => by rw [hn.out, hb.out]; exact AT.out W k hkb.out
      have X2 : Hid (∀ W, Tab W → Calls Tryd.prog 22 #[.string T, .int .i64 (n : Int)] W fun e w' => e = .returned (.agg X) ∧ Below W.heap.size W w') := Lib.hid fun W h => by
        rw [hX.out, hx.out, hn.out]; exact SE.out W k b hkb.out hb1.out h
      have NA : Hid ((sigA seed index d (k + 1)).flatten = (sigA seed index d k).flatten ++ x) := Lib.hid (by rw [sigA_next, List.flatten_append, hx.out, hb.out]; simp)
      have l1 := HQ.out.dig.read zD.out
      go_upto_region 9 with (first
        | (go_at_call 23; (with_reducible refine (X1.out _).mono ?_); rintro e w1 ⟨rfl, hb2⟩; have H1 := Lib.hid (HQ.out.next hb2); clear hb2)
        | (go_at_call 22; (with_reducible refine (X2.out _ (HT.out.next H1.out.below)).mono ?_); rintro e w2 ⟨rfl, hb2⟩; obtain ⟨w3, s3, hr3, hb3, hz3⟩ := made_write w2 X zX.out oX.out; have H3 := Lib.hid ((H1.out.next hb2).next hb3); have HB : Hid (BytesAt w3 ⟨w2.heap.size, 0, none⟩ x) := Lib.hid (Row.bytes (by rw [← hX.out]; exact hr3)); clear hr3 hb3 hz3 hb2))
      clear s3 l1 H1 HQ
      go_wp2_with (at_builtin; refine wpList_appendB rfl (.tmp 28) (.tmp 29) rfl B _ _ _ _ rfl H3.out.own ⟨w2.heap.size, 0, none⟩ 32 32 rfl hx32.out HB.out (by omega) H3.out.hi ?_)
      intro v' w4 hown hg
      have HQ2 : Hid (SgnH w B w4 D v' (32 * (k + 1)) (sigA seed index d (k + 1)).flatten) := Lib.hid (by rw [NA.out, show 32 * (k + 1) = 32 * k + 32 by omega]; exact H3.out.put hown hg)
      clear hown hg H3
      go_wp2
      go_roundw
      case rel => exact ⟨k + 1, _, by go_num, rfl, by omega, HQ2⟩
      case measure => simp [intOf]; omega
    · have hk9 : k = 256 := by omega
      have HK : Hid (SgnH w B wr D v (8192 + 32 * 0) ((sigA seed index d 256).flatten ++ (sigB seed index d 0).flatten)) := Lib.hid (by
        rw [show (sigB seed index d 0).flatten = [] from rfl, List.append_nil]; have := HQ.out; rw [hk9] at this; exact this)
      clear HQ hk9
      go_wp2
      go_loopw [8, 32] (fun s8 s32 wr => ∃ (k : Nat) (v : Value), s32 = .int .i64 ((k : Nat) : Int) ∧ v = s8 ∧ k ≤ 256 ∧ Hid (SgnH w B wr D v (8192 + 32 * k) ((sigA seed index d 256).flatten ++ (sigB seed index d k).flatten))) (fun _ s32 _ => (256 - intOf s32).toNat)
      case atStart => exact ⟨0, _, rfl, rfl, by omega, HK⟩
      case round =>
        clear HK
        obtain ⟨k, v, rfl, rfl, hk, HQ⟩ := hrel
        by_cases hlt : k < 256
        · have hwk : IntKind.i64.wrap (k : Int) = (k : Int) := by rw [IntKind.wrap_i64]; omega
          have hkb : Hid (k ≤ 255) := Lib.hid (by omega)
          obtain ⟨b, hb⟩ : ∃ b, Hid (b = bitN d k) := ⟨_, Lib.hid rfl⟩
          have hb1 : Hid (b ≤ 1) := Lib.hid (by rw [hb.out]; exact bitN_le d k)
          obtain ⟨n, hn⟩ : ∃ n, Hid (n = 2 * k + b) := ⟨_, Lib.hid rfl⟩
          obtain ⟨m, hm⟩ : ∃ m, Hid (m = 2 * k + 1 - b) := ⟨_, Lib.hid rfl⟩
          obtain ⟨X, hX⟩ : ∃ X, Hid (X = nums .u8 (secL seed index k (1 - b))) := ⟨_, Lib.hid rfl⟩
          obtain ⟨y, hy⟩ : ∃ y, Hid (y = pubH (secL seed index k (1 - b))) := ⟨_, Lib.hid rfl⟩
          obtain ⟨Y, hY⟩ : ∃ Y, Hid (Y = nums .u8 y) := ⟨_, Lib.hid rfl⟩
          have hy32 : Hid (y.length = 32) := Lib.hid (by rw [hy.out]; exact (pubH_is _).1)
          have zY : Hid (Y.size = 32) := Lib.hid (by rw [hY.out, nums_size]; exact hy32.out)
          have oY : Hid (Y.all (·.oneCell') = true) := Lib.hid (by rw [hY.out]; exact nums_one _ _)
          have X1 : Hid (∀ W, Calls Tryd.prog 23 #[.agg D, .int .i64 (k : Int)] W fun e w' => e = .returned (.int .i64 (n : Int)) ∧ Below W.heap.size W w') := Lib.hid fun W => by rw [hn.out, hb.out]; exact AT.out W k hkb.out
          have X2 : Hid (∀ W, Calls Tryd.prog 25 #[.int .i64 (n : Int)] W fun e w' => e = .returned (.int .i64 (m : Int)) ∧ W = w') := Lib.hid fun W => by rw [hn.out, hm.out]; exact beside_any k b hkb.out hb1.out W
          have X3 : Hid (∀ W, Tab W → Calls Tryd.prog 22 #[.string T, .int .i64 (m : Int)] W fun e w' => e = .returned (.agg X) ∧ Below W.heap.size W w') := Lib.hid fun W h => by
            have := SE.out W k (1 - b) hkb.out (by omega) h
            rw [show 2 * k + (1 - b) = m by have := hb1.out; have := hm.out; omega] at this
            rw [hX.out]; exact this
          have X4 : Hid (∀ W, Tab W → Calls Tryd.prog 24 #[.agg X] W fun e w' => e = .returned (.agg Y) ∧ Below W.heap.size W w') := Lib.hid fun W h => by
            rw [hX.out, hY.out, hy.out]; exact hashOf_any _ (secL_is _ _ _ _).1 W h
          have NB : Hid ((sigA seed index d 256).flatten ++ (sigB seed index d (k + 1)).flatten = ((sigA seed index d 256).flatten ++ (sigB seed index d k).flatten) ++ y) := Lib.hid (by rw [sigB_next, List.flatten_append, hy.out, hb.out]; simp)
          have l1 := HQ.out.dig.read zD.out
          go_upto_region 15 with (first
            | (go_at_call 23; (with_reducible refine (X1.out _).mono ?_); rintro e w1 ⟨rfl, hb2⟩; have H1 := Lib.hid (HQ.out.next hb2); clear hb2)
            | (go_at_call 25; (with_reducible refine (X2.out _).mono ?_); rintro e w9 ⟨rfl, rfl⟩)
            | (go_at_call 22; (with_reducible refine (X3.out _ (HT.out.next H1.out.below)).mono ?_); rintro e w5 ⟨rfl, hb2⟩; have H5 := Lib.hid (H1.out.next hb2); clear hb2)
            | (go_at_call 24; (with_reducible refine (X4.out _ (HT.out.next H5.out.below)).mono ?_); rintro e w2 ⟨rfl, hb2⟩; obtain ⟨w3, s3, hr3, hb3, hz3⟩ := made_write w2 Y zY.out oY.out; have H3 := Lib.hid ((H5.out.next hb2).next hb3); have HB : Hid (BytesAt w3 ⟨w2.heap.size, 0, none⟩ y) := Lib.hid (Row.bytes (by rw [← hY.out]; exact hr3)); clear hr3 hb3 hz3 hb2))
          clear s3 l1 H1 H5 HQ
          go_wp2_with (at_builtin; refine wpList_appendB rfl (.tmp 42) (.tmp 43) rfl B _ _ _ _ rfl H3.out.own ⟨w2.heap.size, 0, none⟩ 32 32 rfl hy32.out HB.out (by omega) H3.out.hi ?_)
          intro v' w4 hown hg
          have HQ2 : Hid (SgnH w B w4 D v' (8192 + 32 * (k + 1)) ((sigA seed index d 256).flatten ++ (sigB seed index d (k + 1)).flatten)) := Lib.hid (by rw [NB.out, show 8192 + 32 * (k + 1) = 8192 + 32 * k + 32 by omega]; exact H3.out.put hown hg)
          clear hown hg H3
          go_wp2
          go_roundw
          case rel => exact ⟨k + 1, _, by go_num, rfl, by omega, HQ2⟩
          case measure => simp [intOf]; omega
        · have hk9 : k = 256 := by omega
          subst hk9
          have c1 : (convert 41 9 v).run Tryd.prog wr = .ok (.string E) wr := by rw [hE.out]; exact convB HQ.out.own (by decide)
          go_wp2
          go_ret
          exact ⟨rfl, HQ.out.below⟩
set_option maxHeartbeats 1000000 in
theorem lsign_any : SignSays := by
  intro seed index d w hT hs hx hd
  by_cases h : index < 0 ∨ 2147483647 < index
  · rw [sigF_no h]
    have KY : Hid (∀ W, Calls Tryd.prog 20 #[.int .i64 index] W fun e w' => e = .returned (.bool false) ∧ W = w') := Lib.hid fun W => isKey_no _ h W
    obtain ⟨D, hD⟩ : ∃ D, Hid (D = nums .u8 d) := ⟨_, Lib.hid rfl⟩
    have zD : Hid (D.size = 32) := Lib.hid (by rw [hD.out, nums_size]; exact hd.1)
    have H0 : Hid (Below w.heap.size w (w.alloc (.cells D 24))) := Lib.hid ((Below.refl _ _).alloc (Nat.le_refl _) _)
    rw [← hD.out]
    clear h hs hx hd
    go_enter Tryd.func9, Tryd.ntmps9
    go_upto_region 1 with fail
    refine world_gen (fun X => Below w.heap.size w X) H0.out (fun X HX => ?_)
    have HX := Lib.hid HX
    go_wp2_with (go_at_call 20; (with_reducible refine (KY.out _).mono ?_); rintro e w1 ⟨rfl, rfl⟩)
    go_ret
    exact ⟨rfl, HX.out⟩
  · obtain ⟨I, rfl⟩ : ∃ I : Nat, index = I := ⟨index.toNat, by omega⟩
    rw [sigF_ok (by omega)]
    exact lsign_some seed hs I (by omega) d hd w hT
end Go.Proofs.YtllabnhgiojmmaaDoor
namespace Go.Proofs.YtllabnhgiojmmaaDoor
open Go.RowKit Go.Great
set_option linter.unusedVariables false
set_option maxRecDepth 100000

/-- One's own bytes, or the row of a constant text, that is full. -/
def MarkB (w : World) (B : Nat) (v : Value) (n : Nat) (bs : List Int) : Prop :=
  w.ownsRow B 5 1 v n (cellsB bs) ∨ ∃ g, v = .slice (some ⟨g, 0, none⟩) n n ∧ B ≤ g ∧ g < w.heap.size ∧ bs.length = n ∧ BytesAt w ⟨g, 0, none⟩ bs
theorem MarkB.next {w w1 : World} {B : Nat} {v : Value} {n : Nat} {bs : List Int} (h : MarkB w B v n bs) (hb : Below w.heap.size w w1) : MarkB w1 B v n bs := by
  rcases h with h | ⟨g, h1, h2, h3, h4, h5⟩
  · exact .inl (own_below h hb)
  · refine .inr ⟨g, h1, h2, Nat.lt_of_lt_of_le h3 hb.size, h4, fun j hj => ?_⟩
    have e : w1.heap[((⟨g, 0, none⟩ : Addr).add j).block]? = w.heap[((⟨g, 0, none⟩ : Addr).add j).block]? := by rw [add_flat]; exact hb.block g h3
    rw [World.cell?_of_block e]; exact h5 j hj
theorem MarkB.lt {w : World} {B : Nat} {v : Value} {n : Nat} {bs : List Int} (h : MarkB w B v n bs) : ∀ k, v.ownBlock = some k → B ≤ k ∧ k < w.heap.size := by
  rcases h with h | ⟨g, rfl, h2, h3, h4, h5⟩
  · exact h.lt
  · intro k hk
    simp [Value.ownBlock] at hk
    subst hk
    exact ⟨h2, h3⟩
/-- Such a row as it is made. -/
theorem MarkB.made (w : World) (B : Nat) (hB : B ≤ w.heap.size) (bs : List Int) (fz : Nat × Nat) : MarkB (w.alloc (.cells (nums .u8 bs) 5 fz)) B (.slice (some ⟨w.heap.size, 0, none⟩) bs.length bs.length) bs.length bs := by
  refine .inr ⟨w.heap.size, rfl, hB, by simp, rfl, fun j hj => ?_⟩
  rw [add_flat, cell_of_row _ w.heap.size j (nums .u8 bs) 5 fz (heap_alloc_new w _)]
  exact nums_get .u8 bs j hj
theorem conv_const (W : World) (n c : Nat) (C : Array Value) : (convert 41 41 (.slice (some ⟨W.heap.size, 0, none⟩) n c)).run Tryd.prog (W.alloc (.cells C 5)) = .ok (.slice (some ⟨W.heap.size, 0, none⟩) n c) (W.alloc (.cells C 5 (C.size, C.size + 1))) :=
  Lib.run_convert_bytes_const W 41 5 C n c Tryd.underlying41 Tryd.underlying5
theorem run_appendM {ty : TypeId} {w : World} (B : Nat) (v : Value) (n : Nat) (bs us : List Int) (hown : MarkB w B v n bs) (ad : Addr) (m c : Nat) (hm : us.length = m) (h0 : 0 < m) (hU : BytesAt w ad us) (hsm : n + m ≤ 100000) (hB : B ≤ w.heap.size) :
    ∃ v' w', (Builtin.append_ #[41, 41] ty #[v, .slice (some ad) m c]).run Tryd.prog w = .ok v' w' ∧ w'.ownsRow B 5 1 v' (n + m) (cellsB (bs ++ us)) ∧ w.grownBy w' v.ownBlock := by
  obtain ⟨i0, hi, hz0, hz1, hz2⟩ := info_parts info_byte
  subst hm
  have hnews : ∀ (l : List Int) (b : Addr), BytesAt w b l → ∀ j u, (cellsB l)[j]? = some u → w.cell? (b.add j) = some u := fun l b hl j u hj => by
    have hj2 : j < l.length := by
      rcases Nat.lt_or_ge j l.length with h' | h'
      · exact h'
      · rw [List.getElem?_eq_none (by rw [cellsB_length]; exact h')] at hj; cases hj
    rw [cellsB_get l j hj2] at hj
    cases hj
    exact hl j hj2
  rcases hown with hown | ⟨g, rfl, h2, h3, h4, h5⟩
  · obtain ⟨v', w', hr, h1, h2, _⟩ := run_append_own (P := Tryd.prog) w B 41 ty 5 i0 _ 1 1 Tryd.underlying41 hi hz0 hz1 hz2 rfl (by decide) v n (cellsB bs) hown ad us.length c (cellsB us) (by rw [cellsB_length, Nat.mul_one]) (hnews us ad hU) (cellsB_one us) (by unfold maxLen; omega) (by omega) hB
    exact ⟨v', w', hr, by rw [cellsB_app]; exact h1, h2⟩
  · subst h4
    have hr := run_append_grow (P := Tryd.prog) w 41 ty 5 i0 _ Tryd.underlying41 hi hz0 ⟨g, 0, none⟩ bs.length bs.length (cellsB bs) (by rw [cellsB_length, hz1, Nat.mul_one]) (hnews bs _ h5) ad us.length c (cellsB us) (by rw [cellsB_length, hz1, Nat.mul_one]) (hnews us ad hU) (by omega) (by omega) (by rw [hz2]; exact growslice_fits (by omega) (by omega))
    have hge := grownCap_ge w (bs.length + us.length) bs.length 5
    have hcm := grownCap_le_maxLen w (bs.length + us.length) bs.length 5 (by unfold maxLen; omega)
    refine ⟨_, _, hr, ⟨by rw [cellsB_length, List.length_append, Nat.mul_one], .inr ⟨w.heap.size, _, _, rfl, hB, heap_alloc_new w.drew _, hge, hcm, ?_, ?_⟩⟩, ⟨rfl, rfl, rfl, by simp, fun k hk _ => heap_alloc_old w.drew _ hk⟩⟩
    · have hz3 : (Value.int IntKind.u8 0).cells.size = 1 := rfl
      simp only [Array.size_append, List.size_toArray, size_zeroCells, hz3, cellsB_length, Nat.mul_one]
      omega
    · simp only [Array.toList_append, List.append_assoc]
      rw [← List.append_assoc, ← cellsB_app, Nat.mul_one, show bs.length + us.length = (cellsB (bs ++ us)).length by rw [cellsB_length, List.length_append]]
      exact List.take_left
theorem wpList_appendM {ops : Array Oper} {rest : List Oper} {o : Oper} {a : Act} {w : World} {Q : Exit → Act → World → Prop} (hgd : o.guard = none) (s x : Operand) (ho : o.op = .call { callee := .builtin .append, args := #[s, x], argTypes := #[41, 41] })
    (B : Nat) (v : Value) (n : Nat) (bs us : List Int) (hsv : a.eval s = v) (hown : MarkB w B v n bs) (ad : Addr) (m c : Nat) (hx : a.eval x = .slice (some ad) m c) (hm : us.length = m) (h0 : 0 < m) (hU : BytesAt w ad us) (hsm : n + m ≤ 100000) (hB : B ≤ w.heap.size)
    (h : ∀ v' w', w'.ownsRow B 5 1 v' (n + m) (cellsB (bs ++ us)) → w.grownBy w' v.ownBlock → wpList Tryd.prog ops Q rest (a.put o.dst v') w') : wpList Tryd.prog ops Q (o :: rest) a w := by
  refine wpList_plain hgd fun K hK => ?_
  obtain ⟨v', w', hr, h2, h3⟩ := run_appendM (ty := o.type) B v n bs us hown ad m c hm h0 hU hsm hB
  unfold Oper.wp execOp
  simp only [ho, resolve, invoke, builtin, Sem.run_bind, Sem.run_pure, Result.andThen_ok, List.map_toArray, List.map_cons, List.map_nil, hsv, hx, hr]
  exact hK _ _ (h v' w' h2 h3)
end Go.Proofs.YtllabnhgiojmmaaDoor
namespace Go.Proofs.YtllabnhgiojmmaaDoor
open Go.RowKit Go.Great
set_option linter.unusedVariables false
set_option maxRecDepth 100000

/-- What Leaf holds: its result, and the bytes so far. -/
structure KyH (w wr : World) (v : Value) (n : Nat) (bs : List Int) : Prop where
  out : Row wr w.heap.size 24 (nums .u8 (List.replicate 32 0))
  own : MarkB wr (w.heap.size + 1) v n bs
  below : Below w.heap.size w wr
theorem KyH.next {w wr w1 : World} {v : Value} {n : Nat} {bs : List Int} (h : KyH w wr v n bs) (hb : Below wr.heap.size wr w1) : KyH w w1 v n bs := ⟨h.out.next hb, h.own.next hb, below_new h.below hb⟩
theorem KyH.put {w wr w1 : World} {v v' : Value} {n m : Nat} {bs us : List Int} (h : KyH w wr v n bs) (h1 : w1.ownsRow (w.heap.size + 1) 5 1 v' m (cellsB us)) (hg : wr.grownBy w1 v.ownBlock) : KyH w w1 v' m us :=
  ⟨h.out.grown hg (fun e => by have := (h.own.lt _ e.symm).1; omega), .inl h1, h.below.grown hg h.below.size (fun k hk => by have := (h.own.lt k hk).1; omega)⟩
theorem KyH.start {w wx : World} (hr : Row wx w.heap.size 24 (nums .u8 (List.replicate 32 0))) (hb : Below w.heap.size w wx) (fz : Nat × Nat) : KyH w (wx.alloc (.cells (nums .u8 [4]) 5 fz)) (.slice (some ⟨wx.heap.size, 0, none⟩) 1 1) 1 [4] :=
  have hs := hr.lt
  ⟨hr.alloc _, MarkB.made wx _ (by omega) [4] fz, hb.alloc hb.size _⟩
attribute [local go_sem ↓ high] read_at write_at
set_option maxHeartbeats 8000000 in
theorem lkey_any : KeySays := by
  intro ls A c w hT hh hA hc hcm
  obtain ⟨n, hn⟩ : ∃ n, Hid (n = ls.length) := ⟨_, Lib.hid rfl⟩
  have H0 := Lib.hid (OutH.start w)
  have zZ : Hid ((nums .u8 (List.replicate 32 0)).size = 32) := Lib.hid (by rw [nums_size]; simp)
  have oZ : Hid ((nums .u8 (List.replicate 32 0)).all (·.oneCell') = true) := Lib.hid (nums_one _ _)
  have hZ := sizeH _ zZ.out
  have HT := Lib.hid hT
  have hm : n ≤ 9223372036854775807 := by rw [hn.out]; unfold maxLen at hcm; omega
  rw [← hn.out]
  by_cases h5 : n = 512
  · have d1 : ((n : Int) != 512) = false := by rw [h5]; rfl
    have hl : Hid (ls.length = 512) := Lib.hid (by rw [← hn.out]; exact h5)
    have HF : Hid (keyF ls = sumL (strOfNums (4 :: ls.flatten))) := Lib.hid (by rw [keyF_ok hl.out, str_cons]; rfl)
    obtain ⟨C, hC⟩ : ∃ C, Hid (C = nums .u8 (keyF ls)) := ⟨_, Lib.hid rfl⟩
    have zC : Hid (C.size = 32) := Lib.hid (by rw [hC.out, nums_size]; exact (keyF_is _).1)
    have oC : Hid (C.all (·.oneCell') = true) := Lib.hid (by rw [hC.out]; exact nums_one _ _)
    obtain ⟨S, hS⟩ : ∃ S, Hid (S = strOfNums (4 :: ls.flatten)) := ⟨_, Lib.hid rfl⟩
    have X1 : Hid (∀ W, Tab W → Calls Tryd.prog 32 #[.string S] W fun e w' => e = .returned (.agg C) ∧ Below W.heap.size W w') := Lib.hid fun W h => by
      rw [hC.out, HF.out, ← hS.out]
      exact sum_any S (by rw [hS.out, strOfNums_size, List.length_cons, flat_size hh, hl.out]; decide) W h
    obtain ⟨ad, rfl⟩ := hA.some 0 (by rw [hl.out]; decide)
    have HA := Lib.hid hA
    have HH := Lib.hid hh
    rw [← hC.out]
    rw [h5]
    clear hA hh hm hn h5 d1 hT hc hcm
    go_enter Tryd.func18, Tryd.ntmps18
    go_upto_region 1 with fail
    refine world_gen (fun X => OutH w X) H0.out (fun X HX => ?_)
    have HK := Lib.hid (KyH.start HX.1 HX.2 (1, 2))
    clear HX
    have c0 := fun W n c C => conv_const W n c C
    go_wp2
    go_loopw [3, 14] (fun s3 s14 wr => ∃ (k : Nat) (v : Value), s14 = .int .i64 ((k : Nat) : Int) ∧ v = s3 ∧ k ≤ 512 ∧ Hid (KyH w wr v (1 + 32 * k) (4 :: (ls.take k).flatten))) (fun _ s14 _ => (512 - intOf s14).toNat)
    case atStart => exact ⟨0, _, rfl, rfl, by omega, HK⟩
    case round =>
      clear HK
      obtain ⟨k, v, rfl, rfl, hk, HQ⟩ := hrel
      by_cases hlt : k < 512
      · have hkl : k < ls.length := by rw [hl.out]; exact hlt
        have hwk : IntKind.i64.wrap (k : Int) = (k : Int) := by rw [IntKind.wrap_i64]; omega
        have k0 : (0 : Int) ≤ (k : Int) := by omega
        have k1 : (k : Int) < 512 := by omega
        obtain ⟨x, hx⟩ : ∃ x, Hid (x = ls.getD k []) := ⟨_, Lib.hid rfl⟩
        obtain ⟨X, hX⟩ : ∃ X, Hid (X = nums .u8 x) := ⟨_, Lib.hid rfl⟩
        have h32 : Hid (x.length = 32) := Lib.hid (by rw [hx.out]; exact (hashes_at HH.out k hkl).1)
        have zX : Hid (X.size = 32) := Lib.hid (by rw [hX.out, nums_size]; exact h32.out)
        have oX : Hid (X.all (·.oneCell') = true) := Lib.hid (by rw [hX.out]; exact nums_one _ _)
        have l1 : (readAt (.pointer (some (ad.add (k * 32))))).run Tryd.prog wr = .ok (.agg X) wr := by
          rw [hX.out, hx.out]; exact (HA.out.next HQ.out.below (Nat.le_refl _)).read HH.out k hkl
        have HN : Hid (4 :: (ls.take (k + 1)).flatten = (4 :: (ls.take k).flatten) ++ x) := Lib.hid (by
          rw [hx.out, List.take_succ_eq_append_getElem hkl, List.flatten_append, List.getD_eq_getElem?_getD, List.getElem?_eq_getElem hkl]; simp)
        obtain ⟨w2, s2, hr2, hb2, hz2⟩ := made_write wr X zX.out oX.out
        have H2 := Lib.hid (HQ.out.next hb2)
        have HB : Hid (BytesAt w2 ⟨wr.heap.size, 0, none⟩ x) := Lib.hid (Row.bytes (by rw [← hX.out]; exact hr2))
        clear hkl hr2 hb2 hz2
        go_upto_region 7 with fail
        clear s2 l1
        go_wp2_with (at_builtin; refine wpList_appendM rfl (.tmp 18) (.tmp 19) rfl (w.heap.size + 1) _ _ _ _ rfl H2.out.own ⟨wr.heap.size, 0, none⟩ 32 32 rfl h32.out (by decide) HB.out (by omega) (by have := H2.out.out.lt; omega) ?_)
        intro v' w1 hown hg
        have HQ2 : Hid (KyH w w1 v' (1 + 32 * (k + 1)) (4 :: (ls.take (k + 1)).flatten)) := Lib.hid (by rw [HN.out, show 1 + 32 * (k + 1) = 1 + 32 * k + 32 by omega]; exact H2.out.put hown hg)
        clear hown hg
        go_wp2
        go_roundw
        case rel => exact ⟨k + 1, _, by go_num, rfl, by omega, HQ2⟩
        case measure => simp [intOf]; omega
      · have hk9 : k = 512 := by omega
        have HQ2 : Hid (KyH w wr v 16385 (4 :: ls.flatten)) := Lib.hid (by
          have := HQ.out
          rw [hk9, List.take_of_length_le (by rw [hl.out]; exact Nat.le_refl _)] at this
          exact this)
        clear HQ
        subst hk9
        have c1 : (convert 41 9 v).run Tryd.prog wr = .ok (.string S) wr := by
          rw [hS.out]
          rcases HQ2.out.own with h | ⟨g, h1, _, _, h4, h5⟩
          · exact convB h (by decide)
          · subst h1
            exact run_convert_bytes_arg wr 41 5 Tryd.underlying41 Tryd.underlying5 g 0 16385 16385 (4 :: ls.flatten) h4 (fun i hi => by have := h5 i (by omega); rw [add_flat] at this; rw [Nat.zero_add]; exact this) 9 Tryd.underlying9
        go_wp2_with (go_at_call 32; (with_reducible refine (X1.out _ (HT.out.next HQ2.out.below)).mono ?_); rintro e w1 ⟨rfl, hb⟩; have HR := Lib.hid (HQ2.out.out.next hb); have HB := Lib.hid (below_new HQ2.out.below hb); clear hb c1; have s6 := HR.out.write zZ.out zC.out oC.out)
        refine bodyPost_ret (results_cell_row rfl _ _ w.heap.size 24 _ (0, 0) _ rfl (HR.out.whole _) Tryd.underlying24 rfl (sizeH _ zC.out)) rfl ⟨rfl, below_setRow HB.out (Nat.le_refl _)⟩
  · have d1 : ((n : Int) != 512) = true := by simp; omega
    have HF : Hid (keyF ls = zeroL) := Lib.hid (keyF_no (by rw [← hn.out]; exact h5))
    clear hA hh hm h5 hT hc hcm
    go_enter Tryd.func18, Tryd.ntmps18
    go_upto_region 1 with fail
    refine world_gen (fun X => OutH w X) H0.out (fun X HX => ?_)
    have HX := Lib.hid HX
    go_wp2_with (refine wpList_store_row rfl 24 _ _ rfl w.heap.size (nums .u8 (List.replicate 32 0)) rfl rfl 24 _ HX.out.1 hZ (by rw [zZ.out]) oZ.out ?_)
    refine bodyPost_ret (results_cell_row rfl _ _ w.heap.size 24 _ (0, 0) _ rfl (HX.out.1.whole _) Tryd.underlying24 rfl hZ) rfl ⟨by rw [HF.out]; rfl, below_setRow HX.out.2 (Nat.le_refl _)⟩
end Go.Proofs.YtllabnhgiojmmaaDoor
namespace Go.Proofs.YtllabnhgiojmmaaDoor
open Go.RowKit Go.Great
set_option linter.unusedVariables false
set_option maxRecDepth 100000

theorem there_low {w w1 : World} {g o n B : Nat} (h : w.there g o n) (hb : Below B w w1) (hg : g < B) : w1.there g o n := fun j hj =>
  have e := hb.block g hg
  ⟨by rw [World.cell?_of_block e]; exact (h j hj).1, by rw [World.frozen?_of_block e]; exact (h j hj).2⟩
theorem RecH.far {w wr w1 : World} {D : Array Value} {ms : List (List Int)} (h : RecH w wr D ms) (hb : Below (w.heap.size + 3) wr w1) : RecH w w1 D ms :=
  ⟨h.dig.below hb (by omega), h.out.below hb (by omega), h.lst.next hb (Nat.le_refl _), fun k hk => there_low (h.room k hk) hb (by omega), h.below.trans (hb.mono (by omega)), Nat.le_trans h.size hb.size⟩
/-- And beside it a hash in a block of its own. -/
structure RecO (w wr : World) (D : Array Value) (ms : List (List Int)) (g : Nat) (C : Array Value) : Prop where
  rec_ : RecH w wr D ms
  row : Row wr g 24 C
  lo : w.heap.size + 3 ≤ g
theorem RecO.next {w wr w1 : World} {D C : Array Value} {ms : List (List Int)} {g : Nat} (h : RecO w wr D ms g C) (hb : Below wr.heap.size wr w1) : RecO w w1 D ms g C := ⟨h.rec_.next hb, h.row.next hb, h.lo⟩
theorem RecO.start {w wr : World} {D : Array Value} {ms : List (List Int)} (h : RecH w wr D ms) : RecO w (wr.alloc (.cells (nums .u8 (List.replicate 32 0)) 24)) D ms wr.heap.size (nums .u8 (List.replicate 32 0)) :=
  ⟨h.next ((Below.refl _ _).alloc (Nat.le_refl _) _), Row.made _ _ _, h.size⟩
theorem RecO.put {w wr : World} {D C C' : Array Value} {ms : List (List Int)} {g : Nat} (h : RecO w wr D ms g C) : RecO w (wr.setRow g C') D ms g C' :=
  ⟨h.rec_.far (below_setRow (Below.refl _ _) h.lo), h.row.whole _, h.lo⟩
theorem text_take (s : ByteArray) (a b k : Nat) (h : 32 * k + 32 ≤ b) (hb : a + b ≤ s.size) : ((((textL s).drop a).take b).drop (32 * k)).take 32 = ((textL s).drop (a + 32 * k)).take 32 := by
  rw [List.drop_take, List.take_take, List.drop_drop, show min 32 (b - 32 * k) = 32 by omega]
attribute [local go_sem ↓ high] read_at write_at
set_option maxHeartbeats 8000000 in
theorem lrecover_any : RecoverSays := by
  intro s d w hT hs hd
  unfold maxLen at hs
  obtain ⟨i0, hi0, hz0, hz1, hz2⟩ := info_parts infoHash
  obtain ⟨D, hD⟩ : ∃ D, Hid (D = nums .u8 d) := ⟨_, Lib.hid rfl⟩
  have zD : Hid (D.size = 32) := Lib.hid (by rw [hD.out, nums_size]; exact hd.1)
  have zZ : Hid ((nums .u8 (List.replicate 32 0)).size = 32) := Lib.hid (by rw [nums_size]; simp)
  have oZ : Hid ((nums .u8 (List.replicate 32 0)).all (·.oneCell') = true) := Lib.hid (nums_one _ _)
  have hZ := sizeH _ zZ.out
  have H0 := Lib.hid (RecX.start w D)
  have HT := Lib.hid hT
  rw [← hD.out]
  by_cases hs6 : s.size = 16384
  · obtain ⟨T, hTx⟩ : ∃ T, Hid (T = textL s) := ⟨_, Lib.hid rfl⟩
    have HLB : Hid (T.length = 16384 ∧ bytes T) := Lib.hid (by rw [hTx.out]; exact ⟨by rw [textL_length, hs6], textL_bytes s⟩)
    have HF : Hid (recF s d = (keyF (recL T d), 0)) := Lib.hid (by rw [recF_ok hs6, hTx.out])
    have AT : Hid (∀ (W : World) (i : Nat), i ≤ 255 → Calls Tryd.prog 23 #[.agg D, .int .i64 (i : Int)] W fun e w' => e = .returned (.int .i64 ((2 * i + bitN d i : Nat) : Int)) ∧ Below W.heap.size W w') := Lib.hid fun W i h => by
      rw [hD.out]; exact at_any d hd.1 i h W
    have KY : Hid (∀ (W : World) (c : Nat), Tab W → HL W W.heap.size (some ⟨w.heap.size + 2, 0, none⟩) (recL T d) → 512 ≤ c ∧ c ≤ maxLen → Calls Tryd.prog 18 #[.slice (some ⟨w.heap.size + 2, 0, none⟩) 512 c] W fun e w' => e = .returned (.agg (nums .u8 (keyF (recL T d)))) ∧ Below W.heap.size W w') := Lib.hid fun W c hW h hc => by
      have := lkey_any (recL T d) _ c W hW (recL_hashes T d HLB.out.2 HLB.out.1) h (by rw [recL_length]; exact hc.1) hc.2
      rwa [recL_length] at this
    have UH : Hid (∀ (a : ByteArray) (W : World), 32 ≤ a.size → a.size ≤ 16384 → Calls Tryd.prog 30 #[.string a] W fun e w' => e = .returned (.tuple #[.agg (nums .u8 ((textL a).take 32)), .string (a.extract 32 a.size), .bool true]) ∧ Below W.heap.size W w') := Lib.hid fun a W h1 h2 => by
      have := unhash_any a (by unfold maxLen; omega) W
      rwa [unhV_yes a (by omega)] at this
    obtain ⟨C, hC⟩ : ∃ C, Hid (C = nums .u8 (keyF (recL T d))) := ⟨_, Lib.hid rfl⟩
    have zC : Hid (C.size = 32) := Lib.hid (by rw [hC.out, nums_size]; exact (keyF_is _).1)
    have oC : Hid (C.all (·.oneCell') = true) := Lib.hid (by rw [hC.out]; exact nums_one _ _)
    have n1 : (s.size : Int) = 16384 := by omega
    have TA : Hid (textL (s.extract 0 8192) = (T.drop 0).take 8192) := Lib.hid (by rw [textL_extract, hTx.out])
    have TB : Hid (textL (s.extract 8192 16384) = (T.drop 8192).take 8192) := Lib.hid (by rw [textL_extract, hTx.out])
    have TC : Hid (∀ a b k : Nat, 32 * k + 32 ≤ b → a + b ≤ 16384 → (((T.drop a).take b).drop (32 * k)).take 32 = (T.drop (a + 32 * k)).take 32) := Lib.hid fun a b k h1 h2 => by
      rw [hTx.out]; exact text_take s a b k h1 (by rw [hs6]; exact h2)
    have TL : Hid (∀ a b k : Nat, a + b ≤ 16384 → (((T.drop a).take b).drop (32 * k)).length = b - 32 * k) := Lib.hid fun a b k h => by
      rw [List.length_drop, List.length_take, List.length_drop, HLB.out.1]; omega
    rw [HF.out]
    show Calls _ _ _ _ fun e w' => e = .returned (.tuple #[.agg (nums .u8 (keyF (recL T d))), .int .i64 0]) ∧ Below w.heap.size w w'
    rw [← hC.out] at KY ⊢
    clear hd hD hs hC hT
    go_enter Tryd.func13, Tryd.ntmps13
    go_upto_region 1 with fail
    refine world_gen (fun X => RecX w X D) H0.out (fun X HX => ?_)
    have HX : Hid (RecX w X.drew D) := Lib.hid ⟨HX.1, HX.2.1.drew, HX.2.2.1.drew, HX.2.2.2.drew⟩
    clear H0
    go_upto_region 3 with fail
    refine wp_region_fk (fun _ => True) (.get 0 (.get 1 (.get 2 (.get 3 (.get 4 (.get 5 .done)))))) (by kernel_rfl) rfl (by kernel_rfl) (by kernel_rfl) (by intro c a d v w h; cases d <;> exact h) trivial (fun Q' hQ => ?_)
    have HS : Hid True := Lib.hid trivial
    have HQ := Lib.hid hQ
    clear hQ
    refine wpFk_get rfl (by rfl) (fun K hK => ?_)
    refine ⟨?_, fun w' hS' => ?_, ?_⟩
    rotate_left
    · go_simp
      try (with_reducible rfl)
    try go_simp
    refine hK _ ?_
    clear hK K
    refine wpFk_get rfl (by rfl) (fun K hK => ?_)
    refine ⟨?_, fun w' hS' => ?_, ?_⟩
    rotate_left
    · go_simp
      try (with_reducible rfl)
    try go_simp
    refine hK _ ?_
    clear hK K
    refine wpFk_get rfl (by rfl) (fun K hK => ?_)
    refine ⟨?_, fun w' hS' => ?_, ?_⟩
    rotate_left
    · go_simp
      try (with_reducible rfl)
    try go_simp
    refine hK _ ?_
    clear hK K
    refine wpFk_get rfl (by rfl) (fun K hK => ?_)
    refine ⟨?_, fun w' hS' => ?_, ?_⟩
    rotate_left
    · go_simp
      try (with_reducible rfl)
    try go_simp
    refine hK _ ?_
    clear hK K
    refine wpFk_get rfl (by rfl) (fun K hK => ?_)
    refine ⟨?_, fun w' hS' => ?_, ?_⟩
    rotate_left
    · go_simp
      try (with_reducible rfl)
    try go_simp
    refine hK _ ?_
    clear hK K
    refine wpFk_get rfl (by rfl) (fun K hK => ?_)
    refine ⟨?_, fun w' hS' => ?_, ?_⟩
    rotate_left
    · go_simp
      try (with_reducible rfl)
    try go_simp
    refine hK _ ?_
    clear hK K
    refine wpFk_done ?_
    refine HQ.out _ _ ?_
    clear HQ HS
    go_upto_region 5 with (at_make; refine wpList_make_full _ rfl _ _ 33 rfl (w.heap.size + 2) 24 i0 _ 32 Tryd.underlying33 hi0 hz0 hz1 _ _ _ _ 512 rfl rfl rfl rfl (by rw [hz2]; decide) (by decide) (by rw [HX.out.1]; exact Nat.le_refl _) ?_; rw [HX.out.1]; intro w1 hown hgr; have HK := Lib.hid (RecH.start HX.out.1 HX.out.2.1 HX.out.2.2.1 HX.out.2.2.2 T d hown hgr); clear hown hgr HX)
    go_wp2
    go_loopw [6, 7, 21] (fun s6 s7 s21 wr => ∃ (k : Nat) (a b : ByteArray), s21 = .int .i64 ((k : Nat) : Int) ∧ s6 = .string a ∧ s7 = .string b ∧ k ≤ 256 ∧ Hid (textL a = ((T.drop 0).take 8192).drop (32 * k) ∧ textL b = ((T.drop 8192).take 8192).drop (32 * k)) ∧ Hid (RecH w wr D (recM T d k))) (fun _ _ s21 _ => (256 - intOf s21).toNat)
    case atStart => exact ⟨0, _, _, rfl, rfl, rfl, by omega, Lib.hid ⟨TA.out, TB.out⟩, HK⟩
    case round =>
      clear HK TA TB
      obtain ⟨k, a, b, rfl, rfl, rfl, hk, HTT, HQ⟩ := hrel
      by_cases hlt : k < 256
      · have hwk : IntKind.i64.wrap (k : Int) = (k : Int) := by rw [IntKind.wrap_i64]; omega
        have hkb : Hid (k ≤ 255) := Lib.hid (by omega)
        obtain ⟨q, hq⟩ : ∃ q, Hid (q = bitN d k) := ⟨_, Lib.hid rfl⟩
        have hq1 : q ≤ 1 := by rw [hq.out]; exact bitN_le d k
        obtain ⟨u, hu⟩ : ∃ u, Hid (u = 2 * k + q) := ⟨_, Lib.hid rfl⟩
        obtain ⟨v, hv⟩ : ∃ v, Hid (v = 2 * k + 1 - q) := ⟨_, Lib.hid rfl⟩
        have sza : a.size = 8192 - 32 * k := by rw [← textL_length, HTT.out.1]; exact TL.out 0 8192 k (by decide)
        have szb : b.size = 8192 - 32 * k := by rw [← textL_length, HTT.out.2]; exact TL.out 8192 8192 k (by decide)
        obtain ⟨x, hx⟩ : ∃ x, Hid (x = (T.drop (32 * k)).take 32) := ⟨_, Lib.hid rfl⟩
        obtain ⟨z, hz⟩ : ∃ z, Hid (z = (T.drop (8192 + 32 * k)).take 32) := ⟨_, Lib.hid rfl⟩
        have ex : (textL a).take 32 = x := by rw [HTT.out.1, hx.out, TC.out 0 8192 k (by omega) (by decide), Nat.zero_add]
        have ez : (textL b).take 32 = z := by rw [HTT.out.2, hz.out, TC.out 8192 8192 k (by omega) (by decide)]
        have hx32 : Hid (x.length = 32) := Lib.hid (by rw [← ex, List.length_take, textL_length]; omega)
        have hz32 : Hid (z.length = 32) := Lib.hid (by rw [← ez, List.length_take, textL_length]; omega)
        obtain ⟨X1, hX1⟩ : ∃ X, Hid (X = nums .u8 x) := ⟨_, Lib.hid rfl⟩
        have zX : Hid (X1.size = 32) := Lib.hid (by rw [hX1.out, nums_size]; exact hx32.out)
        have oX : Hid (X1.all (·.oneCell') = true) := Lib.hid (by rw [hX1.out]; exact nums_one _ _)
        obtain ⟨y, hy⟩ : ∃ y, Hid (y = pubH x) := ⟨_, Lib.hid rfl⟩
        obtain ⟨Y, hY⟩ : ∃ Y, Hid (Y = nums .u8 y) := ⟨_, Lib.hid rfl⟩
        have hy32 : Hid (y.length = 32) := Lib.hid (by rw [hy.out]; exact (pubH_is _).1)
        have zY : Hid (Y.size = 32) := Lib.hid (by rw [hY.out, nums_size]; exact hy32.out)
        have oY : Hid (Y.all (·.oneCell') = true) := Lib.hid (by rw [hY.out]; exact nums_one _ _)
        obtain ⟨Z, hZz⟩ : ∃ Z, Hid (Z = nums .u8 z) := ⟨_, Lib.hid rfl⟩
        have zZz : Hid (Z.size = 32) := Lib.hid (by rw [hZz.out, nums_size]; exact hz32.out)
        have oZz : Hid (Z.all (·.oneCell') = true) := Lib.hid (by rw [hZz.out]; exact nums_one _ _)
        obtain ⟨a2, ha2⟩ : ∃ c, Hid (c = a.extract 32 a.size) := ⟨_, Lib.hid rfl⟩
        obtain ⟨b2, hb2⟩ : ∃ c, Hid (c = b.extract 32 b.size) := ⟨_, Lib.hid rfl⟩
        have HTN : Hid (textL a2 = ((T.drop 0).take 8192).drop (32 * (k + 1)) ∧ textL b2 = ((T.drop 8192).take 8192).drop (32 * (k + 1))) := Lib.hid ⟨by
          rw [ha2.out, textL_rest, HTT.out.1, List.drop_drop]; rfl, by rw [hb2.out, textL_rest, HTT.out.2, List.drop_drop]; rfl⟩
        have C1 : Hid (∀ W, Calls Tryd.prog 23 #[.agg D, .int .i64 (k : Int)] W fun e w' => e = .returned (.int .i64 (u : Int)) ∧ Below W.heap.size W w') := Lib.hid fun W => by rw [hu.out, hq.out]; exact AT.out W k hkb.out
        have C2 : Hid (∀ W, Calls Tryd.prog 30 #[.string a] W fun e w' => e = .returned (.tuple #[.agg X1, .string a2, .bool true]) ∧ Below W.heap.size W w') := Lib.hid fun W => by
          have := UH.out a W (by omega) (by omega)
          rw [ex] at this
          rw [hX1.out, ha2.out]; exact this
        have C3 : Hid (∀ W, Tab W → Calls Tryd.prog 24 #[.agg X1] W fun e w' => e = .returned (.agg Y) ∧ Below W.heap.size W w') := Lib.hid fun W h => by
          rw [hX1.out, hY.out, hy.out]; exact hashOf_any x hx32.out W h
        have C4 : Hid (∀ W, Calls Tryd.prog 25 #[.int .i64 (u : Int)] W fun e w' => e = .returned (.int .i64 (v : Int)) ∧ W = w') := Lib.hid fun W => by rw [hu.out, hv.out]; exact beside_any k q hkb.out hq1 W
        have C5 : Hid (∀ W, Calls Tryd.prog 30 #[.string b] W fun e w' => e = .returned (.tuple #[.agg Z, .string b2, .bool true]) ∧ Below W.heap.size W w') := Lib.hid fun W => by
          have := UH.out b W (by omega) (by omega)
          rw [ez] at this
          rw [hZz.out, hb2.out]; exact this
        have u1 : (u : Int) < 512 := by have := hu.out; omega
        have v1 : (v : Int) < 512 := by have := hv.out; omega
        have u2 : Hid (u < 512) := Lib.hid (by omega)
        have v2 : Hid (v < 512) := Lib.hid (by omega)
        have NM : Hid (((recM T d k).set u y).set v z = recM T d (k + 1)) := Lib.hid (by rw [hu.out, hv.out, hy.out, hz.out, hx.out]; exact recM_step T d k q (by have := hkb.out; omega) hq.out)
        have hy6 := sizeH _ zY.out
        have hz6 := sizeH _ zZz.out
        have l1 := HQ.out.dig.read zD.out
        clear sza szb ex ez hq1
        go_upto_region 10 with (go_at_call 23; (with_reducible refine (C1.out _).mono ?_); rintro e w1 ⟨rfl, hb⟩; have H1 := Lib.hid (HQ.out.next hb); clear hb)
        clear l1 HQ
        refine world_gen (fun X => RecO w X D (recM T d k) w1.heap.size (nums .u8 (List.replicate 32 0))) (RecO.start H1.out) (fun W2 H2 => ?_)
        have H2 := Lib.hid H2
        clear H1
        obtain ⟨g, hg⟩ : ∃ g, g = w1.heap.size := ⟨_, rfl⟩
        rw [← hg] at H2 ⊢
        clear hg
        go_upto_region 11 with (go_at_call 30; (with_reducible refine (C2.out _).mono ?_); rintro e w3 ⟨rfl, hb⟩; have H3 := Lib.hid (H2.out.next hb); clear hb; have s3 := H3.out.row.write zZ.out zX.out oX.out)
        refine world_gen (fun X => RecO w X D (recM T d k) g X1) H3.out.put (fun W4 H4 => ?_)
        have H4 := Lib.hid H4
        clear s3 H3 H2
        have l2 := H4.out.row.read zX.out
        go_upto_region 12 with (first
          | (go_at_call 24; (with_reducible refine (C3.out _ (HT.out.next H4.out.rec_.below)).mono ?_); rintro e w5 ⟨rfl, hb⟩; have H5 := Lib.hid (H4.out.rec_.next hb); clear hb)
          | (refine wpList_store_mid rfl 24 _ _ rfl (w.heap.size + 2) (u * 32) Y rfl rfl (by rw [zY.out]; exact H5.out.room u u2.out) hy6 oY.out ?_))
        have H6 : Hid (RecH w (w5.setCells (w.heap.size + 2) (u * 32) Y.toList) D ((recM T d k).set u y)) := Lib.hid (by rw [hY.out]; exact H5.out.put u u2.out (recM_length _ _ _) y hy32.out)
        refine world_gen (fun X => RecH w X D ((recM T d k).set u y)) H6.out (fun W7 H7 => ?_)
        have H7 := Lib.hid H7
        clear H6 H5 H4 l2
        go_upto_region 13 with (first
          | (go_at_call 25; (with_reducible refine (C4.out _).mono ?_); rintro e w8 ⟨rfl, rfl⟩)
          | (go_at_call 30; (with_reducible refine (C5.out _).mono ?_); rintro e w9 ⟨rfl, hb⟩; have H9 := Lib.hid (H7.out.next hb); clear hb)
          | (refine wpList_store_mid rfl 24 _ _ rfl (w.heap.size + 2) (v * 32) Z rfl rfl (by rw [zZz.out]; exact H9.out.room v v2.out) hz6 oZz.out ?_))
        have HQ2 : Hid (RecH w (w9.setCells (w.heap.size + 2) (v * 32) Z.toList) D (recM T d (k + 1))) := Lib.hid (by rw [← NM.out, hZz.out]; exact H9.out.put v v2.out (by rw [List.length_set]; exact recM_length _ _ _) z hz32.out)
        go_wp2
        go_roundw
        case rel => exact ⟨k + 1, a2, b2, by go_num, rfl, rfl, by omega, HTN, HQ2⟩
        case measure => simp [intOf]; omega
      · have hk9 : k = 256 := by omega
        have HE : Hid (RecH w wr D (recL T d)) := Lib.hid (by have := HQ.out; rw [hk9, recM_done] at this; exact this)
        clear HQ hk9
        go_wp2_with (go_at_call 18; (with_reducible refine (KY.out _ _ (HT.out.next HE.out.below) HE.out.list ⟨by decide, by decide⟩).mono ?_); rintro e w1 ⟨rfl, hb⟩; have H1 := Lib.hid (HE.out.next hb); clear hb HE; have s6 := H1.out.out.write zZ.out zC.out oC.out)
        refine bodyPost_ret (results_row2 rfl _ _ (w.heap.size + 1) 24 _ (0, 0) _ rfl (H1.out.out.whole C) Tryd.underlying24 rfl (sizeH _ zC.out) _ rfl) rfl ⟨rfl, below_setRow H1.out.below (by omega)⟩
  · have d1 : ((s.size : Int) != 16384) = true := by simp; omega
    rw [recF_no hs6]
    show Calls _ _ _ _ fun e w' => e = .returned (.tuple #[.agg (nums .u8 (List.replicate 32 0)), .int .i64 10]) ∧ Below w.heap.size w w'
    clear hd hs6
    go_enter Tryd.func13, Tryd.ntmps13
    go_upto_region 1 with fail
    refine world_gen (fun X => RecX w X D) H0.out (fun X HX => ?_)
    have HX := Lib.hid HX
    go_wp2_with (refine wpList_store_row rfl 24 _ _ rfl (w.heap.size + 1) (nums .u8 (List.replicate 32 0)) rfl rfl 24 _ HX.out.2.2.1 hZ (by rw [zZ.out]) oZ.out ?_)
    refine bodyPost_ret (results_row2 rfl _ _ (w.heap.size + 1) 24 _ (0, 0) _ rfl (HX.out.2.2.1.whole _) Tryd.underlying24 rfl hZ _ rfl) rfl ⟨rfl, below_setRow HX.out.2.2.2 (by omega)⟩
end Go.Proofs.YtllabnhgiojmmaaDoor
namespace Go.Proofs.YtllabnhgiojmmaaDoor
open Go.RowKit Go.Great
set_option linter.unusedVariables false
set_option maxRecDepth 100000

/-- The public hashes so far: the first k, zero behind them. -/
def pubM (seed : ByteArray) (index k : Nat) : List (List Int) := (List.range 512).map fun j => if j < k then pubAt seed index j else zeroL
theorem pubM_length (seed : ByteArray) (index k : Nat) : (pubM seed index k).length = 512 := by simp [pubM]
theorem pubM_get (seed : ByteArray) (index k j : Nat) (h : j < 512) : (pubM seed index k).getD j [] = if j < k then pubAt seed index j else zeroL := by simp [pubM, List.getD, h]
theorem pubM_done (seed : ByteArray) (index : Nat) : pubM seed index 512 = pubN seed index 512 := by
  unfold pubM pubN
  refine List.map_congr_left (fun j hj => ?_)
  have hj : j < 512 := by simpa using hj
  rw [if_pos hj]
theorem pubM_step (seed : ByteArray) (index k : Nat) : (pubM seed index k).set k (pubAt seed index k) = pubM seed index (k + 1) := by
  refine list_getD_ext (by simp [pubM_length]) (fun j hj => ?_)
  have hj : j < 512 := by simpa [pubM_length] using hj
  rw [setL_getD _ _ _ _ (by rw [pubM_length]; exact hj), pubM_get _ _ _ _ hj, pubM_get _ _ _ _ hj]
  by_cases h1 : j = k
  · rw [if_pos h1, if_pos (by omega), h1]
  · rw [if_neg h1]
    by_cases h2 : j < k
    · rw [if_pos h2, if_pos (by omega)]
    · rw [if_neg h2, if_neg (by omega)]
/-- What Public holds: its list. -/
structure PubH (w wr : World) (g : Nat) (ms : List (List Int)) : Prop where
  lst : HL wr (g + 1) (some ⟨g, 0, none⟩) ms
  room : ∀ k, k < 512 → wr.there g (k * 32) 32
  below : Below w.heap.size w wr
  lo : w.heap.size ≤ g
  size : g + 1 ≤ wr.heap.size
section
variable {w wr w1 : World} {g : Nat} {ms : List (List Int)}
theorem PubH.next (h : PubH w wr g ms) (hb : Below wr.heap.size wr w1) : PubH w w1 g ms :=
  ⟨h.lst.next hb h.size, fun k hk => there_next (h.room k hk) hb (by have := h.size; omega), below_new h.below hb, h.lo, Nat.le_trans h.size hb.size⟩
theorem PubH.put (h : PubH w wr g ms) (k : Nat) (hk : k < 512) (hm : ms.length = 512) (x : List Int) (hx : x.length = 32) : PubH w (wr.setCells g (k * 32) (nums .u8 x).toList) g (ms.set k x) :=
  have hb : Below g wr (wr.setCells g (k * 32) (nums .u8 x).toList) := below_setCells_w (Nat.le_refl _) _ _ _
  ⟨h.lst.set k (by rw [hm]; exact hk) x hx (h.room k hk), fun j hj => World.there_setCells (h.room j hj) _ _ _, h.below.trans (hb.mono h.lo), h.lo, by rw [size_setCells]; exact h.size⟩
theorem PubH.list (h : PubH w wr g ms) : HL wr wr.heap.size (some ⟨g, 0, none⟩) ms := h.lst.more h.size
end
theorem PubH.start {w wx w1 : World} {seed : ByteArray} {index : Nat} (h3 : Below w.heap.size w wx)
    (h4 : w1.ownsRow wx.heap.size 24 32 (.slice (some ⟨wx.heap.size, 0, none⟩) 512 512) 512 (madeCells (Value.agg (nums .u8 (List.replicate 32 0))).cells (512 * 32)).toList) (h5 : wx.grownBy w1 none) : PubH w w1 wx.heap.size (pubM seed index 0) := by
  have hb : Below wx.heap.size wx w1 := (Below.refl _ _).grown h5 (Nat.le_refl _) (fun k hk => by cases hk)
  refine ⟨?_, fun k hk => own_room h4 k hk, below_new h3 hb, h3.size, by have : wx.heap.size < w1.heap.size := (h4.lt _ rfl).2; omega⟩
  intro i hi
  rw [pubM_length] at hi
  refine ⟨_, rfl, by show wx.heap.size < _; omega, fun j hj => ?_⟩
  rw [pubM_get _ _ _ _ hi, if_neg (by omega)]
  have e := h4.cells (g := wx.heap.size) rfl (i * 32 + j) (.int .u8 0) (zero_cell _ rfl _ _ (by omega))
  rw [e]
  unfold zeroL
  rw [List.getD_eq_getElem?_getD, List.getElem?_replicate, if_pos hj]; rfl
attribute [local go_sem ↓ high] read_at write_at
set_option maxHeartbeats 8000000 in
theorem lpublic_some (seed : ByteArray) (hs : seed.size ≤ 100000) (index : Nat) (hi : index ≤ 2147483647) (w : World) (hT : Tab w) :
    Calls Tryd.prog 17 #[.string seed, .int .i64 (index : Int)] w (GivesP w (pubN seed index 512)) := by
  obtain ⟨i0, hi0, hz0, hz1, hz2⟩ := info_parts infoHash
  have KY : Hid (∀ W, Calls Tryd.prog 20 #[.int .i64 (index : Int)] W fun e w' => e = .returned (.bool true) ∧ W = w') := Lib.hid fun W => isKey_yes _ (by omega) W
  obtain ⟨T, hTx⟩ : ∃ T, Hid (T = keyT seed index) := ⟨_, Lib.hid rfl⟩
  have X1 : Hid (∀ W, Calls Tryd.prog 21 #[.string seed, .int .i64 (index : Int)] W fun e w' => e = .returned (.string T) ∧ Below W.heap.size W w') := Lib.hid fun W => by
    rw [hTx.out]; exact keyText_any seed hs index (by omega) W
  have SE : Hid (∀ (W : World) (k : Nat), k < 512 → Tab W → Calls Tryd.prog 22 #[.string T, .int .i64 (k : Int)] W fun e w' => e = .returned (.agg (nums .u8 (secN seed index k))) ∧ Below W.heap.size W w') := Lib.hid fun W k hk h => by
    have := keyT_size seed index hs
    rw [hTx.out]; exact secret_any (keyT seed index) (by omega) k (by omega) W h
  have HT := Lib.hid hT
  clear hs hi hT
  go_enter Tryd.func17, Tryd.ntmps17
  go_upto_region 5 with (first
    | (go_at_call 20; (with_reducible refine (KY.out _).mono ?_); rintro e w1 ⟨rfl, rfl⟩)
    | (go_at_call 21; (with_reducible refine (X1.out _).mono ?_); rintro e w1 ⟨rfl, hb⟩; have HB := Lib.hid hb; clear hb)
    | (at_make; refine wpList_make_full _ rfl _ _ 33 rfl w1.heap.size 24 i0 _ 32 Tryd.underlying33 hi0 hz0 hz1 _ _ _ _ 512 rfl rfl rfl rfl (by rw [hz2]; decide) (by decide) (Nat.le_refl _) ?_; intro w2 hown hgr; have HK : Hid (PubH w w2 w1.heap.size (pubM seed index 0)) := Lib.hid (PubH.start HB.out hown hgr); clear hown hgr HB))
  obtain ⟨g, hg⟩ : ∃ g, g = w1.heap.size := ⟨_, rfl⟩
  rw [← hg] at HK ⊢
  clear hg
  go_wp2
  go_loopw [15] (fun s15 wr => ∃ (k : Nat), s15 = .int .i64 ((k : Nat) : Int) ∧ k ≤ 512 ∧ Hid (PubH w wr g (pubM seed index k))) (fun s15 _ => (512 - intOf s15).toNat)
  case atStart => exact ⟨0, rfl, by omega, HK⟩
  case round =>
    clear HK
    obtain ⟨k, rfl, hk, HQ⟩ := hrel
    by_cases hlt : k < 512
    · have hwk : IntKind.i64.wrap (k : Int) = (k : Int) := by rw [IntKind.wrap_i64]; omega
      have hlt2 : (k : Int) < 512 := by omega
      have hkb : Hid (k < 512) := Lib.hid hlt
      obtain ⟨X, hX⟩ : ∃ X, Hid (X = nums .u8 (secN seed index k)) := ⟨_, Lib.hid rfl⟩
      obtain ⟨y, hy⟩ : ∃ y, Hid (y = pubAt seed index k) := ⟨_, Lib.hid rfl⟩
      obtain ⟨C, hC⟩ : ∃ C, Hid (C = nums .u8 y) := ⟨_, Lib.hid rfl⟩
      have hy32 : Hid (y.length = 32) := Lib.hid (by rw [hy.out]; exact (pubH_is _).1)
      have zC : Hid (C.size = 32) := Lib.hid (by rw [hC.out, nums_size]; exact hy32.out)
      have oC : Hid (C.all (·.oneCell') = true) := Lib.hid (by rw [hC.out]; exact nums_one _ _)
      have X2 : Hid (∀ W, Tab W → Calls Tryd.prog 22 #[.string T, .int .i64 (k : Int)] W fun e w' => e = .returned (.agg X) ∧ Below W.heap.size W w') := Lib.hid fun W h => by
        rw [hX.out]; exact SE.out W k hkb.out h
      have X3 : Hid (∀ W, Tab W → Calls Tryd.prog 24 #[.agg X] W fun e w' => e = .returned (.agg C) ∧ Below W.heap.size W w') := Lib.hid fun W h => by
        have := hashOf_any (secN seed index k) (secN_is _ _ _).1 W h
        rw [secN_pub, ← hy.out] at this
        rw [hX.out, hC.out]; exact this
      have NM : Hid ((pubM seed index k).set k y = pubM seed index (k + 1)) := Lib.hid (by rw [hy.out]; exact pubM_step seed index k)
      have hz6 := sizeH _ zC.out
      clear hy
      go_upto_region 9 with (first
        | (go_at_call 22; (with_reducible refine (X2.out _ (HT.out.next HQ.out.below)).mono ?_); rintro e w1 ⟨rfl, hb⟩; have H1 := Lib.hid (HQ.out.next hb); clear hb)
        | (go_at_call 24; (with_reducible refine (X3.out _ (HT.out.next H1.out.below)).mono ?_); rintro e w3 ⟨rfl, hb⟩; have H3 := Lib.hid (H1.out.next hb); clear hb)
        | (refine wpList_store_mid rfl 24 _ _ rfl g (k * 32) C rfl rfl (by rw [zC.out]; exact H3.out.room k hkb.out) hz6 oC.out ?_))
      have H4 : Hid (PubH w (w3.setCells g (k * 32) C.toList) g (pubM seed index (k + 1))) := Lib.hid (by rw [← NM.out, hC.out]; exact H3.out.put k hkb.out (pubM_length _ _ _) y hy32.out)
      clear H1 H3 HQ
      go_wp2
      go_roundw
      case rel => exact ⟨k + 1, by go_num, by omega, H4⟩
      case measure => simp [intOf]; omega
    · have hk9 : k = 512 := by omega
      subst hk9
      have HE : Hid (PubH w wr g (pubN seed index 512)) := Lib.hid (by rw [← pubM_done]; exact HQ.out)
      clear HQ hlt
      go_wp2
      go_ret
      exact ⟨some ⟨g, 0, none⟩, 512, by rw [pubN_length]; rfl, by rw [pubN_length]; exact Nat.le_refl _, by decide, HE.out.list, HE.out.below⟩
set_option maxHeartbeats 1000000 in
theorem lpublic_any : PublicSays := by
  intro seed index w hT hs hx
  by_cases h : index < 0 ∨ 2147483647 < index
  · rw [pubF_no h]
    have KY : Hid (∀ W, Calls Tryd.prog 20 #[.int .i64 index] W fun e w' => e = .returned (.bool false) ∧ W = w') := Lib.hid fun W => isKey_no _ h W
    clear h hs hx
    go_enter Tryd.func17, Tryd.ntmps17
    go_wp2_with (go_at_call 20; (with_reducible refine (KY.out _).mono ?_); rintro e w1 ⟨rfl, rfl⟩)
    go_ret
    exact ⟨none, 0, rfl, Nat.le_refl _, by decide, HL.nil _ _ _, Below.refl _ _⟩
  · obtain ⟨I, rfl⟩ : ∃ I : Nat, index = I := ⟨index.toNat, by omega⟩
    rw [pubF_ok (by omega)]
    exact lpublic_some seed hs I (by omega) w hT
end Go.Proofs.YtllabnhgiojmmaaDoor
namespace Go.Proofs.YtllabnhgiojmmaaDoor.back
open Go.ChangeShapes Go.WideShapes Go.ChangeAt Go.RowKit
open Go.ChangeMaps (open_string)
set_option linter.unusedVariables false

set_option maxRecDepth 100000 in
theorem lifted (os : Os) (started : os.Started) (H : Type) (enc : TypeId × Value → H) :
    ReturnsInHanded {} Tryd.checked os 6 .any (fun w args => (Rows.lamportBackSpec.pre enc Tryd.prog Tryd.f6 [] false w args ∧ laidMetH Tryd.prog laid2 w) ∧ sizedMet enc Tryd.prog Tryd.f6 (OpenSpec.ofChange Rows.lamportBackSpec) false w args)
      (Rows.lamportBackSpec.post enc Tryd.prog Tryd.f6 false true false false) := by
  refine returnsInHanded_of_change_and (C := Tryd.checked) (X := fun w _ => laidMetH Tryd.prog laid2 w) (fun _ _ _ hh h => h.of_heap hh) own started (by kernel_rfl) Tryd.func6
    (ChangeSpec.witness_shaped (enc := enc) (C := Tryd.checked) (os := os) (X := fun w _ => laidMetH Tryd.prog laid2 w) false (World.doorLaid Tryd.prog 400 os) #[.string ⟨#[]⟩, .agg (nums .u16 [0, 0, 0]), .agg (nums .u8 (zero32 ++ zero32))] 8 rfl (World.shaped_of_RefB (by kernel_rfl) (by kernel_rfl)) (by kernel_rfl) (by kernel_rfl) (by kernel_rfl) (door_met os _)) ?_
  intro W base args ds gs before hval0 hW _ _ hL _
  have hval : ∀ (j : Nat) t v, Tryd.f6.params[j]? = some t → args[j]? = some v → Value.okWide Tryd.prog W .any base t v := hval0
  have hW' := hW
  obtain ⟨p, q, hA0, hV, rfl, hfz, hnd⟩ := hW
  have hA : DataW.TrodAll enc Tryd.prog W 0 (fun _ => true) true Tryd.f6.params.toList args.toList ds p := hA0
  rw [Tryd.params6] at hA hval
  obtain ⟨v0, vs0, d0, ds0, p0, q0, hargs, rfl, rfl, h0, r0⟩ := trodAll_cons hA
  obtain ⟨v1, vs1, d1, ds1, p1, q1, rfl, rfl, rfl, h1, r1⟩ := trodAll_cons r0
  obtain ⟨v2, vs2, d2, ds2, p2, q2, rfl, rfl, rfl, h2, r2⟩ := trodAll_cons r1
  obtain ⟨rfl, rfl, rfl⟩ := trodAll_nil r2
  obtain rfl : args = #[v0, v1, v2] := by cases args; simp_all
  obtain ⟨rfl, rfl⟩ := trodVars_none hV
  have k0 := h0
  have lt0 : ∀ x ∈ p0, x.block < W.heap.size := by obtain ⟨m, hm⟩ := k0; exact DataW.trod_lt m _ _ _ hm
  have k1 := h1
  have lt1 : ∀ x ∈ p1, x.block < W.heap.size := by obtain ⟨m, hm⟩ := k1; exact DataW.trod_lt m _ _ _ hm
  have k2 := h2
  have lt2 : ∀ x ∈ p2, x.block < W.heap.size := by obtain ⟨m, hm⟩ := k2; exact DataW.trod_lt m _ _ _ hm
  obtain ⟨s0, rfl, hd0, _, w0⟩ := open_string Tryd.underlying9 (hval 0 9 v0 rfl rfl) h0
  obtain ⟨l1, rfl, hl1, hw1⟩ := open_nums (k := .u16) (n := 3) Tryd.underlying40 Tryd.underlying39 (by kernel_rfl) (by kernel_rfl) (hval 1 40 v1 rfl rfl) h1
  obtain ⟨a1, b1, c1, rfl⟩ := of_three hl1
  have b_a1 := bounds_u16 (hw1 a1 (by simp))
  have b_b1 := bounds_u16 (hw1 b1 (by simp))
  have b_c1 := bounds_u16 (hw1 c1 (by simp))
  obtain ⟨a2, b2, rfl, ha2, hb2⟩ := open_pair (hval 2 25 v2 rfl rfl) h2
  clear hA0 hval0
  refine (lbacklaw_any lsecret_any lsign_any lrecover_any lpublic_any lkey_any s0 w0 a1 b1 c1 (by omega) a2 b2 ha2 hb2 W (of_laid hL)).mono fun e W' ⟨he, bel⟩ => ?_
  subst he
  exact ⟨_, rfl, _, _, _, [], _, [], hW', trodAll_mk1 (shut_bool Tryd.underlying4 _), (trodAll_cons_mk (Below.trod laidOut (by kernel_rfl) (of_decide_eq_true (by kernel_rfl)) k0 bel lt0) (trodAll_cons_mk (Below.trod laidOut (by kernel_rfl) (of_decide_eq_true (by kernel_rfl)) k1 bel lt1) (trodAll_cons_mk (Below.trod laidOut (by kernel_rfl) (of_decide_eq_true (by kernel_rfl)) k2 bel lt2) trodAll_mk0))), rfl, bel.frame _, fun h => by cases h⟩

theorem over : Rows.LamportBackSaid :=
  OpenClaim.holds_of_wide 6 Tryd.f6 rfl rfl rfl rfl rfl rfl rfl ⟨rfl, rfl, rfl, rfl, rfl⟩ rfl rfl rfl rfl rfl (by kernel_rfl) Tryd.func6 (by kernel_rfl)
    (of_decide_eq_true (by kernel_rfl)) (by unfold Func.isWrapper; first | (rw [if_pos (by decide +kernel)]; kernel_rfl) | (rw [if_neg (by decide +kernel)]; exact ⟨rfl, rfl⟩))
    (fun os started H enc _ => lifted os started H enc)

/-- The statement. -/
theorem proved : Rows.LamportBackCardSaid :=
  Claim7.holds_tied_plain_at .later [] [.data, .data] true _ false
    over (fun _ h => by cases h) (by kernel_rfl) (fun _ h => by cases h) lamportBack_row_tie rfl ⟨rfl, rfl⟩ (by kernel_rfl) rfl
    (fun f fn hf hfn => by
      obtain rfl : f = 6 := Option.some.inj ((show Tryd.prog.funcNamed "speculum/speculumlaw08.LamportBack" = some 6 by kernel_rfl).symm.trans hf) |>.symm
      obtain rfl : fn = Tryd.f6 := (Option.some.inj (Tryd.func6.symm.trans hfn)).symm
      exact ⟨by kernel_rfl, fun j t ht => by
        rw [Tryd.params6] at ht
        have hm : t ∈ [9, 40, 25] := by simpa using Array.mem_of_getElem? ht
        have hall : ([9, 40, 25].all fun u => !Tryd.prog.wantsStandIn u) = true := by kernel_rfl
        exact (show Tryd.prog.wantsStandIn t = false by simpa using List.all_eq_true.1 hall t hm)⟩)
    (by kernel_rfl)
#print axioms proved
end Go.Proofs.YtllabnhgiojmmaaDoor.back
