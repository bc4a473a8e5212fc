/-
  LampSign.
-/
import Derived.Test.YtpndccoikhejgaaDoorPk33
import Derived.Test.YtpndccoikhejgaaDoorPk15
namespace Go.Proofs.YtpndccoikhejgaaDoor
open Go.RowKit Go.Great
set_option linter.unusedVariables false
set_option maxRecDepth 100000

/-- What Sign holds: the digest, and the bytes so far. -/
structure SgnH (w : World) (B : Nat) (wr : World) (D : Array Value) (v : Value) (n : Nat) (bs : List Int) : Prop where
  dig : Row wr w.heap.size 23 D
  own : wr.ownsRow B 5 1 v n (cellsB bs)
  below : Below w.heap.size w wr
  lo : w.heap.size < B
  hi : B ≤ wr.heap.size
section
variable {w wr w1 : World} {B : Nat} {D : Array Value} {v v' : Value} {n m : Nat} {bs us : List Int}
theorem SgnH.next (h : SgnH w B wr D v n bs) (hb : Below wr.heap.size wr w1) : SgnH w B w1 D v n bs :=
  ⟨h.dig.next hb, own_below h.own hb, below_new h.below hb, h.lo, Nat.le_trans h.hi hb.size⟩
theorem SgnH.put (h : SgnH w B wr D v n bs) (h1 : w1.ownsRow B 5 1 v' m (cellsB us)) (hg : wr.grownBy w1 v.ownBlock) : SgnH w B w1 D v' m us :=
  have hb := own_grown h.own hg h.hi
  ⟨h.dig.below hb h.lo, h1, h.below.trans (hb.mono (Nat.le_of_lt h.lo)), h.lo, Nat.le_trans h.hi hb.size⟩
end
attribute [local go_sem ↓ high] read_at write_at
set_option maxHeartbeats 8000000 in
theorem lsign_some (seed : ByteArray) (hs : seed.size ≤ 100000) (index : Nat) (hi : index ≤ 2147483647) (d : List Int) (hd : d.length = 32 ∧ bytes d) (w : World) (hT : Tab w) :
    Calls Tryd.prog 56 #[.string seed, .int .i64 (index : Int), .agg (nums .u8 d)] w fun e w' => e = .returned (.string (strOfNums (sigL seed index d))) ∧ Below w.heap.size w w' := by
  obtain ⟨i0, hi0, hz0, hz1, hz2⟩ := info_parts info_byte
  obtain ⟨D, hD⟩ : ∃ D, Hid (D = nums .u8 d) := ⟨_, Lib.hid rfl⟩
  have zD : Hid (D.size = 32) := Lib.hid (by rw [hD.out, nums_size]; exact hd.1)
  obtain ⟨E, hE⟩ : ∃ E, Hid (E = strOfNums (sigL seed index d)) := ⟨_, Lib.hid rfl⟩
  obtain ⟨T, hTx⟩ : ∃ T, Hid (T = keyT seed index) := ⟨_, Lib.hid rfl⟩
  have KY : Hid (∀ W, Calls Tryd.prog 71 #[.int .i64 (index : Int)] W fun e w' => e = .returned (.bool true) ∧ W = w') := Lib.hid fun W => isKey_yes _ (by omega) W
  have XT : Hid (∀ W, Calls Tryd.prog 72 #[.string seed, .int .i64 (index : Int)] W fun e w' => e = .returned (.string T) ∧ Below W.heap.size W w') := Lib.hid fun W => by
    rw [hTx.out]; exact keyText_any seed hs index (by omega) W
  have SE : Hid (∀ (W : World) (i b : Nat), i ≤ 255 → b ≤ 1 → Tab W → Calls Tryd.prog 74 #[.string T, .int .i64 ((2 * i + b : Nat) : Int)] W fun e w' => e = .returned (.agg (nums .u8 (secL seed index i b))) ∧ Below W.heap.size W w') := Lib.hid fun W i b h1 h2 h => by
    have := keyT_size seed index hs
    rw [hTx.out, ← secN_at]; exact secret_any (keyT seed index) (by omega) (2 * i + b) (by omega) W h
  have AT : Hid (∀ (W : World) (i : Nat), i ≤ 255 → Calls Tryd.prog 79 #[.agg D, .int .i64 (i : Int)] W fun e w' => e = .returned (.int .i64 ((2 * i + bitN d i : Nat) : Int)) ∧ Below W.heap.size W w') := Lib.hid fun W i h => by
    rw [hD.out]; exact at_any d hd.1 i h W
  have H0 : Hid (Row (w.alloc (.cells D 23)) w.heap.size 23 D ∧ Below w.heap.size w (w.alloc (.cells D 23))) := Lib.hid ⟨Row.made _ _ _, (Below.refl _ _).alloc (Nat.le_refl _) _⟩
  have HT := Lib.hid hT
  rw [← hD.out, ← hE.out]
  clear hs hi hd hT
  go_enter Tryd.func56, Tryd.ntmps56
  go_upto_region 1 with fail
  refine world_gen (fun X => Row X w.heap.size 23 D ∧ Below w.heap.size w X) H0.out (fun X HX => ?_)
  have HX := Lib.hid HX
  clear H0
  go_upto_region 5 with (first
    | (go_at_call 71; (with_reducible refine (KY.out _).mono ?_); rintro e w1 ⟨rfl, rfl⟩)
    | (go_at_call 72; (with_reducible refine (XT.out _).mono ?_); rintro e w1 ⟨rfl, hb⟩; have H1 := Lib.hid (And.intro (HX.out.1.next hb) (below_new HX.out.2 hb)); clear hb HX)
    | (at_make; refine wpList_make_own _ rfl _ _ 48 rfl w1.heap.size 5 i0 (.int .u8 0) 1 Tryd.underlying48 hi0 hz0 hz1 _ _ _ 16384 rfl rfl rfl (by rw [hz2]; decide) (by decide) (Nat.le_refl _) ?_; intro w2 hown hgr; have HK : Hid (SgnH w w1.heap.size w2 D (.slice (some ⟨w1.heap.size, 0, none⟩) 0 16384) 0 []) := Lib.hid (by have hb := (Below.refl w1.heap.size w1).grown hgr (Nat.le_refl _) (fun k hk => by cases hk); exact ⟨H1.out.1.next hb, hown, below_new H1.out.2 hb, H1.out.1.lt, hb.size⟩); clear hown hgr H1))
  obtain ⟨B, hB⟩ : ∃ B, B = w1.heap.size := ⟨_, rfl⟩
  rw [← hB] at HK ⊢
  clear hB
  go_wp2
  go_loopw [8, 20] (fun s8 s20 wr => ∃ (k : Nat) (v : Value), s20 = .int .i64 ((k : Nat) : Int) ∧ v = s8 ∧ k ≤ 256 ∧ Hid (SgnH w B wr D v (32 * k) (sigA seed index d k).flatten)) (fun _ s20 _ => (256 - intOf s20).toNat)
  case atStart => exact ⟨0, _, rfl, rfl, by omega, HK⟩
  case round =>
    clear HK
    obtain ⟨k, v, rfl, rfl, hk, HQ⟩ := hrel
    by_cases hlt : k < 256
    · have hwk : IntKind.i64.wrap (k : Int) = (k : Int) := by rw [IntKind.wrap_i64]; omega
      have hkb : Hid (k ≤ 255) := Lib.hid (by omega)
      obtain ⟨b, hb⟩ : ∃ b, Hid (b = bitN d k) := ⟨_, Lib.hid rfl⟩
      have hb1 : Hid (b ≤ 1) := Lib.hid (by rw [hb.out]; exact bitN_le d k)
      obtain ⟨n, hn⟩ : ∃ n, Hid (n = 2 * k + b) := ⟨_, Lib.hid rfl⟩
      obtain ⟨x, hx⟩ : ∃ x, Hid (x = secL seed index k b) := ⟨_, Lib.hid rfl⟩
      obtain ⟨X, hX⟩ : ∃ X, Hid (X = nums .u8 x) := ⟨_, Lib.hid rfl⟩
      have hx32 : Hid (x.length = 32) := Lib.hid (by rw [hx.out]; exact (secL_is _ _ _ _).1)
      have zX : Hid (X.size = 32) := Lib.hid (by rw [hX.out, nums_size]; exact hx32.out)
      have oX : Hid (X.all (·.oneCell') = true) := Lib.hid (by rw [hX.out]; exact nums_one _ _)
      have X1 : Hid (∀ W, Calls Tryd.prog 79 #[.agg D, .int .i64 (k : Int)] W fun e w' => e = .returned (.int .i64 (n : Int)) ∧ Below W.heap.size W w') := Lib.hid fun W => by rw [hn.out, hb.out]; exact AT.out W k hkb.out
      have X2 : Hid (∀ W, Tab W → Calls Tryd.prog 74 #[.string T, .int .i64 (n : Int)] W fun e w' => e = .returned (.agg X) ∧ Below W.heap.size W w') := Lib.hid fun W h => by
        rw [hX.out, hx.out, hn.out]; exact SE.out W k b hkb.out hb1.out h
      have NA : Hid ((sigA seed index d (k + 1)).flatten = (sigA seed index d k).flatten ++ x) := Lib.hid (by rw [sigA_next, List.flatten_append, hx.out, hb.out]; simp)
      have l1 := HQ.out.dig.read zD.out
      go_upto_region 9 with (first
        | (go_at_call 79; (with_reducible refine (X1.out _).mono ?_); rintro e w1 ⟨rfl, hb2⟩; have H1 := Lib.hid (HQ.out.next hb2); clear hb2)
        | (go_at_call 74; (with_reducible refine (X2.out _ (HT.out.next H1.out.below)).mono ?_); rintro e w2 ⟨rfl, hb2⟩; obtain ⟨w3, s3, hr3, hb3, hz3⟩ := made_write w2 X zX.out oX.out; have H3 := Lib.hid ((H1.out.next hb2).next hb3); have HB : Hid (BytesAt w3 ⟨w2.heap.size, 0, none⟩ x) := Lib.hid (Row.bytes (by rw [← hX.out]; exact hr3)); clear hr3 hb3 hz3 hb2))
      clear s3 l1 H1 HQ
      go_wp2_with (at_builtin; refine wpList_appendB rfl (.tmp 28) (.tmp 29) rfl B _ _ _ _ rfl H3.out.own ⟨w2.heap.size, 0, none⟩ 32 32 rfl hx32.out HB.out (by omega) H3.out.hi ?_)
      intro v' w4 hown hg
      have HQ2 : Hid (SgnH w B w4 D v' (32 * (k + 1)) (sigA seed index d (k + 1)).flatten) := Lib.hid (by rw [NA.out, show 32 * (k + 1) = 32 * k + 32 by omega]; exact H3.out.put hown hg)
      clear hown hg H3
      go_wp2
      go_roundw
      case rel => exact ⟨k + 1, _, by go_num, rfl, by omega, HQ2⟩
      case measure => simp [intOf]; omega
    · have hk9 : k = 256 := by omega
      have HK : Hid (SgnH w B wr D v (8192 + 32 * 0) ((sigA seed index d 256).flatten ++ (sigB seed index d 0).flatten)) := Lib.hid (by
        rw [show (sigB seed index d 0).flatten = [] from rfl, List.append_nil]; have := HQ.out; rw [hk9] at this; exact this)
      clear HQ hk9
      go_wp2
      go_loopw [8, 32] (fun s8 s32 wr => ∃ (k : Nat) (v : Value), s32 = .int .i64 ((k : Nat) : Int) ∧ v = s8 ∧ k ≤ 256 ∧ Hid (SgnH w B wr D v (8192 + 32 * k) ((sigA seed index d 256).flatten ++ (sigB seed index d k).flatten))) (fun _ s32 _ => (256 - intOf s32).toNat)
      case atStart => exact ⟨0, _, rfl, rfl, by omega, HK⟩
      case round =>
        clear HK
        obtain ⟨k, v, rfl, rfl, hk, HQ⟩ := hrel
        by_cases hlt : k < 256
        · have hwk : IntKind.i64.wrap (k : Int) = (k : Int) := by rw [IntKind.wrap_i64]; omega
          have hkb : Hid (k ≤ 255) := Lib.hid (by omega)
          obtain ⟨b, hb⟩ : ∃ b, Hid (b = bitN d k) := ⟨_, Lib.hid rfl⟩
          have hb1 : Hid (b ≤ 1) := Lib.hid (by rw [hb.out]; exact bitN_le d k)
          obtain ⟨n, hn⟩ : ∃ n, Hid (n = 2 * k + b) := ⟨_, Lib.hid rfl⟩
          obtain ⟨m, hm⟩ : ∃ m, Hid (m = 2 * k + 1 - b) := ⟨_, Lib.hid rfl⟩
          obtain ⟨X, hX⟩ : ∃ X, Hid (X = nums .u8 (secL seed index k (1 - b))) := ⟨_, Lib.hid rfl⟩
          obtain ⟨y, hy⟩ : ∃ y, Hid (y = pubH (secL seed index k (1 - b))) := ⟨_, Lib.hid rfl⟩
          obtain ⟨Y, hY⟩ : ∃ Y, Hid (Y = nums .u8 y) := ⟨_, Lib.hid rfl⟩
          have hy32 : Hid (y.length = 32) := Lib.hid (by rw [hy.out]; exact (pubH_is _).1)
          have zY : Hid (Y.size = 32) := Lib.hid (by rw [hY.out, nums_size]; exact hy32.out)
          have oY : Hid (Y.all (·.oneCell') = true) := Lib.hid (by rw [hY.out]; exact nums_one _ _)
          have X1 : Hid (∀ W, Calls Tryd.prog 79 #[.agg D, .int .i64 (k : Int)] W fun e w' => e = .returned (.int .i64 (n : Int)) ∧ Below W.heap.size W w') := Lib.hid fun W => by rw [hn.out, hb.out]; exact AT.out W k hkb.out
          have X2 : Hid (∀ W, Calls Tryd.prog 80 #[.int .i64 (n : Int)] W fun e w' => e = .returned (.int .i64 (m : Int)) ∧ W = w') := Lib.hid fun W => by rw [hn.out, hm.out]; exact beside_any k b hkb.out hb1.out W
          have X3 : Hid (∀ W, Tab W → Calls Tryd.prog 74 #[.string T, .int .i64 (m : Int)] W fun e w' => e = .returned (.agg X) ∧ Below W.heap.size W w') := Lib.hid fun W h => by
            have := SE.out W k (1 - b) hkb.out (by omega) h
            rw [show 2 * k + (1 - b) = m by have := hb1.out; have := hm.out; omega] at this
            rw [hX.out]; exact this
          have X4 : Hid (∀ W, Tab W → Calls Tryd.prog 73 #[.agg X] W fun e w' => e = .returned (.agg Y) ∧ Below W.heap.size W w') := Lib.hid fun W h => by
            rw [hX.out, hY.out, hy.out]; exact hashOf_any _ (secL_is _ _ _ _).1 W h
          have NB : Hid ((sigA seed index d 256).flatten ++ (sigB seed index d (k + 1)).flatten = ((sigA seed index d 256).flatten ++ (sigB seed index d k).flatten) ++ y) := Lib.hid (by rw [sigB_next, List.flatten_append, hy.out, hb.out]; simp)
          have l1 := HQ.out.dig.read zD.out
          go_upto_region 15 with (first
            | (go_at_call 79; (with_reducible refine (X1.out _).mono ?_); rintro e w1 ⟨rfl, hb2⟩; have H1 := Lib.hid (HQ.out.next hb2); clear hb2)
            | (go_at_call 80; (with_reducible refine (X2.out _).mono ?_); rintro e w9 ⟨rfl, rfl⟩)
            | (go_at_call 74; (with_reducible refine (X3.out _ (HT.out.next H1.out.below)).mono ?_); rintro e w5 ⟨rfl, hb2⟩; have H5 := Lib.hid (H1.out.next hb2); clear hb2)
            | (go_at_call 73; (with_reducible refine (X4.out _ (HT.out.next H5.out.below)).mono ?_); rintro e w2 ⟨rfl, hb2⟩; obtain ⟨w3, s3, hr3, hb3, hz3⟩ := made_write w2 Y zY.out oY.out; have H3 := Lib.hid ((H5.out.next hb2).next hb3); have HB : Hid (BytesAt w3 ⟨w2.heap.size, 0, none⟩ y) := Lib.hid (Row.bytes (by rw [← hY.out]; exact hr3)); clear hr3 hb3 hz3 hb2))
          clear s3 l1 H1 H5 HQ
          go_wp2_with (at_builtin; refine wpList_appendB rfl (.tmp 42) (.tmp 43) rfl B _ _ _ _ rfl H3.out.own ⟨w2.heap.size, 0, none⟩ 32 32 rfl hy32.out HB.out (by omega) H3.out.hi ?_)
          intro v' w4 hown hg
          have HQ2 : Hid (SgnH w B w4 D v' (8192 + 32 * (k + 1)) ((sigA seed index d 256).flatten ++ (sigB seed index d (k + 1)).flatten)) := Lib.hid (by rw [NB.out, show 8192 + 32 * (k + 1) = 8192 + 32 * k + 32 by omega]; exact H3.out.put hown hg)
          clear hown hg H3
          go_wp2
          go_roundw
          case rel => exact ⟨k + 1, _, by go_num, rfl, by omega, HQ2⟩
          case measure => simp [intOf]; omega
        · have hk9 : k = 256 := by omega
          subst hk9
          have c1 : (convert 48 9 v).run Tryd.prog wr = .ok (.string E) wr := by rw [hE.out]; exact convB HQ.out.own (by decide)
          go_wp2
          go_ret
          exact ⟨rfl, HQ.out.below⟩
set_option maxHeartbeats 1000000 in
theorem lsign_any : SignSays := by
  intro seed index d w hT hs hx hd
  by_cases h : index < 0 ∨ 2147483647 < index
  · rw [sigF_no h]
    have KY : Hid (∀ W, Calls Tryd.prog 71 #[.int .i64 index] W fun e w' => e = .returned (.bool false) ∧ W = w') := Lib.hid fun W => isKey_no _ h W
    obtain ⟨D, hD⟩ : ∃ D, Hid (D = nums .u8 d) := ⟨_, Lib.hid rfl⟩
    have zD : Hid (D.size = 32) := Lib.hid (by rw [hD.out, nums_size]; exact hd.1)
    have H0 : Hid (Below w.heap.size w (w.alloc (.cells D 23))) := Lib.hid ((Below.refl _ _).alloc (Nat.le_refl _) _)
    rw [← hD.out]
    clear h hs hx hd
    go_enter Tryd.func56, Tryd.ntmps56
    go_upto_region 1 with fail
    refine world_gen (fun X => Below w.heap.size w X) H0.out (fun X HX => ?_)
    have HX := Lib.hid HX
    go_wp2_with (go_at_call 71; (with_reducible refine (KY.out _).mono ?_); rintro e w1 ⟨rfl, rfl⟩)
    go_ret
    exact ⟨rfl, HX.out⟩
  · obtain ⟨I, rfl⟩ : ∃ I : Nat, index = I := ⟨index.toNat, by omega⟩
    rw [sigF_ok (by omega)]
    exact lsign_some seed hs I (by omega) d hd w hT
end Go.Proofs.YtpndccoikhejgaaDoor
