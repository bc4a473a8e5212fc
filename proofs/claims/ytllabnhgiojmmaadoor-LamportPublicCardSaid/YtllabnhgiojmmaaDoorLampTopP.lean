/-
  Proved: called with any text, any number and any list of hashes, the statement LamportPublic (the public hashes of any key, and what stands for any hashes, are the document's) returns true, and its arguments read as before. Condition: the two tables of the package sha hold what the program's text lays, which the card ties to that text.

  Several texts in one (a claim has room for 60 files), the card last: LampSign, ByteMark, LampKey, ListSet, UnhashB, RefUnhash, RefRecover, LampRecover, LampPublic, LampPCard.
-/
import Derived.Test.YtllabnhgiojmmaaDoorLampSmall
import Derived.Test.YtllabnhgiojmmaaDoorByteTwo
import Derived.Test.YtllabnhgiojmmaaDoorByteMem
import Derived.Lib.SlBytesConst
import Derived.Test.YtllabnhgiojmmaaDoorRefKey
import Derived.Test.YtllabnhgiojmmaaDoorListMem
import Derived.Deep.MidRow
import Derived.Test.YtllabnhgiojmmaaDoorHash
import Derived.Test.YtllabnhgiojmmaaDoorTreeCells
import Derived.Test.YtllabnhgiojmmaaDoorText
import Derived.Laws.ResultCell
import Derived.Deep.RegionLaw
import Derived.Deep.DeepCutAuto
import Derived.Test.YtllabnhgiojmmaaDoorBitOnly
import Derived.Test.YtllabnhgiojmmaaDoorFork
import Derived.Test.YtllabnhgiojmmaaDoorLampArg
import Derived.Test.YtllabnhgiojmmaaDoorLampLawP
import Derived.Test.YtllabnhgiojmmaaDoorLampSecret
namespace Go.Proofs.YtllabnhgiojmmaaDoor
open Go.RowKit Go.Great
set_option linter.unusedVariables false
set_option maxRecDepth 100000

/-- What Sign holds: the digest, and the bytes so far. -/
structure SgnH (w : World) (B : Nat) (wr : World) (D : Array Value) (v : Value) (n : Nat) (bs : List Int) : Prop where
  dig : Row wr w.heap.size 24 D
  own : wr.ownsRow B 5 1 v n (cellsB bs)
  below : Below w.heap.size w wr
  lo : w.heap.size < B
  hi : B ≤ wr.heap.size
section
variable {w wr w1 : World} {B : Nat} {D : Array Value} {v v' : Value} {n m : Nat} {bs us : List Int}
theorem SgnH.next (h : SgnH w B wr D v n bs) (hb : Below wr.heap.size wr w1) : SgnH w B w1 D v n bs :=
  ⟨h.dig.next hb, own_below h.own hb, below_new h.below hb, h.lo, Nat.le_trans h.hi hb.size⟩
theorem SgnH.put (h : SgnH w B wr D v n bs) (h1 : w1.ownsRow B 5 1 v' m (cellsB us)) (hg : wr.grownBy w1 v.ownBlock) : SgnH w B w1 D v' m us :=
  have hb := own_grown h.own hg h.hi
  ⟨h.dig.below hb h.lo, h1, h.below.trans (hb.mono (Nat.le_of_lt h.lo)), h.lo, Nat.le_trans h.hi hb.size⟩
end
attribute [local go_sem ↓ high] read_at write_at
set_option maxHeartbeats 8000000 in
theorem lsign_some (seed : ByteArray) (hs : seed.size ≤ 100000) (index : Nat) (hi : index ≤ 2147483647) (d : List Int) (hd : d.length = 32 ∧ bytes d) (w : World) (hT : Tab w) :
    Calls Tryd.prog 9 #[.string seed, .int .i64 (index : Int), .agg (nums .u8 d)] w fun e w' => e = .returned (.string (strOfNums (sigL seed index d))) ∧ Below w.heap.size w w' := by
  obtain ⟨i0, hi0, hz0, hz1, hz2⟩ := info_parts info_byte
  obtain ⟨D, hD⟩ : ∃ D, Hid (D = nums .u8 d) := ⟨_, Lib.hid rfl⟩
  have zD : Hid (D.size = 32) := Lib.hid (by rw [hD.out, nums_size]; exact hd.1)
  obtain ⟨E, hE⟩ : ∃ E, Hid (E = strOfNums (sigL seed index d)) := ⟨_, Lib.hid rfl⟩
  obtain ⟨T, hTx⟩ : ∃ T, Hid (T = keyT seed index) := ⟨_, Lib.hid rfl⟩
  have KY : Hid (∀ W, Calls Tryd.prog 20 #[.int .i64 (index : Int)] W fun e w' => e = .returned (.bool true) ∧ W = w') := Lib.hid fun W => isKey_yes _ (by omega) W
  have XT : Hid (∀ W, Calls Tryd.prog 21 #[.string seed, .int .i64 (index : Int)] W fun e w' => e = .returned (.string T) ∧ Below W.heap.size W w') := Lib.hid fun W => by
    rw [hTx.out]; exact keyText_any seed hs index (by omega) W
  have SE : Hid (∀ (W : World) (i b : Nat), i ≤ 255 → b ≤ 1 → Tab W → Calls Tryd.prog 22 #[.string T, .int .i64 ((2 * i + b : Nat) : Int)] W fun e w' => e = .returned (.agg (nums .u8 (secL seed index i b))) ∧ Below W.heap.size W w') := Lib.hid fun W i b h1 h2 h => by
    have := keyT_size seed index hs
    rw [hTx.out, ← secN_at]; exact secret_any (keyT seed index) (by omega) (2 * i + b) (by omega) W h
  have AT : Hid (∀ (W : World) (i : Nat), i ≤ 255 → Calls Tryd.prog 23 #[.agg D, .int .i64 (i : Int)] W fun e w' => e = .returned (.int .i64 ((2 * i + bitN d i : Nat) : Int)) ∧ Below W.heap.size W w') := Lib.hid fun W i h => by
    rw [hD.out]; exact at_any d hd.1 i h W
  have H0 : Hid (Row (w.alloc (.cells D 24)) w.heap.size 24 D ∧ Below w.heap.size w (w.alloc (.cells D 24))) := Lib.hid ⟨Row.made _ _ _, (Below.refl _ _).alloc (Nat.le_refl _) _⟩
  have HT := Lib.hid hT
  rw [← hD.out, ← hE.out]
  clear hs hi hd hT
  go_enter Tryd.func9, Tryd.ntmps9
  go_upto_region 1 with fail
  refine world_gen (fun X => Row X w.heap.size 24 D ∧ Below w.heap.size w X) H0.out (fun X HX => ?_)
  have HX := Lib.hid HX
  clear H0
  go_upto_region 5 with (first
    | (go_at_call 20; (with_reducible refine (KY.out _).mono ?_); rintro e w1 ⟨rfl, rfl⟩)
    | (go_at_call 21; (with_reducible refine (XT.out _).mono ?_); rintro e w1 ⟨rfl, hb⟩; have H1 := Lib.hid (And.intro (HX.out.1.next hb) (below_new HX.out.2 hb)); clear hb HX)
    | (at_make; refine wpList_make_own _ rfl _ _ 41 rfl w1.heap.size 5 i0 (.int .u8 0) 1 Tryd.underlying41 hi0 hz0 hz1 _ _ _ 16384 rfl rfl rfl (by rw [hz2]; decide) (by decide) (Nat.le_refl _) ?_; intro w2 hown hgr; have HK : Hid (SgnH w w1.heap.size w2 D (.slice (some ⟨w1.heap.size, 0, none⟩) 0 16384) 0 []) := Lib.hid (by have hb := (Below.refl w1.heap.size w1).grown hgr (Nat.le_refl _) (fun k hk => by cases hk); exact ⟨H1.out.1.next hb, hown, below_new H1.out.2 hb, H1.out.1.lt, hb.size⟩); clear hown hgr H1))
  obtain ⟨B, hB⟩ : ∃ B, B = w1.heap.size := ⟨_, rfl⟩
  rw [← hB] at HK ⊢
  clear hB
  go_wp2
  go_loopw [8, 20] (fun s8 s20 wr => ∃ (k : Nat) (v : Value), s20 = .int .i64 ((k : Nat) : Int) ∧ v = s8 ∧ k ≤ 256 ∧ Hid (SgnH w B wr D v (32 * k) (sigA seed index d k).flatten)) (fun _ s20 _ => (256 - intOf s20).toNat)
  case atStart => exact ⟨0, _, rfl, rfl, by omega, HK⟩
  case round =>
    clear HK
    obtain ⟨k, v, rfl, rfl, hk, HQ⟩ := hrel
    by_cases hlt : k < 256
    · have hwk : IntKind.i64.wrap (k : Int) = (k : Int) := by rw [IntKind.wrap_i64]; omega
      have hkb : Hid (k ≤ 255) := Lib.hid (by omega)
      obtain ⟨b, hb⟩ : ∃ b, Hid (b = bitN d k) := ⟨_, Lib.hid rfl⟩
      have hb1 : Hid (b ≤ 1) := Lib.hid (by rw [hb.out]; exact bitN_le d k)
      obtain ⟨n, hn⟩ : ∃ n, Hid (n = 2 * k + b) := ⟨_, Lib.hid rfl⟩
      obtain ⟨x, hx⟩ : ∃ x, Hid (x = secL seed index k b) := ⟨_, Lib.hid rfl⟩
      obtain ⟨X, hX⟩ : ∃ X, Hid (X = nums .u8 x) := ⟨_, Lib.hid rfl⟩
      have hx32 : Hid (x.length = 32) := Lib.hid (by rw [hx.out]; exact (secL_is _ _ _ _).1)
      have zX : Hid (X.size = 32) := Lib.hid (by rw [hX.out, nums_size]; exact hx32.out)
      have oX : Hid (X.all (·.oneCell') = true) := Lib.hid (by rw [hX.out]; exact nums_one _ _)
      have X1 : Hid (∀ W, Calls Tryd.prog 23 #[.agg D, .int .i64 (k : Int)] W fun e w' => e = .returned (.int .i64 (n : Int)) ∧ Below W.heap.size W w') := Lib.hid fun W => by rw [hn.out, hb.out]; exact AT.out W k hkb.out
      have X2 : Hid (∀ W, Tab W → Calls Tryd.prog 22 #[.string T, .int .i64 (n : Int)] W fun e w' => e = .returned (.agg X) ∧ Below W.heap.size W w') := Lib.hid fun W h => by
        rw [hX.out, hx.out, hn.out]; exact SE.out W k b hkb.out hb1.out h
      have NA : Hid ((sigA seed index d (k + 1)).flatten = (sigA seed index d k).flatten ++ x) := Lib.hid (by rw [sigA_next, List.flatten_append, hx.out, hb.out]; simp)
      have l1 := HQ.out.dig.read zD.out
      go_upto_region 9 with (first
        | (go_at_call 23; (with_reducible refine (X1.out _).mono ?_); rintro e w1 ⟨rfl, hb2⟩; have H1 := Lib.hid (HQ.out.next hb2); clear hb2)
        | (go_at_call 22; (with_reducible refine (X2.out _ (HT.out.next H1.out.below)).mono ?_); rintro e w2 ⟨rfl, hb2⟩; obtain ⟨w3, s3, hr3, hb3, hz3⟩ := made_write w2 X zX.out oX.out; have H3 := Lib.hid ((H1.out.next hb2).next hb3); have HB : Hid (BytesAt w3 ⟨w2.heap.size, 0, none⟩ x) := Lib.hid (Row.bytes (by rw [← hX.out]; exact hr3)); clear hr3 hb3 hz3 hb2))
      clear s3 l1 H1 HQ
      go_wp2_with (at_builtin; refine wpList_appendB rfl (.tmp 28) (.tmp 29) rfl B _ _ _ _ rfl H3.out.own ⟨w2.heap.size, 0, none⟩ 32 32 rfl hx32.out HB.out (by omega) H3.out.hi ?_)
      intro v' w4 hown hg
      have HQ2 : Hid (SgnH w B w4 D v' (32 * (k + 1)) (sigA seed index d (k + 1)).flatten) := Lib.hid (by rw [NA.out, show 32 * (k + 1) = 32 * k + 32 by omega]; exact H3.out.put hown hg)
      clear hown hg H3
      go_wp2
      go_roundw
      case rel => exact ⟨k + 1, _, by go_num, rfl, by omega, HQ2⟩
      case measure => simp [intOf]; omega
    · have hk9 : k = 256 := by omega
      have HK : Hid (SgnH w B wr D v (8192 + 32 * 0) ((sigA seed index d 256).flatten ++ (sigB seed index d 0).flatten)) := Lib.hid (by
        rw [show (sigB seed index d 0).flatten = [] from rfl, List.append_nil]; have := HQ.out; rw [hk9] at this; exact this)
      clear HQ hk9
      go_wp2
      go_loopw [8, 32] (fun s8 s32 wr => ∃ (k : Nat) (v : Value), s32 = .int .i64 ((k : Nat) : Int) ∧ v = s8 ∧ k ≤ 256 ∧ Hid (SgnH w B wr D v (8192 + 32 * k) ((sigA seed index d 256).flatten ++ (sigB seed index d k).flatten))) (fun _ s32 _ => (256 - intOf s32).toNat)
      case atStart => exact ⟨0, _, rfl, rfl, by omega, HK⟩
      case round =>
        clear HK
        obtain ⟨k, v, rfl, rfl, hk, HQ⟩ := hrel
        by_cases hlt : k < 256
        · have hwk : IntKind.i64.wrap (k : Int) = (k : Int) := by rw [IntKind.wrap_i64]; omega
          have hkb : Hid (k ≤ 255) := Lib.hid (by omega)
          obtain ⟨b, hb⟩ : ∃ b, Hid (b = bitN d k) := ⟨_, Lib.hid rfl⟩
          have hb1 : Hid (b ≤ 1) := Lib.hid (by rw [hb.out]; exact bitN_le d k)
          obtain ⟨n, hn⟩ : ∃ n, Hid (n = 2 * k + b) := ⟨_, Lib.hid rfl⟩
          obtain ⟨m, hm⟩ : ∃ m, Hid (m = 2 * k + 1 - b) := ⟨_, Lib.hid rfl⟩
          obtain ⟨X, hX⟩ : ∃ X, Hid (X = nums .u8 (secL seed index k (1 - b))) := ⟨_, Lib.hid rfl⟩
          obtain ⟨y, hy⟩ : ∃ y, Hid (y = pubH (secL seed index k (1 - b))) := ⟨_, Lib.hid rfl⟩
          obtain ⟨Y, hY⟩ : ∃ Y, Hid (Y = nums .u8 y) := ⟨_, Lib.hid rfl⟩
          have hy32 : Hid (y.length = 32) := Lib.hid (by rw [hy.out]; exact (pubH_is _).1)
          have zY : Hid (Y.size = 32) := Lib.hid (by rw [hY.out, nums_size]; exact hy32.out)
          have oY : Hid (Y.all (·.oneCell') = true) := Lib.hid (by rw [hY.out]; exact nums_one _ _)
          have X1 : Hid (∀ W, Calls Tryd.prog 23 #[.agg D, .int .i64 (k : Int)] W fun e w' => e = .returned (.int .i64 (n : Int)) ∧ Below W.heap.size W w') := Lib.hid fun W => by rw [hn.out, hb.out]; exact AT.out W k hkb.out
          have X2 : Hid (∀ W, Calls Tryd.prog 25 #[.int .i64 (n : Int)] W fun e w' => e = .returned (.int .i64 (m : Int)) ∧ W = w') := Lib.hid fun W => by rw [hn.out, hm.out]; exact beside_any k b hkb.out hb1.out W
          have X3 : Hid (∀ W, Tab W → Calls Tryd.prog 22 #[.string T, .int .i64 (m : Int)] W fun e w' => e = .returned (.agg X) ∧ Below W.heap.size W w') := Lib.hid fun W h => by
            have := SE.out W k (1 - b) hkb.out (by omega) h
            rw [show 2 * k + (1 - b) = m by have := hb1.out; have := hm.out; omega] at this
            rw [hX.out]; exact this
          have X4 : Hid (∀ W, Tab W → Calls Tryd.prog 24 #[.agg X] W fun e w' => e = .returned (.agg Y) ∧ Below W.heap.size W w') := Lib.hid fun W h => by
            rw [hX.out, hY.out, hy.out]; exact hashOf_any _ (secL_is _ _ _ _).1 W h
          have NB : Hid ((sigA seed index d 256).flatten ++ (sigB seed index d (k + 1)).flatten = ((sigA seed index d 256).flatten ++ (sigB seed index d k).flatten) ++ y) := Lib.hid (by rw [sigB_next, List.flatten_append, hy.out, hb.out]; simp)
          have l1 := HQ.out.dig.read zD.out
          go_upto_region 15 with (first
            | (go_at_call 23; (with_reducible refine (X1.out _).mono ?_); rintro e w1 ⟨rfl, hb2⟩; have H1 := Lib.hid (HQ.out.next hb2); clear hb2)
            | (go_at_call 25; (with_reducible refine (X2.out _).mono ?_); rintro e w9 ⟨rfl, rfl⟩)
            | (go_at_call 22; (with_reducible refine (X3.out _ (HT.out.next H1.out.below)).mono ?_); rintro e w5 ⟨rfl, hb2⟩; have H5 := Lib.hid (H1.out.next hb2); clear hb2)
            | (go_at_call 24; (with_reducible refine (X4.out _ (HT.out.next H5.out.below)).mono ?_); rintro e w2 ⟨rfl, hb2⟩; obtain ⟨w3, s3, hr3, hb3, hz3⟩ := made_write w2 Y zY.out oY.out; have H3 := Lib.hid ((H5.out.next hb2).next hb3); have HB : Hid (BytesAt w3 ⟨w2.heap.size, 0, none⟩ y) := Lib.hid (Row.bytes (by rw [← hY.out]; exact hr3)); clear hr3 hb3 hz3 hb2))
          clear s3 l1 H1 H5 HQ
          go_wp2_with (at_builtin; refine wpList_appendB rfl (.tmp 42) (.tmp 43) rfl B _ _ _ _ rfl H3.out.own ⟨w2.heap.size, 0, none⟩ 32 32 rfl hy32.out HB.out (by omega) H3.out.hi ?_)
          intro v' w4 hown hg
          have HQ2 : Hid (SgnH w B w4 D v' (8192 + 32 * (k + 1)) ((sigA seed index d 256).flatten ++ (sigB seed index d (k + 1)).flatten)) := Lib.hid (by rw [NB.out, show 8192 + 32 * (k + 1) = 8192 + 32 * k + 32 by omega]; exact H3.out.put hown hg)
          clear hown hg H3
          go_wp2
          go_roundw
          case rel => exact ⟨k + 1, _, by go_num, rfl, by omega, HQ2⟩
          case measure => simp [intOf]; omega
        · have hk9 : k = 256 := by omega
          subst hk9
          have c1 : (convert 41 9 v).run Tryd.prog wr = .ok (.string E) wr := by rw [hE.out]; exact convB HQ.out.own (by decide)
          go_wp2
          go_ret
          exact ⟨rfl, HQ.out.below⟩
set_option maxHeartbeats 1000000 in
theorem lsign_any : SignSays := by
  intro seed index d w hT hs hx hd
  by_cases h : index < 0 ∨ 2147483647 < index
  · rw [sigF_no h]
    have KY : Hid (∀ W, Calls Tryd.prog 20 #[.int .i64 index] W fun e w' => e = .returned (.bool false) ∧ W = w') := Lib.hid fun W => isKey_no _ h W
    obtain ⟨D, hD⟩ : ∃ D, Hid (D = nums .u8 d) := ⟨_, Lib.hid rfl⟩
    have zD : Hid (D.size = 32) := Lib.hid (by rw [hD.out, nums_size]; exact hd.1)
    have H0 : Hid (Below w.heap.size w (w.alloc (.cells D 24))) := Lib.hid ((Below.refl _ _).alloc (Nat.le_refl _) _)
    rw [← hD.out]
    clear h hs hx hd
    go_enter Tryd.func9, Tryd.ntmps9
    go_upto_region 1 with fail
    refine world_gen (fun X => Below w.heap.size w X) H0.out (fun X HX => ?_)
    have HX := Lib.hid HX
    go_wp2_with (go_at_call 20; (with_reducible refine (KY.out _).mono ?_); rintro e w1 ⟨rfl, rfl⟩)
    go_ret
    exact ⟨rfl, HX.out⟩
  · obtain ⟨I, rfl⟩ : ∃ I : Nat, index = I := ⟨index.toNat, by omega⟩
    rw [sigF_ok (by omega)]
    exact lsign_some seed hs I (by omega) d hd w hT
end Go.Proofs.YtllabnhgiojmmaaDoor
namespace Go.Proofs.YtllabnhgiojmmaaDoor
open Go.RowKit Go.Great
set_option linter.unusedVariables false
set_option maxRecDepth 100000

/-- One's own bytes, or the row of a constant text, that is full. -/
def MarkB (w : World) (B : Nat) (v : Value) (n : Nat) (bs : List Int) : Prop :=
  w.ownsRow B 5 1 v n (cellsB bs) ∨ ∃ g, v = .slice (some ⟨g, 0, none⟩) n n ∧ B ≤ g ∧ g < w.heap.size ∧ bs.length = n ∧ BytesAt w ⟨g, 0, none⟩ bs
theorem MarkB.next {w w1 : World} {B : Nat} {v : Value} {n : Nat} {bs : List Int} (h : MarkB w B v n bs) (hb : Below w.heap.size w w1) : MarkB w1 B v n bs := by
  rcases h with h | ⟨g, h1, h2, h3, h4, h5⟩
  · exact .inl (own_below h hb)
  · refine .inr ⟨g, h1, h2, Nat.lt_of_lt_of_le h3 hb.size, h4, fun j hj => ?_⟩
    have e : w1.heap[((⟨g, 0, none⟩ : Addr).add j).block]? = w.heap[((⟨g, 0, none⟩ : Addr).add j).block]? := by rw [add_flat]; exact hb.block g h3
    rw [World.cell?_of_block e]; exact h5 j hj
theorem MarkB.lt {w : World} {B : Nat} {v : Value} {n : Nat} {bs : List Int} (h : MarkB w B v n bs) : ∀ k, v.ownBlock = some k → B ≤ k ∧ k < w.heap.size := by
  rcases h with h | ⟨g, rfl, h2, h3, h4, h5⟩
  · exact h.lt
  · intro k hk
    simp [Value.ownBlock] at hk
    subst hk
    exact ⟨h2, h3⟩
/-- Such a row as it is made. -/
theorem MarkB.made (w : World) (B : Nat) (hB : B ≤ w.heap.size) (bs : List Int) (fz : Nat × Nat) : MarkB (w.alloc (.cells (nums .u8 bs) 5 fz)) B (.slice (some ⟨w.heap.size, 0, none⟩) bs.length bs.length) bs.length bs := by
  refine .inr ⟨w.heap.size, rfl, hB, by simp, rfl, fun j hj => ?_⟩
  rw [add_flat, cell_of_row _ w.heap.size j (nums .u8 bs) 5 fz (heap_alloc_new w _)]
  exact nums_get .u8 bs j hj
theorem conv_const (W : World) (n c : Nat) (C : Array Value) : (convert 41 41 (.slice (some ⟨W.heap.size, 0, none⟩) n c)).run Tryd.prog (W.alloc (.cells C 5)) = .ok (.slice (some ⟨W.heap.size, 0, none⟩) n c) (W.alloc (.cells C 5 (C.size, C.size + 1))) :=
  Lib.run_convert_bytes_const W 41 5 C n c Tryd.underlying41 Tryd.underlying5
theorem run_appendM {ty : TypeId} {w : World} (B : Nat) (v : Value) (n : Nat) (bs us : List Int) (hown : MarkB w B v n bs) (ad : Addr) (m c : Nat) (hm : us.length = m) (h0 : 0 < m) (hU : BytesAt w ad us) (hsm : n + m ≤ 100000) (hB : B ≤ w.heap.size) :
    ∃ v' w', (Builtin.append_ #[41, 41] ty #[v, .slice (some ad) m c]).run Tryd.prog w = .ok v' w' ∧ w'.ownsRow B 5 1 v' (n + m) (cellsB (bs ++ us)) ∧ w.grownBy w' v.ownBlock := by
  obtain ⟨i0, hi, hz0, hz1, hz2⟩ := info_parts info_byte
  subst hm
  have hnews : ∀ (l : List Int) (b : Addr), BytesAt w b l → ∀ j u, (cellsB l)[j]? = some u → w.cell? (b.add j) = some u := fun l b hl j u hj => by
    have hj2 : j < l.length := by
      rcases Nat.lt_or_ge j l.length with h' | h'
      · exact h'
      · rw [List.getElem?_eq_none (by rw [cellsB_length]; exact h')] at hj; cases hj
    rw [cellsB_get l j hj2] at hj
    cases hj
    exact hl j hj2
  rcases hown with hown | ⟨g, rfl, h2, h3, h4, h5⟩
  · obtain ⟨v', w', hr, h1, h2, _⟩ := run_append_own (P := Tryd.prog) w B 41 ty 5 i0 _ 1 1 Tryd.underlying41 hi hz0 hz1 hz2 rfl (by decide) v n (cellsB bs) hown ad us.length c (cellsB us) (by rw [cellsB_length, Nat.mul_one]) (hnews us ad hU) (cellsB_one us) (by unfold maxLen; omega) (by omega) hB
    exact ⟨v', w', hr, by rw [cellsB_app]; exact h1, h2⟩
  · subst h4
    have hr := run_append_grow (P := Tryd.prog) w 41 ty 5 i0 _ Tryd.underlying41 hi hz0 ⟨g, 0, none⟩ bs.length bs.length (cellsB bs) (by rw [cellsB_length, hz1, Nat.mul_one]) (hnews bs _ h5) ad us.length c (cellsB us) (by rw [cellsB_length, hz1, Nat.mul_one]) (hnews us ad hU) (by omega) (by omega) (by rw [hz2]; exact growslice_fits (by omega) (by omega))
    have hge := grownCap_ge w (bs.length + us.length) bs.length 5
    have hcm := grownCap_le_maxLen w (bs.length + us.length) bs.length 5 (by unfold maxLen; omega)
    refine ⟨_, _, hr, ⟨by rw [cellsB_length, List.length_append, Nat.mul_one], .inr ⟨w.heap.size, _, _, rfl, hB, heap_alloc_new w.drew _, hge, hcm, ?_, ?_⟩⟩, ⟨rfl, rfl, rfl, by simp, fun k hk _ => heap_alloc_old w.drew _ hk⟩⟩
    · have hz3 : (Value.int IntKind.u8 0).cells.size = 1 := rfl
      simp only [Array.size_append, List.size_toArray, size_zeroCells, hz3, cellsB_length, Nat.mul_one]
      omega
    · simp only [Array.toList_append, List.append_assoc]
      rw [← List.append_assoc, ← cellsB_app, Nat.mul_one, show bs.length + us.length = (cellsB (bs ++ us)).length by rw [cellsB_length, List.length_append]]
      exact List.take_left
theorem wpList_appendM {ops : Array Oper} {rest : List Oper} {o : Oper} {a : Act} {w : World} {Q : Exit → Act → World → Prop} (hgd : o.guard = none) (s x : Operand) (ho : o.op = .call { callee := .builtin .append, args := #[s, x], argTypes := #[41, 41] })
    (B : Nat) (v : Value) (n : Nat) (bs us : List Int) (hsv : a.eval s = v) (hown : MarkB w B v n bs) (ad : Addr) (m c : Nat) (hx : a.eval x = .slice (some ad) m c) (hm : us.length = m) (h0 : 0 < m) (hU : BytesAt w ad us) (hsm : n + m ≤ 100000) (hB : B ≤ w.heap.size)
    (h : ∀ v' w', w'.ownsRow B 5 1 v' (n + m) (cellsB (bs ++ us)) → w.grownBy w' v.ownBlock → wpList Tryd.prog ops Q rest (a.put o.dst v') w') : wpList Tryd.prog ops Q (o :: rest) a w := by
  refine wpList_plain hgd fun K hK => ?_
  obtain ⟨v', w', hr, h2, h3⟩ := run_appendM (ty := o.type) B v n bs us hown ad m c hm h0 hU hsm hB
  unfold Oper.wp execOp
  simp only [ho, resolve, invoke, builtin, Sem.run_bind, Sem.run_pure, Result.andThen_ok, List.map_toArray, List.map_cons, List.map_nil, hsv, hx, hr]
  exact hK _ _ (h v' w' h2 h3)
end Go.Proofs.YtllabnhgiojmmaaDoor
namespace Go.Proofs.YtllabnhgiojmmaaDoor
open Go.RowKit Go.Great
set_option linter.unusedVariables false
set_option maxRecDepth 100000

/-- What Leaf holds: its result, and the bytes so far. -/
structure KyH (w wr : World) (v : Value) (n : Nat) (bs : List Int) : Prop where
  out : Row wr w.heap.size 24 (nums .u8 (List.replicate 32 0))
  own : MarkB wr (w.heap.size + 1) v n bs
  below : Below w.heap.size w wr
theorem KyH.next {w wr w1 : World} {v : Value} {n : Nat} {bs : List Int} (h : KyH w wr v n bs) (hb : Below wr.heap.size wr w1) : KyH w w1 v n bs := ⟨h.out.next hb, h.own.next hb, below_new h.below hb⟩
theorem KyH.put {w wr w1 : World} {v v' : Value} {n m : Nat} {bs us : List Int} (h : KyH w wr v n bs) (h1 : w1.ownsRow (w.heap.size + 1) 5 1 v' m (cellsB us)) (hg : wr.grownBy w1 v.ownBlock) : KyH w w1 v' m us :=
  ⟨h.out.grown hg (fun e => by have := (h.own.lt _ e.symm).1; omega), .inl h1, h.below.grown hg h.below.size (fun k hk => by have := (h.own.lt k hk).1; omega)⟩
theorem KyH.start {w wx : World} (hr : Row wx w.heap.size 24 (nums .u8 (List.replicate 32 0))) (hb : Below w.heap.size w wx) (fz : Nat × Nat) : KyH w (wx.alloc (.cells (nums .u8 [4]) 5 fz)) (.slice (some ⟨wx.heap.size, 0, none⟩) 1 1) 1 [4] :=
  have hs := hr.lt
  ⟨hr.alloc _, MarkB.made wx _ (by omega) [4] fz, hb.alloc hb.size _⟩
attribute [local go_sem ↓ high] read_at write_at
set_option maxHeartbeats 8000000 in
theorem lkey_any : KeySays := by
  intro ls A c w hT hh hA hc hcm
  obtain ⟨n, hn⟩ : ∃ n, Hid (n = ls.length) := ⟨_, Lib.hid rfl⟩
  have H0 := Lib.hid (OutH.start w)
  have zZ : Hid ((nums .u8 (List.replicate 32 0)).size = 32) := Lib.hid (by rw [nums_size]; simp)
  have oZ : Hid ((nums .u8 (List.replicate 32 0)).all (·.oneCell') = true) := Lib.hid (nums_one _ _)
  have hZ := sizeH _ zZ.out
  have HT := Lib.hid hT
  have hm : n ≤ 9223372036854775807 := by rw [hn.out]; unfold maxLen at hcm; omega
  rw [← hn.out]
  by_cases h5 : n = 512
  · have d1 : ((n : Int) != 512) = false := by rw [h5]; rfl
    have hl : Hid (ls.length = 512) := Lib.hid (by rw [← hn.out]; exact h5)
    have HF : Hid (keyF ls = sumL (strOfNums (4 :: ls.flatten))) := Lib.hid (by rw [keyF_ok hl.out, str_cons]; rfl)
    obtain ⟨C, hC⟩ : ∃ C, Hid (C = nums .u8 (keyF ls)) := ⟨_, Lib.hid rfl⟩
    have zC : Hid (C.size = 32) := Lib.hid (by rw [hC.out, nums_size]; exact (keyF_is _).1)
    have oC : Hid (C.all (·.oneCell') = true) := Lib.hid (by rw [hC.out]; exact nums_one _ _)
    obtain ⟨S, hS⟩ : ∃ S, Hid (S = strOfNums (4 :: ls.flatten)) := ⟨_, Lib.hid rfl⟩
    have X1 : Hid (∀ W, Tab W → Calls Tryd.prog 32 #[.string S] W fun e w' => e = .returned (.agg C) ∧ Below W.heap.size W w') := Lib.hid fun W h => by
      rw [hC.out, HF.out, ← hS.out]
      exact sum_any S (by rw [hS.out, strOfNums_size, List.length_cons, flat_size hh, hl.out]; decide) W h
    obtain ⟨ad, rfl⟩ := hA.some 0 (by rw [hl.out]; decide)
    have HA := Lib.hid hA
    have HH := Lib.hid hh
    rw [← hC.out]
    rw [h5]
    clear hA hh hm hn h5 d1 hT hc hcm
    go_enter Tryd.func18, Tryd.ntmps18
    go_upto_region 1 with fail
    refine world_gen (fun X => OutH w X) H0.out (fun X HX => ?_)
    have HK := Lib.hid (KyH.start HX.1 HX.2 (1, 2))
    clear HX
    have c0 := fun W n c C => conv_const W n c C
    go_wp2
    go_loopw [3, 14] (fun s3 s14 wr => ∃ (k : Nat) (v : Value), s14 = .int .i64 ((k : Nat) : Int) ∧ v = s3 ∧ k ≤ 512 ∧ Hid (KyH w wr v (1 + 32 * k) (4 :: (ls.take k).flatten))) (fun _ s14 _ => (512 - intOf s14).toNat)
    case atStart => exact ⟨0, _, rfl, rfl, by omega, HK⟩
    case round =>
      clear HK
      obtain ⟨k, v, rfl, rfl, hk, HQ⟩ := hrel
      by_cases hlt : k < 512
      · have hkl : k < ls.length := by rw [hl.out]; exact hlt
        have hwk : IntKind.i64.wrap (k : Int) = (k : Int) := by rw [IntKind.wrap_i64]; omega
        have k0 : (0 : Int) ≤ (k : Int) := by omega
        have k1 : (k : Int) < 512 := by omega
        obtain ⟨x, hx⟩ : ∃ x, Hid (x = ls.getD k []) := ⟨_, Lib.hid rfl⟩
        obtain ⟨X, hX⟩ : ∃ X, Hid (X = nums .u8 x) := ⟨_, Lib.hid rfl⟩
        have h32 : Hid (x.length = 32) := Lib.hid (by rw [hx.out]; exact (hashes_at HH.out k hkl).1)
        have zX : Hid (X.size = 32) := Lib.hid (by rw [hX.out, nums_size]; exact h32.out)
        have oX : Hid (X.all (·.oneCell') = true) := Lib.hid (by rw [hX.out]; exact nums_one _ _)
        have l1 : (readAt (.pointer (some (ad.add (k * 32))))).run Tryd.prog wr = .ok (.agg X) wr := by
          rw [hX.out, hx.out]; exact (HA.out.next HQ.out.below (Nat.le_refl _)).read HH.out k hkl
        have HN : Hid (4 :: (ls.take (k + 1)).flatten = (4 :: (ls.take k).flatten) ++ x) := Lib.hid (by
          rw [hx.out, List.take_succ_eq_append_getElem hkl, List.flatten_append, List.getD_eq_getElem?_getD, List.getElem?_eq_getElem hkl]; simp)
        obtain ⟨w2, s2, hr2, hb2, hz2⟩ := made_write wr X zX.out oX.out
        have H2 := Lib.hid (HQ.out.next hb2)
        have HB : Hid (BytesAt w2 ⟨wr.heap.size, 0, none⟩ x) := Lib.hid (Row.bytes (by rw [← hX.out]; exact hr2))
        clear hkl hr2 hb2 hz2
        go_upto_region 7 with fail
        clear s2 l1
        go_wp2_with (at_builtin; refine wpList_appendM rfl (.tmp 18) (.tmp 19) rfl (w.heap.size + 1) _ _ _ _ rfl H2.out.own ⟨wr.heap.size, 0, none⟩ 32 32 rfl h32.out (by decide) HB.out (by omega) (by have := H2.out.out.lt; omega) ?_)
        intro v' w1 hown hg
        have HQ2 : Hid (KyH w w1 v' (1 + 32 * (k + 1)) (4 :: (ls.take (k + 1)).flatten)) := Lib.hid (by rw [HN.out, show 1 + 32 * (k + 1) = 1 + 32 * k + 32 by omega]; exact H2.out.put hown hg)
        clear hown hg
        go_wp2
        go_roundw
        case rel => exact ⟨k + 1, _, by go_num, rfl, by omega, HQ2⟩
        case measure => simp [intOf]; omega
      · have hk9 : k = 512 := by omega
        have HQ2 : Hid (KyH w wr v 16385 (4 :: ls.flatten)) := Lib.hid (by
          have := HQ.out
          rw [hk9, List.take_of_length_le (by rw [hl.out]; exact Nat.le_refl _)] at this
          exact this)
        clear HQ
        subst hk9
        have c1 : (convert 41 9 v).run Tryd.prog wr = .ok (.string S) wr := by
          rw [hS.out]
          rcases HQ2.out.own with h | ⟨g, h1, _, _, h4, h5⟩
          · exact convB h (by decide)
          · subst h1
            exact run_convert_bytes_arg wr 41 5 Tryd.underlying41 Tryd.underlying5 g 0 16385 16385 (4 :: ls.flatten) h4 (fun i hi => by have := h5 i (by omega); rw [add_flat] at this; rw [Nat.zero_add]; exact this) 9 Tryd.underlying9
        go_wp2_with (go_at_call 32; (with_reducible refine (X1.out _ (HT.out.next HQ2.out.below)).mono ?_); rintro e w1 ⟨rfl, hb⟩; have HR := Lib.hid (HQ2.out.out.next hb); have HB := Lib.hid (below_new HQ2.out.below hb); clear hb c1; have s6 := HR.out.write zZ.out zC.out oC.out)
        refine bodyPost_ret (results_cell_row rfl _ _ w.heap.size 24 _ (0, 0) _ rfl (HR.out.whole _) Tryd.underlying24 rfl (sizeH _ zC.out)) rfl ⟨rfl, below_setRow HB.out (Nat.le_refl _)⟩
  · have d1 : ((n : Int) != 512) = true := by simp; omega
    have HF : Hid (keyF ls = zeroL) := Lib.hid (keyF_no (by rw [← hn.out]; exact h5))
    clear hA hh hm h5 hT hc hcm
    go_enter Tryd.func18, Tryd.ntmps18
    go_upto_region 1 with fail
    refine world_gen (fun X => OutH w X) H0.out (fun X HX => ?_)
    have HX := Lib.hid HX
    go_wp2_with (refine wpList_store_row rfl 24 _ _ rfl w.heap.size (nums .u8 (List.replicate 32 0)) rfl rfl 24 _ HX.out.1 hZ (by rw [zZ.out]) oZ.out ?_)
    refine bodyPost_ret (results_cell_row rfl _ _ w.heap.size 24 _ (0, 0) _ rfl (HX.out.1.whole _) Tryd.underlying24 rfl hZ) rfl ⟨by rw [HF.out]; rfl, below_setRow HX.out.2 (Nat.le_refl _)⟩
end Go.Proofs.YtllabnhgiojmmaaDoor
namespace Go.Proofs.YtllabnhgiojmmaaDoor
open Go.RowKit Go.Great
set_option linter.unusedVariables false
set_option maxRecDepth 100000

theorem setL_hashes {ls : List (List Int)} (h : hashes ls) (k : Nat) (l : List Int) (hl : l.length = 32 ∧ bytes l) : hashes (ls.set k l) := fun x hx => by
  rcases List.mem_or_eq_of_mem_set hx with hx | rfl
  · exact h x hx
  · exact hl
theorem setL_getD (ls : List (List Int)) (k i : Nat) (l : List Int) (hi : i < ls.length) : (ls.set k l).getD i [] = if i = k then l else ls.getD i [] := by
  rw [List.getD_eq_getElem?_getD, List.getElem?_set]
  by_cases h : k = i
  · subst h; rw [if_pos rfl, if_pos hi, if_pos rfl]; rfl
  · rw [if_neg h, if_neg (fun e => h e.symm), ← List.getD_eq_getElem?_getD]
theorem own_room {w : World} {base g n cap : Nat} {xs : List Value} (h : w.ownsRow base 24 32 (.slice (some ⟨g, 0, none⟩) n cap) n xs) (k : Nat) (hk : k < n) : w.there g (k * 32) 32 := by
  rcases h.2 with ⟨h0, _⟩ | ⟨g', cap', cur, hv, hb, hg, hn, _, hsz, _⟩
  · cases h0
  · cases hv
    refine fun j hj => ⟨?_, frozen_of_row w g _ cur _ hg⟩
    rw [cell_of_row w g _ cur _ _ hg, Array.getElem?_eq_getElem (by rw [hsz]; have := Nat.mul_le_mul_right 32 (show k + 1 ≤ cap by omega); omega)]
    rfl
/-- A hash into a place of a slice. -/
theorem HL.set {wr : World} {B g : Nat} {ls : List (List Int)} (h : HL wr B (Option.some ⟨g, 0, none⟩) ls) (k : Nat) (hk : k < ls.length) (x : List Int) (hx : x.length = 32) (ht : wr.there g (k * 32) 32) : HL (wr.setCells g (k * 32) (nums .u8 x).toList) B (Option.some ⟨g, 0, none⟩) (ls.set k x) := by
  have hvl : (nums .u8 x).toList.length = 32 := by rw [Array.length_toList, nums_size, hx]
  intro i hi
  rw [List.length_set] at hi
  obtain ⟨ad, e, hlt, hc⟩ := h i hi
  cases e
  refine ⟨_, rfl, hlt, fun j hj => ?_⟩
  have hcj := hc j hj
  rw [add_flat] at hcj ⊢
  rw [setL_getD ls k i x hi]
  by_cases hik : i = k
  · subst hik
    rw [if_pos rfl, World.cell?_setCells_in g _ _ wr (fun q hq => (ht q (by omega)).1) j (by omega)]
    have e := nums_get .u8 x j (by omega)
    rw [← Array.getElem?_toList, List.getElem?_eq_getElem (by omega)] at e
    exact e
  · rw [if_neg hik, World.cell?_setCells_out g _ _ wr ⟨g, i * 32 + j, none⟩ (fun _ _ => by
      rw [hvl]
      rcases Nat.lt_or_gt_of_ne hik with h' | h'
      · left; have := Nat.mul_le_mul_right 32 (show i + 1 ≤ k by omega); show i * 32 + j < k * 32; omega
      · right; have := Nat.mul_le_mul_right 32 (show k + 1 ≤ i by omega); show k * 32 + 32 ≤ i * 32 + j; omega)]
    exact hcj
theorem size_setCells (b : Nat) : ∀ (vs : List Value) (o : Nat) (w : World), (w.setCells b o vs).heap.size = w.heap.size
  | [], _, _ => rfl
  | v :: r, o, w => by rw [World.setCells, size_setCells b r]; simp
end Go.Proofs.YtllabnhgiojmmaaDoor
namespace Go.Proofs.YtllabnhgiojmmaaDoor
open Go.RowKit
set_option linter.unusedVariables false

/-- The hash that stands ahead of a text, or none. -/
def unhV (s : ByteArray) : Value := if s.size < 32 then .tuple #[.agg (nums .u8 (List.replicate 32 0)), .string ⟨#[]⟩, .bool false]
  else .tuple #[.agg (nums .u8 ((textL s).take 32)), .string (s.extract 32 s.size), .bool true]
theorem unhV_no (s : ByteArray) (h : s.size < 32) : unhV s = .tuple #[.agg (nums .u8 (List.replicate 32 0)), .string ⟨#[]⟩, .bool false] := by unfold unhV; rw [if_pos h]
theorem unhV_yes (s : ByteArray) (h : ¬ s.size < 32) : unhV s = .tuple #[.agg (nums .u8 ((textL s).take 32)), .string (s.extract 32 s.size), .bool true] := by unfold unhV; rw [if_neg h]
/-- A text's first bytes, copied over a whole row. -/
theorem run_copy_front {P : Program} (w : World) (dT sT ty elem : TypeId) (g n dCap : Nat) (s : ByteArray) (cur : Array Value) (t : TypeId)
    (hu : P.underlying dT = some (.slice elem)) (hs : (P.info? elem).map (·.size) = some 1) (hg : Row w g t cur) (hle : n ≤ s.size) (hn : cur.size = n) :
    (Builtin.copy_ #[dT, sT] ty #[.slice (some ⟨g, 0, none⟩) n dCap, .string s]).run P w = .ok (goInt n) (w.setRow g (nums .u8 ((textL s).take n))) := by
  have hl : ((textL s).take n).length = n := by rw [List.length_take, textL_length]; omega
  have hone : ∀ v ∈ (nums .u8 ((textL s).take n)).toList, v.oneCell' = true := by
    intro v hv
    have := nums_one .u8 ((textL s).take n)
    rw [Array.all_eq_true_iff_forall_mem] at this
    exact this v (by simpa using hv)
  have hlen : (nums .u8 ((textL s).take n)).toList.length = n := by rw [Array.length_toList, nums_size, hl]
  have hst := run_storeCells_at P g 0 t (nums .u8 ((textL s).take n)).toList 0 cur w hg (by rw [hlen]; omega) hone
  have hmin : Nat.min s.size n = n := Nat.min_eq_right hle
  have htk : List.take n (List.map (fun b : UInt8 => Value.int IntKind.u8 (b.toNat : Int)) s.data.toList) = (nums .u8 ((textL s).take n)).toList := by
    unfold nums textL
    rw [List.map_take, List.map_map]
    simp only [Function.comp_def]
  rw [hlen] at hst
  simp only [Nat.add_zero] at hst
  cases hq : P.info? elem with
  | none => simp [hq] at hs
  | some i =>
    simp [Builtin.copy_, run_underlying hu, Builtin.lenOf, Builtin.firstCells, sizeOf, typeInfo, hq, hmin]
    rw [htk, hst]
    simp [Result.andThen]
    rw [List.drop_of_length_le (by simp; omega)]
    simp
theorem wpList_copy_front {P : Program} {w : World} {ops : Array Oper} {rest : List Oper} {o : Oper} {a : Act} {Q : Exit → Act → World → Prop} (hgd : o.guard = none) (d x : Operand) (dT sT : TypeId)
    (ho : o.op = .call { callee := .builtin .copy, args := #[d, x], argTypes := #[dT, sT] }) (elem : TypeId) (hu : P.underlying dT = some (.slice elem)) (hs : (P.info? elem).map (·.size) = some 1)
    (g n dCap : Nat) (hd : a.eval d = .slice (some ⟨g, 0, none⟩) n dCap) (s : ByteArray) (hx : a.eval x = .string s) (cur : Array Value) (t : TypeId) (hg : Row w g t cur) (hle : n ≤ s.size) (hn : cur.size = n)
    (h : wpList P ops Q rest (a.put o.dst (goInt n)) (w.setRow g (nums .u8 ((textL s).take n)))) : wpList P ops Q (o :: rest) a w := by
  refine wpList_plain hgd fun K hK => ?_
  have hrun := run_copy_front (P := P) w dT sT o.type elem g n dCap s cur t hu hs hg hle hn
  unfold Oper.wp
  simp [execOp, ho, resolve, invoke, builtin, hd, hx, hrun, Result.andThen]
  exact hK _ _ h
theorem results_row3b {P : Program} {fn : Func} {p u v : Tmp} {ty : TypeId} (h : fn.results = #[.cell p ty, .tmp u, .tmp v]) (tmps : Array Value) (w : World) (g : Nat) (t : TypeId) (cs : Array Value) (fr : Nat × Nat) (d : TypeDesc)
    (hp : tmps.getD p undef = .pointer (some ⟨g, 0, none⟩)) (hg : w.heap[g]? = some (.cells cs t fr)) (hu : P.underlying ty = some d) (hd : (match d with | .struct _ | .array _ _ => true | _ => false) = true) (hi : (P.info? ty).map (·.size) = some cs.size) :
    (results fn tmps).run P w = .ok (.tuple #[.agg cs, tmps.getD u undef, tmps.getD v undef]) w := by
  have hp' : tmps[p]?.getD undef = .pointer (some ⟨g, 0, none⟩) := by simpa using hp
  simp [results, h, hp', asAddr, run_loadVar_row w g t ty cs fr d hg hu hd hi]
theorem ret_unh {s : ByteArray} {v : Value} (h : unhV s = v) : Ending.returned v = .returned (unhV s) := by rw [h]
theorem byte1 : (Tryd.prog.info? 5).map (·.size) = some 1 := by kernel_rfl
attribute [local go_sem ↓ high] read_at write_at
set_option maxHeartbeats 1000000 in
set_option maxRecDepth 100000 in
theorem unhash_any (s : ByteArray) (hs : s.size ≤ maxLen) (w : World) :
    Calls Tryd.prog 30 #[.string s] w fun e w' => e = .returned (unhV s) ∧ Below w.heap.size w w' := by
  unfold maxLen at hs
  obtain ⟨Z, hZ⟩ : ∃ Z, Hid (Z = nums .u8 (List.replicate 32 0)) := ⟨_, Lib.hid rfl⟩
  have zZ : Hid (Z.size = 32) := Lib.hid (by rw [hZ.out, nums_size]; simp)
  have oZ : Hid (Z.all (·.oneCell') = true) := Lib.hid (by rw [hZ.out]; exact nums_one _ _)
  obtain ⟨C, hC⟩ : ∃ C, Hid (C = nums .u8 ((textL s).take 32)) := ⟨_, Lib.hid rfl⟩
  have oC : Hid (C.all (·.oneCell') = true) := Lib.hid (by rw [hC.out]; exact nums_one _ _)
  have H0 : Hid (Row (w.alloc (.cells (nums .u8 (List.replicate 32 0)) 24)) w.heap.size 24 (nums .u8 (List.replicate 32 0)) ∧ Below w.heap.size w (w.alloc (.cells (nums .u8 (List.replicate 32 0)) 24))) := Lib.hid ⟨Row.made _ _ _, (Below.refl _ _).alloc (Nat.le_refl _) _⟩
  go_enter Tryd.func30, Tryd.ntmps30
  go_upto_region 0 with fail
  go_cut [2, 3, 4] (fun s2 s3 s4 wx => s2 = .pointer (some ⟨w.heap.size, 0, none⟩) ∧ s3 = .string ⟨#[]⟩ ∧ s4 = .bool false ∧ Hid (Row wx w.heap.size 24 Z ∧ Below w.heap.size w wx))
  case first =>
    go_wp2_with fail
    go_meet
    exact ⟨rfl, rfl, rfl, by rw [hZ.out]; exact H0⟩
  case rest =>
  obtain ⟨rfl, rfl, rfl, HH⟩ := hcut
  clear H0
  have hrow := HH.out.1
  by_cases hlt : s.size < 32
  · have hV := Lib.hid (unhV_no s hlt)
    have hd : decide ((s.size : Int) < 32) = true := decide_eq_true (by omega)
    rw [← hZ.out] at hV
    have h6 : (Tryd.prog.info? 24).map (·.size) = some (nums .u8 (List.replicate 32 0)).size := by kernel_rfl
    have H6 := Lib.hid h6
    have h3 := nums_one .u8 (List.replicate 32 0)
    rw [hZ.out] at hrow hV
    have HB := Lib.hid HH.out.2
    clear h6 HH
    go_wp2_with (refine wpList_store_row rfl 24 _ _ rfl w.heap.size (nums .u8 (List.replicate 32 0)) rfl rfl 24 _ hrow H6.out rfl h3 ?_)
    refine bodyPost_ret (results_row3b (p := 2) (u := 3) (v := 4) rfl _ _ w.heap.size 24 _ (0, 0) _ rfl (hrow.whole _) Tryd.underlying24 rfl H6.out) rfl ⟨ret_unh hV.out, below_setRow HB.out (Nat.le_refl _)⟩
  · have hV := Lib.hid (unhV_yes s hlt)
    have hd : decide ((s.size : Int) < 32) = false := decide_eq_false (by omega)
    rw [← hC.out] at hV
    have h32 : 32 ≤ s.size := by omega
    have zC : Hid (C.size = 32) := Lib.hid (by rw [hC.out, nums_size, List.length_take, textL_length]; omega)
    have HB := Lib.hid HH.out.2
    clear HH
    go_upto_region 3 with fail
    go_cut [2, 4] (fun s2 s4 wx => s2 = .pointer (some ⟨w.heap.size, 0, none⟩) ∧ s4 = .bool false ∧ Hid (Row wx w.heap.size 24 C ∧ Below w.heap.size w wx))
    case first =>
      go_wp2_with (refine wpList_copy_front rfl _ _ _ _ rfl 5 Tryd.underlying41 byte1 w.heap.size 32 32 rfl s rfl Z 24 hrow h32 zZ.out ?_)
      go_meet
      exact ⟨rfl, rfl, Lib.hid ⟨by rw [hC.out]; exact hrow.whole _, below_setRow HB.out (Nat.le_refl _)⟩⟩
    case rest =>
    obtain ⟨rfl, rfl, HQ⟩ := hcut
    clear hrow HB
    have s1 := HQ.out.1.drew.read zC.out
    have s2 := HQ.out.1.drew.write zC.out zC.out oC.out
    go_wp2_with fail
    go_region
    all_goals
      go_wp2
      refine bodyPost_ret (results_row3b (p := 2) (u := 3) (v := 4) rfl _ _ w.heap.size 24 _ (0, 0) _ rfl (HQ.out.1.drew.whole _) Tryd.underlying24 rfl (sizeH _ zC.out)) rfl ⟨ret_unh hV.out, below_setRow HQ.out.2.drew (Nat.le_refl _)⟩
end Go.Proofs.YtllabnhgiojmmaaDoor
namespace Go.Proofs.YtllabnhgiojmmaaDoor
open Go.RowKit
set_option linter.unusedVariables false
set_option maxRecDepth 100000

theorem take_more (l : List Int) (k : Nat) (h : k < l.length) : l.take (k + 1) = l.take k ++ [l.getD k 0] := by
  rw [List.take_succ_eq_append_getElem h]
  simp [List.getD, List.getElem?_eq_getElem h]
/-- What holds at the head of the rounds of the document's Unhash. -/
def UnhHead (w wr : World) (s : ByteArray) (k : Nat) : Prop :=
  Row wr w.heap.size 24 (nums .u8 (List.replicate 32 0)) ∧ Row wr (w.heap.size + 1) 24 (nums .u8 ((textL s).take k ++ List.replicate (32 - k) 0)) ∧ Below w.heap.size w wr
theorem UnhHead.start (w : World) (s : ByteArray) : UnhHead w ((w.alloc (.cells (nums .u8 (List.replicate 32 0)) 24)).alloc (.cells (nums .u8 (List.replicate 32 0)) 24)) s 0 :=
  ⟨(Row.made _ _ _).alloc _, Row.made2 _ _ _ _, ((Below.refl _ _).alloc (Nat.le_refl _) _).alloc (by simp) _⟩
theorem UnhHead.next {w wr : World} {s : ByteArray} {k : Nat} (H : UnhHead w wr s k) (hk : k < 32) (hs : k < s.size) : UnhHead w (wr.setCell ⟨w.heap.size + 1, k, none⟩ (.int .u8 ((s[k].toNat : Nat) : Int))) s (k + 1) := by
  refine ⟨H.1.far (by simp) _, ?_, H.2.2.setCell (by simp) _⟩
  have h := H.2.1.numPut k ((s[k].toNat : Nat) : Int)
  have hl : ((textL s).take k).length = k := by rw [List.length_take, textL_length]; omega
  have e : ((textL s).take k ++ List.replicate (32 - k) 0).set k ((s[k].toNat : Nat) : Int) = (textL s).take (k + 1) ++ List.replicate (32 - (k + 1)) 0 := by
    rw [show 32 - k = (32 - (k + 1)) + 1 by omega, List.replicate_succ, List.set_append_right _ _ (by omega), hl, Nat.sub_self, List.set_cons_zero, take_more (textL s) k (by rw [textL_length]; exact hs), textL_getD s k hs]
    simp
  rwa [e] at h
attribute [local go_sem ↓ high] read_at write_at
set_option maxHeartbeats 1000000 in
set_option maxRecDepth 100000 in
theorem refUnhash_any (s : ByteArray) (hs : s.size ≤ maxLen) (w : World) :
    Calls Tryd.prog 31 #[.string s] w fun e w' => e = .returned (unhV s) ∧ Below w.heap.size w w' := by
  unfold maxLen at hs
  have H0 := Lib.hid (UnhHead.start w s)
  have h6 : Hid ((Tryd.prog.info? 24).map (·.size) = some (nums .u8 (List.replicate 32 0)).size) := Lib.hid (by kernel_rfl)
  have h3 := nums_one .u8 (List.replicate 32 0)
  go_enter Tryd.func31, Tryd.ntmps31
  go_upto_region 1 with fail
  go_cut [2, 3, 4, 5] (fun s2 s3 s4 s5 wx => s2 = .pointer (some ⟨w.heap.size, 0, none⟩) ∧ s3 = .string ⟨#[]⟩ ∧ s4 = .bool false ∧ s5 = .pointer (some ⟨w.heap.size + 1, 0, none⟩) ∧ Hid (UnhHead w wx s 0))
  case first =>
    go_wp2_with fail
    go_meet
    exact ⟨rfl, rfl, rfl, rfl, H0⟩
  case rest =>
  obtain ⟨rfl, rfl, rfl, rfl, HH⟩ := hcut
  clear H0
  by_cases hlt : s.size < 32
  · have hV := Lib.hid (unhV_no s hlt)
    have hd : decide ((s.size : Int) < 32) = true := decide_eq_true (by omega)
    have h1 := HH.out.1
    have h2 : Row wc (w.heap.size + 1) 24 (nums .u8 (List.replicate 32 0)) := by have := HH.out.2.1; simpa using this
    have HB := Lib.hid HH.out.2.2
    clear HH
    go_wp2_with (first
      | (refine wpList_load_row rfl 24 _ rfl (w.heap.size + 1) rfl 24 _ (0, 0) _ h2 Tryd.underlying24 rfl h6.out ?_)
      | (refine wpList_store_row rfl 24 _ _ rfl w.heap.size (nums .u8 (List.replicate 32 0)) rfl rfl 24 _ h1 h6.out rfl h3 ?_))
    refine bodyPost_ret (results_row3b (p := 2) (u := 3) (v := 4) rfl _ _ w.heap.size 24 _ (0, 0) _ rfl (h1.whole _) Tryd.underlying24 rfl h6.out) rfl ⟨ret_unh hV.out, below_setRow HB.out (Nat.le_refl _)⟩
  · have hV := Lib.hid (unhV_yes s hlt)
    have hd : decide ((s.size : Int) < 32) = false := decide_eq_false (by omega)
    have h32 : 32 ≤ s.size := by omega
    clear hlt
    go_wp2
    go_loopw [6] (fun s6 wr => ∃ k : Nat, k ≤ 32 ∧ s6 = .int .i64 ((k : Nat) : Int) ∧ Hid (UnhHead w wr s k)) (fun s6 _ => (32 - intOf s6).toNat)
    case atStart => exact ⟨0, by omega, rfl, HH⟩
    case round =>
      clear HH
      obtain ⟨k, hk, rfl, HH⟩ := hrel
      by_cases hlt : k < 32
      · have hks : k < s.size := by omega
        have hc := HH.out.2.1.num (i := k) (by rw [List.length_append, List.length_take, textL_length]; simp; omega)
        have hf := HH.out.2.1.free k
        go_wp2
        go_roundw
        case rel => exact ⟨k + 1, by omega, by go_num, Lib.hid (HH.out.next hlt hks)⟩
        case measure => simp [intOf]; omega
      · have hk9 : Hid (k = 32) := Lib.hid (by omega)
        obtain ⟨C, hC⟩ : ∃ C, Hid (C = nums .u8 ((textL s).take 32)) := ⟨_, Lib.hid rfl⟩
        have zC : Hid (C.size = 32) := Lib.hid (by rw [hC.out, nums_size, List.length_take, textL_length]; omega)
        have oC : Hid (C.all (·.oneCell') = true) := Lib.hid (by rw [hC.out]; exact nums_one _ _)
        have h2 : Hid (Row wr (w.heap.size + 1) 24 C) := Lib.hid (by
          have h := HH.out.2.1
          rw [hk9.out] at h
          rw [hC.out]
          simpa using h)
        have zZ : Hid ((nums .u8 (List.replicate 32 0)).size = 32) := Lib.hid (by rw [nums_size]; simp)
        rw [← hC.out] at hV
        have s1 := h2.out.drew.read zC.out
        have s2 := HH.out.1.drew.write zZ.out zC.out oC.out
        go_wp2_with fail
        go_region
        all_goals
          go_wp2
          refine bodyPost_ret (results_row3b (p := 2) (u := 3) (v := 4) rfl _ _ w.heap.size 24 _ (0, 0) _ rfl (HH.out.1.drew.whole _) Tryd.underlying24 rfl (sizeH _ zC.out)) rfl ⟨ret_unh hV.out, below_setRow HH.out.2.2.drew (Nat.le_refl _)⟩
end Go.Proofs.YtllabnhgiojmmaaDoor
namespace Go.Proofs.YtllabnhgiojmmaaDoor
open Go.RowKit Go.Great
set_option linter.unusedVariables false
set_option maxRecDepth 100000

/-- The public hashes so far: of the first k pairs, zero behind them. -/
def recM (T d : List Int) (k : Nat) : List (List Int) := (List.range 512).map fun j => if j < 2 * k then recAt T d j else zeroL
theorem recM_length (T d : List Int) (k : Nat) : (recM T d k).length = 512 := by simp [recM]
theorem recM_get (T d : List Int) (k j : Nat) (h : j < 512) : (recM T d k).getD j [] = if j < 2 * k then recAt T d j else zeroL := by simp [recM, List.getD, h]
theorem recM_done (T d : List Int) : recM T d 256 = recL T d := by
  unfold recM recL
  refine List.map_congr_left (fun j hj => ?_)
  have hj : j < 512 := by simpa using hj
  rw [if_pos (by omega)]
theorem list_getD_ext {a b : List (List Int)} (h : a.length = b.length) (hh : ∀ j, j < a.length → a.getD j [] = b.getD j []) : a = b := by
  refine List.ext_getElem h (fun j h1 h2 => ?_)
  have e := hh j h1
  rw [List.getD_eq_getElem?_getD, List.getD_eq_getElem?_getD, List.getElem?_eq_getElem h1, List.getElem?_eq_getElem h2] at e
  exact e
theorem recM_step (T d : List Int) (k b : Nat) (hk : k < 256) (hb : b = bitN d k) : ((recM T d k).set (2 * k + b) (pubH ((T.drop (32 * k)).take 32))).set (2 * k + 1 - b) ((T.drop (8192 + 32 * k)).take 32) = recM T d (k + 1) := by
  have hb1 : b ≤ 1 := by rw [hb]; exact bitN_le d k
  refine list_getD_ext (by simp [recM_length]) (fun j hj => ?_)
  have hj : j < 512 := by simpa [recM_length] using hj
  rw [setL_getD _ _ _ _ (by rw [List.length_set, recM_length]; exact hj), setL_getD _ _ _ _ (by rw [recM_length]; exact hj), recM_get _ _ _ _ hj, recM_get _ _ _ _ hj]
  by_cases h1 : j = 2 * k + 1 - b
  · rw [if_pos h1, if_pos (by omega)]
    unfold recAt
    rw [show j / 2 = k by omega, ← hb, if_neg (by omega)]
  · rw [if_neg h1]
    by_cases h2 : j = 2 * k + b
    · rw [if_pos h2, if_pos (by omega)]
      unfold recAt
      rw [show j / 2 = k by omega, ← hb, if_pos (by omega)]
    · rw [if_neg h2]
      by_cases h3 : j < 2 * k
      · rw [if_pos h3, if_pos (by omega)]
      · rw [if_neg h3, if_neg (by omega)]
/-- What Recover holds: the digest, its result, the public hashes so far. -/
structure RecH (w wr : World) (D : Array Value) (ms : List (List Int)) : Prop where
  dig : Row wr w.heap.size 24 D
  out : Row wr (w.heap.size + 1) 24 (nums .u8 (List.replicate 32 0))
  lst : HL wr (w.heap.size + 3) (some ⟨w.heap.size + 2, 0, none⟩) ms
  room : ∀ k, k < 512 → wr.there (w.heap.size + 2) (k * 32) 32
  below : Below w.heap.size w wr
  size : w.heap.size + 3 ≤ wr.heap.size
section
variable {w wr w1 : World} {D : Array Value} {ms : List (List Int)}
theorem there_next {g o n : Nat} (h : wr.there g o n) (hb : Below wr.heap.size wr w1) (hg : g < wr.heap.size) : w1.there g o n := fun j hj =>
  have e := hb.block g hg
  ⟨by rw [World.cell?_of_block e]; exact (h j hj).1, by rw [World.frozen?_of_block e]; exact (h j hj).2⟩
theorem RecH.next (h : RecH w wr D ms) (hb : Below wr.heap.size wr w1) : RecH w w1 D ms :=
  ⟨h.dig.next hb, h.out.next hb, h.lst.next hb h.size, fun k hk => there_next (h.room k hk) hb (by have := h.size; omega), below_new h.below hb, Nat.le_trans h.size hb.size⟩
theorem RecH.put (h : RecH w wr D ms) (k : Nat) (hk : k < 512) (hm : ms.length = 512) (x : List Int) (hx : x.length = 32) : RecH w (wr.setCells (w.heap.size + 2) (k * 32) (nums .u8 x).toList) D (ms.set k x) :=
  have hb : Below (w.heap.size + 2) wr (wr.setCells (w.heap.size + 2) (k * 32) (nums .u8 x).toList) := below_setCells_w (Nat.le_refl _) _ _ _
  ⟨h.dig.below hb (by omega), h.out.below hb (by omega), h.lst.set k (by rw [hm]; exact hk) x hx (h.room k hk), fun j hj => World.there_setCells (h.room j hj) _ _ _, h.below.trans (hb.mono (by omega)), by rw [size_setCells]; exact h.size⟩
theorem RecH.list (h : RecH w wr D ms) : HL wr wr.heap.size (some ⟨w.heap.size + 2, 0, none⟩) ms := h.lst.more h.size
end
theorem zero_cell (z : Array Value) (hz : z = nums .u8 (List.replicate 32 0)) (n i : Nat) (h : i < n) : (madeCells z n).toList[i]? = some (.int .u8 0) := by
  have h32 : z.size = 32 := by rw [hz, nums_size]; simp
  have hlt : i % z.size < z.size := Nat.mod_lt _ (by omega)
  rw [Array.getElem?_toList]
  unfold madeCells
  rw [Array.getElem?_map, Array.getElem?_range, if_pos h]
  show some (z[i % z.size]!) = _
  rw [getElem!_pos z (i % z.size) hlt]
  have e := nums_get .u8 (List.replicate 32 0) (i % z.size) (by simp; omega)
  rw [← hz, Array.getElem?_eq_getElem hlt] at e
  rw [e, List.getD_eq_getElem?_getD, List.getElem?_replicate]
  split <;> rfl
theorem RecH.start {wx w1 : World} {w : World} {D : Array Value} (hs : wx.heap.size = w.heap.size + 2) (h1 : Row wx w.heap.size 24 D) (h2 : Row wx (w.heap.size + 1) 24 (nums .u8 (List.replicate 32 0))) (h3 : Below w.heap.size w wx) (T d : List Int)
    (h4 : w1.ownsRow (w.heap.size + 2) 24 32 (.slice (some ⟨w.heap.size + 2, 0, none⟩) 512 512) 512 (madeCells (Value.agg (nums .u8 (List.replicate 32 0))).cells (512 * 32)).toList) (h5 : wx.grownBy w1 none) : RecH w w1 D (recM T d 0) := by
  have hb : Below (w.heap.size + 2) wx w1 := (Below.refl _ _).grown h5 (by omega) (fun k hk => by cases hk)
  refine ⟨h1.below hb (by omega), h2.below hb (by omega), ?_, fun k hk => own_room h4 k hk, h3.trans (hb.mono (by omega)), by have : w.heap.size + 2 < w1.heap.size := (h4.lt _ rfl).2; omega⟩
  intro i hi
  rw [recM_length] at hi
  refine ⟨_, rfl, by show w.heap.size + 2 < _; omega, fun j hj => ?_⟩
  rw [recM_get _ _ _ _ hi, if_neg (by omega)]
  have e := h4.cells (g := w.heap.size + 2) rfl (i * 32 + j) (.int .u8 0) (zero_cell _ rfl _ _ (by omega))
  rw [e]
  unfold zeroL
  rw [List.getD_eq_getElem?_getD, List.getElem?_replicate, if_pos hj]; rfl
/-- What Recover holds ahead of its list. -/
def RecX (w X : World) (D : Array Value) : Prop := X.heap.size = w.heap.size + 2 ∧ Row X w.heap.size 24 D ∧ Row X (w.heap.size + 1) 24 (nums .u8 (List.replicate 32 0)) ∧ Below w.heap.size w X
theorem RecX.start (w : World) (D : Array Value) : RecX w ((w.alloc (.cells D 24)).alloc (.cells (nums .u8 (List.replicate 32 0)) 24)) D :=
  ⟨by simp, (Row.made _ _ _).alloc _, Row.made2 _ _ _ _, ((Below.refl _ _).alloc (Nat.le_refl _) _).alloc (by simp) _⟩
theorem text_part (s : ByteArray) (a b : Nat) (h : a ≤ b) : strOfNums (((textL s).drop a).take (b - a)) = s.extract a b := by rw [← textL_extract, text_nums]
attribute [local go_sem ↓ high] read_at write_at
set_option maxHeartbeats 8000000 in
theorem refRecover_any (s : ByteArray) (hs : s.size ≤ maxLen) (d : List Int) (hd : d.length = 32 ∧ bytes d) (w : World) :
    Calls Tryd.prog 14 #[.string s, .agg (nums .u8 d)] w fun e w' => e = .returned (.tuple #[.agg (nums .u8 (recF s d).1), .int .i64 (recF s d).2]) ∧ Below w.heap.size w w' := by
  unfold maxLen at hs
  obtain ⟨i0, hi0, hz0, hz1, hz2⟩ := info_parts infoHash
  obtain ⟨D, hD⟩ : ∃ D, Hid (D = nums .u8 d) := ⟨_, Lib.hid rfl⟩
  have zD : Hid (D.size = 32) := Lib.hid (by rw [hD.out, nums_size]; exact hd.1)
  have zZ : Hid ((nums .u8 (List.replicate 32 0)).size = 32) := Lib.hid (by rw [nums_size]; simp)
  have oZ : Hid ((nums .u8 (List.replicate 32 0)).all (·.oneCell') = true) := Lib.hid (nums_one _ _)
  have hZ := sizeH _ zZ.out
  have H0 := Lib.hid (RecX.start w D)
  rw [← hD.out]
  by_cases hs6 : s.size = 16384
  · obtain ⟨S, hS⟩ : ∃ S, Hid (S = strOfNums d) := ⟨_, Lib.hid rfl⟩
    obtain ⟨T, hT⟩ : ∃ T, Hid (T = textL s) := ⟨_, Lib.hid rfl⟩
    have HT : Hid (T.length = 16384 ∧ bytes T) := Lib.hid (by rw [hT.out]; exact ⟨by rw [textL_length, hs6], textL_bytes s⟩)
    have BI : Hid (∀ (W : World) (i : Nat), i ≤ 255 → Calls Tryd.prog 26 #[.string S, .int .i64 (i : Int)] W fun e w' => e = .returned (.int .i64 (bitN d i : Int)) ∧ W = w') := Lib.hid fun W i h => by
      have := refBit_any S (i : Int) W (by rw [hS.out, strOfNums_size, hd.1]; decide) (by omega)
      rwa [hS.out, bitN_is, ← hS.out] at this
    have CV : Hid (∀ W, Row W w.heap.size 24 D → (convert 41 9 (.slice (some ⟨w.heap.size, 0, none⟩) 32 32)).run Tryd.prog W = .ok (.string S) W) := Lib.hid fun W h => by
      rw [hS.out]; exact conv_row (by rw [← hD.out]; exact h) hd.1
    have HF : Hid (recF s d = (keyF (recL T d), 0)) := Lib.hid (by rw [recF_ok hs6, hT.out])
    have SM : Hid (∀ (W : World) (a : Nat), a + 32 ≤ 16384 → Calls Tryd.prog 27 #[.string (⟨#[3]⟩ ++ s.extract a (a + 32))] W fun e w' => e = .returned (.agg (nums .u8 (pubH ((T.drop a).take 32)))) ∧ Below W.heap.size W w') := Lib.hid fun W a h => by
      have := refSum_any (⟨#[3]⟩ ++ s.extract a (a + 32)) (by rw [ByteArray.size_append, ByteArray.size_extract]; show 1 + _ ≤ _; omega) W
      have e := text_part s a (a + 32) (by omega)
      rw [show a + 32 - a = 32 by omega, ← hT.out] at e
      unfold pubH
      rw [e]; exact this
    have UH : Hid (∀ (W : World) (a : Nat), a + 32 ≤ 16384 → Calls Tryd.prog 31 #[.string (s.extract a s.size)] W fun e w' => (∃ v, e = .returned (.tuple #[.agg (nums .u8 ((T.drop a).take 32)), .string v, .bool true])) ∧ Below W.heap.size W w') := Lib.hid fun W a h => by
      have hsz : (s.extract a s.size).size = 16384 - a := by rw [ByteArray.size_extract]; omega
      refine (refUnhash_any (s.extract a s.size) (by rw [hsz]; unfold maxLen; omega) W).mono ?_
      rintro e w' ⟨rfl, hb⟩
      refine ⟨⟨(s.extract a s.size).extract 32 (s.extract a s.size).size, ?_⟩, hb⟩
      rw [unhV_yes _ (by rw [hsz]; omega), textL_rest, ← hT.out]
    have KY : Hid (∀ (W : World) (c : Nat), HL W W.heap.size (some ⟨w.heap.size + 2, 0, none⟩) (recL T d) → Calls Tryd.prog 19 #[.slice (some ⟨w.heap.size + 2, 0, none⟩) 512 c] W fun e w' => e = .returned (.agg (nums .u8 (keyF (recL T d)))) ∧ Below W.heap.size W w') := Lib.hid fun W c h => by
      have := refKey_any (recL T d) (recL_hashes T d HT.out.2 HT.out.1) _ c W h (by rw [recL_length]; decide)
      rwa [recL_length] at this
    obtain ⟨C, hC⟩ : ∃ C, Hid (C = nums .u8 (keyF (recL T d))) := ⟨_, Lib.hid rfl⟩
    have zC : Hid (C.size = 32) := Lib.hid (by rw [hC.out, nums_size]; exact (keyF_is _).1)
    have oC : Hid (C.all (·.oneCell') = true) := Lib.hid (by rw [hC.out]; exact nums_one _ _)
    have n1 : (s.size : Int) = 16384 := by omega
    rw [HF.out]
    show Calls _ _ _ _ fun e w' => e = .returned (.tuple #[.agg (nums .u8 (keyF (recL T d))), .int .i64 0]) ∧ Below w.heap.size w w'
    rw [← hC.out] at KY ⊢
    clear hd hD hS hT hs hC
    go_enter Tryd.func14, Tryd.ntmps14
    go_upto_region 1 with fail
    refine world_gen (fun X => RecX w X D) H0.out (fun X HX => ?_)
    have HX := Lib.hid HX
    clear H0
    go_upto_region 4 with (at_make; refine wpList_make_full _ rfl _ _ 33 rfl (w.heap.size + 2) 24 i0 _ 32 Tryd.underlying33 hi0 hz0 hz1 _ _ _ _ 512 rfl rfl rfl rfl (by rw [hz2]; decide) (by decide) (by rw [HX.out.1]; exact Nat.le_refl _) ?_; rw [HX.out.1]; intro w1 hown hgr; have HK := Lib.hid (RecH.start HX.out.1 HX.out.2.1 HX.out.2.2.1 HX.out.2.2.2 T d hown hgr); clear hown hgr HX)
    go_wp2
    go_loopw [7] (fun s7 wr => ∃ (k : Nat), s7 = .int .i64 ((k : Nat) : Int) ∧ k ≤ 256 ∧ Hid (RecH w wr D (recM T d k))) (fun s7 _ => (256 - intOf s7).toNat)
    case atStart => exact ⟨0, rfl, by omega, HK⟩
    case round =>
      clear HK
      obtain ⟨k, rfl, hk, HQ⟩ := hrel
      by_cases hlt : k < 256
      · have hwk : IntKind.i64.wrap (k : Int) = (k : Int) := by rw [IntKind.wrap_i64]; omega
        have hkb : Hid (k ≤ 255) := Lib.hid (by omega)
        obtain ⟨b, hb⟩ : ∃ b, Hid (b = bitN d k) := ⟨_, Lib.hid rfl⟩
        have hb1 : b ≤ 1 := by rw [hb.out]; exact bitN_le d k
        have X1 : Hid (∀ W, Calls Tryd.prog 26 #[.string S, .int .i64 (k : Int)] W fun e w' => e = .returned (.int .i64 (b : Int)) ∧ W = w') := Lib.hid fun W => by rw [hb.out]; exact BI.out W k hkb.out
        obtain ⟨y, hy⟩ : ∃ y, Hid (y = pubH ((T.drop (32 * k)).take 32)) := ⟨_, Lib.hid rfl⟩
        obtain ⟨Y, hY⟩ : ∃ Y, Hid (Y = nums .u8 y) := ⟨_, Lib.hid rfl⟩
        have hy32 : Hid (y.length = 32) := Lib.hid (by rw [hy.out]; exact (pubH_is _).1)
        have zY : Hid (Y.size = 32) := Lib.hid (by rw [hY.out, nums_size]; exact hy32.out)
        have oY : Hid (Y.all (·.oneCell') = true) := Lib.hid (by rw [hY.out]; exact nums_one _ _)
        obtain ⟨z, hz⟩ : ∃ z, Hid (z = (T.drop (8192 + 32 * k)).take 32) := ⟨_, Lib.hid rfl⟩
        obtain ⟨Z, hZz⟩ : ∃ Z, Hid (Z = nums .u8 z) := ⟨_, Lib.hid rfl⟩
        have hz32 : Hid (z.length = 32) := Lib.hid (by rw [hz.out, List.length_take, List.length_drop, HT.out.1]; have := hkb.out; omega)
        have zZz : Hid (Z.size = 32) := Lib.hid (by rw [hZz.out, nums_size]; exact hz32.out)
        have oZz : Hid (Z.all (·.oneCell') = true) := Lib.hid (by rw [hZz.out]; exact nums_one _ _)
        obtain ⟨p, hp⟩ : ∃ p, p = 32 * k := ⟨_, rfl⟩
        obtain ⟨q, hq⟩ : ∃ q, q = p + 32 := ⟨_, rfl⟩
        obtain ⟨r, hr⟩ : ∃ r, r = 8192 + p := ⟨_, rfl⟩
        obtain ⟨u, hu⟩ : ∃ u, u = 2 * k + b := ⟨_, rfl⟩
        obtain ⟨v, hv⟩ : ∃ v, v = 2 * k + 1 - b := ⟨_, rfl⟩
        have hw1 : IntKind.i64.wrap (32 * (k : Int)) = (p : Int) := by rw [IntKind.wrap_i64]; omega
        have hw2 : IntKind.i64.wrap ((p : Int) + 32) = (q : Int) := by rw [IntKind.wrap_i64]; omega
        have hw3 : IntKind.i64.wrap (8192 + (p : Int)) = (r : Int) := by rw [IntKind.wrap_i64]; omega
        have hw4 : IntKind.i64.wrap (2 * (k : Int)) = 2 * (k : Int) := by rw [IntKind.wrap_i64]; omega
        have hw5 : IntKind.i64.wrap (2 * (k : Int) + (b : Int)) = (u : Int) := by rw [IntKind.wrap_i64]; omega
        have hw6 : IntKind.i64.wrap (2 * (k : Int) + 1) = 2 * (k : Int) + 1 := by rw [IntKind.wrap_i64]; omega
        have hw7 : IntKind.i64.wrap (2 * (k : Int) + 1 - (b : Int)) = (v : Int) := by rw [IntKind.wrap_i64]; omega
        have p0 : (0 : Int) ≤ (p : Int) := by omega
        have p1 : (p : Int) ≤ (q : Int) := by omega
        have p2 : (q : Int) ≤ (s.size : Int) := by omega
        have p3 : (0 : Int) ≤ (r : Int) := by omega
        have p4 : (r : Int) ≤ (s.size : Int) := by omega
        have u1 : (u : Int) < 512 := by omega
        have v1 : (v : Int) < 512 := by omega
        have u2 : Hid (u < 512) := Lib.hid (by omega)
        have v2 : Hid (v < 512) := Lib.hid (by omega)
        obtain ⟨S3, hS3⟩ : ∃ S3, Hid (S3 = ⟨#[3]⟩ ++ s.extract p q) := ⟨_, Lib.hid rfl⟩
        have a1 : ∀ W, (Op.stringOp .add ⟨#[3]⟩ (s.extract p q)).run Tryd.prog W = .ok (.string S3) W := fun W => by rw [hS3.out]; exact join_text _ _ (by rw [ByteArray.size_extract]; show 1 + _ ≤ _; omega) W
        have X2 : Hid (∀ W, Calls Tryd.prog 27 #[.string S3] W fun e w' => e = .returned (.agg Y) ∧ Below W.heap.size W w') := Lib.hid fun W => by
          rw [hS3.out, hY.out, hy.out, hq, hp]; exact SM.out W (32 * k) (by have := hkb.out; omega)
        have X3 : Hid (∀ W, Calls Tryd.prog 31 #[.string (s.extract r 16384)] W fun e w' => (∃ v, e = .returned (.tuple #[.agg Z, .string v, .bool true])) ∧ Below W.heap.size W w') := Lib.hid fun W => by
          rw [hZz.out, hz.out, hr, hp, ← hs6]; exact UH.out W (8192 + 32 * k) (by have := hkb.out; omega)
        have NM : Hid (((recM T d k).set u y).set v z = recM T d (k + 1)) := Lib.hid (by rw [hu, hv, hy.out, hz.out]; exact recM_step T d k b (by have := hkb.out; omega) hb.out)
        have c1 := CV.out wr HQ.out.dig
        have hy6 := sizeH _ zY.out
        have hz6 := sizeH _ zZz.out
        clear hp hq hr hu hv hy hz hb
        go_upto_region 8 with (go_at_call 26; (with_reducible refine (X1.out _).mono ?_); rintro e wb ⟨rfl, rfl⟩)
        clear c1
        go_upto_region 9 with (first
          | (go_at_call 27; (with_reducible refine (X2.out _).mono ?_); rintro e w1 ⟨rfl, hb2⟩; have H1 := Lib.hid (HQ.out.next hb2); clear hb2)
          | (refine wpList_store_mid rfl 24 _ _ rfl (w.heap.size + 2) (u * 32) Y rfl rfl (by rw [zY.out]; exact H1.out.room u u2.out) hy6 oY.out ?_))
        have H8 : Hid (RecH w (w1.setCells (w.heap.size + 2) (u * 32) Y.toList) D ((recM T d k).set u y)) := Lib.hid (by rw [hY.out]; exact H1.out.put u u2.out (recM_length _ _ _) y hy32.out)
        refine world_gen (fun X => RecH w X D ((recM T d k).set u y)) H8.out (fun X HX => ?_)
        have HX := Lib.hid HX
        clear H8 H1 HQ X2 X1 a1
        go_upto_region 10 with (go_at_call 31; (with_reducible refine (X3.out _).mono ?_); rintro e w2 ⟨⟨vv, rfl⟩, hb3⟩; obtain ⟨w3, s3, hr3, hb3', hz3⟩ := made_write w2 Z zZz.out oZz.out; have H9 := Lib.hid ((HX.out.next hb3).next hb3'); have l9 := hr3.read zZz.out; clear hr3 hb3 hb3' hz3)
        clear s3 HX X3
        have HQ2 : Hid (RecH w (w3.setCells (w.heap.size + 2) (v * 32) Z.toList) D (recM T d (k + 1))) := Lib.hid (by rw [← NM.out, hZz.out]; exact H9.out.put v v2.out (by rw [List.length_set]; exact recM_length _ _ _) z hz32.out)
        go_wp2_with (refine wpList_store_mid rfl 24 _ _ rfl (w.heap.size + 2) (v * 32) Z rfl rfl (by rw [zZz.out]; exact H9.out.room v v2.out) hz6 oZz.out ?_)
        go_roundw
        case rel => exact ⟨k + 1, by go_num, by omega, HQ2⟩
        case measure => simp [intOf]; omega
      · have hk9 : k = 256 := by omega
        subst hk9
        have HE : Hid (RecH w wr D (recL T d)) := Lib.hid (by rw [← recM_done]; exact HQ.out)
        clear HQ hlt
        go_wp2_with (go_at_call 19; (with_reducible refine (KY.out _ _ HE.out.list).mono ?_); rintro e w1 ⟨rfl, hb⟩; have H1 := Lib.hid (HE.out.next hb); clear hb HE; have s6 := H1.out.out.write zZ.out zC.out oC.out)
        refine bodyPost_ret (results_row2 rfl _ _ (w.heap.size + 1) 24 _ (0, 0) _ rfl (H1.out.out.whole C) Tryd.underlying24 rfl (sizeH _ zC.out) _ rfl) rfl ⟨rfl, below_setRow H1.out.below (by omega)⟩
  · have d1 : ((s.size : Int) != 16384) = true := by simp; omega
    rw [recF_no hs6]
    show Calls _ _ _ _ fun e w' => e = .returned (.tuple #[.agg (nums .u8 (List.replicate 32 0)), .int .i64 10]) ∧ Below w.heap.size w w'
    clear hd hs6
    go_enter Tryd.func14, Tryd.ntmps14
    go_upto_region 1 with fail
    refine world_gen (fun X => RecX w X D) H0.out (fun X HX => ?_)
    have HX := Lib.hid HX
    go_wp2_with (refine wpList_store_row rfl 24 _ _ rfl (w.heap.size + 1) (nums .u8 (List.replicate 32 0)) rfl rfl 24 _ HX.out.2.2.1 hZ (by rw [zZ.out]) oZ.out ?_)
    refine bodyPost_ret (results_row2 rfl _ _ (w.heap.size + 1) 24 _ (0, 0) _ rfl (HX.out.2.2.1.whole _) Tryd.underlying24 rfl hZ _ rfl) rfl ⟨rfl, below_setRow HX.out.2.2.2 (by omega)⟩
end Go.Proofs.YtllabnhgiojmmaaDoor
namespace Go.Proofs.YtllabnhgiojmmaaDoor
open Go.RowKit Go.Great
set_option linter.unusedVariables false
set_option maxRecDepth 100000

theorem there_low {w w1 : World} {g o n B : Nat} (h : w.there g o n) (hb : Below B w w1) (hg : g < B) : w1.there g o n := fun j hj =>
  have e := hb.block g hg
  ⟨by rw [World.cell?_of_block e]; exact (h j hj).1, by rw [World.frozen?_of_block e]; exact (h j hj).2⟩
theorem RecH.far {w wr w1 : World} {D : Array Value} {ms : List (List Int)} (h : RecH w wr D ms) (hb : Below (w.heap.size + 3) wr w1) : RecH w w1 D ms :=
  ⟨h.dig.below hb (by omega), h.out.below hb (by omega), h.lst.next hb (Nat.le_refl _), fun k hk => there_low (h.room k hk) hb (by omega), h.below.trans (hb.mono (by omega)), Nat.le_trans h.size hb.size⟩
/-- And beside it a hash in a block of its own. -/
structure RecO (w wr : World) (D : Array Value) (ms : List (List Int)) (g : Nat) (C : Array Value) : Prop where
  rec_ : RecH w wr D ms
  row : Row wr g 24 C
  lo : w.heap.size + 3 ≤ g
theorem RecO.next {w wr w1 : World} {D C : Array Value} {ms : List (List Int)} {g : Nat} (h : RecO w wr D ms g C) (hb : Below wr.heap.size wr w1) : RecO w w1 D ms g C := ⟨h.rec_.next hb, h.row.next hb, h.lo⟩
theorem RecO.start {w wr : World} {D : Array Value} {ms : List (List Int)} (h : RecH w wr D ms) : RecO w (wr.alloc (.cells (nums .u8 (List.replicate 32 0)) 24)) D ms wr.heap.size (nums .u8 (List.replicate 32 0)) :=
  ⟨h.next ((Below.refl _ _).alloc (Nat.le_refl _) _), Row.made _ _ _, h.size⟩
theorem RecO.put {w wr : World} {D C C' : Array Value} {ms : List (List Int)} {g : Nat} (h : RecO w wr D ms g C) : RecO w (wr.setRow g C') D ms g C' :=
  ⟨h.rec_.far (below_setRow (Below.refl _ _) h.lo), h.row.whole _, h.lo⟩
theorem text_take (s : ByteArray) (a b k : Nat) (h : 32 * k + 32 ≤ b) (hb : a + b ≤ s.size) : ((((textL s).drop a).take b).drop (32 * k)).take 32 = ((textL s).drop (a + 32 * k)).take 32 := by
  rw [List.drop_take, List.take_take, List.drop_drop, show min 32 (b - 32 * k) = 32 by omega]
attribute [local go_sem ↓ high] read_at write_at
set_option maxHeartbeats 8000000 in
theorem lrecover_any : RecoverSays := by
  intro s d w hT hs hd
  unfold maxLen at hs
  obtain ⟨i0, hi0, hz0, hz1, hz2⟩ := info_parts infoHash
  obtain ⟨D, hD⟩ : ∃ D, Hid (D = nums .u8 d) := ⟨_, Lib.hid rfl⟩
  have zD : Hid (D.size = 32) := Lib.hid (by rw [hD.out, nums_size]; exact hd.1)
  have zZ : Hid ((nums .u8 (List.replicate 32 0)).size = 32) := Lib.hid (by rw [nums_size]; simp)
  have oZ : Hid ((nums .u8 (List.replicate 32 0)).all (·.oneCell') = true) := Lib.hid (nums_one _ _)
  have hZ := sizeH _ zZ.out
  have H0 := Lib.hid (RecX.start w D)
  have HT := Lib.hid hT
  rw [← hD.out]
  by_cases hs6 : s.size = 16384
  · obtain ⟨T, hTx⟩ : ∃ T, Hid (T = textL s) := ⟨_, Lib.hid rfl⟩
    have HLB : Hid (T.length = 16384 ∧ bytes T) := Lib.hid (by rw [hTx.out]; exact ⟨by rw [textL_length, hs6], textL_bytes s⟩)
    have HF : Hid (recF s d = (keyF (recL T d), 0)) := Lib.hid (by rw [recF_ok hs6, hTx.out])
    have AT : Hid (∀ (W : World) (i : Nat), i ≤ 255 → Calls Tryd.prog 23 #[.agg D, .int .i64 (i : Int)] W fun e w' => e = .returned (.int .i64 ((2 * i + bitN d i : Nat) : Int)) ∧ Below W.heap.size W w') := Lib.hid fun W i h => by
      rw [hD.out]; exact at_any d hd.1 i h W
    have KY : Hid (∀ (W : World) (c : Nat), Tab W → HL W W.heap.size (some ⟨w.heap.size + 2, 0, none⟩) (recL T d) → 512 ≤ c ∧ c ≤ maxLen → Calls Tryd.prog 18 #[.slice (some ⟨w.heap.size + 2, 0, none⟩) 512 c] W fun e w' => e = .returned (.agg (nums .u8 (keyF (recL T d)))) ∧ Below W.heap.size W w') := Lib.hid fun W c hW h hc => by
      have := lkey_any (recL T d) _ c W hW (recL_hashes T d HLB.out.2 HLB.out.1) h (by rw [recL_length]; exact hc.1) hc.2
      rwa [recL_length] at this
    have UH : Hid (∀ (a : ByteArray) (W : World), 32 ≤ a.size → a.size ≤ 16384 → Calls Tryd.prog 30 #[.string a] W fun e w' => e = .returned (.tuple #[.agg (nums .u8 ((textL a).take 32)), .string (a.extract 32 a.size), .bool true]) ∧ Below W.heap.size W w') := Lib.hid fun a W h1 h2 => by
      have := unhash_any a (by unfold maxLen; omega) W
      rwa [unhV_yes a (by omega)] at this
    obtain ⟨C, hC⟩ : ∃ C, Hid (C = nums .u8 (keyF (recL T d))) := ⟨_, Lib.hid rfl⟩
    have zC : Hid (C.size = 32) := Lib.hid (by rw [hC.out, nums_size]; exact (keyF_is _).1)
    have oC : Hid (C.all (·.oneCell') = true) := Lib.hid (by rw [hC.out]; exact nums_one _ _)
    have n1 : (s.size : Int) = 16384 := by omega
    have TA : Hid (textL (s.extract 0 8192) = (T.drop 0).take 8192) := Lib.hid (by rw [textL_extract, hTx.out])
    have TB : Hid (textL (s.extract 8192 16384) = (T.drop 8192).take 8192) := Lib.hid (by rw [textL_extract, hTx.out])
    have TC : Hid (∀ a b k : Nat, 32 * k + 32 ≤ b → a + b ≤ 16384 → (((T.drop a).take b).drop (32 * k)).take 32 = (T.drop (a + 32 * k)).take 32) := Lib.hid fun a b k h1 h2 => by
      rw [hTx.out]; exact text_take s a b k h1 (by rw [hs6]; exact h2)
    have TL : Hid (∀ a b k : Nat, a + b ≤ 16384 → (((T.drop a).take b).drop (32 * k)).length = b - 32 * k) := Lib.hid fun a b k h => by
      rw [List.length_drop, List.length_take, List.length_drop, HLB.out.1]; omega
    rw [HF.out]
    show Calls _ _ _ _ fun e w' => e = .returned (.tuple #[.agg (nums .u8 (keyF (recL T d))), .int .i64 0]) ∧ Below w.heap.size w w'
    rw [← hC.out] at KY ⊢
    clear hd hD hs hC hT
    go_enter Tryd.func13, Tryd.ntmps13
    go_upto_region 1 with fail
    refine world_gen (fun X => RecX w X D) H0.out (fun X HX => ?_)
    have HX : Hid (RecX w X.drew D) := Lib.hid ⟨HX.1, HX.2.1.drew, HX.2.2.1.drew, HX.2.2.2.drew⟩
    clear H0
    go_upto_region 3 with fail
    refine wp_region_fk (fun _ => True) (.get 0 (.get 1 (.get 2 (.get 3 (.get 4 (.get 5 .done)))))) (by kernel_rfl) rfl (by kernel_rfl) (by kernel_rfl) (by intro c a d v w h; cases d <;> exact h) trivial (fun Q' hQ => ?_)
    have HS : Hid True := Lib.hid trivial
    have HQ := Lib.hid hQ
    clear hQ
    refine wpFk_get rfl (by rfl) (fun K hK => ?_)
    refine ⟨?_, fun w' hS' => ?_, ?_⟩
    rotate_left
    · go_simp
      try (with_reducible rfl)
    try go_simp
    refine hK _ ?_
    clear hK K
    refine wpFk_get rfl (by rfl) (fun K hK => ?_)
    refine ⟨?_, fun w' hS' => ?_, ?_⟩
    rotate_left
    · go_simp
      try (with_reducible rfl)
    try go_simp
    refine hK _ ?_
    clear hK K
    refine wpFk_get rfl (by rfl) (fun K hK => ?_)
    refine ⟨?_, fun w' hS' => ?_, ?_⟩
    rotate_left
    · go_simp
      try (with_reducible rfl)
    try go_simp
    refine hK _ ?_
    clear hK K
    refine wpFk_get rfl (by rfl) (fun K hK => ?_)
    refine ⟨?_, fun w' hS' => ?_, ?_⟩
    rotate_left
    · go_simp
      try (with_reducible rfl)
    try go_simp
    refine hK _ ?_
    clear hK K
    refine wpFk_get rfl (by rfl) (fun K hK => ?_)
    refine ⟨?_, fun w' hS' => ?_, ?_⟩
    rotate_left
    · go_simp
      try (with_reducible rfl)
    try go_simp
    refine hK _ ?_
    clear hK K
    refine wpFk_get rfl (by rfl) (fun K hK => ?_)
    refine ⟨?_, fun w' hS' => ?_, ?_⟩
    rotate_left
    · go_simp
      try (with_reducible rfl)
    try go_simp
    refine hK _ ?_
    clear hK K
    refine wpFk_done ?_
    refine HQ.out _ _ ?_
    clear HQ HS
    go_upto_region 5 with (at_make; refine wpList_make_full _ rfl _ _ 33 rfl (w.heap.size + 2) 24 i0 _ 32 Tryd.underlying33 hi0 hz0 hz1 _ _ _ _ 512 rfl rfl rfl rfl (by rw [hz2]; decide) (by decide) (by rw [HX.out.1]; exact Nat.le_refl _) ?_; rw [HX.out.1]; intro w1 hown hgr; have HK := Lib.hid (RecH.start HX.out.1 HX.out.2.1 HX.out.2.2.1 HX.out.2.2.2 T d hown hgr); clear hown hgr HX)
    go_wp2
    go_loopw [6, 7, 21] (fun s6 s7 s21 wr => ∃ (k : Nat) (a b : ByteArray), s21 = .int .i64 ((k : Nat) : Int) ∧ s6 = .string a ∧ s7 = .string b ∧ k ≤ 256 ∧ Hid (textL a = ((T.drop 0).take 8192).drop (32 * k) ∧ textL b = ((T.drop 8192).take 8192).drop (32 * k)) ∧ Hid (RecH w wr D (recM T d k))) (fun _ _ s21 _ => (256 - intOf s21).toNat)
    case atStart => exact ⟨0, _, _, rfl, rfl, rfl, by omega, Lib.hid ⟨TA.out, TB.out⟩, HK⟩
    case round =>
      clear HK TA TB
      obtain ⟨k, a, b, rfl, rfl, rfl, hk, HTT, HQ⟩ := hrel
      by_cases hlt : k < 256
      · have hwk : IntKind.i64.wrap (k : Int) = (k : Int) := by rw [IntKind.wrap_i64]; omega
        have hkb : Hid (k ≤ 255) := Lib.hid (by omega)
        obtain ⟨q, hq⟩ : ∃ q, Hid (q = bitN d k) := ⟨_, Lib.hid rfl⟩
        have hq1 : q ≤ 1 := by rw [hq.out]; exact bitN_le d k
        obtain ⟨u, hu⟩ : ∃ u, Hid (u = 2 * k + q) := ⟨_, Lib.hid rfl⟩
        obtain ⟨v, hv⟩ : ∃ v, Hid (v = 2 * k + 1 - q) := ⟨_, Lib.hid rfl⟩
        have sza : a.size = 8192 - 32 * k := by rw [← textL_length, HTT.out.1]; exact TL.out 0 8192 k (by decide)
        have szb : b.size = 8192 - 32 * k := by rw [← textL_length, HTT.out.2]; exact TL.out 8192 8192 k (by decide)
        obtain ⟨x, hx⟩ : ∃ x, Hid (x = (T.drop (32 * k)).take 32) := ⟨_, Lib.hid rfl⟩
        obtain ⟨z, hz⟩ : ∃ z, Hid (z = (T.drop (8192 + 32 * k)).take 32) := ⟨_, Lib.hid rfl⟩
        have ex : (textL a).take 32 = x := by rw [HTT.out.1, hx.out, TC.out 0 8192 k (by omega) (by decide), Nat.zero_add]
        have ez : (textL b).take 32 = z := by rw [HTT.out.2, hz.out, TC.out 8192 8192 k (by omega) (by decide)]
        have hx32 : Hid (x.length = 32) := Lib.hid (by rw [← ex, List.length_take, textL_length]; omega)
        have hz32 : Hid (z.length = 32) := Lib.hid (by rw [← ez, List.length_take, textL_length]; omega)
        obtain ⟨X1, hX1⟩ : ∃ X, Hid (X = nums .u8 x) := ⟨_, Lib.hid rfl⟩
        have zX : Hid (X1.size = 32) := Lib.hid (by rw [hX1.out, nums_size]; exact hx32.out)
        have oX : Hid (X1.all (·.oneCell') = true) := Lib.hid (by rw [hX1.out]; exact nums_one _ _)
        obtain ⟨y, hy⟩ : ∃ y, Hid (y = pubH x) := ⟨_, Lib.hid rfl⟩
        obtain ⟨Y, hY⟩ : ∃ Y, Hid (Y = nums .u8 y) := ⟨_, Lib.hid rfl⟩
        have hy32 : Hid (y.length = 32) := Lib.hid (by rw [hy.out]; exact (pubH_is _).1)
        have zY : Hid (Y.size = 32) := Lib.hid (by rw [hY.out, nums_size]; exact hy32.out)
        have oY : Hid (Y.all (·.oneCell') = true) := Lib.hid (by rw [hY.out]; exact nums_one _ _)
        obtain ⟨Z, hZz⟩ : ∃ Z, Hid (Z = nums .u8 z) := ⟨_, Lib.hid rfl⟩
        have zZz : Hid (Z.size = 32) := Lib.hid (by rw [hZz.out, nums_size]; exact hz32.out)
        have oZz : Hid (Z.all (·.oneCell') = true) := Lib.hid (by rw [hZz.out]; exact nums_one _ _)
        obtain ⟨a2, ha2⟩ : ∃ c, Hid (c = a.extract 32 a.size) := ⟨_, Lib.hid rfl⟩
        obtain ⟨b2, hb2⟩ : ∃ c, Hid (c = b.extract 32 b.size) := ⟨_, Lib.hid rfl⟩
        have HTN : Hid (textL a2 = ((T.drop 0).take 8192).drop (32 * (k + 1)) ∧ textL b2 = ((T.drop 8192).take 8192).drop (32 * (k + 1))) := Lib.hid ⟨by
          rw [ha2.out, textL_rest, HTT.out.1, List.drop_drop]; rfl, by rw [hb2.out, textL_rest, HTT.out.2, List.drop_drop]; rfl⟩
        have C1 : Hid (∀ W, Calls Tryd.prog 23 #[.agg D, .int .i64 (k : Int)] W fun e w' => e = .returned (.int .i64 (u : Int)) ∧ Below W.heap.size W w') := Lib.hid fun W => by rw [hu.out, hq.out]; exact AT.out W k hkb.out
        have C2 : Hid (∀ W, Calls Tryd.prog 30 #[.string a] W fun e w' => e = .returned (.tuple #[.agg X1, .string a2, .bool true]) ∧ Below W.heap.size W w') := Lib.hid fun W => by
          have := UH.out a W (by omega) (by omega)
          rw [ex] at this
          rw [hX1.out, ha2.out]; exact this
        have C3 : Hid (∀ W, Tab W → Calls Tryd.prog 24 #[.agg X1] W fun e w' => e = .returned (.agg Y) ∧ Below W.heap.size W w') := Lib.hid fun W h => by
          rw [hX1.out, hY.out, hy.out]; exact hashOf_any x hx32.out W h
        have C4 : Hid (∀ W, Calls Tryd.prog 25 #[.int .i64 (u : Int)] W fun e w' => e = .returned (.int .i64 (v : Int)) ∧ W = w') := Lib.hid fun W => by rw [hu.out, hv.out]; exact beside_any k q hkb.out hq1 W
        have C5 : Hid (∀ W, Calls Tryd.prog 30 #[.string b] W fun e w' => e = .returned (.tuple #[.agg Z, .string b2, .bool true]) ∧ Below W.heap.size W w') := Lib.hid fun W => by
          have := UH.out b W (by omega) (by omega)
          rw [ez] at this
          rw [hZz.out, hb2.out]; exact this
        have u1 : (u : Int) < 512 := by have := hu.out; omega
        have v1 : (v : Int) < 512 := by have := hv.out; omega
        have u2 : Hid (u < 512) := Lib.hid (by omega)
        have v2 : Hid (v < 512) := Lib.hid (by omega)
        have NM : Hid (((recM T d k).set u y).set v z = recM T d (k + 1)) := Lib.hid (by rw [hu.out, hv.out, hy.out, hz.out, hx.out]; exact recM_step T d k q (by have := hkb.out; omega) hq.out)
        have hy6 := sizeH _ zY.out
        have hz6 := sizeH _ zZz.out
        have l1 := HQ.out.dig.read zD.out
        clear sza szb ex ez hq1
        go_upto_region 10 with (go_at_call 23; (with_reducible refine (C1.out _).mono ?_); rintro e w1 ⟨rfl, hb⟩; have H1 := Lib.hid (HQ.out.next hb); clear hb)
        clear l1 HQ
        refine world_gen (fun X => RecO w X D (recM T d k) w1.heap.size (nums .u8 (List.replicate 32 0))) (RecO.start H1.out) (fun W2 H2 => ?_)
        have H2 := Lib.hid H2
        clear H1
        obtain ⟨g, hg⟩ : ∃ g, g = w1.heap.size := ⟨_, rfl⟩
        rw [← hg] at H2 ⊢
        clear hg
        go_upto_region 11 with (go_at_call 30; (with_reducible refine (C2.out _).mono ?_); rintro e w3 ⟨rfl, hb⟩; have H3 := Lib.hid (H2.out.next hb); clear hb; have s3 := H3.out.row.write zZ.out zX.out oX.out)
        refine world_gen (fun X => RecO w X D (recM T d k) g X1) H3.out.put (fun W4 H4 => ?_)
        have H4 := Lib.hid H4
        clear s3 H3 H2
        have l2 := H4.out.row.read zX.out
        go_upto_region 12 with (first
          | (go_at_call 24; (with_reducible refine (C3.out _ (HT.out.next H4.out.rec_.below)).mono ?_); rintro e w5 ⟨rfl, hb⟩; have H5 := Lib.hid (H4.out.rec_.next hb); clear hb)
          | (refine wpList_store_mid rfl 24 _ _ rfl (w.heap.size + 2) (u * 32) Y rfl rfl (by rw [zY.out]; exact H5.out.room u u2.out) hy6 oY.out ?_))
        have H6 : Hid (RecH w (w5.setCells (w.heap.size + 2) (u * 32) Y.toList) D ((recM T d k).set u y)) := Lib.hid (by rw [hY.out]; exact H5.out.put u u2.out (recM_length _ _ _) y hy32.out)
        refine world_gen (fun X => RecH w X D ((recM T d k).set u y)) H6.out (fun W7 H7 => ?_)
        have H7 := Lib.hid H7
        clear H6 H5 H4 l2
        go_upto_region 13 with (first
          | (go_at_call 25; (with_reducible refine (C4.out _).mono ?_); rintro e w8 ⟨rfl, rfl⟩)
          | (go_at_call 30; (with_reducible refine (C5.out _).mono ?_); rintro e w9 ⟨rfl, hb⟩; have H9 := Lib.hid (H7.out.next hb); clear hb)
          | (refine wpList_store_mid rfl 24 _ _ rfl (w.heap.size + 2) (v * 32) Z rfl rfl (by rw [zZz.out]; exact H9.out.room v v2.out) hz6 oZz.out ?_))
        have HQ2 : Hid (RecH w (w9.setCells (w.heap.size + 2) (v * 32) Z.toList) D (recM T d (k + 1))) := Lib.hid (by rw [← NM.out, hZz.out]; exact H9.out.put v v2.out (by rw [List.length_set]; exact recM_length _ _ _) z hz32.out)
        go_wp2
        go_roundw
        case rel => exact ⟨k + 1, a2, b2, by go_num, rfl, rfl, by omega, HTN, HQ2⟩
        case measure => simp [intOf]; omega
      · have hk9 : k = 256 := by omega
        have HE : Hid (RecH w wr D (recL T d)) := Lib.hid (by have := HQ.out; rw [hk9, recM_done] at this; exact this)
        clear HQ hk9
        go_wp2_with (go_at_call 18; (with_reducible refine (KY.out _ _ (HT.out.next HE.out.below) HE.out.list ⟨by decide, by decide⟩).mono ?_); rintro e w1 ⟨rfl, hb⟩; have H1 := Lib.hid (HE.out.next hb); clear hb HE; have s6 := H1.out.out.write zZ.out zC.out oC.out)
        refine bodyPost_ret (results_row2 rfl _ _ (w.heap.size + 1) 24 _ (0, 0) _ rfl (H1.out.out.whole C) Tryd.underlying24 rfl (sizeH _ zC.out) _ rfl) rfl ⟨rfl, below_setRow H1.out.below (by omega)⟩
  · have d1 : ((s.size : Int) != 16384) = true := by simp; omega
    rw [recF_no hs6]
    show Calls _ _ _ _ fun e w' => e = .returned (.tuple #[.agg (nums .u8 (List.replicate 32 0)), .int .i64 10]) ∧ Below w.heap.size w w'
    clear hd hs6
    go_enter Tryd.func13, Tryd.ntmps13
    go_upto_region 1 with fail
    refine world_gen (fun X => RecX w X D) H0.out (fun X HX => ?_)
    have HX := Lib.hid HX
    go_wp2_with (refine wpList_store_row rfl 24 _ _ rfl (w.heap.size + 1) (nums .u8 (List.replicate 32 0)) rfl rfl 24 _ HX.out.2.2.1 hZ (by rw [zZ.out]) oZ.out ?_)
    refine bodyPost_ret (results_row2 rfl _ _ (w.heap.size + 1) 24 _ (0, 0) _ rfl (HX.out.2.2.1.whole _) Tryd.underlying24 rfl hZ _ rfl) rfl ⟨rfl, below_setRow HX.out.2.2.2 (by omega)⟩
end Go.Proofs.YtllabnhgiojmmaaDoor
namespace Go.Proofs.YtllabnhgiojmmaaDoor
open Go.RowKit Go.Great
set_option linter.unusedVariables false
set_option maxRecDepth 100000

/-- The public hashes so far: the first k, zero behind them. -/
def pubM (seed : ByteArray) (index k : Nat) : List (List Int) := (List.range 512).map fun j => if j < k then pubAt seed index j else zeroL
theorem pubM_length (seed : ByteArray) (index k : Nat) : (pubM seed index k).length = 512 := by simp [pubM]
theorem pubM_get (seed : ByteArray) (index k j : Nat) (h : j < 512) : (pubM seed index k).getD j [] = if j < k then pubAt seed index j else zeroL := by simp [pubM, List.getD, h]
theorem pubM_done (seed : ByteArray) (index : Nat) : pubM seed index 512 = pubN seed index 512 := by
  unfold pubM pubN
  refine List.map_congr_left (fun j hj => ?_)
  have hj : j < 512 := by simpa using hj
  rw [if_pos hj]
theorem pubM_step (seed : ByteArray) (index k : Nat) : (pubM seed index k).set k (pubAt seed index k) = pubM seed index (k + 1) := by
  refine list_getD_ext (by simp [pubM_length]) (fun j hj => ?_)
  have hj : j < 512 := by simpa [pubM_length] using hj
  rw [setL_getD _ _ _ _ (by rw [pubM_length]; exact hj), pubM_get _ _ _ _ hj, pubM_get _ _ _ _ hj]
  by_cases h1 : j = k
  · rw [if_pos h1, if_pos (by omega), h1]
  · rw [if_neg h1]
    by_cases h2 : j < k
    · rw [if_pos h2, if_pos (by omega)]
    · rw [if_neg h2, if_neg (by omega)]
/-- What Public holds: its list. -/
structure PubH (w wr : World) (g : Nat) (ms : List (List Int)) : Prop where
  lst : HL wr (g + 1) (some ⟨g, 0, none⟩) ms
  room : ∀ k, k < 512 → wr.there g (k * 32) 32
  below : Below w.heap.size w wr
  lo : w.heap.size ≤ g
  size : g + 1 ≤ wr.heap.size
section
variable {w wr w1 : World} {g : Nat} {ms : List (List Int)}
theorem PubH.next (h : PubH w wr g ms) (hb : Below wr.heap.size wr w1) : PubH w w1 g ms :=
  ⟨h.lst.next hb h.size, fun k hk => there_next (h.room k hk) hb (by have := h.size; omega), below_new h.below hb, h.lo, Nat.le_trans h.size hb.size⟩
theorem PubH.put (h : PubH w wr g ms) (k : Nat) (hk : k < 512) (hm : ms.length = 512) (x : List Int) (hx : x.length = 32) : PubH w (wr.setCells g (k * 32) (nums .u8 x).toList) g (ms.set k x) :=
  have hb : Below g wr (wr.setCells g (k * 32) (nums .u8 x).toList) := below_setCells_w (Nat.le_refl _) _ _ _
  ⟨h.lst.set k (by rw [hm]; exact hk) x hx (h.room k hk), fun j hj => World.there_setCells (h.room j hj) _ _ _, h.below.trans (hb.mono h.lo), h.lo, by rw [size_setCells]; exact h.size⟩
theorem PubH.list (h : PubH w wr g ms) : HL wr wr.heap.size (some ⟨g, 0, none⟩) ms := h.lst.more h.size
end
theorem PubH.start {w wx w1 : World} {seed : ByteArray} {index : Nat} (h3 : Below w.heap.size w wx)
    (h4 : w1.ownsRow wx.heap.size 24 32 (.slice (some ⟨wx.heap.size, 0, none⟩) 512 512) 512 (madeCells (Value.agg (nums .u8 (List.replicate 32 0))).cells (512 * 32)).toList) (h5 : wx.grownBy w1 none) : PubH w w1 wx.heap.size (pubM seed index 0) := by
  have hb : Below wx.heap.size wx w1 := (Below.refl _ _).grown h5 (Nat.le_refl _) (fun k hk => by cases hk)
  refine ⟨?_, fun k hk => own_room h4 k hk, below_new h3 hb, h3.size, by have : wx.heap.size < w1.heap.size := (h4.lt _ rfl).2; omega⟩
  intro i hi
  rw [pubM_length] at hi
  refine ⟨_, rfl, by show wx.heap.size < _; omega, fun j hj => ?_⟩
  rw [pubM_get _ _ _ _ hi, if_neg (by omega)]
  have e := h4.cells (g := wx.heap.size) rfl (i * 32 + j) (.int .u8 0) (zero_cell _ rfl _ _ (by omega))
  rw [e]
  unfold zeroL
  rw [List.getD_eq_getElem?_getD, List.getElem?_replicate, if_pos hj]; rfl
attribute [local go_sem ↓ high] read_at write_at
set_option maxHeartbeats 8000000 in
theorem lpublic_some (seed : ByteArray) (hs : seed.size ≤ 100000) (index : Nat) (hi : index ≤ 2147483647) (w : World) (hT : Tab w) :
    Calls Tryd.prog 17 #[.string seed, .int .i64 (index : Int)] w (GivesP w (pubN seed index 512)) := by
  obtain ⟨i0, hi0, hz0, hz1, hz2⟩ := info_parts infoHash
  have KY : Hid (∀ W, Calls Tryd.prog 20 #[.int .i64 (index : Int)] W fun e w' => e = .returned (.bool true) ∧ W = w') := Lib.hid fun W => isKey_yes _ (by omega) W
  obtain ⟨T, hTx⟩ : ∃ T, Hid (T = keyT seed index) := ⟨_, Lib.hid rfl⟩
  have X1 : Hid (∀ W, Calls Tryd.prog 21 #[.string seed, .int .i64 (index : Int)] W fun e w' => e = .returned (.string T) ∧ Below W.heap.size W w') := Lib.hid fun W => by
    rw [hTx.out]; exact keyText_any seed hs index (by omega) W
  have SE : Hid (∀ (W : World) (k : Nat), k < 512 → Tab W → Calls Tryd.prog 22 #[.string T, .int .i64 (k : Int)] W fun e w' => e = .returned (.agg (nums .u8 (secN seed index k))) ∧ Below W.heap.size W w') := Lib.hid fun W k hk h => by
    have := keyT_size seed index hs
    rw [hTx.out]; exact secret_any (keyT seed index) (by omega) k (by omega) W h
  have HT := Lib.hid hT
  clear hs hi hT
  go_enter Tryd.func17, Tryd.ntmps17
  go_upto_region 5 with (first
    | (go_at_call 20; (with_reducible refine (KY.out _).mono ?_); rintro e w1 ⟨rfl, rfl⟩)
    | (go_at_call 21; (with_reducible refine (X1.out _).mono ?_); rintro e w1 ⟨rfl, hb⟩; have HB := Lib.hid hb; clear hb)
    | (at_make; refine wpList_make_full _ rfl _ _ 33 rfl w1.heap.size 24 i0 _ 32 Tryd.underlying33 hi0 hz0 hz1 _ _ _ _ 512 rfl rfl rfl rfl (by rw [hz2]; decide) (by decide) (Nat.le_refl _) ?_; intro w2 hown hgr; have HK : Hid (PubH w w2 w1.heap.size (pubM seed index 0)) := Lib.hid (PubH.start HB.out hown hgr); clear hown hgr HB))
  obtain ⟨g, hg⟩ : ∃ g, g = w1.heap.size := ⟨_, rfl⟩
  rw [← hg] at HK ⊢
  clear hg
  go_wp2
  go_loopw [15] (fun s15 wr => ∃ (k : Nat), s15 = .int .i64 ((k : Nat) : Int) ∧ k ≤ 512 ∧ Hid (PubH w wr g (pubM seed index k))) (fun s15 _ => (512 - intOf s15).toNat)
  case atStart => exact ⟨0, rfl, by omega, HK⟩
  case round =>
    clear HK
    obtain ⟨k, rfl, hk, HQ⟩ := hrel
    by_cases hlt : k < 512
    · have hwk : IntKind.i64.wrap (k : Int) = (k : Int) := by rw [IntKind.wrap_i64]; omega
      have hlt2 : (k : Int) < 512 := by omega
      have hkb : Hid (k < 512) := Lib.hid hlt
      obtain ⟨X, hX⟩ : ∃ X, Hid (X = nums .u8 (secN seed index k)) := ⟨_, Lib.hid rfl⟩
      obtain ⟨y, hy⟩ : ∃ y, Hid (y = pubAt seed index k) := ⟨_, Lib.hid rfl⟩
      obtain ⟨C, hC⟩ : ∃ C, Hid (C = nums .u8 y) := ⟨_, Lib.hid rfl⟩
      have hy32 : Hid (y.length = 32) := Lib.hid (by rw [hy.out]; exact (pubH_is _).1)
      have zC : Hid (C.size = 32) := Lib.hid (by rw [hC.out, nums_size]; exact hy32.out)
      have oC : Hid (C.all (·.oneCell') = true) := Lib.hid (by rw [hC.out]; exact nums_one _ _)
      have X2 : Hid (∀ W, Tab W → Calls Tryd.prog 22 #[.string T, .int .i64 (k : Int)] W fun e w' => e = .returned (.agg X) ∧ Below W.heap.size W w') := Lib.hid fun W h => by
        rw [hX.out]; exact SE.out W k hkb.out h
      have X3 : Hid (∀ W, Tab W → Calls Tryd.prog 24 #[.agg X] W fun e w' => e = .returned (.agg C) ∧ Below W.heap.size W w') := Lib.hid fun W h => by
        have := hashOf_any (secN seed index k) (secN_is _ _ _).1 W h
        rw [secN_pub, ← hy.out] at this
        rw [hX.out, hC.out]; exact this
      have NM : Hid ((pubM seed index k).set k y = pubM seed index (k + 1)) := Lib.hid (by rw [hy.out]; exact pubM_step seed index k)
      have hz6 := sizeH _ zC.out
      clear hy
      go_upto_region 9 with (first
        | (go_at_call 22; (with_reducible refine (X2.out _ (HT.out.next HQ.out.below)).mono ?_); rintro e w1 ⟨rfl, hb⟩; have H1 := Lib.hid (HQ.out.next hb); clear hb)
        | (go_at_call 24; (with_reducible refine (X3.out _ (HT.out.next H1.out.below)).mono ?_); rintro e w3 ⟨rfl, hb⟩; have H3 := Lib.hid (H1.out.next hb); clear hb)
        | (refine wpList_store_mid rfl 24 _ _ rfl g (k * 32) C rfl rfl (by rw [zC.out]; exact H3.out.room k hkb.out) hz6 oC.out ?_))
      have H4 : Hid (PubH w (w3.setCells g (k * 32) C.toList) g (pubM seed index (k + 1))) := Lib.hid (by rw [← NM.out, hC.out]; exact H3.out.put k hkb.out (pubM_length _ _ _) y hy32.out)
      clear H1 H3 HQ
      go_wp2
      go_roundw
      case rel => exact ⟨k + 1, by go_num, by omega, H4⟩
      case measure => simp [intOf]; omega
    · have hk9 : k = 512 := by omega
      subst hk9
      have HE : Hid (PubH w wr g (pubN seed index 512)) := Lib.hid (by rw [← pubM_done]; exact HQ.out)
      clear HQ hlt
      go_wp2
      go_ret
      exact ⟨some ⟨g, 0, none⟩, 512, by rw [pubN_length]; rfl, by rw [pubN_length]; exact Nat.le_refl _, by decide, HE.out.list, HE.out.below⟩
set_option maxHeartbeats 1000000 in
theorem lpublic_any : PublicSays := by
  intro seed index w hT hs hx
  by_cases h : index < 0 ∨ 2147483647 < index
  · rw [pubF_no h]
    have KY : Hid (∀ W, Calls Tryd.prog 20 #[.int .i64 index] W fun e w' => e = .returned (.bool false) ∧ W = w') := Lib.hid fun W => isKey_no _ h W
    clear h hs hx
    go_enter Tryd.func17, Tryd.ntmps17
    go_wp2_with (go_at_call 20; (with_reducible refine (KY.out _).mono ?_); rintro e w1 ⟨rfl, rfl⟩)
    go_ret
    exact ⟨none, 0, rfl, Nat.le_refl _, by decide, HL.nil _ _ _, Below.refl _ _⟩
  · obtain ⟨I, rfl⟩ : ∃ I : Nat, index = I := ⟨index.toNat, by omega⟩
    rw [pubF_ok (by omega)]
    exact lpublic_some seed hs I (by omega) w hT
end Go.Proofs.YtllabnhgiojmmaaDoor
namespace Go.Proofs.YtllabnhgiojmmaaDoor.known
open Go.ChangeShapes Go.WideShapes Go.ChangeAt Go.RowKit
open Go.ChangeMaps (open_string)
set_option linter.unusedVariables false

set_option maxRecDepth 100000 in
theorem lifted (os : Os) (started : os.Started) (H : Type) (enc : TypeId × Value → H) :
    ReturnsInHanded {} Tryd.checked os 4 .any (fun w args => (Rows.lamportPublicSpec.pre enc Tryd.prog Tryd.f4 [] false w args ∧ laidMetH Tryd.prog laid2 w) ∧ sizedMet enc Tryd.prog Tryd.f4 (OpenSpec.ofChange Rows.lamportPublicSpec) false w args)
      (Rows.lamportPublicSpec.post enc Tryd.prog Tryd.f4 false true false false) := by
  refine returnsInHanded_of_change_and (C := Tryd.checked) (X := fun w _ => laidMetH Tryd.prog laid2 w) (fun _ _ _ hh h => h.of_heap hh) own started (by kernel_rfl) Tryd.func4
    (ChangeSpec.witness_shaped (enc := enc) (C := Tryd.checked) (os := os) (X := fun w _ => laidMetH Tryd.prog laid2 w) false (World.doorLaid Tryd.prog 400 os) #[.string ⟨#[]⟩, .int .i64 0, .slice none 0 0] 8 rfl (World.shaped_of_RefB (by kernel_rfl) (by kernel_rfl)) (by kernel_rfl) (by kernel_rfl) (by kernel_rfl) (door_met os _)) ?_
  intro W base args ds gs before hval0 hW _ _ hL _
  have hval : ∀ (j : Nat) t v, Tryd.f4.params[j]? = some t → args[j]? = some v → Value.okWide Tryd.prog W .any base t v := hval0
  have hW' := hW
  obtain ⟨p, q, hA0, hV, rfl, hfz, hnd⟩ := hW
  have hA : DataW.TrodAll enc Tryd.prog W 0 (fun _ => true) true Tryd.f4.params.toList args.toList ds p := hA0
  rw [Tryd.params4] at hA hval
  obtain ⟨v0, vs0, d0, ds0, p0, q0, hargs, rfl, rfl, h0, r0⟩ := trodAll_cons hA
  obtain ⟨v1, vs1, d1, ds1, p1, q1, rfl, rfl, rfl, h1, r1⟩ := trodAll_cons r0
  obtain ⟨v2, vs2, d2, ds2, p2, q2, rfl, rfl, rfl, h2, r2⟩ := trodAll_cons r1
  obtain ⟨rfl, rfl, rfl⟩ := trodAll_nil r2
  obtain rfl : args = #[v0, v1, v2] := by cases args; simp_all
  obtain ⟨rfl, rfl⟩ := trodVars_none hV
  have k0 := h0
  have lt0 : ∀ x ∈ p0, x.block < W.heap.size := by obtain ⟨m, hm⟩ := k0; exact DataW.trod_lt m _ _ _ hm
  have k2 := h2
  have lt2 : ∀ x ∈ p2, x.block < W.heap.size := by obtain ⟨m, hm⟩ := k2; exact DataW.trod_lt m _ _ _ hm
  obtain ⟨s0, rfl, hd0, _, w0⟩ := open_string Tryd.underlying9 (hval 0 9 v0 rfl rfl) h0
  obtain ⟨n1, rfl, rfl, rfl, w1⟩ := open_int Tryd.underlying3 (hval 1 3 v1 rfl rfl) h1
  have b1 := bounds_i64 w1
  obtain ⟨A2, c2, ls2, rfl, hh2, hl2, hc2, hm2⟩ := open_list (hval 2 33 v2 rfl rfl) h2
  clear hA0 hval0
  refine (lpubliclaw_any lsecret_any lsign_any lrecover_any lpublic_any lkey_any s0 w0 n1 b1 ls2 hh2 A2 c2 W hl2 (of_laid hL) hc2 hm2).mono fun e W' ⟨he, bel⟩ => ?_
  subst he
  exact ⟨_, rfl, _, _, _, [], _, [], hW', trodAll_mk1 (shut_bool Tryd.underlying4 _), (trodAll_cons_mk (Below.trod laidOut (by kernel_rfl) (of_decide_eq_true (by kernel_rfl)) k0 bel lt0) (trodAll_cons_mk (shut_int Tryd.underlying3 w1) (trodAll_cons_mk (Below.trod laidOut (by kernel_rfl) (of_decide_eq_true (by kernel_rfl)) k2 bel lt2) trodAll_mk0))), rfl, bel.frame _, fun h => by cases h⟩

theorem over : Rows.LamportPublicSaid :=
  OpenClaim.holds_of_wide 4 Tryd.f4 rfl rfl rfl rfl rfl rfl rfl ⟨rfl, rfl, rfl, rfl, rfl⟩ rfl rfl rfl rfl rfl (by kernel_rfl) Tryd.func4 (by kernel_rfl)
    (of_decide_eq_true (by kernel_rfl)) (by unfold Func.isWrapper; first | (rw [if_pos (by decide +kernel)]; kernel_rfl) | (rw [if_neg (by decide +kernel)]; exact ⟨rfl, rfl⟩))
    (fun os started H enc _ => lifted os started H enc)

/-- The statement. -/
theorem proved : Rows.LamportPublicCardSaid :=
  Claim7.holds_tied_plain_at .later [] [.data, .data] true _ false
    over (fun _ h => by cases h) (by kernel_rfl) (fun _ h => by cases h) lamportPublic_row_tie rfl ⟨rfl, rfl⟩ (by kernel_rfl) rfl
    (fun f fn hf hfn => by
      obtain rfl : f = 4 := Option.some.inj ((show Tryd.prog.funcNamed "speculum/speculumlaw08.LamportPublic" = some 4 by kernel_rfl).symm.trans hf) |>.symm
      obtain rfl : fn = Tryd.f4 := (Option.some.inj (Tryd.func4.symm.trans hfn)).symm
      exact ⟨by kernel_rfl, fun j t ht => by
        rw [Tryd.params4] at ht
        have hm : t ∈ [9, 3, 33] := by simpa using Array.mem_of_getElem? ht
        have hall : ([9, 3, 33].all fun u => !Tryd.prog.wantsStandIn u) = true := by kernel_rfl
        exact (show Tryd.prog.wantsStandIn t = false by simpa using List.all_eq_true.1 hall t hm)⟩)
    (by kernel_rfl)
#print axioms proved
end Go.Proofs.YtllabnhgiojmmaaDoor.known
