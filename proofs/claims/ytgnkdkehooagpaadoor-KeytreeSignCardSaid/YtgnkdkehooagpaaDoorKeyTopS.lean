/-
  Proved: called with any text, any number and any hash, the statement KeytreeSign (the root of any seed's tree, and what any of its keys signs, is the document's; of a seed of more than 100 bytes it asks the examples alone) returns true, and its arguments read as before. Condition: the two tables of the package sha hold what the program's text lays, which the card ties to that text.
-/
import Derived.Test.YtgnkdkehooagpaaDoorPk33
import Derived.Test.YtgnkdkehooagpaaDoorPk23
import Derived.Test.YtgnkdkehooagpaaDoorPk04
import Derived.Test.YtgnkdkehooagpaaDoorPk34
import Derived.Test.YtgnkdkehooagpaaDoorPk27
namespace Go.Proofs.YtgnkdkehooagpaaDoor
open Go.RowKit Go.Great
set_option linter.unusedVariables false
set_option maxRecDepth 100000

theorem sealF_hashes (seed : ByteArray) (i : Int) (d : List Int) : hashes (sealF seed i d).1.2.2 := by
  unfold sealF
  split
  · intro l hl; cases hl
  · exact path8_hashes _ _
theorem and_7 (x : Int) : bits .and .i64 x 7 = x % 8 := by
  have oa : (BitVec.ofInt 64 x).toNat = (x % 18446744073709551616).toNat := by rw [BitVec.toNat_ofInt]; rfl
  have ob : (BitVec.ofInt 64 (7 : Int)).toNat = 7 := by decide
  show IntKind.i64.wrap ((BitVec.ofInt 64 x &&& BitVec.ofInt 64 7).toNat : Int) = _
  rw [BitVec.toNat_and, oa, ob, show (7 : Nat) = 2 ^ 3 - 1 by decide, Nat.and_two_pow_sub_one_eq_mod, IntKind.wrap_i64]
  omega
/-- What the statement holds: the tree, the document's leaves, the digest. -/
structure KgH (TR : World → Value → ByteArray → Prop) (w : World) (v : Value) (seed : ByteArray) (A : Option Addr) (D : Array Value) (W : World) : Prop where
  tree : TR W v seed
  lst : HW W A (keysF seed)
  dig : Row W w.heap.size 23 D
  tab : Tab W
  below : Below w.heap.size w W
theorem KgH.next {TR : World → Value → ByteArray → Prop} {w W W1 : World} {v : Value} {seed : ByteArray} {A : Option Addr} {D : Array Value} (h : KgH TR w v seed A D W) (TS : TreeSays TR) (hb : Below W.heap.size W W1) : KgH TR w v seed A D W1 := ⟨TS.next h.tree hb, h.lst.next hb, h.dig.next hb, h.tab.next hb, below_new h.below hb⟩
attribute [local go_sem ↓ high] read_at write_at read_s write_s eq_at neq_at
set_option maxHeartbeats 8000000 in
theorem keysignlaw_any (TR : World → Value → ByteArray → Prop) (TS : TreeSays TR) (seed : ByteArray) (hs : seed.size ≤ maxLen) (index : Int) (h64 : num64 index) (d : List Int) (hd : d.length = 32 ∧ bytes d) (w : World) (hT : Tab w) :
    Calls Tryd.prog 3 #[.string seed, .int .i64 index, .agg (nums .u8 d)] w fun e w' => e = .returned (.bool true) ∧ Below w.heap.size w w' := by
  have KED : Hid (∀ W, Tab W → Calls Tryd.prog 7 #[] W fun e w' => e = .returned (.bool true) ∧ Below W.heap.size W w') := Lib.hid fun W h => planted_any TR TS W h
  obtain ⟨D, hD⟩ : ∃ D, Hid (D = nums .u8 d) := ⟨_, Lib.hid rfl⟩
  have zD : Hid (D.size = 32) := Lib.hid (by rw [hD.out, nums_size]; exact hd.1)
  have HT := Lib.hid hT
  have H0 : Hid (Row (w.alloc (.cells D 23)) w.heap.size 23 D ∧ Below w.heap.size w (w.alloc (.cells D 23))) := Lib.hid ⟨Row.made _ _ _, (Below.refl _ _).alloc (Nat.le_refl _) _⟩
  rw [← hD.out]
  by_cases h3 : 100 < seed.size
  · have e1 : decide (100 < (seed.size : Int)) = true := decide_eq_true (by omega)
    have e2 : (100 : Int) < (seed.size : Int) := by omega
    clear hs hT hd h64
    go_enter Tryd.func3, Tryd.ntmps3
    go_upto_region 1 with fail
    refine world_gen (fun X => Row X w.heap.size 23 D ∧ Below w.heap.size w X) H0.out (fun X HX => ?_)
    have HT2 := Lib.hid (HT.out.next HX.2)
    have HB := Lib.hid HX.2
    go_wp2_with (go_at_call 7; (with_reducible refine (KED.out _ HT2.out).mono ?_); rintro e w1 ⟨rfl, hb⟩; have HB := Lib.hid (below_new HB.out hb); clear hb)
    go_ret
    exact ⟨rfl, HB.out⟩
  have e1 : decide (100 < (seed.size : Int)) = false := decide_eq_false (by omega)
  have e2 : ¬ (100 : Int) < (seed.size : Int) := by omega
  have hs2 : seed.size ≤ 100000 := by omega
  obtain ⟨R, hR⟩ : ∃ R, Hid (R = nums .u8 (rootF seed)) := ⟨_, Lib.hid rfl⟩
  have XN : Hid (∀ W, Tab W → Calls Tryd.prog 8 #[.string seed] W fun e w' => ∃ v, e = .returned v ∧ TR w' v seed ∧ Below W.heap.size W w') := Lib.hid fun W h => TS.new_ seed W h hs2
  have XR : Hid (∀ v W, Tab W → TR W v seed → Calls Tryd.prog 10 #[v] W fun e w' => e = .returned (.agg R) ∧ Below W.heap.size W w') := Lib.hid fun v W h hv => by rw [hR.out]; exact TS.root seed v W h hv hs2
  have XL : Hid (∀ W, Calls Tryd.prog 9 #[.string seed] W fun e w' => ∃ A c, e = .returned (.slice A 8 c) ∧ (8 ≤ c ∧ c ≤ maxLen) ∧ HW w' A (keysF seed) ∧ Below W.heap.size W w') := Lib.hid fun W => by
    refine (refLeaves_any seed hs2 W).mono ?_
    rintro e w' ⟨A, c, h1, h2, h3, h4, h5⟩
    rw [keysF_length] at h1 h2
    exact ⟨A, c, h1, ⟨h2, h3⟩, h4, h5⟩
  have XQ : Hid (∀ A c W, HW W A (keysF seed) → 8 ≤ c ∧ c ≤ maxLen → Calls Tryd.prog 11 #[.slice A 8 c] W fun e w' => e = .returned (.agg R) ∧ Below W.heap.size W w') := Lib.hid fun A c W hA hc => by
    have := refTreeRoot_any (keysF seed) (keysF_hashes seed) A c W hA (by rw [keysF_length]; exact hc.1) hc.2
    rw [keysF_length] at this
    rw [hR.out]; exact this
  have NR : ∀ W, (neqAt (.agg R) (.agg R)).run Tryd.prog W = .ok (.bool false) W := fun W => by
    rw [hR.out, neqAt_hash _ _ (rootF_is _).1 (rootF_is _).1 (rootF_is _).2 (rootF_is _).2 W, decide_eq_true rfl]; rfl
  have SG0 : Hid (∀ v i W, Tab W → TR W v seed → num64 i → Calls Tryd.prog 12 #[v, .int .i64 i, .agg D] W (GivesS W (sealF seed i d))) := Lib.hid fun v i W h hv hi => by rw [hD.out]; exact TS.sign seed v i d W h hv hs2 hi hd
  have RG0 : Hid (∀ A c i W, HW W A (keysF seed) → 8 ≤ c ∧ c ≤ maxLen → num64 i → Calls Tryd.prog 13 #[.string seed, .slice A 8 c, .int .i64 i, .agg D] W (GivesS W (sealF seed i d))) := Lib.hid fun A c i W hA hc hi => by rw [hD.out]; exact refTreeSign_any seed hs2 A c i hi d hd W hA hc.1 hc.2
  have ha := and_7 index
  have N1 := Lib.hid h64
  have N2 : Hid (num64 (index % 8)) := Lib.hid (by unfold num64; omega)
  clear hs hT hd h3 hs2 h64 hR
  go_enter Tryd.func3, Tryd.ntmps3
  go_upto_region 1 with fail
  refine world_gen (fun X => Row X w.heap.size 23 D ∧ Below w.heap.size w X) H0.out (fun X HX => ?_)
  have HX := Lib.hid HX
  have HT2 := Lib.hid (HT.out.next HX.out.2)
  clear H0
  go_upto_region 5 with (first
    | (go_at_call 8; (with_reducible refine (XN.out _ HT2.out).mono ?_); rintro e w0 ⟨v, rfl, hv, hb⟩; have H0 := Lib.hid (And.intro hv hb); clear hv hb)
    | (go_at_call 9; (with_reducible refine (XL.out _).mono ?_); rintro e w1 ⟨Al, cl, rfl, hcl, hA, hb⟩; have H1 : Hid (KgH TR w v seed Al D w1) := Lib.hid ⟨TS.next H0.out.1 hb, hA, (HX.out.1.next H0.out.2).next hb, (HT2.out.next H0.out.2).next hb, below_new (below_new HX.out.2 H0.out.2) hb⟩; have HCL := Lib.hid hcl; clear hA hb hcl))
  clear HX HT2 H0
  have SG : Hid (∀ i W, Tab W → TR W v seed → num64 i → Calls Tryd.prog 12 #[v, .int .i64 i, .agg D] W (GivesS W (sealF seed i d))) := Lib.hid fun i W => SG0.out v i W
  have RG : Hid (∀ i W, HW W Al (keysF seed) → num64 i → Calls Tryd.prog 13 #[.string seed, .slice Al 8 cl, .int .i64 i, .agg D] W (GivesS W (sealF seed i d))) := Lib.hid fun i W hA hi => RG0.out Al cl i W hA HCL.out hi
  clear SG0 RG0
  go_upto_region 7 with (first
    | (go_at_call 10; (with_reducible refine (XR.out _ _ H1.out.tab H1.out.tree).mono ?_); rintro e w2 ⟨rfl, hb⟩; have H2 := Lib.hid (H1.out.next TS hb); clear hb H1)
    | (go_at_call 11; (with_reducible refine (XQ.out _ _ _ H2.out.lst HCL.out).mono ?_); rintro e w3 ⟨rfl, hb⟩; have H3 := Lib.hid (H2.out.next TS hb); clear hb H2))
  go_wp2
  go_loopw [9] (fun s9 wr => ∃ k : Nat, s9 = .int .i64 ((k : Nat) : Int) ∧ k ≤ 2 ∧ Hid (KgH TR w v seed Al D wr)) (fun s9 _ => (2 - intOf s9).toNat)
  case atStart => exact ⟨0, rfl, by omega, H3⟩
  case round =>
    clear H3
    obtain ⟨k, rfl, hk, HX⟩ := hrel
    rcases (show k = 0 ∨ k = 1 ∨ k = 2 by omega) with rfl | rfl | rfl
    · go_upto_region 13 with fail
      obtain ⟨x, hx⟩ : ∃ x, Hid (x = (sealF seed index d).1.1) := ⟨_, Lib.hid rfl⟩
      obtain ⟨s, hs⟩ : ∃ s, Hid (s = (sealF seed index d).1.2.1) := ⟨_, Lib.hid rfl⟩
      obtain ⟨p, hp⟩ : ∃ p, Hid (p = (sealF seed index d).1.2.2) := ⟨_, Lib.hid rfl⟩
      obtain ⟨er, her⟩ : ∃ e, Hid (e = (sealF seed index d).2) := ⟨_, Lib.hid rfl⟩
      obtain ⟨n, hn⟩ : ∃ n, Hid (n = p.length) := ⟨_, Lib.hid rfl⟩
      have hhp : Hid (hashes p) := Lib.hid (by rw [hp.out]; exact sealF_hashes _ _ _)
      have X1 : Hid (∀ W, Tab W → TR W v seed → Calls Tryd.prog 12 #[v, .int .i64 index, .agg D] W fun e w' => ∃ A c, e = .returned (.tuple #[.agg (sealV x s A n c), .int .i64 er]) ∧ (n ≤ c ∧ c ≤ maxLen) ∧ HW w' A p ∧ Below W.heap.size W w') := Lib.hid fun W h hv => by
        refine (SG.out index W h hv N1.out).mono ?_
        rintro e w' ⟨A, c, h1, h2, h3, h4, h5⟩
        rw [hn.out, hx.out, hs.out, hp.out, her.out]
        exact ⟨A, c, h1, ⟨h2, h3⟩, h4, h5⟩
      have X2 : Hid (∀ W, HW W Al (keysF seed) → Calls Tryd.prog 13 #[.string seed, .slice Al 8 cl, .int .i64 index, .agg D] W fun e w' => ∃ A c, e = .returned (.tuple #[.agg (sealV x s A n c), .int .i64 er]) ∧ (n ≤ c ∧ c ≤ maxLen) ∧ HW w' A p ∧ Below W.heap.size W w') := Lib.hid fun W hA => by
        refine (RG.out index W hA N1.out).mono ?_
        rintro e w' ⟨A, c, h1, h2, h3, h4, h5⟩
        rw [hn.out, hx.out, hs.out, hp.out, her.out]
        exact ⟨A, c, h1, ⟨h2, h3⟩, h4, h5⟩
      have X3 : Hid (∀ A B c c2 W, n ≤ c ∧ c ≤ maxLen → HW W A p → HW W B p → Calls Tryd.prog 14 #[.agg (sealV x s A n c), .agg (sealV x s B n c2)] W fun e w' => e = .returned (.bool true) ∧ Below W.heap.size W w') := Lib.hid fun A B c c2 W hc hA hB => by
        have hm : p.length ≤ 9223372036854775807 := by have := hn.out; unfold maxLen at hc; omega
        have := sealSame_any x x s s p p hhp.out hhp.out hm hm A B c c2 W hA hB
        rw [decide_eq_true ⟨rfl, rfl, rfl⟩, ← hn.out] at this
        exact this
      clear hx hs hp her hn
      have l1 := HX.out.dig.read zD.out
      go_upto_region 14 with (go_at_call 12; (with_reducible refine (X1.out _ HX.out.tab HX.out.tree).mono ?_); rintro e w2 ⟨A, c, rfl, hc, hA, hb⟩; obtain ⟨w3, s3, hr3, hb3⟩ := made_seal w2 (sealV x s A n c) rfl (sealV_one x s A n c); have H3 := Lib.hid ((HX.out.next TS hb).next TS hb3); have R3 := Lib.hid (And.intro hr3 (HW.next hA hb3)); have HC := Lib.hid hc; clear hr3 hb3 hb hA hc)
      clear s3 l1 HX
      have l1 := H3.out.dig.read zD.out
      go_upto_region 15 with (go_at_call 13; (with_reducible refine (X2.out _ H3.out.lst).mono ?_); rintro e w4 ⟨B, c2, rfl, hc, hA, hb⟩; obtain ⟨w5, s5, hr5, hb5⟩ := made_seal w4 (sealV x s B n c2) rfl (sealV_one x s B n c2); have H5 := Lib.hid ((H3.out.next TS hb).next TS hb5); have R5 := Lib.hid (And.intro ((R3.out.1.next hb).next hb5) (And.intro (HW.next (HW.next R3.out.2 hb) hb5) (And.intro hr5 (HW.next hA hb5)))); clear hr5 hb5 hb hA hc)
      clear s5 l1 H3 R3
      have l1 := R5.out.1.readS rfl
      have l2 := R5.out.2.2.1.readS rfl
      have a1 := R5.out.2.1
      have a2 := R5.out.2.2.2
      go_wp2_with (go_at_call 14; (with_reducible refine (X3.out _ _ _ _ _ HC.out a1 a2).mono ?_); rintro e w6 ⟨rfl, hb⟩; have H6 := Lib.hid (H5.out.next TS hb); clear hb)
      go_roundw
      case rel => exact ⟨1, by first | rfl | go_num, by omega, H6⟩
      case measure => simp [intOf]
    · go_upto_region 13 with fail
      obtain ⟨x, hx⟩ : ∃ x, Hid (x = (sealF seed (index % 8) d).1.1) := ⟨_, Lib.hid rfl⟩
      obtain ⟨s, hs⟩ : ∃ s, Hid (s = (sealF seed (index % 8) d).1.2.1) := ⟨_, Lib.hid rfl⟩
      obtain ⟨p, hp⟩ : ∃ p, Hid (p = (sealF seed (index % 8) d).1.2.2) := ⟨_, Lib.hid rfl⟩
      obtain ⟨er, her⟩ : ∃ e, Hid (e = (sealF seed (index % 8) d).2) := ⟨_, Lib.hid rfl⟩
      obtain ⟨n, hn⟩ : ∃ n, Hid (n = p.length) := ⟨_, Lib.hid rfl⟩
      have hhp : Hid (hashes p) := Lib.hid (by rw [hp.out]; exact sealF_hashes _ _ _)
      have X1 : Hid (∀ W, Tab W → TR W v seed → Calls Tryd.prog 12 #[v, .int .i64 (index % 8), .agg D] W fun e w' => ∃ A c, e = .returned (.tuple #[.agg (sealV x s A n c), .int .i64 er]) ∧ (n ≤ c ∧ c ≤ maxLen) ∧ HW w' A p ∧ Below W.heap.size W w') := Lib.hid fun W h hv => by
        refine (SG.out (index % 8) W h hv N2.out).mono ?_
        rintro e w' ⟨A, c, h1, h2, h3, h4, h5⟩
        rw [hn.out, hx.out, hs.out, hp.out, her.out]
        exact ⟨A, c, h1, ⟨h2, h3⟩, h4, h5⟩
      have X2 : Hid (∀ W, HW W Al (keysF seed) → Calls Tryd.prog 13 #[.string seed, .slice Al 8 cl, .int .i64 (index % 8), .agg D] W fun e w' => ∃ A c, e = .returned (.tuple #[.agg (sealV x s A n c), .int .i64 er]) ∧ (n ≤ c ∧ c ≤ maxLen) ∧ HW w' A p ∧ Below W.heap.size W w') := Lib.hid fun W hA => by
        refine (RG.out (index % 8) W hA N2.out).mono ?_
        rintro e w' ⟨A, c, h1, h2, h3, h4, h5⟩
        rw [hn.out, hx.out, hs.out, hp.out, her.out]
        exact ⟨A, c, h1, ⟨h2, h3⟩, h4, h5⟩
      have X3 : Hid (∀ A B c c2 W, n ≤ c ∧ c ≤ maxLen → HW W A p → HW W B p → Calls Tryd.prog 14 #[.agg (sealV x s A n c), .agg (sealV x s B n c2)] W fun e w' => e = .returned (.bool true) ∧ Below W.heap.size W w') := Lib.hid fun A B c c2 W hc hA hB => by
        have hm : p.length ≤ 9223372036854775807 := by have := hn.out; unfold maxLen at hc; omega
        have := sealSame_any x x s s p p hhp.out hhp.out hm hm A B c c2 W hA hB
        rw [decide_eq_true ⟨rfl, rfl, rfl⟩, ← hn.out] at this
        exact this
      clear hx hs hp her hn
      have l1 := HX.out.dig.read zD.out
      go_upto_region 14 with (go_at_call 12; (with_reducible refine (X1.out _ HX.out.tab HX.out.tree).mono ?_); rintro e w2 ⟨A, c, rfl, hc, hA, hb⟩; obtain ⟨w3, s3, hr3, hb3⟩ := made_seal w2 (sealV x s A n c) rfl (sealV_one x s A n c); have H3 := Lib.hid ((HX.out.next TS hb).next TS hb3); have R3 := Lib.hid (And.intro hr3 (HW.next hA hb3)); have HC := Lib.hid hc; clear hr3 hb3 hb hA hc)
      clear s3 l1 HX
      have l1 := H3.out.dig.read zD.out
      go_upto_region 15 with (go_at_call 13; (with_reducible refine (X2.out _ H3.out.lst).mono ?_); rintro e w4 ⟨B, c2, rfl, hc, hA, hb⟩; obtain ⟨w5, s5, hr5, hb5⟩ := made_seal w4 (sealV x s B n c2) rfl (sealV_one x s B n c2); have H5 := Lib.hid ((H3.out.next TS hb).next TS hb5); have R5 := Lib.hid (And.intro ((R3.out.1.next hb).next hb5) (And.intro (HW.next (HW.next R3.out.2 hb) hb5) (And.intro hr5 (HW.next hA hb5)))); clear hr5 hb5 hb hA hc)
      clear s5 l1 H3 R3
      have l1 := R5.out.1.readS rfl
      have l2 := R5.out.2.2.1.readS rfl
      have a1 := R5.out.2.1
      have a2 := R5.out.2.2.2
      go_wp2_with (go_at_call 14; (with_reducible refine (X3.out _ _ _ _ _ HC.out a1 a2).mono ?_); rintro e w6 ⟨rfl, hb⟩; have H6 := Lib.hid (H5.out.next TS hb); clear hb)
      go_roundw
      case rel => exact ⟨2, by first | rfl | go_num, by omega, H6⟩
      case measure => simp [intOf]
    · go_wp2_with (go_at_call 7; (with_reducible refine (KED.out _ HX.out.tab).mono ?_); rintro e w9 ⟨rfl, hb⟩; have HZ := Lib.hid (below_new HX.out.below hb); clear hb)
      go_ret
      exact ⟨rfl, HZ.out⟩
end Go.Proofs.YtgnkdkehooagpaaDoor
namespace Go.Proofs.YtgnkdkehooagpaaDoor.sign
open Go.ChangeShapes Go.WideShapes Go.ChangeAt Go.RowKit
open Go.ChangeMaps (open_string)
set_option linter.unusedVariables false

set_option maxRecDepth 100000 in
theorem lifted (os : Os) (started : os.Started) (H : Type) (enc : TypeId × Value → H) :
    ReturnsInHanded {} Tryd.checked os 3 .any (fun w args => (Rows.keytreeSignSpec.pre enc Tryd.prog Tryd.f3 [] false w args ∧ laidMetH Tryd.prog laid2 w) ∧ sizedMet enc Tryd.prog Tryd.f3 (OpenSpec.ofChange Rows.keytreeSignSpec) false w args)
      (Rows.keytreeSignSpec.post enc Tryd.prog Tryd.f3 false true false false) := by
  refine returnsInHanded_of_change_and (C := Tryd.checked) (X := fun w _ => laidMetH Tryd.prog laid2 w) (fun _ _ _ hh h => h.of_heap hh) own started (by kernel_rfl) Tryd.func3
    (ChangeSpec.witness_shaped (enc := enc) (C := Tryd.checked) (os := os) (X := fun w _ => laidMetH Tryd.prog laid2 w) false (World.doorLaid Tryd.prog 400 os) #[.string ⟨#[]⟩, .int .i64 0, .agg (nums .u8 zero32)] 8 rfl (World.shaped_of_RefB (by kernel_rfl) (by kernel_rfl)) (by kernel_rfl) (by kernel_rfl) (by kernel_rfl) (door_met os _)) ?_
  intro W base args ds gs before hval0 hW _ _ hL _
  have hval : ∀ (j : Nat) t v, Tryd.f3.params[j]? = some t → args[j]? = some v → Value.okWide Tryd.prog W .any base t v := hval0
  have hW' := hW
  obtain ⟨p, q, hA0, hV, rfl, hfz, hnd⟩ := hW
  have hA : DataW.TrodAll enc Tryd.prog W 0 (fun _ => true) true Tryd.f3.params.toList args.toList ds p := hA0
  rw [Tryd.params3] at hA hval
  obtain ⟨v0, vs0, d0, ds0, p0, q0, hargs, rfl, rfl, h0, r0⟩ := trodAll_cons hA
  obtain ⟨v1, vs1, d1, ds1, p1, q1, rfl, rfl, rfl, h1, r1⟩ := trodAll_cons r0
  obtain ⟨v2, vs2, d2, ds2, p2, q2, rfl, rfl, rfl, h2, r2⟩ := trodAll_cons r1
  obtain ⟨rfl, rfl, rfl⟩ := trodAll_nil r2
  obtain rfl : args = #[v0, v1, v2] := by cases args; simp_all
  obtain ⟨rfl, rfl⟩ := trodVars_none hV
  have k0 := h0
  have lt0 : ∀ x ∈ p0, x.block < W.heap.size := by obtain ⟨m, hm⟩ := k0; exact DataW.trod_lt m _ _ _ hm
  have k2 := h2
  have lt2 : ∀ x ∈ p2, x.block < W.heap.size := by obtain ⟨m, hm⟩ := k2; exact DataW.trod_lt m _ _ _ hm
  obtain ⟨s0, rfl, hd0, _, w0⟩ := open_string Tryd.underlying9 (hval 0 9 v0 rfl rfl) h0
  obtain ⟨n1, rfl, rfl, rfl, w1⟩ := open_int Tryd.underlying3 (hval 1 3 v1 rfl rfl) h1
  have b1 := bounds_i64 w1
  obtain ⟨l2, rfl, hl2, hb2⟩ := open_hash (hval 2 23 v2 rfl rfl) h2
  clear hA0 hval0
  refine (keysignlaw_any treeR tree_says s0 w0 n1 b1 l2 ⟨hl2, hb2⟩ W (of_laid hL)).mono fun e W' ⟨he, bel⟩ => ?_
  subst he
  exact ⟨_, rfl, _, _, _, [], _, [], hW', trodAll_mk1 (shut_bool Tryd.underlying4 _), (trodAll_cons_mk (Below.trod laidOut (by kernel_rfl) (of_decide_eq_true (by kernel_rfl)) k0 bel lt0) (trodAll_cons_mk (shut_int Tryd.underlying3 w1) (trodAll_cons_mk (Below.trod laidOut (by kernel_rfl) (of_decide_eq_true (by kernel_rfl)) k2 bel lt2) trodAll_mk0))), rfl, bel.frame _, fun h => by cases h⟩

theorem over : Rows.KeytreeSignSaid :=
  OpenClaim.holds_of_wide 3 Tryd.f3 rfl rfl rfl rfl rfl rfl rfl ⟨rfl, rfl, rfl, rfl, rfl⟩ rfl rfl rfl rfl rfl (by kernel_rfl) Tryd.func3 (by kernel_rfl)
    (of_decide_eq_true (by kernel_rfl)) (by unfold Func.isWrapper; first | (rw [if_pos (by decide +kernel)]; kernel_rfl) | (rw [if_neg (by decide +kernel)]; exact ⟨rfl, rfl⟩))
    (fun os started H enc _ => lifted os started H enc)

/-- The statement. -/
theorem proved : Rows.KeytreeSignCardSaid :=
  Claim7.holds_tied_plain_at .later [] [.data, .data] true _ false
    over (fun _ h => by cases h) (by kernel_rfl) (fun _ h => by cases h) keytreeSign_row_tie rfl ⟨rfl, rfl⟩ (by kernel_rfl) rfl
    (fun f fn hf hfn => by
      obtain rfl : f = 3 := Option.some.inj ((show Tryd.prog.funcNamed "speculum/speculumlaw09.KeytreeSign" = some 3 by kernel_rfl).symm.trans hf) |>.symm
      obtain rfl : fn = Tryd.f3 := (Option.some.inj (Tryd.func3.symm.trans hfn)).symm
      exact ⟨by kernel_rfl, fun j t ht => by
        rw [Tryd.params3] at ht
        have hm : t ∈ [9, 3, 23] := by simpa using Array.mem_of_getElem? ht
        have hall : ([9, 3, 23].all fun u => !Tryd.prog.wantsStandIn u) = true := by kernel_rfl
        exact (show Tryd.prog.wantsStandIn t = false by simpa using List.all_eq_true.1 hall t hm)⟩)
    (by kernel_rfl)
#print axioms proved
end Go.Proofs.YtgnkdkehooagpaaDoor.sign
