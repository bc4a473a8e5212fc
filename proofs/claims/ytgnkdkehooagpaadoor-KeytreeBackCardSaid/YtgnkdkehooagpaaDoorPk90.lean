/-
  Several texts in one (a claim has room for 60 files): PathCopy, PathStore, KeyLawS, KeyCells, KeyPath, KeyForge.
-/
import Derived.Test.YtgnkdkehooagpaaDoorPk04
import Derived.Test.YtgnkdkehooagpaaDoorPk08
import Derived.Deep.MidRow
import Derived.Test.YtgnkdkehooagpaaDoorPk33
import Derived.Test.YtgnkdkehooagpaaDoorPk23
import Derived.Test.YtgnkdkehooagpaaDoorPk05
namespace Go.Proofs.YtgnkdkehooagpaaDoor
open Go.RowKit Go.Great
set_option linter.unusedVariables false
set_option maxRecDepth 100000

theorem append_nilH (ty : TypeId) (c : Nat) (w : World) : (Builtin.append_ #[27, 27] ty #[.slice none 0 0, .slice none 0 c]).run Tryd.prog w = .ok (.slice none 0 0) w := by
  obtain ⟨i0, hi, hz0, hz1, hz2⟩ := info_parts infoHash
  simp [Builtin.append_, run_underlying Tryd.underlying27, sizeOf, typeInfo, hi, Builtin.lenOf, Builtin.firstCells]
theorem wp_appendC {o : Oper} {a : Act} {w : World} {K : Act → World → Prop} {Q : Exit → Act → World → Prop} (s x : Operand) (ho : o.op = .call { callee := .builtin .append, args := #[s, x], argTypes := #[27, 27] })
    (B : Nat) (us : List (List Int)) (hsv : a.eval s = .slice none 0 0) (A : Option Addr) (m c : Nat) (hx : a.eval x = .slice A m c) (hm : m = us.length) (hu : hashes us) (hU : HL w w.heap.size A us) (hsm : m ≤ 8192) (hB : B ≤ w.heap.size)
    (h : ∀ v' w', w'.ownsRow B 23 32 v' m (cellsL us) → w.grownBy w' none → K (a.put o.dst v') w') : o.wp Tryd.prog a w K Q := by
  cases A with
  | some ad =>
    refine wp_appendH s x ho B (.slice none 0 0) 0 [] us hsv ⟨rfl, .inl ⟨rfl, rfl⟩⟩ ad m c hx hm hu hU (by omega) hB (fun v' w' h1 h2 => ?_)
    rw [Nat.zero_add] at h1
    exact h v' w' h1 h2
  | none =>
    have e0 : us = [] := by
      cases us with
      | nil => rfl
      | cons u us => obtain ⟨ad, e⟩ := hU.some 0 (by simp); cases e
    subst e0
    obtain rfl : m = 0 := hm
    have hk := h (.slice none 0 0) w ⟨rfl, .inl ⟨rfl, rfl⟩⟩ (grown_of_below (Below.refl _ _) none)
    unfold Oper.wp execOp
    simp only [ho, resolve, invoke, builtin, Sem.run_bind, Sem.run_pure, Result.andThen_ok, List.map_toArray, List.map_cons, List.map_nil, hsv, hx, append_nilH]
    exact hk
end Go.Proofs.YtgnkdkehooagpaaDoor
namespace Go.Proofs.YtgnkdkehooagpaaDoor
open Go.RowKit Go.Great
set_option linter.unusedVariables false
set_option maxRecDepth 100000

theorem wpList_appendC {ops : Array Oper} {rest : List Oper} {o : Oper} {a : Act} {w : World} {Q : Exit → Act → World → Prop} (hgd : o.guard = none) (s x : Operand) (ho : o.op = .call { callee := .builtin .append, args := #[s, x], argTypes := #[27, 27] })
    (B : Nat) (us : List (List Int)) (hsv : a.eval s = .slice none 0 0) (A : Option Addr) (m c : Nat) (hx : a.eval x = .slice A m c) (hm : m = us.length) (hu : hashes us) (hU : HL w w.heap.size A us) (hsm : m ≤ 8192) (hB : B ≤ w.heap.size)
    (h : ∀ v' w', w'.ownsRow B 23 32 v' m (cellsL us) → w.grownBy w' none → wpList Tryd.prog ops Q rest (a.put o.dst v') w') : wpList Tryd.prog ops Q (o :: rest) a w :=
  wpList_plain hgd fun _ hK => wp_appendC s x ho B us hsv A m c hx hm hu hU hsm hB fun v' w' h1 h2 => hK _ _ (h v' w' h1 h2)
theorem wpList_store_at {P : Program} {ops : Array Oper} {rest : List Oper} {op : Oper} {a : Act} {w : World} {Q : Exit → Act → World → Prop} (hgd : op.guard = none) (ty : TypeId) (x y : Operand) (ho : op.op = .store ty x y)
    (b o : Nat) (cells : Array Value) (hx : a.eval x = .pointer (some ((⟨b, 0, none⟩ : Addr).add o))) (hy : a.eval y = .agg cells)
    (ht : w.there b o cells.size) (hi : (P.info? ty).map (·.size) = some cells.size) (h1 : cells.all (·.oneCell') = true)
    (h : wpList P ops Q rest (a.put op.dst undef) (w.setCells b o cells.toList)) : wpList P ops Q (op :: rest) a w :=
  wpList_store_mid hgd ty x y ho b o cells (by rw [hx, add_flat]) hy ht hi h1 h
end Go.Proofs.YtgnkdkehooagpaaDoor
namespace Go.Proofs.YtgnkdkehooagpaaDoor
open Go.RowKit Go.Great
set_option linter.unusedVariables false
set_option maxRecDepth 100000

theorem sealF_hashes (seed : ByteArray) (i : Int) (d : List Int) : hashes (sealF seed i d).1.2.2 := by
  unfold sealF
  split
  · intro l hl; cases hl
  · exact path8_hashes _ _
theorem and_7 (x : Int) : bits .and .i64 x 7 = x % 8 := by
  have oa : (BitVec.ofInt 64 x).toNat = (x % 18446744073709551616).toNat := by rw [BitVec.toNat_ofInt]; rfl
  have ob : (BitVec.ofInt 64 (7 : Int)).toNat = 7 := by decide
  show IntKind.i64.wrap ((BitVec.ofInt 64 x &&& BitVec.ofInt 64 7).toNat : Int) = _
  rw [BitVec.toNat_and, oa, ob, show (7 : Nat) = 2 ^ 3 - 1 by decide, Nat.and_two_pow_sub_one_eq_mod, IntKind.wrap_i64]
  omega
/-- What the statement holds: the tree, the document's leaves, the digest. -/
structure KgH (TR : World → Value → ByteArray → Prop) (w : World) (v : Value) (seed : ByteArray) (A : Option Addr) (D : Array Value) (W : World) : Prop where
  tree : TR W v seed
  lst : HW W A (keysF seed)
  dig : Row W w.heap.size 23 D
  tab : Tab W
  below : Below w.heap.size w W
theorem KgH.next {TR : World → Value → ByteArray → Prop} {w W W1 : World} {v : Value} {seed : ByteArray} {A : Option Addr} {D : Array Value} (h : KgH TR w v seed A D W) (TS : TreeSays TR) (hb : Below W.heap.size W W1) : KgH TR w v seed A D W1 := ⟨TS.next h.tree hb, h.lst.next hb, h.dig.next hb, h.tab.next hb, below_new h.below hb⟩
attribute [local go_sem ↓ high] read_at write_at read_s write_s eq_at neq_at
set_option maxHeartbeats 8000000 in
theorem keysignlaw_any (TR : World → Value → ByteArray → Prop) (TS : TreeSays TR) (seed : ByteArray) (hs : seed.size ≤ maxLen) (index : Int) (h64 : num64 index) (d : List Int) (hd : d.length = 32 ∧ bytes d) (w : World) (hT : Tab w) :
    Calls Tryd.prog 3 #[.string seed, .int .i64 index, .agg (nums .u8 d)] w fun e w' => e = .returned (.bool true) ∧ Below w.heap.size w w' := by
  have KED : Hid (∀ W, Tab W → Calls Tryd.prog 7 #[] W fun e w' => e = .returned (.bool true) ∧ Below W.heap.size W w') := Lib.hid fun W h => planted_any TR TS W h
  obtain ⟨D, hD⟩ : ∃ D, Hid (D = nums .u8 d) := ⟨_, Lib.hid rfl⟩
  have zD : Hid (D.size = 32) := Lib.hid (by rw [hD.out, nums_size]; exact hd.1)
  have HT := Lib.hid hT
  have H0 : Hid (Row (w.alloc (.cells D 23)) w.heap.size 23 D ∧ Below w.heap.size w (w.alloc (.cells D 23))) := Lib.hid ⟨Row.made _ _ _, (Below.refl _ _).alloc (Nat.le_refl _) _⟩
  rw [← hD.out]
  by_cases h3 : 100 < seed.size
  · have e1 : decide (100 < (seed.size : Int)) = true := decide_eq_true (by omega)
    have e2 : (100 : Int) < (seed.size : Int) := by omega
    clear hs hT hd h64
    go_enter Tryd.func3, Tryd.ntmps3
    go_upto_region 1 with fail
    refine world_gen (fun X => Row X w.heap.size 23 D ∧ Below w.heap.size w X) H0.out (fun X HX => ?_)
    have HT2 := Lib.hid (HT.out.next HX.2)
    have HB := Lib.hid HX.2
    go_wp2_with (go_at_call 7; (with_reducible refine (KED.out _ HT2.out).mono ?_); rintro e w1 ⟨rfl, hb⟩; have HB := Lib.hid (below_new HB.out hb); clear hb)
    go_ret
    exact ⟨rfl, HB.out⟩
  have e1 : decide (100 < (seed.size : Int)) = false := decide_eq_false (by omega)
  have e2 : ¬ (100 : Int) < (seed.size : Int) := by omega
  have hs2 : seed.size ≤ 100000 := by omega
  obtain ⟨R, hR⟩ : ∃ R, Hid (R = nums .u8 (rootF seed)) := ⟨_, Lib.hid rfl⟩
  have XN : Hid (∀ W, Tab W → Calls Tryd.prog 8 #[.string seed] W fun e w' => ∃ v, e = .returned v ∧ TR w' v seed ∧ Below W.heap.size W w') := Lib.hid fun W h => TS.new_ seed W h hs2
  have XR : Hid (∀ v W, Tab W → TR W v seed → Calls Tryd.prog 10 #[v] W fun e w' => e = .returned (.agg R) ∧ Below W.heap.size W w') := Lib.hid fun v W h hv => by rw [hR.out]; exact TS.root seed v W h hv hs2
  have XL : Hid (∀ W, Calls Tryd.prog 9 #[.string seed] W fun e w' => ∃ A c, e = .returned (.slice A 8 c) ∧ (8 ≤ c ∧ c ≤ maxLen) ∧ HW w' A (keysF seed) ∧ Below W.heap.size W w') := Lib.hid fun W => by
    refine (refLeaves_any seed hs2 W).mono ?_
    rintro e w' ⟨A, c, h1, h2, h3, h4, h5⟩
    rw [keysF_length] at h1 h2
    exact ⟨A, c, h1, ⟨h2, h3⟩, h4, h5⟩
  have XQ : Hid (∀ A c W, HW W A (keysF seed) → 8 ≤ c ∧ c ≤ maxLen → Calls Tryd.prog 11 #[.slice A 8 c] W fun e w' => e = .returned (.agg R) ∧ Below W.heap.size W w') := Lib.hid fun A c W hA hc => by
    have := refTreeRoot_any (keysF seed) (keysF_hashes seed) A c W hA (by rw [keysF_length]; exact hc.1) hc.2
    rw [keysF_length] at this
    rw [hR.out]; exact this
  have NR : ∀ W, (neqAt (.agg R) (.agg R)).run Tryd.prog W = .ok (.bool false) W := fun W => by
    rw [hR.out, neqAt_hash _ _ (rootF_is _).1 (rootF_is _).1 (rootF_is _).2 (rootF_is _).2 W, decide_eq_true rfl]; rfl
  have SG0 : Hid (∀ v i W, Tab W → TR W v seed → num64 i → Calls Tryd.prog 12 #[v, .int .i64 i, .agg D] W (GivesS W (sealF seed i d))) := Lib.hid fun v i W h hv hi => by rw [hD.out]; exact TS.sign seed v i d W h hv hs2 hi hd
  have RG0 : Hid (∀ A c i W, HW W A (keysF seed) → 8 ≤ c ∧ c ≤ maxLen → num64 i → Calls Tryd.prog 13 #[.string seed, .slice A 8 c, .int .i64 i, .agg D] W (GivesS W (sealF seed i d))) := Lib.hid fun A c i W hA hc hi => by rw [hD.out]; exact refTreeSign_any seed hs2 A c i hi d hd W hA hc.1 hc.2
  have ha := and_7 index
  have N1 := Lib.hid h64
  have N2 : Hid (num64 (index % 8)) := Lib.hid (by unfold num64; omega)
  clear hs hT hd h3 hs2 h64 hR
  go_enter Tryd.func3, Tryd.ntmps3
  go_upto_region 1 with fail
  refine world_gen (fun X => Row X w.heap.size 23 D ∧ Below w.heap.size w X) H0.out (fun X HX => ?_)
  have HX := Lib.hid HX
  have HT2 := Lib.hid (HT.out.next HX.out.2)
  clear H0
  go_upto_region 5 with (first
    | (go_at_call 8; (with_reducible refine (XN.out _ HT2.out).mono ?_); rintro e w0 ⟨v, rfl, hv, hb⟩; have H0 := Lib.hid (And.intro hv hb); clear hv hb)
    | (go_at_call 9; (with_reducible refine (XL.out _).mono ?_); rintro e w1 ⟨Al, cl, rfl, hcl, hA, hb⟩; have H1 : Hid (KgH TR w v seed Al D w1) := Lib.hid ⟨TS.next H0.out.1 hb, hA, (HX.out.1.next H0.out.2).next hb, (HT2.out.next H0.out.2).next hb, below_new (below_new HX.out.2 H0.out.2) hb⟩; have HCL := Lib.hid hcl; clear hA hb hcl))
  clear HX HT2 H0
  have SG : Hid (∀ i W, Tab W → TR W v seed → num64 i → Calls Tryd.prog 12 #[v, .int .i64 i, .agg D] W (GivesS W (sealF seed i d))) := Lib.hid fun i W => SG0.out v i W
  have RG : Hid (∀ i W, HW W Al (keysF seed) → num64 i → Calls Tryd.prog 13 #[.string seed, .slice Al 8 cl, .int .i64 i, .agg D] W (GivesS W (sealF seed i d))) := Lib.hid fun i W hA hi => RG0.out Al cl i W hA HCL.out hi
  clear SG0 RG0
  go_upto_region 7 with (first
    | (go_at_call 10; (with_reducible refine (XR.out _ _ H1.out.tab H1.out.tree).mono ?_); rintro e w2 ⟨rfl, hb⟩; have H2 := Lib.hid (H1.out.next TS hb); clear hb H1)
    | (go_at_call 11; (with_reducible refine (XQ.out _ _ _ H2.out.lst HCL.out).mono ?_); rintro e w3 ⟨rfl, hb⟩; have H3 := Lib.hid (H2.out.next TS hb); clear hb H2))
  go_wp2
  go_loopw [9] (fun s9 wr => ∃ k : Nat, s9 = .int .i64 ((k : Nat) : Int) ∧ k ≤ 2 ∧ Hid (KgH TR w v seed Al D wr)) (fun s9 _ => (2 - intOf s9).toNat)
  case atStart => exact ⟨0, rfl, by omega, H3⟩
  case round =>
    clear H3
    obtain ⟨k, rfl, hk, HX⟩ := hrel
    rcases (show k = 0 ∨ k = 1 ∨ k = 2 by omega) with rfl | rfl | rfl
    · go_upto_region 13 with fail
      obtain ⟨x, hx⟩ : ∃ x, Hid (x = (sealF seed index d).1.1) := ⟨_, Lib.hid rfl⟩
      obtain ⟨s, hs⟩ : ∃ s, Hid (s = (sealF seed index d).1.2.1) := ⟨_, Lib.hid rfl⟩
      obtain ⟨p, hp⟩ : ∃ p, Hid (p = (sealF seed index d).1.2.2) := ⟨_, Lib.hid rfl⟩
      obtain ⟨er, her⟩ : ∃ e, Hid (e = (sealF seed index d).2) := ⟨_, Lib.hid rfl⟩
      obtain ⟨n, hn⟩ : ∃ n, Hid (n = p.length) := ⟨_, Lib.hid rfl⟩
      have hhp : Hid (hashes p) := Lib.hid (by rw [hp.out]; exact sealF_hashes _ _ _)
      have X1 : Hid (∀ W, Tab W → TR W v seed → Calls Tryd.prog 12 #[v, .int .i64 index, .agg D] W fun e w' => ∃ A c, e = .returned (.tuple #[.agg (sealV x s A n c), .int .i64 er]) ∧ (n ≤ c ∧ c ≤ maxLen) ∧ HW w' A p ∧ Below W.heap.size W w') := Lib.hid fun W h hv => by
        refine (SG.out index W h hv N1.out).mono ?_
        rintro e w' ⟨A, c, h1, h2, h3, h4, h5⟩
        rw [hn.out, hx.out, hs.out, hp.out, her.out]
        exact ⟨A, c, h1, ⟨h2, h3⟩, h4, h5⟩
      have X2 : Hid (∀ W, HW W Al (keysF seed) → Calls Tryd.prog 13 #[.string seed, .slice Al 8 cl, .int .i64 index, .agg D] W fun e w' => ∃ A c, e = .returned (.tuple #[.agg (sealV x s A n c), .int .i64 er]) ∧ (n ≤ c ∧ c ≤ maxLen) ∧ HW w' A p ∧ Below W.heap.size W w') := Lib.hid fun W hA => by
        refine (RG.out index W hA N1.out).mono ?_
        rintro e w' ⟨A, c, h1, h2, h3, h4, h5⟩
        rw [hn.out, hx.out, hs.out, hp.out, her.out]
        exact ⟨A, c, h1, ⟨h2, h3⟩, h4, h5⟩
      have X3 : Hid (∀ A B c c2 W, n ≤ c ∧ c ≤ maxLen → HW W A p → HW W B p → Calls Tryd.prog 14 #[.agg (sealV x s A n c), .agg (sealV x s B n c2)] W fun e w' => e = .returned (.bool true) ∧ Below W.heap.size W w') := Lib.hid fun A B c c2 W hc hA hB => by
        have hm : p.length ≤ 9223372036854775807 := by have := hn.out; unfold maxLen at hc; omega
        have := sealSame_any x x s s p p hhp.out hhp.out hm hm A B c c2 W hA hB
        rw [decide_eq_true ⟨rfl, rfl, rfl⟩, ← hn.out] at this
        exact this
      clear hx hs hp her hn
      have l1 := HX.out.dig.read zD.out
      go_upto_region 14 with (go_at_call 12; (with_reducible refine (X1.out _ HX.out.tab HX.out.tree).mono ?_); rintro e w2 ⟨A, c, rfl, hc, hA, hb⟩; obtain ⟨w3, s3, hr3, hb3⟩ := made_seal w2 (sealV x s A n c) rfl (sealV_one x s A n c); have H3 := Lib.hid ((HX.out.next TS hb).next TS hb3); have R3 := Lib.hid (And.intro hr3 (HW.next hA hb3)); have HC := Lib.hid hc; clear hr3 hb3 hb hA hc)
      clear s3 l1 HX
      have l1 := H3.out.dig.read zD.out
      go_upto_region 15 with (go_at_call 13; (with_reducible refine (X2.out _ H3.out.lst).mono ?_); rintro e w4 ⟨B, c2, rfl, hc, hA, hb⟩; obtain ⟨w5, s5, hr5, hb5⟩ := made_seal w4 (sealV x s B n c2) rfl (sealV_one x s B n c2); have H5 := Lib.hid ((H3.out.next TS hb).next TS hb5); have R5 := Lib.hid (And.intro ((R3.out.1.next hb).next hb5) (And.intro (HW.next (HW.next R3.out.2 hb) hb5) (And.intro hr5 (HW.next hA hb5)))); clear hr5 hb5 hb hA hc)
      clear s5 l1 H3 R3
      have l1 := R5.out.1.readS rfl
      have l2 := R5.out.2.2.1.readS rfl
      have a1 := R5.out.2.1
      have a2 := R5.out.2.2.2
      go_wp2_with (go_at_call 14; (with_reducible refine (X3.out _ _ _ _ _ HC.out a1 a2).mono ?_); rintro e w6 ⟨rfl, hb⟩; have H6 := Lib.hid (H5.out.next TS hb); clear hb)
      go_roundw
      case rel => exact ⟨1, by first | rfl | go_num, by omega, H6⟩
      case measure => simp [intOf]
    · go_upto_region 13 with fail
      obtain ⟨x, hx⟩ : ∃ x, Hid (x = (sealF seed (index % 8) d).1.1) := ⟨_, Lib.hid rfl⟩
      obtain ⟨s, hs⟩ : ∃ s, Hid (s = (sealF seed (index % 8) d).1.2.1) := ⟨_, Lib.hid rfl⟩
      obtain ⟨p, hp⟩ : ∃ p, Hid (p = (sealF seed (index % 8) d).1.2.2) := ⟨_, Lib.hid rfl⟩
      obtain ⟨er, her⟩ : ∃ e, Hid (e = (sealF seed (index % 8) d).2) := ⟨_, Lib.hid rfl⟩
      obtain ⟨n, hn⟩ : ∃ n, Hid (n = p.length) := ⟨_, Lib.hid rfl⟩
      have hhp : Hid (hashes p) := Lib.hid (by rw [hp.out]; exact sealF_hashes _ _ _)
      have X1 : Hid (∀ W, Tab W → TR W v seed → Calls Tryd.prog 12 #[v, .int .i64 (index % 8), .agg D] W fun e w' => ∃ A c, e = .returned (.tuple #[.agg (sealV x s A n c), .int .i64 er]) ∧ (n ≤ c ∧ c ≤ maxLen) ∧ HW w' A p ∧ Below W.heap.size W w') := Lib.hid fun W h hv => by
        refine (SG.out (index % 8) W h hv N2.out).mono ?_
        rintro e w' ⟨A, c, h1, h2, h3, h4, h5⟩
        rw [hn.out, hx.out, hs.out, hp.out, her.out]
        exact ⟨A, c, h1, ⟨h2, h3⟩, h4, h5⟩
      have X2 : Hid (∀ W, HW W Al (keysF seed) → Calls Tryd.prog 13 #[.string seed, .slice Al 8 cl, .int .i64 (index % 8), .agg D] W fun e w' => ∃ A c, e = .returned (.tuple #[.agg (sealV x s A n c), .int .i64 er]) ∧ (n ≤ c ∧ c ≤ maxLen) ∧ HW w' A p ∧ Below W.heap.size W w') := Lib.hid fun W hA => by
        refine (RG.out (index % 8) W hA N2.out).mono ?_
        rintro e w' ⟨A, c, h1, h2, h3, h4, h5⟩
        rw [hn.out, hx.out, hs.out, hp.out, her.out]
        exact ⟨A, c, h1, ⟨h2, h3⟩, h4, h5⟩
      have X3 : Hid (∀ A B c c2 W, n ≤ c ∧ c ≤ maxLen → HW W A p → HW W B p → Calls Tryd.prog 14 #[.agg (sealV x s A n c), .agg (sealV x s B n c2)] W fun e w' => e = .returned (.bool true) ∧ Below W.heap.size W w') := Lib.hid fun A B c c2 W hc hA hB => by
        have hm : p.length ≤ 9223372036854775807 := by have := hn.out; unfold maxLen at hc; omega
        have := sealSame_any x x s s p p hhp.out hhp.out hm hm A B c c2 W hA hB
        rw [decide_eq_true ⟨rfl, rfl, rfl⟩, ← hn.out] at this
        exact this
      clear hx hs hp her hn
      have l1 := HX.out.dig.read zD.out
      go_upto_region 14 with (go_at_call 12; (with_reducible refine (X1.out _ HX.out.tab HX.out.tree).mono ?_); rintro e w2 ⟨A, c, rfl, hc, hA, hb⟩; obtain ⟨w3, s3, hr3, hb3⟩ := made_seal w2 (sealV x s A n c) rfl (sealV_one x s A n c); have H3 := Lib.hid ((HX.out.next TS hb).next TS hb3); have R3 := Lib.hid (And.intro hr3 (HW.next hA hb3)); have HC := Lib.hid hc; clear hr3 hb3 hb hA hc)
      clear s3 l1 HX
      have l1 := H3.out.dig.read zD.out
      go_upto_region 15 with (go_at_call 13; (with_reducible refine (X2.out _ H3.out.lst).mono ?_); rintro e w4 ⟨B, c2, rfl, hc, hA, hb⟩; obtain ⟨w5, s5, hr5, hb5⟩ := made_seal w4 (sealV x s B n c2) rfl (sealV_one x s B n c2); have H5 := Lib.hid ((H3.out.next TS hb).next TS hb5); have R5 := Lib.hid (And.intro ((R3.out.1.next hb).next hb5) (And.intro (HW.next (HW.next R3.out.2 hb) hb5) (And.intro hr5 (HW.next hA hb5)))); clear hr5 hb5 hb hA hc)
      clear s5 l1 H3 R3
      have l1 := R5.out.1.readS rfl
      have l2 := R5.out.2.2.1.readS rfl
      have a1 := R5.out.2.1
      have a2 := R5.out.2.2.2
      go_wp2_with (go_at_call 14; (with_reducible refine (X3.out _ _ _ _ _ HC.out a1 a2).mono ?_); rintro e w6 ⟨rfl, hb⟩; have H6 := Lib.hid (H5.out.next TS hb); clear hb)
      go_roundw
      case rel => exact ⟨2, by first | rfl | go_num, by omega, H6⟩
      case measure => simp [intOf]
    · go_wp2_with (go_at_call 7; (with_reducible refine (KED.out _ HX.out.tab).mono ?_); rintro e w9 ⟨rfl, hb⟩; have HZ := Lib.hid (below_new HX.out.below hb); clear hb)
      go_ret
      exact ⟨rfl, HZ.out⟩
end Go.Proofs.YtgnkdkehooagpaaDoor
namespace Go.Proofs.YtgnkdkehooagpaaDoor
open Go.RowKit Go.Great
set_option linter.unusedVariables false
set_option maxRecDepth 100000

/-- What the statement holds: its numbers, its digests, the tree; and the seal. -/
structure KaH (TR : World → Value → ByteArray → Prop) (w : World) (v : Value) (seed : ByteArray) (N DD : Array Value) (W : World) : Prop where
  tree : TR W v seed
  num : Row W w.heap.size 49 N
  dig : Row W (w.heap.size + 1) 50 DD
  tab : Tab W
  below : Below w.heap.size w W
theorem KaH.next {TR : World → Value → ByteArray → Prop} {w W W1 : World} {v : Value} {seed : ByteArray} {N DD : Array Value} (h : KaH TR w v seed N DD W) (TS : TreeSays TR) (hb : Below W.heap.size W W1) : KaH TR w v seed N DD W1 := ⟨TS.next h.tree hb, h.num.next hb, h.dig.next hb, h.tab.next hb, below_new h.below hb⟩
structure KbH (TR : World → Value → ByteArray → Prop) (w : World) (v : Value) (seed : ByteArray) (N DD : Array Value) (g : Nat) (S : Array Value) (A : Option Addr) (ps : List (List Int)) (W : World) : Prop where
  tree : TR W v seed
  num : Row W w.heap.size 49 N
  dig : Row W (w.heap.size + 1) 50 DD
  seal_ : Row W g 32 S
  lst : HW W A ps
  tab : Tab W
  below : Below w.heap.size w W
  lo : w.heap.size + 1 < g
theorem KbH.next {TR : World → Value → ByteArray → Prop} {w W W1 : World} {v : Value} {seed : ByteArray} {N DD S : Array Value} {g : Nat} {A : Option Addr} {ps : List (List Int)} (h : KbH TR w v seed N DD g S A ps W) (TS : TreeSays TR) (hb : Below W.heap.size W W1) : KbH TR w v seed N DD g S A ps W1 := ⟨TS.next h.tree hb, h.num.next hb, h.dig.next hb, h.seal_.next hb, h.lst.next hb, h.tab.next hb, below_new h.below hb, h.lo⟩
/-- And three seals of the call's own, that may be written on. -/
structure KcH (TR : World → Value → ByteArray → Prop) (w : World) (v : Value) (seed : ByteArray) (N DD : Array Value) (g : Nat) (S : Array Value) (A : Option Addr) (ps : List (List Int)) (W0 : World) (a b c : Nat) (SA SB SC : Array Value) (W : World) : Prop where
  base : KbH TR w v seed N DD g S A ps W0
  b0 : Below W0.heap.size W0 W
  ra : Row W a 32 SA
  rb : Row W b 32 SB
  rc : Row W c 32 SC
  la : W0.heap.size ≤ a
  lb : W0.heap.size ≤ b
  lc : W0.heap.size ≤ c
  ab : a ≠ b
  ac : a ≠ c
  bc : b ≠ c
theorem KcH.next {TR : World → Value → ByteArray → Prop} {w W W1 W0 : World} {v : Value} {seed : ByteArray} {N DD S SA SB SC : Array Value} {g a b c : Nat} {A : Option Addr} {ps : List (List Int)} (h : KcH TR w v seed N DD g S A ps W0 a b c SA SB SC W) (hb : Below W.heap.size W W1) : KcH TR w v seed N DD g S A ps W0 a b c SA SB SC W1 := ⟨h.base, below_new h.b0 hb, h.ra.next hb, h.rb.next hb, h.rc.next hb, h.la, h.lb, h.lc, h.ab, h.ac, h.bc⟩
theorem KcH.old {TR : World → Value → ByteArray → Prop} {w W W0 : World} {v : Value} {seed : ByteArray} {N DD S SA SB SC : Array Value} {g a b c : Nat} {A : Option Addr} {ps : List (List Int)} (h : KcH TR w v seed N DD g S A ps W0 a b c SA SB SC W) (TS : TreeSays TR) : KbH TR w v seed N DD g S A ps W := h.base.next TS h.b0
def seal3 (W : World) : World := ((W.alloc (.cells #[.int .i64 0, .string ⟨#[]⟩, .slice none 0 0] 32)).alloc (.cells #[.int .i64 0, .string ⟨#[]⟩, .slice none 0 0] 32)).alloc (.cells #[.int .i64 0, .string ⟨#[]⟩, .slice none 0 0] 32)
theorem seal3_rows (W : World) : ∀ i, i < 3 → Row (seal3 W) (W.heap.size + i) 32 #[.int .i64 0, .string ⟨#[]⟩, .slice none 0 0] := by
  intro i hi
  match i, hi with
  | 0, _ => exact ((Row.made W _ _).alloc _).alloc _
  | 1, _ => exact (Row.made2 W _ _ _).alloc _
  | 2, _ =>
    have := Row.made ((W.alloc (.cells #[.int .i64 0, .string ⟨#[]⟩, .slice none 0 0] 32)).alloc (.cells #[.int .i64 0, .string ⟨#[]⟩, .slice none 0 0] 32)) 32 #[.int .i64 0, .string ⟨#[]⟩, .slice none 0 0]
    simpa [seal3] using this
theorem seal3_below (W : World) : Below W.heap.size W (seal3 W) := (((Below.refl _ _).alloc (Nat.le_refl _) _).alloc (by simp) _).alloc (by simp; omega) _
theorem kc_made {TR : World → Value → ByteArray → Prop} {w W0 : World} {v : Value} {seed : ByteArray} {N DD S : Array Value} {g : Nat} {A : Option Addr} {ps : List (List Int)} (h : KbH TR w v seed N DD g S A ps W0) (i j k : Nat) (hi : i < 3) (hj : j < 3) (hk : k < 3) (h1 : i ≠ j) (h2 : i ≠ k) (h3 : j ≠ k) :
    KcH TR w v seed N DD g S A ps W0 (W0.heap.size + i) (W0.heap.size + j) (W0.heap.size + k) S S S ((((seal3 W0).setRow (W0.heap.size + i) S).setRow (W0.heap.size + j) S).setRow (W0.heap.size + k) S) := by
  have ri := seal3_rows W0 i hi
  have rj := seal3_rows W0 j hj
  have rk := seal3_rows W0 k hk
  refine ⟨h, below_setRow (below_setRow (below_setRow (seal3_below W0) (by omega)) (by omega)) (by omega), ?_, ?_, ?_, by omega, by omega, by omega, by omega, by omega, by omega⟩
  · exact ((ri.whole S).wfar (by omega) _).wfar (by omega) _
  · exact ((rj.wfar (by omega) S).whole S).wfar (by omega) _
  · exact ((rk.wfar (by omega) S).wfar (by omega) S).whole S
theorem read_two' {W : World} {g : Nat} {t : TypeId} {a b : List Int} (h : Row W g t (nums .u8 (a ++ b))) (ha : a.length = 32) (hb : b.length = 32) :
    (readAt (.pointer (some ⟨g, 0, none⟩))).run Tryd.prog W = .ok (.agg (nums .u8 a)) W ∧ (readAt (.pointer (some ⟨g, 32, none⟩))).run Tryd.prog W = .ok (.agg (nums .u8 b)) W := by
  constructor
  · refine read_flat W ⟨g, 0, none⟩ a ha (fun j hj => ?_)
    rw [add_flat, h.num (by rw [List.length_append]; omega), List.getD_eq_getElem?_getD, List.getElem?_append_left (by omega), ← List.getD_eq_getElem?_getD]
  · have := read_flat W ((⟨g, 0, none⟩ : Addr).add 32) b hb (fun j hj => by
      rw [add_of_add, add_flat, h.num (by rw [List.length_append]; omega), List.getD_eq_getElem?_getD, List.getElem?_append_right (by omega), ha, Nat.add_sub_cancel_left, ← List.getD_eq_getElem?_getD])
    rwa [add_flat] at this
theorem wrap_two' (x : Int) (h0 : 0 ≤ x) (h1 : x < 65536) : wrap64 x = x := by unfold wrap64; omega
/-- A cell of a row is written. -/
theorem row_put {W : World} {g : Nat} {t : TypeId} {C : Array Value} (h : Row W g t C) (o : Nat) (x : Value) : Row (W.setCell ⟨g, o, none⟩ x) g t (C.setIfInBounds o x) := by
  rw [setCell_eq_setRow W g o C t (0, 0) x h]
  exact h.whole _
section
variable {TR : World → Value → ByteArray → Prop} {w W W1 W0 : World} {v : Value} {seed : ByteArray} {N DD S SA SB SC SA' SB' SC' : Array Value} {g a b c : Nat} {A : Option Addr} {ps : List (List Int)}
/-- What is turned lies at or above the world where the elder things are. -/
theorem KcH.turn (h : KcH TR w v seed N DD g S A ps W0 a b c SA SB SC W) (hb : Below W0.heap.size W W1) (ra : Row W1 a 32 SA') (rb : Row W1 b 32 SB') (rc : Row W1 c 32 SC') : KcH TR w v seed N DD g S A ps W0 a b c SA' SB' SC' W1 :=
  ⟨h.base, h.b0.trans hb, ra, rb, rc, h.la, h.lb, h.lc, h.ab, h.ac, h.bc⟩
theorem KcH.putA (h : KcH TR w v seed N DD g S A ps W0 a b c SA SB SC W) (o : Nat) (x : Value) : KcH TR w v seed N DD g S A ps W0 a b c (SA.setIfInBounds o x) SB SC (W.setCell ⟨a, o, none⟩ x) :=
  h.turn ((Below.refl _ _).setCell (p := ⟨a, o, none⟩) h.la _) (row_put h.ra o x) (h.rb.far (fun e => h.ab e.symm) _) (h.rc.far (fun e => h.ac e.symm) _)
theorem KcH.putB (h : KcH TR w v seed N DD g S A ps W0 a b c SA SB SC W) (o : Nat) (x : Value) : KcH TR w v seed N DD g S A ps W0 a b c SA (SB.setIfInBounds o x) SC (W.setCell ⟨b, o, none⟩ x) :=
  h.turn ((Below.refl _ _).setCell (p := ⟨b, o, none⟩) h.lb _) (h.ra.far h.ab _) (row_put h.rb o x) (h.rc.far (fun e => h.bc e.symm) _)
theorem KcH.putC (h : KcH TR w v seed N DD g S A ps W0 a b c SA SB SC W) (o : Nat) (x : Value) : KcH TR w v seed N DD g S A ps W0 a b c SA SB (SC.setIfInBounds o x) (W.setCell ⟨c, o, none⟩ x) :=
  h.turn ((Below.refl _ _).setCell (p := ⟨c, o, none⟩) h.lc _) (h.ra.far h.ac _) (h.rb.far h.bc _) (row_put h.rc o x)
/-- A block beside the three is written on. -/
theorem KcH.off (h : KcH TR w v seed N DD g S A ps W0 a b c SA SB SC W) (q : Nat) (hq : W0.heap.size ≤ q) (ha : a ≠ q) (hb : b ≠ q) (hc : c ≠ q) (o : Nat) (x : Value) : KcH TR w v seed N DD g S A ps W0 a b c SA SB SC (W.setCell ⟨q, o, none⟩ x) :=
  h.turn ((Below.refl _ _).setCell (p := ⟨q, o, none⟩) hq _) (h.ra.far ha _) (h.rb.far hb _) (h.rc.far hc _)
end
theorem seal_int (i x : Int) (s : ByteArray) (A : Option Addr) (n c : Nat) : (sealV i s A n c).setIfInBounds 0 (.int .i64 x) = sealV x s A n c := rfl
theorem seal_text (i : Int) (s t : ByteArray) (A : Option Addr) (n c : Nat) : (sealV i s A n c).setIfInBounds 1 (.string t) = sealV i t A n c := rfl
theorem seal_path (i : Int) (s : ByteArray) (A B : Option Addr) (n c m d : Nat) : (sealV i s A n c).setIfInBounds 2 (.slice B m d) = sealV i s B m d := rfl
theorem tmod_nat (n m : Nat) : (n : Int).tmod (m : Int) = ((n % m : Nat) : Int) := by rw [Int.tmod_eq_emod_of_nonneg (by omega)]; exact (Int.natCast_emod n m).symm
theorem wrap_small (x : Nat) (h : x < 65536) : IntKind.i64.wrap (x : Int) = (x : Int) ∧ wrap64 (x : Int) = (x : Int) := ⟨by rw [IntKind.wrap_i64]; omega, by unfold wrap64; omega⟩
/-- The other index, as the statement comes to it. -/
theorem index_facts (I n : Nat) (hI : I < 8) : ∃ q J : Nat, ((IntKind.i64.wrap ((I : Int) + 1) = (I : Int) + 1 ∧ (n : Int).tmod 7 = (q : Int) ∧ wrap64 (q : Int) = (q : Int)) ∧ IntKind.i64.wrap ((I : Int) + 1 + (q : Int)) = (I : Int) + 1 + (q : Int) ∧ ((I : Int) + 1 + (q : Int)).tmod 8 = (J : Int) ∧ wrap64 (J : Int) = (J : Int)) ∧ J < 8 ∧ J ≠ I := by
  have e1 : (n : Int).tmod 7 = ((n % 7 : Nat) : Int) := tmod_nat n 7
  have hq : n % 7 < 7 := Nat.mod_lt _ (by decide)
  generalize n % 7 = q at e1 hq
  have e2 : ((I : Int) + 1 + (q : Int)).tmod 8 = (((I + 1 + q) % 8 : Nat) : Int) := by
    have := tmod_nat (I + 1 + q) 8
    rw [show ((I + 1 + q : Nat) : Int) = (I : Int) + 1 + (q : Int) by omega] at this
    exact this
  have hJ : (I + 1 + q) % 8 < 8 := Nat.mod_lt _ (by decide)
  have hn : (I + 1 + q) % 8 ≠ I := by omega
  generalize (I + 1 + q) % 8 = J at e2 hJ hn
  have w1 := (wrap_small (I + 1) (by omega)).1
  have w2 := (wrap_small (I + 1 + q) (by omega)).1
  rw [show ((I + 1 : Nat) : Int) = (I : Int) + 1 by omega] at w1
  rw [show ((I + 1 + q : Nat) : Int) = (I : Int) + 1 + (q : Int) by omega] at w2
  exact ⟨q, J, ⟨⟨w1, e1, (wrap_small q (by omega)).2⟩, w2, e2, (wrap_small J (by omega)).2⟩, hJ, hn⟩
theorem place_facts (n : Nat) : ∃ j : Nat, (n : Int).tmod 16384 = (j : Int) ∧ wrap64 (j : Int) = (j : Int) ∧ j < 16384 := by
  have e1 : (n : Int).tmod 16384 = ((n % 16384 : Nat) : Int) := tmod_nat n 16384
  have hj : n % 16384 < 16384 := Nat.mod_lt _ (by decide)
  generalize n % 16384 = j at e1 hj
  exact ⟨j, e1, (wrap_small j (by omega)).2, hj⟩
theorem third_facts (n : Nat) : ∃ k : Nat, (n : Int).tmod 3 = (k : Int) ∧ wrap64 (k : Int) = (k : Int) ∧ k < 3 := by
  have e1 : (n : Int).tmod 3 = ((n % 3 : Nat) : Int) := tmod_nat n 3
  have hj : n % 3 < 3 := Nat.mod_lt _ (by decide)
  generalize n % 3 = j at e1 hj
  exact ⟨j, e1, (wrap_small j (by omega)).2, hj⟩
end Go.Proofs.YtgnkdkehooagpaaDoor
namespace Go.Proofs.YtgnkdkehooagpaaDoor
open Go.RowKit Go.Great
set_option linter.unusedVariables false
set_option maxRecDepth 100000

theorem Got.drew {w : World} {B g cap : Nat} {l : List Int} {m : Nat} (h : Got w B g cap l m) : Got w.drew B g cap l m := h.same rfl
theorem Got.free {w : World} {B g cap : Nat} {l : List Int} {m : Nat} (h : Got w B g cap l m) (i : Nat) (hi : i < m) : w.frozen? ⟨g, i, none⟩ = false := by
  obtain ⟨h1, h2, h3, cur, fz, hr, hf, hc, ht⟩ := h
  obtain ⟨lo, hi'⟩ := fz
  rcases hf with hf | hf
  · simp only [Prod.mk.injEq] at hf; obtain ⟨rfl, rfl⟩ := hf; exact frozen_of_row w g i cur _ hr
  · have : ¬ lo ≤ i := by simp at hf; omega
    simp [World.frozen?, hr, this]
theorem Got.set {w : World} {B g cap : Nat} {l : List Int} {m : Nat} (h : Got w B g cap l m) (i : Nat) (x : Int) : Got (w.setCell ⟨g, i, none⟩ (.int .u8 x)) B g cap (l.set i x) m := by
  obtain ⟨h1, h2, h3, cur, fz, hr, hf, hc, ht⟩ := h
  refine ⟨by rw [List.length_set]; exact h1, h2, h3, cur.setIfInBounds i (.int .u8 x), fz, ?_, ?_, by simp [hc], ?_⟩
  · rw [setCell_eq_setRow w g i cur _ fz _ hr]; exact setRow_heap w g cur _ _ _ hr
  · simpa using hf
  · rw [Array.toList_setIfInBounds, List.take_set, ht, ← List.map_set]
/-- A path of the call's own. -/
structure PcH (g : Nat) (qs : List (List Int)) (W : World) : Prop where
  lst : HW W (some ⟨g, 0, none⟩) qs
  room : ∀ k, k < 3 → W.there g (k * 32) 32
  lt : g < W.heap.size
section
variable {W W1 : World} {g : Nat} {qs : List (List Int)}
theorem PcH.next (h : PcH g qs W) (hb : Below W.heap.size W W1) : PcH g qs W1 :=
  ⟨h.lst.next hb, fun k hk j hj => have e := hb.block g h.lt
    ⟨by rw [World.cell?_of_block e]; exact (h.room k hk j hj).1, by rw [World.frozen?_of_block e]; exact (h.room k hk j hj).2⟩, Nat.lt_of_lt_of_le h.lt hb.size⟩
theorem PcH.far (h : PcH g qs W) {c : Nat} (hc : g ≠ c) (o : Nat) (x : Value) : PcH g qs (W.setCell ⟨c, o, none⟩ x) := by
  have e : ∀ k, (W.setCell ⟨c, o, none⟩ x).heap[(⟨g, k, none⟩ : Addr).block]? = W.heap[(⟨g, k, none⟩ : Addr).block]? := fun k => heap_setCell_other W ⟨c, o, none⟩ g x hc
  refine ⟨?_, fun k hk j hj => ⟨by rw [World.cell?_of_block (e _)]; exact (h.room k hk j hj).1, by rw [World.frozen?_of_block (e _)]; exact (h.room k hk j hj).2⟩, by simpa using h.lt⟩
  intro i hi
  obtain ⟨ad, ea, hlt, hcl⟩ := h.lst i hi
  cases ea
  refine ⟨_, rfl, by simpa using hlt, fun j hj => ?_⟩
  have := hcl j hj
  rw [add_flat] at this ⊢
  rw [World.cell?_of_block (e _)]; exact this
theorem PcH.put (h : PcH g qs W) (k : Nat) (hk : k < 3) (hq : qs.length = 3) (x : List Int) (hx : x.length = 32) : PcH g (qs.set k x) (W.setCells g (k * 32) (nums .u8 x).toList) :=
  ⟨by unfold HW; rw [size_setCells]; exact HL.set h.lst k (by omega) x hx (h.room k hk), fun j hj => World.there_setCells (h.room j hj) _ _ _, by rw [size_setCells]; exact h.lt⟩
end
theorem copy_form {w w1 : World} {v : Value} {ps : List (List Int)} (hh : hashes ps) (h3 : ps.length = 3) (hown : w1.ownsRow w.heap.size 23 32 v 3 (cellsL ps)) :
    ∃ g2 c2, v = .slice (some ⟨g2, 0, none⟩) 3 c2 ∧ (3 ≤ c2 ∧ c2 ≤ maxLen) ∧ w.heap.size ≤ g2 ∧ PcH g2 ps w1 := by
  obtain ⟨A, c2, e⟩ := own_form hown
  have hs := own_some (by have := hown; rw [e] at this; exact this)
  rcases hs.2.2 with ⟨_, h0⟩ | ⟨g2, rfl, h1, h2⟩
  · omega
  · have ho := hown
    rw [e] at ho
    exact ⟨g2, c2, e, ⟨hs.1, by have := hs.2.1; unfold maxLen; omega⟩, h1, ⟨by have ho2 := ho; rw [← h3] at ho2; exact own_HL ho2 hh, fun k hk => own_room ho k hk, h2⟩⟩
/-- All that the statement holds from there on. -/
structure KdH (TR : World → Value → ByteArray → Prop) (w : World) (v : Value) (seed : ByteArray) (N DD : Array Value) (g : Nat) (S : Array Value) (A : Option Addr) (ps : List (List Int)) (W0 : World) (a b c : Nat) (SA SB SC : Array Value) (g2 : Nat) (qs : List (List Int)) (W : World) : Prop where
  k : KcH TR w v seed N DD g S A ps W0 a b c SA SB SC W
  p : PcH g2 qs W
section
variable {TR : World → Value → ByteArray → Prop} {w W W1 W0 : World} {v : Value} {seed : ByteArray} {N DD S SA SB SC : Array Value} {g a b c g2 : Nat} {A : Option Addr} {ps qs : List (List Int)}
theorem KdH.next (h : KdH TR w v seed N DD g S A ps W0 a b c SA SB SC g2 qs W) (hb : Below W.heap.size W W1) : KdH TR w v seed N DD g S A ps W0 a b c SA SB SC g2 qs W1 := ⟨h.k.next hb, h.p.next hb⟩
theorem KcH.offs (h : KcH TR w v seed N DD g S A ps W0 a b c SA SB SC W) (q : Nat) (hq : W0.heap.size ≤ q) (ha : a < q) (hb : b < q) (hc : c < q) (o : Nat) (vs : List Value) : KcH TR w v seed N DD g S A ps W0 a b c SA SB SC (W.setCells q o vs) :=
  have hB : Below q W (W.setCells q o vs) := below_setCells_w (Nat.le_refl q) _ _ _
  h.turn (hB.mono hq) (h.ra.below hB ha) (h.rb.below hB hb) (h.rc.below hB hc)
end
/-- A check within the tree answers one of two. -/
theorem verF_two (root d : List Int) (i : Nat) (s : ByteArray) (p : List (List Int)) (h : i < 8) (h0 : verF root d (i : Int) s p ≠ 0) : verF root d (i : Int) s p = 81 := by
  rw [verF_in h] at h0 ⊢
  split at h0
  · exact absurd rfl h0
  · rename_i hn; rw [if_neg hn]
end Go.Proofs.YtgnkdkehooagpaaDoor
namespace Go.Proofs.YtgnkdkehooagpaaDoor
open Go.RowKit Go.Great
set_option linter.unusedVariables false
set_option maxRecDepth 100000

/-- A forgery's cells. -/
def forgeV (i t y : Int) (A : Option Addr) (n c : Nat) (u : Int) : Array Value := #[.int .i64 i, .int .u16 t, .int .u8 y, .slice A n c, .int .u16 u]
theorem forge_cells {w : World} {g : Nat} {t : TypeId} {i m y u : Int} {A : Option Addr} {n c : Nat} (h : Row w g t (forgeV i m y A n c u)) : w.cell? ⟨g, 0, none⟩ = some (.int .i64 i) ∧ w.cell? ⟨g, 1, none⟩ = some (.int .u16 m) ∧ w.cell? ⟨g, 2, none⟩ = some (.int .u8 y) ∧ w.cell? ⟨g, 3, none⟩ = some (.slice A n c) ∧ w.cell? ⟨g, 4, none⟩ = some (.int .u16 u) := ⟨h.cell 0, h.cell 1, h.cell 2, h.cell 3, h.cell 4⟩
/-- What the statement holds ahead of the tree. -/
structure KuH (w : World) (FV R0 D : Array Value) (W : World) : Prop where
  fg : Row W w.heap.size 41 FV
  rt0 : Row W (w.heap.size + 1) 23 R0
  dig : Row W (w.heap.size + 2) 23 D
  tab : Tab W
  below : Below w.heap.size w W
theorem KuH.next {w W W1 : World} {FV R0 D : Array Value} (h : KuH w FV R0 D W) (hb : Below W.heap.size W W1) : KuH w FV R0 D W1 := ⟨h.fg.next hb, h.rt0.next hb, h.dig.next hb, h.tab.next hb, below_new h.below hb⟩
theorem KuH.start {w : World} (hT : Tab w) (FV R0 D : Array Value) : KuH w FV R0 D (((w.alloc (.cells FV 41)).alloc (.cells R0 23)).alloc (.cells D 23)) :=
  have hb : Below w.heap.size w (((w.alloc (.cells FV 41)).alloc (.cells R0 23)).alloc (.cells D 23)) := (((Below.refl _ _).alloc (Nat.le_refl _) _).alloc (by simp) _).alloc (by simp; omega) _
  ⟨((Row.made _ _ _).alloc _).alloc _, (Row.made2 _ _ _ _).alloc _, by have := Row.made ((w.alloc (.cells FV 41)).alloc (.cells R0 23)) 23 D; simpa using this, hT.next hb, hb⟩
/-- And behind it: the tree, the seal, its path. -/
structure KvB (TR : World → Value → ByteArray → Prop) (w : World) (v : Value) (seed : ByteArray) (FV R0 D : Array Value) (g8 : Nat) (S : Array Value) (A : Option Addr) (ps : List (List Int)) (W : World) : Prop where
  arg : KuH w FV R0 D W
  tree : TR W v seed
  sl : Row W g8 32 S
  lst : HW W A ps
/-- In a round: a seal and a root of the call's own. -/
structure KvX (TR : World → Value → ByteArray → Prop) (w : World) (v : Value) (seed : ByteArray) (FV R0 D : Array Value) (g8 : Nat) (S : Array Value) (A : Option Addr) (ps : List (List Int)) (W0 : World) (gu gr : Nat) (RR : Array Value) (W : World) : Prop where
  base : KvB TR w v seed FV R0 D g8 S A ps W0
  b0 : Below W0.heap.size W0 W
  u : ∃ i s B n c, Row W gu 32 (sealV i s B n c)
  r : Row W gr 23 RR
  lu : W0.heap.size ≤ gu
  lr : W0.heap.size ≤ gr
  ne : gu ≠ gr
/-- And a path that the seal may have. -/
structure KvU (TR : World → Value → ByteArray → Prop) (w : World) (v : Value) (seed : ByteArray) (FV R0 D : Array Value) (g8 : Nat) (S : Array Value) (A : Option Addr) (ps : List (List Int)) (W0 : World) (gu gr : Nat) (RR U : Array Value) (B : Option Addr) (qs : List (List Int)) (W : World) : Prop where
  x : KvX TR w v seed FV R0 D g8 S A ps W0 gu gr RR W
  u : Row W gu 32 U
  q : HW W B qs
section
variable {TR : World → Value → ByteArray → Prop} {w W W1 W0 : World} {v : Value} {seed : ByteArray} {FV R0 D S RR U : Array Value} {g8 gu gr : Nat} {A B : Option Addr} {ps qs : List (List Int)}
theorem KvB.next (h : KvB TR w v seed FV R0 D g8 S A ps W) (TS : TreeSays TR) (hb : Below W.heap.size W W1) : KvB TR w v seed FV R0 D g8 S A ps W1 := ⟨h.arg.next hb, TS.next h.tree hb, h.sl.next hb, h.lst.next hb⟩
theorem KvX.next (h : KvX TR w v seed FV R0 D g8 S A ps W0 gu gr RR W) (hb : Below W.heap.size W W1) : KvX TR w v seed FV R0 D g8 S A ps W0 gu gr RR W1 := by
  obtain ⟨i, s, B, n, c, hr⟩ := h.u
  exact ⟨h.base, below_new h.b0 hb, ⟨i, s, B, n, c, hr.next hb⟩, h.r.next hb, h.lu, h.lr, h.ne⟩
theorem KvX.old (h : KvX TR w v seed FV R0 D g8 S A ps W0 gu gr RR W) (TS : TreeSays TR) : KvB TR w v seed FV R0 D g8 S A ps W := h.base.next TS h.b0
theorem KvU.next (h : KvU TR w v seed FV R0 D g8 S A ps W0 gu gr RR U B qs W) (hb : Below W.heap.size W W1) : KvU TR w v seed FV R0 D g8 S A ps W0 gu gr RR U B qs W1 := ⟨h.x.next hb, h.u.next hb, h.q.next hb⟩
/-- A part of the seal is written. -/
theorem KvX.put (h : KvX TR w v seed FV R0 D g8 S A ps W0 gu gr RR W) {i i' : Int} {s s' : ByteArray} {B B' : Option Addr} {n n' c c' : Nat} (hr : Row W gu 32 (sealV i s B n c)) (o : Nat) (x : Value) (e : (sealV i s B n c).setIfInBounds o x = sealV i' s' B' n' c') :
    KvX TR w v seed FV R0 D g8 S A ps W0 gu gr RR (W.setCell ⟨gu, o, none⟩ x) ∧ Row (W.setCell ⟨gu, o, none⟩ x) gu 32 (sealV i' s' B' n' c') := by
  have hn : Row (W.setCell ⟨gu, o, none⟩ x) gu 32 (sealV i' s' B' n' c') := by rw [← e]; exact hr.put o x
  exact ⟨⟨h.base, h.b0.trans ((Below.refl _ _).setCell (p := ⟨gu, o, none⟩) h.lu _), ⟨_, _, _, _, _, hn⟩, h.r.far (fun e => h.ne e.symm) _, h.lu, h.lr, h.ne⟩, hn⟩
/-- The root is written. -/
theorem KvX.putR (h : KvX TR w v seed FV R0 D g8 S A ps W0 gu gr RR W) (C : Array Value) : KvX TR w v seed FV R0 D g8 S A ps W0 gu gr C (W.setRow gr C) := by
  obtain ⟨i, s, B, n, c, hr⟩ := h.u
  exact ⟨h.base, h.b0.trans (below_setRow (Below.refl _ _) h.lr), ⟨i, s, B, n, c, hr.wfar h.ne _⟩, h.r.whole _, h.lu, h.lr, h.ne⟩
/-- A block beside both is written on. -/
theorem KvX.off (h : KvX TR w v seed FV R0 D g8 S A ps W0 gu gr RR W) (q : Nat) (hq : W0.heap.size ≤ q) (hu : gu ≠ q) (hr : gr ≠ q) (o : Nat) (x : Value) : KvX TR w v seed FV R0 D g8 S A ps W0 gu gr RR (W.setCell ⟨q, o, none⟩ x) := by
  obtain ⟨i, s, B, n, c, hz⟩ := h.u
  exact ⟨h.base, h.b0.trans ((Below.refl _ _).setCell (p := ⟨q, o, none⟩) hq _), ⟨i, s, B, n, c, hz.far hu _⟩, h.r.far hr _, h.lu, h.lr, h.ne⟩
end
/-- A list of hashes does not lie in a seal's block. -/
theorem HW.far_cell {w : World} {A : Option Addr} {ls : List (List Int)} (h : HW w A ls) {g : Nat} {t : TypeId} {i : Int} {s : ByteArray} {B : Option Addr} {n c : Nat} (hr : Row w g t (sealV i s B n c)) (o : Nat) (x : Value) : HW (w.setCell ⟨g, o, none⟩ x) A ls := by
  rw [setCell_eq_setRow w g o _ t (0, 0) x hr]
  exact h.far_seal hr _
theorem seal_int' (i x : Int) (s : ByteArray) (A : Option Addr) (n c : Nat) : (sealV i s A n c).setIfInBounds 0 (.int .i64 x) = sealV x s A n c := rfl
theorem seal_text' (i : Int) (s t : ByteArray) (A : Option Addr) (n c : Nat) : (sealV i s A n c).setIfInBounds 1 (.string t) = sealV i t A n c := rfl
theorem seal_path' (i : Int) (s : ByteArray) (A B : Option Addr) (n c m d : Nat) : (sealV i s A n c).setIfInBounds 2 (.slice B m d) = sealV i s B m d := rfl
theorem tmod_nat' (n m : Nat) : (n : Int).tmod (m : Int) = ((n % m : Nat) : Int) := by rw [Int.tmod_eq_emod_of_nonneg (by omega)]; exact (Int.natCast_emod n m).symm
/-- A place in a text of 16384 bytes, and how much of it is left. -/
theorem place_at (n : Nat) : ∃ j : Nat, (n : Int).tmod 16384 = (j : Int) ∧ IntKind.i64.wrap (j : Int) = (j : Int) ∧ wrap64 (j : Int) = (j : Int) ∧ j < 16384 := by
  have e1 : (n : Int).tmod 16384 = ((n % 16384 : Nat) : Int) := tmod_nat' n 16384
  have hj : n % 16384 < 16384 := Nat.mod_lt _ (by decide)
  generalize n % 16384 = j at e1 hj
  exact ⟨j, e1, by rw [IntKind.wrap_i64]; omega, by unfold wrap64; omega, hj⟩
theorem place_cut (n : Nat) : ∃ j : Nat, (n : Int).tmod 16385 = (j : Int) ∧ IntKind.i64.wrap (j : Int) = (j : Int) ∧ wrap64 (j : Int) = (j : Int) ∧ j ≤ 16384 := by
  have e1 : (n : Int).tmod 16385 = ((n % 16385 : Nat) : Int) := tmod_nat' n 16385
  have hj : n % 16385 < 16385 := Nat.mod_lt _ (by decide)
  generalize n % 16385 = j at e1 hj
  exact ⟨j, e1, by rw [IntKind.wrap_i64]; omega, by unfold wrap64; omega, by omega⟩
end Go.Proofs.YtgnkdkehooagpaaDoor
