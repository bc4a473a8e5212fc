/-
  Several texts in one (a claim has room for 60 files): KeyRoot, ByteTwo, RefSign, TreeRefHash.
-/
import Derived.Test.YtgnkdkehooagpaaDoorPk08
import Derived.Test.YtgnkdkehooagpaaDoorPk09
import Derived.Maps.AppendAt
import Derived.Test.YtgnkdkehooagpaaDoorPk05
import Derived.Test.YtgnkdkehooagpaaDoorPk04
import Derived.Test.YtgnkdkehooagpaaDoorPk13
import Derived.Test.YtgnkdkehooagpaaDoorPk14
namespace Go.Proofs.YtgnkdkehooagpaaDoor
open Go.RowKit Go.Great
set_option linter.unusedVariables false
set_option maxRecDepth 100000

def RtH (w wr : World) : Prop := Row wr w.heap.size 23 (nums .u8 (List.replicate 32 0)) ∧ Below w.heap.size w wr
theorem RtH.start (w : World) : RtH w (w.alloc (.cells (nums .u8 (List.replicate 32 0)) 23)) := ⟨Row.made _ _ _, (Below.refl _ _).alloc (Nat.le_refl _) _⟩
attribute [local go_sem ↓ high] read_at write_at
set_option maxHeartbeats 2000000 in
theorem keyroot_some (g : Nat) (seed : ByteArray) (ms : List (List Int)) (rt : List Int) (hr : rt.length = 32) (w : World) (h : TreeM w g seed ms rt) :
    Calls Tryd.prog 10 #[.pointer (some ⟨g, 0, none⟩)] w fun e w' => e = .returned (.agg (nums .u8 rt)) ∧ Below w.heap.size w w' := by
  obtain ⟨C, hC⟩ : ∃ C, Hid (C = nums .u8 rt) := ⟨_, Lib.hid rfl⟩
  have zC : Hid (C.size = 32) := Lib.hid (by rw [hC.out, nums_size]; exact hr)
  have oC : Hid (C.all (·.oneCell') = true) := Lib.hid (by rw [hC.out]; exact nums_one _ _)
  have zZ : Hid ((nums .u8 (List.replicate 32 0)).size = 32) := Lib.hid (by rw [nums_size]; simp)
  have H0 := Lib.hid (RtH.start w)
  have HM := Lib.hid h
  rw [← hC.out]
  clear h
  go_enter Tryd.func10, Tryd.ntmps10
  go_upto_region 1 with fail
  refine world_gen (fun X => RtH w X) H0.out (fun X HX => ?_)
  have HX := Lib.hid HX
  have HT := Lib.hid (HM.out.next HX.out.2)
  have l1 : (readAt (.pointer (some ⟨g, 258, none⟩))).run Tryd.prog X = .ok (.agg C) X := by rw [hC.out]; exact HT.out.readRoot hr
  have s1 := HX.out.1.write zZ.out zC.out oC.out
  go_wp2_with (go_at_call 22; (with_reducible refine (isNone_at g true _ HT.out.made).mono ?_); rintro e w1 ⟨rfl, rfl⟩)
  refine bodyPost_ret (results_cell_row rfl _ _ w.heap.size 23 _ (0, 0) _ rfl (HX.out.1.whole _) Tryd.underlying23 rfl (sizeH _ zC.out)) rfl ⟨rfl, below_setRow HX.out.2 (Nat.le_refl _)⟩
set_option maxHeartbeats 2000000 in
theorem keyroot_none (v : Value) (w : World) (h : ∀ W, Below w.heap.size w W → Calls Tryd.prog 22 #[v] W fun e w' => e = .returned (.bool true) ∧ W = w') :
    Calls Tryd.prog 10 #[v] w fun e w' => e = .returned (.agg (nums .u8 zeroL)) ∧ Below w.heap.size w w' := by
  have zZ : Hid ((nums .u8 (List.replicate 32 0)).size = 32) := Lib.hid (by rw [nums_size]; simp)
  have oZ : Hid ((nums .u8 (List.replicate 32 0)).all (·.oneCell') = true) := Lib.hid (nums_one _ _)
  have H0 := Lib.hid (RtH.start w)
  have HN := Lib.hid h
  clear h
  show Calls _ _ _ _ fun e w' => e = .returned (.agg (nums .u8 (List.replicate 32 0))) ∧ Below w.heap.size w w'
  go_enter Tryd.func10, Tryd.ntmps10
  go_upto_region 1 with fail
  refine world_gen (fun X => RtH w X) H0.out (fun X HX => ?_)
  have HX := Lib.hid HX
  have hq := HX.out.2
  have hZ := sizeH _ zZ.out
  go_wp2_with (first
    | (go_at_call 22; (with_reducible refine (HN.out _ hq).mono ?_); rintro e w1 ⟨rfl, rfl⟩)
    | (refine wpList_store_row rfl 23 _ _ rfl w.heap.size (nums .u8 (List.replicate 32 0)) rfl rfl 23 _ HX.out.1 hZ (by rw [zZ.out]) oZ.out ?_))
  refine bodyPost_ret (results_cell_row rfl _ _ w.heap.size 23 _ (0, 0) _ rfl (HX.out.1.whole _) Tryd.underlying23 rfl hZ) rfl ⟨rfl, below_setRow HX.out.2 (Nat.le_refl _)⟩
end Go.Proofs.YtgnkdkehooagpaaDoor
namespace Go.Proofs.YtgnkdkehooagpaaDoor
open Go.RowKit Go.Great
set_option linter.unusedVariables false
set_option maxRecDepth 100000

/-- Bytes are appended to one's own; they stay where they are, or lie in a new block. -/
theorem wp_appendB_at {o : Oper} {a : Act} {w : World} {K : Act → World → Prop} {Q : Exit → Act → World → Prop} (s x : Operand) (ho : o.op = .call { callee := .builtin .append, args := #[s, x], argTypes := #[42, 42] })
    (B : Nat) (v : Value) (n : Nat) (bs us : List Int) (hsv : a.eval s = v) (hown : w.ownsRow B 5 1 v n (cellsB bs)) (ad : Addr) (m c : Nat) (hx : a.eval x = .slice (some ad) m c) (hm : us.length = m) (hU : BytesAt w ad us) (hsm : n + m ≤ 100000) (hB : B ≤ w.heap.size)
    (h : ∀ v' w', w'.ownsRow B 5 1 v' (n + m) (cellsB (bs ++ us)) → w.grownBy w' v.ownBlock → (v'.ownBlock = v.ownBlock ∨ v'.ownBlock = some w.heap.size) → K (a.put o.dst v') w') : o.wp Tryd.prog a w K Q := by
  obtain ⟨i0, hi, hz0, hz1, hz2⟩ := info_parts info_byte
  subst hm
  have hnews : ∀ j u, (cellsB us)[j]? = some u → w.cell? (ad.add j) = some u := fun j u hj => by
    have hj2 : j < us.length := by
      rcases Nat.lt_or_ge j us.length with h' | h'
      · exact h'
      · rw [List.getElem?_eq_none (by rw [cellsB_length]; exact h')] at hj; cases hj
    rw [cellsB_get us j hj2] at hj
    cases hj
    exact hU j hj2
  obtain ⟨v', w', hr, h2, h3, h4, h5⟩ := run_append_own_at (P := Tryd.prog) w B 42 o.type 5 i0 _ 1 1 Tryd.underlying42 hi hz0 hz1 hz2 rfl (by decide) v n (cellsB bs) hown ad us.length c (cellsB us) (by rw [cellsB_length, Nat.mul_one]) hnews (cellsB_one us) (by unfold maxLen; omega) (by omega) hB
  unfold Oper.wp execOp
  simp only [ho, resolve, invoke, builtin, Sem.run_bind, Sem.run_pure, Result.andThen_ok, List.map_toArray, List.map_cons, List.map_nil, hsv, hx, hr]
  exact h v' w' (by rw [cellsB_app]; exact h2) h3 h5
/-- Two slices of the call's own. -/
structure TwoB (B : Nat) (w : World) (v1 v2 : Value) (n1 n2 : Nat) (b1 b2 : List Int) : Prop where
  fst : w.ownsRow B 5 1 v1 n1 (cellsB b1)
  snd : w.ownsRow B 5 1 v2 n2 (cellsB b2)
  ne : v1.ownBlock = none ∨ v1.ownBlock ≠ v2.ownBlock
theorem TwoB.start (B : Nat) (w : World) : TwoB B w (.slice none 0 0) (.slice none 0 0) 0 0 [] [] := ⟨World.ownsRow_nil _ _ _ _, World.ownsRow_nil _ _ _ _, .inl rfl⟩
theorem TwoB.ne' {B : Nat} {w : World} {v1 v2 : Value} {n1 n2 : Nat} {b1 b2 : List Int} (h : TwoB B w v1 v2 n1 n2 b1 b2) : v2.ownBlock = none ∨ v2.ownBlock ≠ v1.ownBlock := by
  rcases h.ne with e | e
  · rw [e]; exact Classical.em _
  · exact .inr fun e' => e e'.symm
theorem TwoB.next {B : Nat} {w w' : World} {v1 v2 : Value} {n1 n2 : Nat} {b1 b2 : List Int} (h : TwoB B w v1 v2 n1 n2 b1 b2) (hb : Below w.heap.size w w') : TwoB B w' v1 v2 n1 n2 b1 b2 :=
  ⟨own_below h.fst hb, own_below h.snd hb, h.ne⟩
theorem TwoB.putA {B : Nat} {w w' : World} {v1 v2 v1' : Value} {n1 n2 m : Nat} {b1 b2 us : List Int} (h : TwoB B w v1 v2 n1 n2 b1 b2) (h1 : w'.ownsRow B 5 1 v1' m (cellsB us)) (hg : w.grownBy w' v1.ownBlock) (ha : v1'.ownBlock = v1.ownBlock ∨ v1'.ownBlock = some w.heap.size) : TwoB B w' v1' v2 m n2 us b2 := by
  refine ⟨h1, h.snd.kept hg h.ne', ?_⟩
  rcases ha with e | e
  · rw [e]; exact h.ne
  · refine .inr fun e' => ?_
    have := (h.snd.lt _ (e'.symm.trans e)).2
    omega
theorem TwoB.putB {B : Nat} {w w' : World} {v1 v2 v2' : Value} {n1 n2 m : Nat} {b1 b2 us : List Int} (h : TwoB B w v1 v2 n1 n2 b1 b2) (h1 : w'.ownsRow B 5 1 v2' m (cellsB us)) (hg : w.grownBy w' v2.ownBlock) (ha : v2'.ownBlock = v2.ownBlock ∨ v2'.ownBlock = some w.heap.size) : TwoB B w' v1 v2' n1 m b1 us := by
  refine ⟨h.fst.kept hg h.ne, h1, ?_⟩
  rcases ha with e | e
  · rw [e]; exact h.ne
  · refine .inr fun e' => ?_
    have := (h.fst.lt _ (e'.trans e)).2
    omega
/-- Below a mark nothing turns when one's own bytes grow. -/
theorem own_grown {B n : Nat} {w w' : World} {v : Value} {bs : List Int} (h : w.ownsRow B 5 1 v n (cellsB bs)) (hg : w.grownBy w' v.ownBlock) (hB : B ≤ w.heap.size) : Below B w w' := (Below.refl B w).grown hg hB (fun k hk => (h.lt k hk).1)
end Go.Proofs.YtgnkdkehooagpaaDoor
namespace Go.Proofs.YtgnkdkehooagpaaDoor
open Go.RowKit Go.Great
set_option linter.unusedVariables false
set_option maxRecDepth 100000

/-- What Sign holds: the digest, a key's public hashes, and what it has of the signature's two parts. -/
structure SignH (w : World) (B : Nat) (wr : World) (D : Array Value) (ad : Addr) (ls : List (List Int)) (v1 v2 : Value) (n1 n2 : Nat) (b1 b2 : List Int) : Prop where
  dig : Row wr w.heap.size 23 D
  lst : HL wr B (some ad) ls
  two : TwoB B wr v1 v2 n1 n2 b1 b2
  below : Below w.heap.size w wr
  lo : w.heap.size < B
  hi : B ≤ wr.heap.size
section
variable {w wr w1 : World} {B : Nat} {D : Array Value} {ad : Addr} {ls : List (List Int)} {v1 v2 v' : Value} {n1 n2 m : Nat} {b1 b2 us : List Int}
theorem SignH.next (h : SignH w B wr D ad ls v1 v2 n1 n2 b1 b2) (hb : Below wr.heap.size wr w1) : SignH w B w1 D ad ls v1 v2 n1 n2 b1 b2 :=
  ⟨h.dig.next hb, h.lst.next hb h.hi, h.two.next hb, below_new h.below hb, h.lo, Nat.le_trans h.hi hb.size⟩
theorem SignH.putA (h : SignH w B wr D ad ls v1 v2 n1 n2 b1 b2) (h1 : w1.ownsRow B 5 1 v' m (cellsB us)) (hg : wr.grownBy w1 v1.ownBlock) (ha : v'.ownBlock = v1.ownBlock ∨ v'.ownBlock = some wr.heap.size) : SignH w B w1 D ad ls v' v2 m n2 us b2 :=
  have hb := own_grown h.two.fst hg h.hi
  ⟨h.dig.below hb h.lo, h.lst.next hb (Nat.le_refl _), h.two.putA h1 hg ha, h.below.trans (hb.mono (Nat.le_of_lt h.lo)), h.lo, Nat.le_trans h.hi hb.size⟩
theorem SignH.putB (h : SignH w B wr D ad ls v1 v2 n1 n2 b1 b2) (h1 : w1.ownsRow B 5 1 v' m (cellsB us)) (hg : wr.grownBy w1 v2.ownBlock) (ha : v'.ownBlock = v2.ownBlock ∨ v'.ownBlock = some wr.heap.size) : SignH w B w1 D ad ls v1 v' n1 m b1 us :=
  have hb := own_grown h.two.snd hg h.hi
  ⟨h.dig.below hb h.lo, h.lst.next hb (Nat.le_refl _), h.two.putB h1 hg ha, h.below.trans (hb.mono (Nat.le_of_lt h.lo)), h.lo, Nat.le_trans h.hi hb.size⟩
end
attribute [local go_sem ↓ high] read_at write_at
set_option maxHeartbeats 8000000 in
theorem refSign_some (seed : ByteArray) (hs : seed.size ≤ 100000) (index : Nat) (hi : index ≤ 2147483647) (d : List Int) (hd : d.length = 32 ∧ bytes d) (w : World) :
    Calls Tryd.prog 28 #[.string seed, .int .i64 (index : Int), .agg (nums .u8 d)] w fun e w' => e = .returned (.string (strOfNums (sigL seed index d))) ∧ Below w.heap.size w w' := by
  obtain ⟨D, hD⟩ : ∃ D, Hid (D = nums .u8 d) := ⟨_, Lib.hid rfl⟩
  have zD : Hid (D.size = 32) := Lib.hid (by rw [hD.out, nums_size]; exact hd.1)
  obtain ⟨S, hS⟩ : ∃ S, Hid (S = strOfNums d) := ⟨_, Lib.hid rfl⟩
  obtain ⟨E, hE⟩ : ∃ E, Hid (E = strOfNums (sigL seed index d)) := ⟨_, Lib.hid rfl⟩
  have PU : Hid (∀ W, Calls Tryd.prog 21 #[.string seed, .int .i64 (index : Int)] W fun e w' => ∃ A c, e = .returned (.slice A 512 c) ∧ HL w' w'.heap.size A (pubN seed index 512) ∧ Below W.heap.size W w') := Lib.hid fun W => by
    refine (refPublic_any seed hs (index : Int) (by omega) W).mono ?_
    rintro e w' ⟨A, c, h1, _, _, h4, h5⟩
    rw [pubF_ok hi] at h1 h4
    rw [pubN_length] at h1
    exact ⟨A, c, h1, h4, h5⟩
  have SE : Hid (∀ (W : World) (i b : Nat), i ≤ 255 → b ≤ 1 → Calls Tryd.prog 43 #[.string seed, .int .i64 (index : Int), .int .i64 (i : Int), .int .i64 (b : Int)] W fun e w' => e = .returned (.agg (nums .u8 (secL seed index i b))) ∧ Below W.heap.size W w') := Lib.hid fun W i b h1 h2 => by
    have := refSecret_any seed hs (index : Int) (i : Int) (b : Int) (by omega) W
    rwa [secF_ok hi h1 h2] at this
  have BI : Hid (∀ (W : World) (i : Nat), i ≤ 255 → Calls Tryd.prog 49 #[.string S, .int .i64 (i : Int)] W fun e w' => e = .returned (.int .i64 (bitN d i : Int)) ∧ W = w') := Lib.hid fun W i h => by
    have := refBit_any S (i : Int) W (by rw [hS.out, strOfNums_size, hd.1]; decide) (by omega)
    rwa [hS.out, bitN_is, ← hS.out] at this
  have CV : Hid (∀ W, Row W w.heap.size 23 D → (convert 42 9 (.slice (some ⟨w.heap.size, 0, none⟩) 32 32)).run Tryd.prog W = .ok (.string S) W) := Lib.hid fun W h => by
    rw [hS.out]; exact conv_row (by rw [← hD.out]; exact h) hd.1
  have H0 : Hid (Row (w.alloc (.cells D 23)) w.heap.size 23 D ∧ Below w.heap.size w (w.alloc (.cells D 23))) := Lib.hid ⟨Row.made _ _ _, (Below.refl _ _).alloc (Nat.le_refl _) _⟩
  have hwi : IntKind.i64.wrap (index : Int) = (index : Int) := by rw [IntKind.wrap_i64]; omega
  rw [← hD.out, ← hE.out]
  clear hs hi hd hD hS
  go_enter Tryd.func28, Tryd.ntmps28
  go_upto_region 1 with fail
  refine world_gen (fun X => Row X w.heap.size 23 D ∧ Below w.heap.size w X) H0.out (fun X HX => ?_)
  have HX := Lib.hid HX
  clear H0
  go_upto_region 2 with (go_at_call 21; (with_reducible refine (PU.out _).mono ?_); rintro e wp ⟨A, c, rfl, hA, hb⟩; obtain ⟨ad, rfl⟩ := hA.some 0 (by rw [pubN_length]; decide); have hr := HX.out.1.next hb; obtain ⟨B, hB⟩ : ∃ B, B = wp.heap.size := ⟨_, rfl⟩; have HK : Hid (SignH w B wp D ad (pubN seed index 512) (.slice none 0 0) (.slice none 0 0) 0 0 [] []) := Lib.hid (by subst hB; exact ⟨hr, hA, TwoB.start _ _, below_new HX.out.2 hb, hr.lt, Nat.le_refl _⟩); clear hA hb hr hB HX)
  go_wp2
  go_loopw [8, 9, 10] (fun s8 s9 s10 wr => ∃ (k : Nat) (v1 v2 : Value), s10 = .int .i64 ((k : Nat) : Int) ∧ v1 = s8 ∧ v2 = s9 ∧ k ≤ 256 ∧ Hid (SignH w B wr D ad (pubN seed index 512) v1 v2 (32 * k) (32 * k) (sigA seed index d k).flatten (sigB seed index d k).flatten)) (fun _ _ s10 _ => (256 - intOf s10).toNat)
  case atStart => exact ⟨0, _, _, rfl, rfl, rfl, by omega, HK⟩
  case round =>
    clear HK
    obtain ⟨k, v1, v2, rfl, rfl, rfl, hk, HQ⟩ := hrel
    by_cases hlt : k < 256
    · have hwk : IntKind.i64.wrap (k : Int) = (k : Int) := by rw [IntKind.wrap_i64]; omega
      have hkb : Hid (k ≤ 255) := Lib.hid (by omega)
      obtain ⟨b, hb⟩ : ∃ b, Hid (b = bitN d k) := ⟨_, Lib.hid rfl⟩
      have hb1 : b ≤ 1 := by rw [hb.out]; exact bitN_le d k
      have X1 : Hid (∀ W, Calls Tryd.prog 49 #[.string S, .int .i64 (k : Int)] W fun e w' => e = .returned (.int .i64 (b : Int)) ∧ W = w') := Lib.hid fun W => by rw [hb.out]; exact BI.out W k hkb.out
      obtain ⟨x, hx⟩ : ∃ x, Hid (x = secL seed index k b) := ⟨_, Lib.hid rfl⟩
      obtain ⟨X, hX⟩ : ∃ X, Hid (X = nums .u8 x) := ⟨_, Lib.hid rfl⟩
      have hx32 : Hid (x.length = 32 ∧ bytes x) := Lib.hid (by rw [hx.out]; exact secL_is _ _ _ _)
      have zX : Hid (X.size = 32) := Lib.hid (by rw [hX.out, nums_size]; exact hx32.out.1)
      have oX : Hid (X.all (·.oneCell') = true) := Lib.hid (by rw [hX.out]; exact nums_one _ _)
      have X2 : Hid (∀ W, Calls Tryd.prog 43 #[.string seed, .int .i64 (index : Int), .int .i64 (k : Int), .int .i64 (b : Int)] W fun e w' => e = .returned (.agg X) ∧ Below W.heap.size W w') := Lib.hid fun W => by
        rw [hX.out, hx.out]; exact SE.out W k b hkb.out hb1
      obtain ⟨m, hm⟩ : ∃ m, m = 2 * k + 1 - b := ⟨_, rfl⟩
      have hw1 : IntKind.i64.wrap (2 * (k : Int)) = 2 * (k : Int) := by rw [IntKind.wrap_i64]; omega
      have hw2 : IntKind.i64.wrap (2 * (k : Int) + 1) = 2 * (k : Int) + 1 := by rw [IntKind.wrap_i64]; omega
      have hw3 : IntKind.i64.wrap (2 * (k : Int) + 1 - (b : Int)) = (m : Int) := by rw [IntKind.wrap_i64]; omega
      have hm0 : (0 : Int) ≤ (m : Int) := by omega
      have hm1 : (m : Int) < 512 := by omega
      have hml : Hid (m < (pubN seed index 512).length) := Lib.hid (by rw [pubN_length]; omega)
      have hm32 : Hid (((pubN seed index 512).getD m []).length = 32) := Lib.hid (hashes_at (pubN_hashes _ _ _) m hml.out).1
      have NA : Hid ((sigA seed index d (k + 1)).flatten = (sigA seed index d k).flatten ++ x) := Lib.hid (by rw [sigA_next, List.flatten_append, hx.out, hb.out]; simp)
      have NB : Hid ((sigB seed index d (k + 1)).flatten = (sigB seed index d k).flatten ++ (pubN seed index 512).getD m []) := Lib.hid (by
        rw [sigB_next, List.flatten_append, pubN_get _ _ _ _ (by omega)]
        unfold pubAt
        rw [show m / 2 = k by omega, show m % 2 = 1 - b by omega, hb.out]
        simp)
      have c1 := CV.out wr HQ.out.dig
      clear hb hm
      go_upto_region 9 with (go_at_call 49; (with_reducible refine (X1.out _).mono ?_); rintro e wb ⟨rfl, rfl⟩)
      clear c1
      go_upto_region 10 with (go_at_call 43; (with_reducible refine (X2.out _).mono ?_); rintro e w1 ⟨rfl, hb2⟩; obtain ⟨w2, s2, hr2, hb2', hz2⟩ := made_write w1 X zX.out oX.out; have HR2 := Lib.hid hr2; have H2 := Lib.hid ((HQ.out.next hb2).next hb2'); clear hr2 hb2 hb2' hz2)
      clear s2 HQ
      have H3 : Hid (SignH w B w2.drew D ad (pubN seed index 512) v1 v2 (32 * k) (32 * k) (sigA seed index d k).flatten (sigB seed index d k).flatten) := Lib.hid (H2.out.next (Below.refl w2.heap.size w2).drew)
      have HR3 : Hid (BytesAt w2.drew ⟨w1.heap.size, 0, none⟩ x) := Lib.hid (Row.bytes (by rw [← hX.out]; exact HR2.out.drew))
      clear H2 HR2
      refine wp_region_fk (fun _ => True) (.get 0 (.get 1 (.get 3 (.get 4 (.get 5 (.get 6 (.get 7 (.get 8 (.get 9 (.get 10 (.get 11 (.call 2 (.call 12 (.get 13 (.get 14 .done))))))))))))))) (by kernel_rfl) rfl (by kernel_rfl) (by kernel_rfl) (by intro c a d v w h; cases d <;> exact h) trivial (fun Q' hQ => ?_)
      have HS : Hid True := Lib.hid trivial
      have HQ := Lib.hid hQ
      clear hQ
      refine wpFk_get rfl (by rfl) (fun K hK => ?_)
      refine ⟨?_, fun w' hS' => ?_, ?_⟩
      rotate_left
      · go_simp
        try (with_reducible rfl)
      try go_simp
      refine hK _ ?_
      clear hK K
      refine wpFk_get rfl (by rfl) (fun K hK => ?_)
      refine ⟨?_, fun w' hS' => ?_, ?_⟩
      rotate_left
      · go_simp
        try (with_reducible rfl)
      try go_simp
      refine hK _ ?_
      clear hK K
      refine wpFk_get rfl (by rfl) (fun K hK => ?_)
      refine ⟨?_, fun w' hS' => ?_, ?_⟩
      rotate_left
      · go_simp
        try (with_reducible rfl)
      try go_simp
      refine hK _ ?_
      clear hK K
      refine wpFk_get rfl (by rfl) (fun K hK => ?_)
      refine ⟨?_, fun w' hS' => ?_, ?_⟩
      rotate_left
      · go_simp
        try (with_reducible rfl)
      try go_simp
      refine hK _ ?_
      clear hK K
      refine wpFk_get rfl (by rfl) (fun K hK => ?_)
      refine ⟨?_, fun w' hS' => ?_, ?_⟩
      rotate_left
      · go_simp
        try (with_reducible rfl)
      try go_simp
      refine hK _ ?_
      clear hK K
      refine wpFk_get rfl (by rfl) (fun K hK => ?_)
      refine ⟨?_, fun w' hS' => ?_, ?_⟩
      rotate_left
      · go_simp
        try (with_reducible rfl)
      try go_simp
      refine hK _ ?_
      clear hK K
      refine wpFk_get rfl (by rfl) (fun K hK => ?_)
      refine ⟨?_, fun w' hS' => ?_, ?_⟩
      rotate_left
      · go_simp
        try (with_reducible rfl)
      try go_simp
      refine hK _ ?_
      clear hK K
      refine wpFk_get rfl (by rfl) (fun K hK => ?_)
      refine ⟨?_, fun w' hS' => ?_, ?_⟩
      rotate_left
      · go_simp
        try (with_reducible rfl)
      try go_simp
      refine hK _ ?_
      clear hK K
      refine wpFk_get rfl (by rfl) (fun K hK => ?_)
      refine ⟨?_, fun w' hS' => ?_, ?_⟩
      rotate_left
      · go_simp
        try (with_reducible rfl)
      try go_simp
      refine hK _ ?_
      clear hK K
      refine wpFk_get rfl (by rfl) (fun K hK => ?_)
      refine ⟨?_, fun w' hS' => ?_, ?_⟩
      rotate_left
      · go_simp
        try (with_reducible rfl)
      try go_simp
      refine hK _ ?_
      clear hK K
      refine wpFk_get rfl (by rfl) (fun K hK => ?_)
      refine ⟨?_, fun w' hS' => ?_, ?_⟩
      rotate_left
      · go_simp
        try (with_reducible rfl)
      try go_simp
      refine hK _ ?_
      clear hK K
      refine wpFk_call rfl (by rfl) (fun K hK => ?_)
      refine wp_appendB_at (.tmp 32) (.tmp 33) rfl B v1 (32 * k) _ x rfl H3.out.two.fst ⟨w1.heap.size, 0, none⟩ 32 32 rfl hx32.out.1 (HR3.out) (by omega) H3.out.hi ?_
      intro v1' w4 hown hg hat
      have H4 : Hid (SignH w B w4 D ad (pubN seed index 512) v1' v2 (32 * k + 32) (32 * k) ((sigA seed index d k).flatten ++ x) (sigB seed index d k).flatten) := Lib.hid (H3.out.putA hown hg hat)
      clear hown hg hat H3
      try go_simp
      refine hK _ _ HS.out ?_
      clear hK K
      refine wpFk_call rfl (by rfl) (fun K hK => ?_)
      refine wp_appendB_at (.tmp 35) (.tmp 43) rfl B v2 (32 * k) _ ((pubN seed index 512).getD m []) rfl H4.out.two.snd (ad.add (m * 32)) 32 32 rfl hm32.out (H4.out.lst.bytes (pubN_hashes _ _ _) m hml.out) (by omega) H4.out.hi ?_
      intro v2' w5 hown hg hat
      have H5 : Hid (SignH w B w5 D ad (pubN seed index 512) v1' v2' (32 * k + 32) (32 * k + 32) ((sigA seed index d k).flatten ++ x) ((sigB seed index d k).flatten ++ (pubN seed index 512).getD m [])) := Lib.hid (H4.out.putB hown hg hat)
      clear hown hg hat H4
      try go_simp
      refine hK _ _ HS.out ?_
      clear hK K
      refine wpFk_get rfl (by rfl) (fun K hK => ?_)
      refine ⟨?_, fun w' hS' => ?_, ?_⟩
      rotate_left
      · go_simp
        try (with_reducible rfl)
      try go_simp
      refine hK _ ?_
      clear hK K
      refine wpFk_get rfl (by rfl) (fun K hK => ?_)
      refine ⟨?_, fun w' hS' => ?_, ?_⟩
      rotate_left
      · go_simp
        try (with_reducible rfl)
      try go_simp
      refine hK _ ?_
      clear hK K
      refine wpFk_done ?_
      refine HQ.out _ _ ?_
      have H6 : Hid (SignH w B w5 D ad (pubN seed index 512) v1' v2' (32 * (k + 1)) (32 * (k + 1)) (sigA seed index d (k + 1)).flatten (sigB seed index d (k + 1)).flatten) := Lib.hid (by rw [NA.out, NB.out, show 32 * (k + 1) = 32 * k + 32 by omega]; exact H5.out)
      clear H5
      go_wp2
      go_roundw
      case rel => exact ⟨k + 1, _, _, by go_num, rfl, rfl, by omega, H6⟩
      case measure => simp [intOf]; omega
    · have hk9 : k = 256 := by omega
      subst hk9
      obtain ⟨g, cap, hv, hB2, hg2, hcap, hat⟩ := ownB_at HQ.out.two.snd (by decide)
      have l2 : Hid ((sigB seed index d 256).flatten.length = 8192) := Lib.hid (by rw [flat_size (sigB_hashes _ _ _ _), sigB_length])
      subst hv
      have HAT := Lib.hid hat
      clear hat hlt
      go_wp2_with (at_builtin; refine wpList_appendB rfl (.tmp 45) (.tmp 46) rfl B _ _ _ _ rfl HQ.out.two.fst ⟨g, 0, none⟩ 8192 cap rfl l2.out HAT.out (by decide) HQ.out.hi ?_)
      intro v' w3 hown hgr
      have c1 : (convert 42 9 v').run Tryd.prog w3 = .ok (.string E) w3 := by rw [hE.out]; exact convB hown (by decide)
      have HB := Lib.hid (HQ.out.below.trans ((own_grown HQ.out.two.fst hgr HQ.out.hi).mono (Nat.le_of_lt HQ.out.lo)))
      clear hown hgr
      go_wp2
      go_ret
      exact ⟨rfl, HB.out⟩
theorem refSign_any (seed : ByteArray) (hs : seed.size ≤ 100000) (index : Int) (h64 : -9223372036854775808 ≤ index ∧ index ≤ 9223372036854775807) (d : List Int) (hd : d.length = 32 ∧ bytes d) (w : World) :
    Calls Tryd.prog 28 #[.string seed, .int .i64 index, .agg (nums .u8 d)] w fun e w' => e = .returned (.string (sigF seed index d)) ∧ Below w.heap.size w w' := by
  by_cases h : index < 0 ∨ 2147483647 < index
  · rw [sigF_no h]
    obtain ⟨D, hD⟩ : ∃ D, Hid (D = nums .u8 d) := ⟨_, Lib.hid rfl⟩
    have zD : Hid (D.size = 32) := Lib.hid (by rw [hD.out, nums_size]; exact hd.1)
    have PU : Hid (∀ W, Calls Tryd.prog 21 #[.string seed, .int .i64 index] W fun e w' => ∃ A c, e = .returned (.slice A 0 c) ∧ Below W.heap.size W w') := Lib.hid fun W => by
      refine (refPublic_any seed hs index h64 W).mono ?_
      rintro e w' ⟨A, c, h1, _, _, _, h5⟩
      rw [pubF_no h] at h1
      exact ⟨A, c, h1, h5⟩
    have H0 : Hid (Row (w.alloc (.cells D 23)) w.heap.size 23 D ∧ Below w.heap.size w (w.alloc (.cells D 23))) := Lib.hid ⟨Row.made _ _ _, (Below.refl _ _).alloc (Nat.le_refl _) _⟩
    rw [← hD.out]
    clear h hs h64 hd hD
    go_enter Tryd.func28, Tryd.ntmps28
    go_upto_region 1 with fail
    refine world_gen (fun X => Row X w.heap.size 23 D ∧ Below w.heap.size w X) H0.out (fun X HX => ?_)
    have HX := Lib.hid HX
    clear H0
    go_upto_region 2 with (go_at_call 21; (with_reducible refine (PU.out _).mono ?_); rintro e wp ⟨A, c, rfl, hb⟩; have HB := Lib.hid (below_new HX.out.2 hb); clear hb HX)
    go_wp2
    go_ret
    exact ⟨rfl, HB.out⟩
  · obtain ⟨I, rfl⟩ : ∃ I : Nat, index = I := ⟨index.toNat, by omega⟩
    rw [sigF_ok (by omega)]
    exact refSign_some seed hs I (by omega) d hd w
end Go.Proofs.YtgnkdkehooagpaaDoor
namespace Go.Proofs.YtgnkdkehooagpaaDoor
open Go.RowKit
set_option linter.unusedVariables false
set_option maxRecDepth 100000

theorem infoU8 : (Tryd.prog.info? 5).map (fun i => (i.zero, i.size, i.bytes)) = some (some (.int .u8 0), 1, 1) := by kernel_rfl
def HashHead (w wr : World) (l : List Int) (k : Nat) (v : Value) : Prop :=
  wr.ownsRow (w.heap.size + 1) 5 1 v k ((l.map (Value.int .u8)).take k) ∧ Row wr w.heap.size 23 (nums .u8 l) ∧ Below w.heap.size w wr
theorem take_more (l : List Int) (k : Nat) (h : k < l.length) : l.take (k + 1) = l.take k ++ [l.getD k 0] := by
  rw [List.take_succ_eq_append_getElem h]
  simp [List.getD, List.getElem?_eq_getElem h]
theorem row_grown {w w' : World} {g : Nat} {t : TypeId} {cs : Array Value} {row : Option Nat} (h : Row w g t cs) (hb : w.grownBy w' row) (hg : some g ≠ row) : Row w' g t cs := (hb.block g h.lt hg).trans h
theorem HashHead.next {w wr w1 : World} {l : List Int} {k : Nat} {v v' : Value} (hk : k < l.length) (H : HashHead w wr l k v) (x : Value)
    (h1 : w1.ownsRow (w.heap.size + 1) 5 1 v' (k + 1) ((l.map (Value.int .u8)).take k ++ [.int .u8 (l.getD k 0)])) (hg : (wr.alloc (.cells #[x] 5)).grownBy w1 v.ownBlock) : HashHead w w1 l (k + 1) v' := by
  obtain ⟨h2, h3, h4⟩ := H
  have hge : ∀ g, v.ownBlock = some g → w.heap.size + 1 ≤ g := by
    rcases h2.2 with ⟨rfl, _⟩ | ⟨g', cap, cur, rfl, hb, _⟩
    · intro g hg; simp [Value.ownBlock] at hg
    · intro g hg
      have : g' = g := by simpa [Value.ownBlock] using hg
      omega
  refine ⟨?_, row_grown (h3.alloc _) hg (fun e => by have := hge _ e.symm; omega), (h4.alloc h4.size _).grown hg (by have := h4.size; simp; omega) (fun g e => by have := hge _ e; omega)⟩
  rw [← List.map_take, take_more l k hk, List.map_append, List.map_take]
  exact h1
theorem HashHead.text {w wr : World} {l : List Int} {v : Value} (hl : l.length = 32) (H : HashHead w wr l 32 v) :
    (convert 42 9 v).run Tryd.prog wr = .ok (.string (strOfNums l)) wr := by
  obtain ⟨h1, h2, h3⟩ := H
  obtain ⟨g, cap, rfl⟩ : ∃ g cap, v = .slice (some ⟨g, 0, none⟩) 32 cap := by
    rcases h1.2 with ⟨_, h0⟩ | ⟨g, cap, _, hv, _⟩
    · omega
    · exact ⟨g, cap, hv⟩
  refine run_convert_bytes_arg wr 42 5 Tryd.underlying42 Tryd.underlying5 g 0 32 cap l hl (fun i hi => ?_) 9 Tryd.underlying9
  have := h1.cells (g := g) rfl i (.int .u8 (l.getD i 0)) (by rw [List.take_of_length_le (by simp; omega)]; simp [List.getD, List.getElem?_eq_getElem (show i < l.length by omega)])
  rw [Nat.zero_add]
  have e : (⟨g, 0, none⟩ : Addr).add i = ⟨g, i, none⟩ := by unfold Addr.add; split <;> simp_all
  rwa [e] at this
set_option maxHeartbeats 1000000 in
set_option maxRecDepth 100000 in
theorem refHash_any (l : List Int) (hl : l.length = 32) (w : World) :
    Calls Tryd.prog 63 #[.agg (nums .u8 l)] w fun e w' => e = .returned (.string (strOfNums l)) ∧ Below w.heap.size w w' := by
  obtain ⟨i0, hi, hz0, hz1, hz2⟩ := info_parts infoU8
  have HL := Lib.hid hl
  have H0 : Hid (HashHead w (w.alloc (.cells (nums .u8 l) 23)) l 0 (.slice none 0 0)) := Lib.hid ⟨⟨rfl, .inl ⟨rfl, rfl⟩⟩, Row.made _ _ _, (Below.refl _ _).alloc (Nat.le_refl _) _⟩
  clear hl
  go_enter Tryd.func63, Tryd.ntmps63
  go_wp2
  go_loopw [3, 4] (fun s3 s4 wr => ∃ k v, s3 = v ∧ s4 = .int .i64 ((k : Nat) : Int) ∧ k ≤ 32 ∧ Hid (HashHead w wr l k v)) (fun _ s4 _ => (32 - intOf s4).toNat)
  case atStart => exact ⟨0, _, rfl, rfl, by omega, H0⟩
  case round =>
    clear H0
    obtain ⟨k, v, rfl, rfl, hk, HH⟩ := hrel
    by_cases hlt : k < 32
    · have hc := HH.out.2.1.num (i := k) (by rw [HL.out]; exact hlt)
      obtain ⟨x, hx⟩ : ∃ x, Hid (x = l.getD k 0) := ⟨_, Lib.hid rfl⟩
      rw [← hx.out] at hc
      go_wp2_with (at_builtin; refine wpList_append_own _ rfl (.tmp 9) (.tmp 13) 42 rfl (w.heap.size + 1) 5 i0 (.int .u8 0) 1 1 Tryd.underlying42 hi hz0 hz1 hz2 rfl (by decide) _ _ _ rfl (HH.out.1.alloc _) ⟨wr.heap.size, 0, none⟩ 1 1 [.int .u8 x] rfl rfl ?c1 ?c2 (by unfold maxLen; omega) (by omega) ?c5 ?_)
      case c1 => intro j u hj; match j, hj with | 0, hj => simp at hj; subst hj; simp [World.cell?_alloc_new, Addr.add]
      case c2 => intro u hu; simp at hu; subst hu; rfl
      case c5 => have := HH.out.2.2.size; have := HH.out.2.1.lt; simp; omega
      intro v' w1 hown hgrow _
      have HN : Hid (HashHead w w1 l (k + 1) v') := Lib.hid (HH.out.next (by rw [HL.out]; exact hlt) _ (by rw [← hx.out]; exact hown) hgrow)
      clear hown hgrow HH
      go_wp2
      go_roundw
      case rel => exact ⟨k + 1, _, rfl, by go_num, by omega, HN⟩
      case measure => simp [intOf]; omega
    · obtain rfl : k = 32 := by omega
      have ht := HH.out.text HL.out
      go_wp2
      go_ret
      exact ⟨rfl, HH.out.2.2⟩
end Go.Proofs.YtgnkdkehooagpaaDoor
