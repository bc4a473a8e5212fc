/-
  RefSum.
-/
import Derived.Test.YtpndccoikhejgaaDoorPk08
import Derived.Great.BuildSlice
import Derived.StillTailTactics
import Derived.Deep.DeepCutAuto
namespace Go.Proofs.YtpndccoikhejgaaDoor
open Go.RowKit
set_option linter.unusedVariables false

/-- The memory of the call: the result, the rounds' numbers, the eight numbers, a block's numbers, the filled text's bytes. -/
structure RH (w wr : World) (g3 g4 gb g6 cap m : Nat) (P V W : List Int) : Prop where
  r2 : Row wr w.heap.size 23 (nums .u8 (List.replicate 32 0))
  r3 : Row wr g3 96 (nums .u32 Ks)
  r4 : Row wr g4 92 (nums .u32 V)
  r6 : Row wr g6 96 (nums .u32 W)
  rb : Got wr w.heap.size gb cap P m
  lt : w.heap.size < g3 ∧ g3 < g4 ∧ g4 < gb ∧ gb < g6
  below : Below w.heap.size w wr
theorem RH.putW {w wr : World} {g3 g4 gb g6 cap m : Nat} {P V W : List Int} (H : RH w wr g3 g4 gb g6 cap m P V W) (i : Nat) (x : Int) : RH w (wr.setCell ⟨g6, i, none⟩ (.int .u32 x)) g3 g4 gb g6 cap m P V (W.set i x) := by
  obtain ⟨h1, h2, h3, h4, h5, h6, h7⟩ := H
  exact ⟨h1.far (by simp; omega) _, h2.far (by simp; omega) _, h3.far (by simp; omega) _, h4.numPut i x, h5.same (heap_setCell_other wr _ gb _ (by simp; omega)), h6, h7.setCell (by simp; omega) _⟩
theorem RH.putV {w wr : World} {g3 g4 gb g6 cap m : Nat} {P V W : List Int} (H : RH w wr g3 g4 gb g6 cap m P V W) (i : Nat) (x : Int) : RH w (wr.setCell ⟨g4, i, none⟩ (.int .u32 x)) g3 g4 gb g6 cap m P (V.set i x) W := by
  obtain ⟨h1, h2, h3, h4, h5, h6, h7⟩ := H
  exact ⟨h1.far (by simp; omega) _, h2.far (by simp; omega) _, h3.numPut i x, h4.far (by simp; omega) _, h5.same (heap_setCell_other wr _ gb _ (by simp; omega)), h6, h7.setCell (by simp; omega) _⟩
theorem RH.drewN {w wr : World} {g3 g4 gb g6 cap m : Nat} {P V W : List Int} (H : RH w wr g3 g4 gb g6 cap m P V W) (n : Nat) : RH w (wr.drewN n) g3 g4 gb g6 cap m P V W := by
  obtain ⟨h1, h2, h3, h4, h5, h6, h7⟩ := H
  exact ⟨h1.drewN n, h2.drewN n, h3.drewN n, h4.drewN n, h5, h6, below_drewN h7 n⟩
theorem RH.drew {w wr : World} {g3 g4 gb g6 cap m : Nat} {P V W : List Int} (H : RH w wr g3 g4 gb g6 cap m P V W) : RH w wr.drew g3 g4 gb g6 cap m P V W := by
  obtain ⟨h1, h2, h3, h4, h5, h6, h7⟩ := H
  exact ⟨h1.drew, h2.drew, h3.drew, h4.drew, h5, h6, h7.drew⟩
theorem size8d : (Tryd.prog.info? 92).map (·.size) = some 8 := by kernel_rfl
theorem size1w : (Tryd.prog.info? 91).map (·.size) = some 1 := by kernel_rfl
theorem zero64 : ((Tryd.prog.info? 96).bind (·.zero)).map (·.cells.size) = some Ks.length := by kernel_rfl
theorem zero8 : ((Tryd.prog.info? 92).bind (·.zero)).map (·.cells.size) = some Hs.list.length := by kernel_rfl
theorem take_put (W : List Int) (i : Nat) (x : Int) (h : i < W.length) : (W.set i x).take (i + 1) = W.take i ++ [x] := by
  rw [List.take_succ_eq_append_getElem (by simpa using h), List.take_set_of_le (Nat.le_refl _), List.getElem_set_self]
theorem wp_gen {P : Program} {c : Code} {Q : Exit → Act → World → Prop} {a : Act} {w0 : World} (R : World → Prop) (hR : R w0) (h : ∀ wx, R wx → Code.wp P c Q a wx) : Code.wp P c Q a w0 := h _ hR
theorem take_nextR (l : List Int) (k : Nat) (h : k < l.length) : l.take (k + 1) = l.take k ++ [l.getD k 0] := by
  rw [List.take_succ_eq_append_getElem h]
  simp [List.getD, List.getElem?_eq_getElem h]
theorem turn_int (x K : Int) (w : World) (h : 0 ≤ x ∧ x < 4294967296) (h1 : 1 ≤ K) (h2 : K ≤ 31) :
    Calls Tryd.prog 61 #[.int .u32 x, .int .u32 K] w fun e w' => e = .returned (.int .u32 (Math.rot x (-K))) ∧ w = w' := by
  obtain ⟨k, rfl⟩ : ∃ k : Nat, K = k := ⟨K.toNat, by omega⟩
  exact turn_any x k w h (by omega) (by omega)
theorem rnd_next {K W : List Int} {s0 : Sha.St} {j : Nat} {a b c d e f g h k x : Int} (H : Sha.St.mk a b c d e f g h = Sha.rnd K W s0 j) (e2 : Sha.St.ok ⟨a, b, c, d, e, f, g, h⟩) (hk : k = K.getD j 0) (hx : x = W.getD j 0) :
    Sha.St.mk ((Sha.t1 e f g h k x + Sha.t2 a b c) % 4294967296) a b c ((d + Sha.t1 e f g h k x) % 4294967296) e f g = Sha.rnd K W s0 (j + 1) ∧ Sha.St.ok ⟨(Sha.t1 e f g h k x + Sha.t2 a b c) % 4294967296, a, b, c, (d + Sha.t1 e f g h k x) % 4294967296, e, f, g⟩ := by
  have e1 : Sha.rnd K W s0 (j + 1) = (Sha.rnd K W s0 j).step (K.getD j 0) (W.getD j 0) := rfl
  have e3 := Sha.St.step_ok _ k x e2
  have e4 : (Sha.St.mk a b c d e f g h).step k x = ⟨(Sha.t1 e f g h k x + Sha.t2 a b c) % 4294967296, a, b, c, (d + Sha.t1 e f g h k x) % 4294967296, e, f, g⟩ := by simp only [Sha.St.step]
  rw [← H, ← hk, ← hx, e4] at e1
  rw [e4] at e3
  exact ⟨e1.symm, e3⟩
theorem blocks_next {T : ByteArray} {j : Nat} {W V : List Int} {a0 a1 a2 a3 a4 a5 a6 a7 a b c d e f g h : Int} (hst : Sha.St.mk a0 a1 a2 a3 a4 a5 a6 a7 = Sha.blocks Ks Hs T j) (hW : W = Sha.sched T (64 * j) 48)
    (hr : Sha.St.mk a b c d e f g h = Sha.rnd Ks W ⟨a0, a1, a2, a3, a4, a5, a6, a7⟩ 64) (hV : V = Sha.St.list ⟨a0, a1, a2, a3, a4, a5, a6, a7⟩) :
    (((((((V.set 0 ((a0 + a) % 4294967296)).set 1 ((a1 + b) % 4294967296)).set 2 ((a2 + c) % 4294967296)).set 3 ((a3 + d) % 4294967296)).set 4 ((a4 + e) % 4294967296)).set 5 ((a5 + f) % 4294967296)).set 6 ((a6 + g) % 4294967296)).set 7 ((a7 + h) % 4294967296) = (Sha.blocks Ks Hs T (j + 1)).list := by
  show _ = (Sha.block Ks (Sha.blocks Ks Hs T j) T (64 * j)).list
  rw [← hst]
  unfold Sha.block
  rw [← hW, ← hr, hV]
  rfl
/-- What holds while the bytes are written. -/
def OutR (w wx : World) (g4 r : Nat) (V : List Int) (i : Nat) : Prop :=
  Row wx r 23 (nums .u8 ((bytesL V).take i ++ List.replicate (32 - i) 0)) ∧ Row wx g4 92 (nums .u32 V) ∧ Row wx w.heap.size 23 (nums .u8 (List.replicate 32 0)) ∧ (w.heap.size < g4 ∧ g4 < r) ∧ Below w.heap.size w wx
theorem OutR.start {w wr : World} {g3 g4 gb g6 cap m : Nat} {P V W : List Int} (H : RH w wr g3 g4 gb g6 cap m P V W) : OutR w (wr.alloc (.cells (nums .u8 (List.replicate 32 0)) 23)) g4 wr.heap.size V 0 :=
  ⟨Row.made _ _ _, H.r4.alloc _, H.r2.alloc _, ⟨by have := H.lt; omega, H.r4.lt⟩, H.below.alloc H.below.size _⟩
theorem OutR.next {w wr : World} {g4 r i : Nat} {V : List Int} (H : OutR w wr g4 r V i) (hV : V.length = 8) (hi : i < 32) (x : Int) (hx : x = (bytesL V).getD i 0) : OutR w (wr.setCell ⟨r, i, none⟩ (.int .u8 x)) g4 r V (i + 1) := by
  obtain ⟨h1, h2, h3, h4, h5⟩ := H
  refine ⟨?_, h2.far (by simp; omega) _, h3.far (by simp; omega) _, h4, h5.setCell (by simp; omega) _⟩
  have h := h1.numPut i x
  have hl : (bytesL V).length = 32 := by rw [bytesL_length, hV]
  have hlt : ((bytesL V).take i).length = i := by rw [List.length_take]; omega
  have e : ((bytesL V).take i ++ List.replicate (32 - i) 0).set i x = (bytesL V).take (i + 1) ++ List.replicate (32 - (i + 1)) 0 := by
    rw [show 32 - i = (32 - (i + 1)) + 1 by omega, List.replicate_succ, List.set_append_right _ _ (by omega), hlt, Nat.sub_self, List.set_cons_zero, take_nextR _ i (by omega), ← hx, List.append_assoc]
    rfl
  rwa [e] at h
theorem bytesL_get (l : List Int) (q r : Nat) (hq : q < l.length) (hr : r < 4) : (bytesL l).getD (4 * q + r) 0 = (putL (l.getD q 0) 4).getD r 0 := by
  induction l generalizing q with
  | nil => simp at hq
  | cons n l ih =>
    simp only [bytesL]
    cases q with
    | zero =>
      rw [Nat.mul_zero, Nat.zero_add, List.getD_eq_getElem?_getD, List.getElem?_append_left (by rw [putL_length]; exact hr)]
      rfl
    | succ q =>
      rw [List.getD_eq_getElem?_getD, List.getElem?_append_right (by rw [putL_length]; omega), putL_length, show 4 * (q + 1) + r - 4 = 4 * q + r by omega, ← List.getD_eq_getElem?_getD, ih q (by simpa using hq)]
      rfl
theorem putL_get4 (n : Int) (r : Nat) (hr : r < 4) : (putL n 4).getD r 0 = n / 2 ^ (8 * (3 - r)) % 256 := by
  match r, hr with
  | 0, _ => rfl
  | 1, _ => rfl
  | 2, _ => rfl
  | 3, _ => rfl
theorem wpStill_hide {P : Program} {ops : Array Oper} {w : World} {Q : Act → Prop} {a : Act} {l : List Oper} (h : ∀ Q' : Act → Prop, (∀ a', Q a' → Q' a') → wpStill P ops w Q' l a) : wpStill P ops w Q l a := h Q (fun _ h => h)
set_option maxHeartbeats 40000000 in
set_option maxRecDepth 100000 in
theorem refSum_any (s : ByteArray) (hs : s.size ≤ 1000000) (w : World) :
    Calls Tryd.prog 38 #[.string s] w fun ev w' => ev = .returned (.agg (nums .u8 (sumL s))) ∧ Below w.heap.size w w' := by
  have hT := fullS_size s
  obtain ⟨N, hN⟩ : ∃ N, (fullS s).size = 64 * N := ⟨(fullS s).size / 64, by have := zerosN_is s.size; omega⟩
  have HJ := Lib.hid (join s N hN)
  have HG := Lib.hid (padL_get s)
  have hz := zerosN_lt s.size
  obtain ⟨M, hM⟩ : ∃ M, s.size + 1 + zerosN s.size + 8 = M := ⟨_, rfl⟩
  obtain ⟨P, hPP⟩ : ∃ P, Hid (P = padL s) := ⟨_, Lib.hid rfl⟩
  have hPad : ∀ W, Calls Tryd.prog 60 #[.string s] W fun ev w' => ∃ g cap, ev = .returned (.slice (some ⟨g, 0, none⟩) M cap) ∧ Got w' W.heap.size g cap P M ∧ Below W.heap.size W w' := fun W => by
    rw [← hM, hPP.out]; exact pad_any s hs W
  have HP := Lib.hid hPad
  obtain ⟨T, hTT⟩ : ∃ T, Hid (T = fullS s) := ⟨_, Lib.hid rfl⟩
  rw [← hTT.out, ← hPP.out] at HG
  rw [← hTT.out] at HJ hN hT
  have hMN : M = 64 * N := by omega
  have hMb : M ≤ 1000100 := by omega
  have HMN := Lib.hid hMN
  have HTN := Lib.hid hN
  clear hPad hM hz hT hMN hN
  go_enter Tryd.func38, Tryd.ntmps38
  go_upto_region 1 with fail
  refine wp_gen (fun wx => Row wx w.heap.size 23 (nums .u8 (List.replicate 32 0)) ∧ Below w.heap.size w wx) ⟨Row.made _ _ _, (Below.refl _ _).alloc (Nat.le_refl _) _⟩ (fun wx H0 => ?_)
  have H0 := Lib.hid H0
  go_upto_region 4 with (first
    | (refine wpList_buildFlatArr rfl 96 91 64 _ rfl .u32 Ks Tryd.underlying96 size1w zero64 rfl ?_)
    | (refine wpList_store_fresh rfl 96 _ _ rfl (nums .u32 Ks) rfl rfl 96 _ (size64 Ks rfl) rfl (nums_one _ _) ?_; intro w2 hS hb; have H1 : Hid (Row w2 w.heap.size 23 (nums .u8 (List.replicate 32 0)) ∧ Row w2 wx.heap.size 96 (nums .u32 Ks) ∧ w.heap.size < wx.heap.size ∧ Below w.heap.size w w2) := Lib.hid ⟨H0.out.1.next hb, hS, H0.out.1.lt, below_new H0.out.2 hb⟩; clear hS hb)
    | (refine wpList_buildFlatArr rfl 92 91 8 _ rfl .u32 Hs.list Tryd.underlying92 size1w zero8 rfl ?_)
    | (refine wpList_store_fresh rfl 92 _ _ rfl (nums .u32 Hs.list) rfl rfl 92 _ size8d rfl (nums_one _ _) ?_; intro w3 hS hb; have H2 : Hid (Row w3 w.heap.size 23 (nums .u8 (List.replicate 32 0)) ∧ Row w3 wx.heap.size 96 (nums .u32 Ks) ∧ Row w3 w2.heap.size 92 (nums .u32 Hs.list) ∧ (w.heap.size < wx.heap.size ∧ wx.heap.size < w2.heap.size) ∧ Below w.heap.size w w3) := Lib.hid ⟨H1.out.1.next hb, H1.out.2.1.next hb, hS, ⟨H1.out.2.2.1, H1.out.2.1.lt⟩, below_new H1.out.2.2.2 hb⟩; clear hS hb)
    | (go_at_call 60; (with_reducible refine (HP.out _).mono ?_); rintro e w4 ⟨gb, cap, rfl, hG, hb⟩; have H3 : Hid (Row w4 w.heap.size 23 (nums .u8 (List.replicate 32 0)) ∧ Row w4 wx.heap.size 96 (nums .u32 Ks) ∧ Row w4 w2.heap.size 92 (nums .u32 Hs.list) ∧ Got w4 w.heap.size gb cap P M ∧ (w.heap.size < wx.heap.size ∧ wx.heap.size < w2.heap.size ∧ w2.heap.size < gb) ∧ Below w.heap.size w w4) := Lib.hid ⟨H2.out.1.next hb, H2.out.2.1.next hb, H2.out.2.2.1.next hb, ⟨hG.1, by have := hG.2.1; have := H2.out.1.lt; omega, hG.2.2⟩, ⟨H2.out.2.2.2.1.1, H2.out.2.2.2.1.2, by have := hG.2.1; have := H2.out.2.2.1.lt; omega⟩, below_new H2.out.2.2.2.2 hb⟩; clear hG hb))
  clear H0 H1 H2 HP
  go_upto_region 5 with fail
  obtain ⟨g3, hg3⟩ : ∃ g3, Hid (g3 = wx.heap.size) := ⟨_, Lib.hid rfl⟩
  obtain ⟨g4, hg4⟩ : ∃ g4, Hid (g4 = w2.heap.size) := ⟨_, Lib.hid rfl⟩
  obtain ⟨g6, hg6⟩ : ∃ g6, Hid (g6 = w4.heap.size) := ⟨_, Lib.hid rfl⟩
  rw [← hg3.out, ← hg4.out] at H3
  rw [← hg3.out, ← hg4.out, ← hg6.out]
  refine wp_gen (fun wy => RH w wy g3 g4 gb g6 cap M P Hs.list (List.replicate 64 0)) (by rw [hg6.out]; exact ⟨H3.out.1.alloc _, H3.out.2.1.alloc _, H3.out.2.2.1.alloc _, Row.made _ _ _, H3.out.2.2.2.1.alloc _, ⟨H3.out.2.2.2.2.1.1, H3.out.2.2.2.2.1.2.1, H3.out.2.2.2.2.1.2.2, H3.out.2.2.2.1.lt⟩, H3.out.2.2.2.2.2.alloc H3.out.2.2.2.2.2.size _⟩) (fun wy H4 => ?_)
  have H4 := Lib.hid H4
  clear H3 hg3 hg4 hg6
  go_wp2
  go_loopw [7] (fun s7 wr => ∃ j : Nat, j ≤ N ∧ s7 = .int .i64 (64 * (j : Int)) ∧ Hid (∃ W, W.length = 64 ∧ RH w wr g3 g4 gb g6 cap M P (Sha.blocks Ks Hs T j).list W)) (fun s7 _ => 64 * N - (intOf s7).toNat)
  case atStart => exact ⟨0, by omega, rfl, Lib.hid ⟨_, by simp, H4.out⟩⟩
  case round =>
    clear H4
    obtain ⟨j, hj, rfl, HH⟩ := hrel
    have hMN2 := HMN.out
    by_cases hlt : j < N
    · have h64 : 64 * j + 64 ≤ M := by omega
      have h64b : 64 * j < M := by omega
      have hdM : decide (64 * (j : Int) < (M : Int)) = true := decide_eq_true (by omega)
      obtain ⟨⟨a0, a1, a2, a3, a4, a5, a6, a7⟩, hst⟩ : ∃ st, Hid (st = Sha.blocks Ks Hs T j) := ⟨_, Lib.hid rfl⟩
      have hok0 : Hid (Sha.St.ok ⟨a0, a1, a2, a3, a4, a5, a6, a7⟩) := Lib.hid (by rw [hst.out]; exact Sha.blocks_ok Ks Hs T Hs_ok j)
      obtain ⟨V, hV⟩ : ∃ V, Hid (V = Sha.St.list ⟨a0, a1, a2, a3, a4, a5, a6, a7⟩) := ⟨_, Lib.hid rfl⟩
      rw [← hst.out, ← hV.out] at HH
      clear hMN2
      have HL : Hid (∃ W, W.length = 64 ∧ W.take 0 = Sha.first T (64 * j) 0 ∧ RH w wr g3 g4 gb g6 cap M P V W) := Lib.hid (by obtain ⟨W, h1, h2⟩ := HH.out; exact ⟨W, h1, by simp [Sha.first], h2⟩)
      clear HH
      go_wp2
      go_loopw [8, 9] (fun s8 _ wx => ∃ i : Nat, i ≤ 16 ∧ s8 = .int .i64 (i : Int) ∧ Hid (∃ W, W.length = 64 ∧ W.take i = Sha.first T (64 * j) i ∧ RH w wx g3 g4 gb g6 cap M P V W)) (fun s8 _ _ => (16 - intOf s8).toNat)
      case atStart => exact ⟨0, by omega, rfl, HL⟩
      case round =>
        clear HL
        obtain ⟨i, hi, rfl, HL⟩ := hrel
        by_cases hli : i < 16
        · obtain ⟨W, hW1, hW2, hR⟩ := HL.out
          obtain ⟨p, hp⟩ : ∃ p : Nat, Hid (p = 64 * j + 4 * i) := ⟨_, Lib.hid rfl⟩
          have hpv : 64 * (j : Int) + 4 * (i : Int) = (p : Int) := by have := hp.out; omega
          have hpM : (p : Int) + 3 < (M : Int) := by have := hp.out; omega
          have hTp : p + 4 ≤ T.size := by have := hp.out; have := HTN.out; omega
          obtain ⟨b0, e0⟩ : ∃ b, Hid (b = (T.get! p).toNat) := ⟨_, Lib.hid rfl⟩
          obtain ⟨b1, e1⟩ : ∃ b, Hid (b = (T.get! (p + 1)).toNat) := ⟨_, Lib.hid rfl⟩
          obtain ⟨b2, e2⟩ : ∃ b, Hid (b = (T.get! (p + 2)).toNat) := ⟨_, Lib.hid rfl⟩
          obtain ⟨b3, e3⟩ : ∃ b, Hid (b = (T.get! (p + 3)).toNat) := ⟨_, Lib.hid rfl⟩
          have c0 : wr.cell? ⟨gb, p, none⟩ = some (.int .u8 (b0 : Int)) := by rw [hR.rb.cell p (by omega), HG.out p (by omega), e0.out]
          have c1 : wr.cell? ⟨gb, p + 1, none⟩ = some (.int .u8 (b1 : Int)) := by rw [hR.rb.cell (p + 1) (by omega), HG.out (p + 1) (by omega), e1.out]
          have c2 : wr.cell? ⟨gb, p + 2, none⟩ = some (.int .u8 (b2 : Int)) := by rw [hR.rb.cell (p + 2) (by omega), HG.out (p + 2) (by omega), e2.out]
          have c3 : wr.cell? ⟨gb, p + 3, none⟩ = some (.int .u8 (b3 : Int)) := by rw [hR.rb.cell (p + 3) (by omega), HG.out (p + 3) (by omega), e3.out]
          have d0 : b0 < 256 := by rw [e0.out]; exact byte_lt _
          have d1 : b1 < 256 := by rw [e1.out]; exact byte_lt _
          have d2 : b2 < 256 := by rw [e2.out]; exact byte_lt _
          have d3 : b3 < 256 := by rw [e3.out]; exact byte_lt _
          have cw := hR.r6.num (i := i) (by omega)
          have fw := hR.r6.free i
          have HR := Lib.hid hR
          have HW := Lib.hid (And.intro hW1 hW2)
          clear hW1 hW2 hR HL
          go_wp2
          have w1 : IntKind.i64.wrap ((p : Int) + 1) = (p : Int) + 1 := by rw [IntKind.wrap_i64]; omega
          have w2 : IntKind.i64.wrap ((p : Int) + 2) = (p : Int) + 2 := by rw [IntKind.wrap_i64]; omega
          have w3 : IntKind.i64.wrap ((p : Int) + 3) = (p : Int) + 3 := by rw [IntKind.wrap_i64]; omega
          have n1 : ((p : Int) + 1).toNat = p + 1 := by omega
          have n2 : ((p : Int) + 2).toNat = p + 2 := by omega
          have n3 : ((p : Int) + 3).toNat = p + 3 := by omega
          have q1 : (0 : Int) ≤ (p : Int) + 1 := by omega
          have q2 : (0 : Int) ≤ (p : Int) + 2 := by omega
          have q3 : (0 : Int) ≤ (p : Int) + 3 := by omega
          have i0 : (0 : Int) ≤ (i : Int) := by omega
          have i64 : (i : Int) < 64 := by omega
          have m0 : (p : Int) < (M : Int) := by omega
          have m1 : (p : Int) + 1 < (M : Int) := by omega
          have m2 : (p : Int) + 2 < (M : Int) := by omega
          refine wp_region_still_tail 31 (by kernel_rfl) (by kernel_rfl) ?_
          simp only [List.take_succ_cons, List.take_zero, List.drop_succ_cons, List.drop_zero]
          refine wpStill_hide (fun Q' hQ => ?_)
          have HQ := Lib.hid hQ
          clear hQ
          iterate 31 ((refine (wpStill_step (fun K hK => ?_) : wpStill _ _ _ _ (_ :: _) _)); go_simp; refine hK _ ?_; clear hK K)
          refine wpStill_nil ?_
          refine HQ.out _ ?_
          change wpList _ _ _ _ _ wr.drew
          go_wp2
          go_roundw
          case rel =>
            refine ⟨i + 1, by omega, by go_num, Lib.hid ⟨W.set i _, by rw [List.length_set]; exact HW.out.1, ?_, HR.out.drew.putW i _⟩⟩
            rw [take_put W i _ (by rw [HW.out.1]; omega), HW.out.2]
            rw [show Sha.first T (64 * j) (i + 1) = Sha.first T (64 * j) i ++ [((Sha.word T (64 * j + 4 * i) : Nat) : Int)] from rfl, ← hp.out]
            unfold Sha.word
            rw [← e0.out, ← e1.out, ← e2.out, ← e3.out]
            congr 2
            omega
          case measure => simp [intOf]; omega
        · have hi16 : Hid (i = 16) := Lib.hid (by omega)
          have HL3 : Hid (∃ W, W.length = 64 ∧ W.take 16 = Sha.sched T (64 * j) 0 ∧ RH w wr g3 g4 gb g6 cap M P V W) := Lib.hid (by
            obtain ⟨W, h1, h2, h3⟩ := HL.out
            rw [hi16.out] at h2
            exact ⟨W, h1, h2, h3⟩)
          clear HL
          go_wp2
          go_loopw [10, 11, 12] (fun s10 _ _ wx => ∃ k : Nat, 16 ≤ k ∧ k ≤ 64 ∧ s10 = .int .i64 (k : Int) ∧ Hid (∃ W, W.length = 64 ∧ W.take k = Sha.sched T (64 * j) (k - 16) ∧ RH w wx g3 g4 gb g6 cap M P V W)) (fun s10 _ _ _ => (64 - intOf s10).toNat)
          case atStart => exact ⟨16, by omega, by omega, rfl, HL3⟩
          case round =>
            clear HL3
            obtain ⟨k, hk0, hk1, rfl, HK⟩ := hrel
            by_cases hlk : k < 64
            · obtain ⟨W, hW1, hW2, hR⟩ := HK.out
              obtain ⟨l, hl⟩ : ∃ l, Hid (l = Sha.sched T (64 * j) (k - 16)) := ⟨_, Lib.hid rfl⟩
              have hlen : Hid (l.length = k) := Lib.hid (by rw [hl.out, Sha.sched_length]; omega)
              have hm : ∀ d : Nat, 0 < d → d ≤ 16 → ∃ x, Hid (x = l.getD (l.length - d) 0) ∧ wr.cell? ⟨g6, k - d, none⟩ = some (.int .u32 x) ∧ 0 ≤ x ∧ x < 4294967296 := fun d hd hd2 => by
                have h2 := hR.r6.num (i := k - d) (by omega)
                have e : W.getD (k - d) 0 = l.getD (k - d) 0 := by
                  rw [hl.out, ← hW2, List.getD_eq_getElem?_getD, List.getD_eq_getElem?_getD, List.getElem?_take, if_pos (by omega)]
                rw [e] at h2
                have h3 := Sha.sched_small T (64 * j) (k - 16) (k - d)
                rw [← hl.out] at h3
                exact ⟨_, Lib.hid (by rw [hlen.out]), h2, h3⟩
              obtain ⟨x16, e16, c16, b16⟩ := hm 16 (by omega) (by omega)
              obtain ⟨x15, e15, c15, b15⟩ := hm 15 (by omega) (by omega)
              obtain ⟨x7, e7, c7, b7⟩ := hm 7 (by omega) (by omega)
              obtain ⟨x2, e2, c2, b2⟩ := hm 2 (by omega) (by omega)
              have hc := hR.r6.num (i := k) (by omega)
              have hf := hR.r6.free k
              have HR := Lib.hid hR
              have HW := Lib.hid (And.intro hW1 hW2)
              have g16 : 16 ≤ (k : Int) := by omega
              have g15 : 15 ≤ (k : Int) := by omega
              have g7 : 7 ≤ (k : Int) := by omega
              have g2 : 2 ≤ (k : Int) := by omega
              have g64 : (k : Int) < 64 := by omega
              have f16 : (k : Int) - 16 < 64 := by omega
              have f15 : (k : Int) - 15 < 64 := by omega
              have f7 : (k : Int) - 7 < 64 := by omega
              have f2 : (k : Int) - 2 < 64 := by omega
              clear hm hW1 hW2 hR HK
              go_wp2_with fail
              go_quiet (fail)
              go_wp2_with fail
              have v16 : IntKind.i64.wrap ((k : Int) - 16) = (k : Int) - 16 := by rw [IntKind.wrap_i64]; omega
              have v7 : IntKind.i64.wrap ((k : Int) - 7) = (k : Int) - 7 := by rw [IntKind.wrap_i64]; omega
              have t16 : ((k : Int) - 16).toNat = k - 16 := by omega
              have t7 : ((k : Int) - 7).toNat = k - 7 := by omega
              refine wp_region_still_tail 29 (by kernel_rfl) (by kernel_rfl) ?_
              simp only [List.take_succ_cons, List.take_zero, List.drop_succ_cons, List.drop_zero]
              refine wpStill_hide (fun Q' hQ => ?_)
              have HQ := Lib.hid hQ
              clear hQ
              change wpStill _ _ (wr.drewN nq).drew Q' _ _
              have c16' : (wr.drewN nq).drew.cell? ⟨g6, k - 16, none⟩ = some (.int .u32 x16) := c16
              have c7' : (wr.drewN nq).drew.cell? ⟨g6, k - 7, none⟩ = some (.int .u32 x7) := c7
              iterate 6 ((refine (wpStill_step (fun K hK => ?_) : wpStill _ _ _ _ (_ :: _) _)); go_simp; refine hK _ ?_; clear hK K)
              ((refine (wpStill_step (fun K hK => ?_) : wpStill _ _ _ _ (_ :: _) _)); go_simp; refine ⟨_, (turn_any x15 7 _ b15 (by omega) (by omega)).mono (fun _ _ h => ⟨h.1, h.2.symm⟩), hK _ ?_⟩; clear hK K)
              iterate 1 ((refine (wpStill_step (fun K hK => ?_) : wpStill _ _ _ _ (_ :: _) _)); go_simp; refine hK _ ?_; clear hK K)
              ((refine (wpStill_step (fun K hK => ?_) : wpStill _ _ _ _ (_ :: _) _)); go_simp; refine ⟨_, (turn_any x15 18 _ b15 (by omega) (by omega)).mono (fun _ _ h => ⟨h.1, h.2.symm⟩), hK _ ?_⟩; clear hK K)
              iterate 11 ((refine (wpStill_step (fun K hK => ?_) : wpStill _ _ _ _ (_ :: _) _)); go_simp; refine hK _ ?_; clear hK K)
              ((refine (wpStill_step (fun K hK => ?_) : wpStill _ _ _ _ (_ :: _) _)); go_simp; refine ⟨_, (turn_any x2 17 _ b2 (by omega) (by omega)).mono (fun _ _ h => ⟨h.1, h.2.symm⟩), hK _ ?_⟩; clear hK K)
              iterate 1 ((refine (wpStill_step (fun K hK => ?_) : wpStill _ _ _ _ (_ :: _) _)); go_simp; refine hK _ ?_; clear hK K)
              ((refine (wpStill_step (fun K hK => ?_) : wpStill _ _ _ _ (_ :: _) _)); go_simp; refine ⟨_, (turn_any x2 19 _ b2 (by omega) (by omega)).mono (fun _ _ h => ⟨h.1, h.2.symm⟩), hK _ ?_⟩; clear hK K)
              iterate 6 ((refine (wpStill_step (fun K hK => ?_) : wpStill _ _ _ _ (_ :: _) _)); go_simp; refine hK _ ?_; clear hK K)
              refine wpStill_nil ?_
              refine HQ.out _ ?_
              change wpList _ _ _ _ _ (wr.drewN nq).drew
              have hc' : (wr.drewN nq).drew.cell? ⟨g6, k, none⟩ = _ := hc
              have hf' : (wr.drewN nq).drew.frozen? ⟨g6, k, none⟩ = false := hf
              go_wp2
              go_roundw
              case rel =>
                refine ⟨k + 1, by omega, by omega, by go_num, Lib.hid ⟨W.set k _, by rw [List.length_set]; exact HW.out.1, ?_, ((HR.out.drewN nq).drew).putW k _⟩⟩
                rw [take_put W k _ (by rw [HW.out.1]; omega), HW.out.2, ← hl.out]
                rw [show k + 1 - 16 = (k - 16) + 1 by omega]
                simp only [Sha.sched, ← hl.out]
                unfold Sha.more Sha.s0 Sha.s1
                rw [← e16.out, ← e15.out, ← e7.out, ← e2.out]
              case measure => simp [intOf]; omega
            · have hk64 : Hid (k = 64) := Lib.hid (by omega)
              obtain ⟨W, HW⟩ : ∃ W, Hid (W.length = 64 ∧ W = Sha.sched T (64 * j) 48 ∧ RH w wr g3 g4 gb g6 cap M P V W) := by
                obtain ⟨W, h1, h2, h3⟩ := HK.out
                rw [hk64.out, List.take_of_length_le (by omega)] at h2
                exact ⟨W, Lib.hid ⟨h1, h2, h3⟩⟩
              have hr4 := HW.out.2.2.r4
              rw [hV.out] at hr4
              have c0 : wr.cell? ⟨g4, 0, none⟩ = some (.int .u32 a0) := hr4.num (i := 0) (by show 0 < 8; omega)
              have c1 : wr.cell? ⟨g4, 1, none⟩ = some (.int .u32 a1) := hr4.num (i := 1) (by show 1 < 8; omega)
              have c2 : wr.cell? ⟨g4, 2, none⟩ = some (.int .u32 a2) := hr4.num (i := 2) (by show 2 < 8; omega)
              have c3 : wr.cell? ⟨g4, 3, none⟩ = some (.int .u32 a3) := hr4.num (i := 3) (by show 3 < 8; omega)
              have c4 : wr.cell? ⟨g4, 4, none⟩ = some (.int .u32 a4) := hr4.num (i := 4) (by show 4 < 8; omega)
              have c5 : wr.cell? ⟨g4, 5, none⟩ = some (.int .u32 a5) := hr4.num (i := 5) (by show 5 < 8; omega)
              have c6 : wr.cell? ⟨g4, 6, none⟩ = some (.int .u32 a6) := hr4.num (i := 6) (by show 6 < 8; omega)
              have c7 : wr.cell? ⟨g4, 7, none⟩ = some (.int .u32 a7) := hr4.num (i := 7) (by show 7 < 8; omega)
              clear hr4 HK
              go_wp2_with fail
              go_quiet (fail)
              go_wp2_with fail
              have HA : Hid (Sha.St.mk a0 a1 a2 a3 a4 a5 a6 a7 = Sha.rnd Ks W ⟨a0, a1, a2, a3, a4, a5, a6, a7⟩ 0 ∧ Sha.St.ok ⟨a0, a1, a2, a3, a4, a5, a6, a7⟩ ∧ RH w (wr.drewN nq) g3 g4 gb g6 cap M P V W) := Lib.hid ⟨rfl, hok0.out, HW.out.2.2.drewN _⟩
              have HWW : Hid (W.length = 64 ∧ W = Sha.sched T (64 * j) 48) := Lib.hid ⟨HW.out.1, HW.out.2.1⟩
              clear HW c0 c1 c2 c3 c4 c5 c6 c7
              go_loopw [13, 14, 15, 16, 17, 18, 19, 20, 21, 22, 23] (fun s13 s14 s15 s16 s17 s18 s19 s20 s21 _ _ wx => ∃ i : Nat, ∃ a b c d e f g h : Int, i ≤ 64 ∧ s21 = .int .i64 (i : Int) ∧ s13 = .int .u32 a ∧ s14 = .int .u32 b ∧ s15 = .int .u32 c ∧ s16 = .int .u32 d ∧ s17 = .int .u32 e ∧ s18 = .int .u32 f ∧ s19 = .int .u32 g ∧ s20 = .int .u32 h ∧ Hid (Sha.St.mk a b c d e f g h = Sha.rnd Ks W ⟨a0, a1, a2, a3, a4, a5, a6, a7⟩ i ∧ Sha.St.ok ⟨a, b, c, d, e, f, g, h⟩ ∧ RH w wx g3 g4 gb g6 cap M P V W)) (fun _ _ _ _ _ _ _ _ s21 _ _ _ => (64 - intOf s21).toNat)
              case atStart => exact ⟨0, _, _, _, _, _, _, _, _, by omega, rfl, rfl, rfl, rfl, rfl, rfl, rfl, rfl, rfl, HA⟩
              case round =>
                clear HA
                obtain ⟨i, a, b, c, d, e, f, g, h, hi, rfl, rfl, rfl, rfl, rfl, rfl, rfl, rfl, rfl, HR⟩ := hrel
                by_cases hli : i < 64
                · obtain ⟨ba, bb, bc, bd, be, bf, bg, bh⟩ := HR.out.2.1
                  obtain ⟨x, hx⟩ : ∃ x, Hid (x = W.getD i 0) := ⟨_, Lib.hid rfl⟩
                  obtain ⟨kk, hkk⟩ : ∃ kk, Hid (kk = Ks.getD i 0) := ⟨_, Lib.hid rfl⟩
                  have hWi := HR.out.2.2.r6.num (i := i) (by rw [HWW.out.1]; exact hli)
                  have hKi := HR.out.2.2.r3.num (i := i) (by show i < 64; exact hli)
                  rw [← hx.out] at hWi
                  rw [← hkk.out] at hKi
                  go_wp2_with fail
                  go_quiet ((go_at_call 61; exact still (turn_int _ _ _ be (by decide) (by decide))))
                  go_wp2_with (go_at_call 61; (with_reducible refine (turn_int _ _ _ ba (by decide) (by decide)).mono ?_); rintro e w' ⟨rfl, rfl⟩)
                  go_roundw
                  case rel =>
                    obtain ⟨n1, n2⟩ := rnd_next HR.out.1 HR.out.2.1 hkk.out hx.out
                    exact ⟨i + 1, _, _, _, _, _, _, _, _, by omega, by go_num, rfl, rfl, rfl, rfl, rfl, rfl, rfl, rfl, Lib.hid ⟨n1, n2, HR.out.2.2.drewN _⟩⟩
                  case measure => simp [intOf]; omega
                · have hi64 : Hid (i = 64) := Lib.hid (by omega)
                  have hr4 := HR.out.2.2.r4
                  rw [hV.out] at hr4
                  have c0 : wr.cell? ⟨g4, 0, none⟩ = some (.int .u32 a0) := hr4.num (i := 0) (by show 0 < 8; omega)
                  have c1 : wr.cell? ⟨g4, 1, none⟩ = some (.int .u32 a1) := hr4.num (i := 1) (by show 1 < 8; omega)
                  have c2 : wr.cell? ⟨g4, 2, none⟩ = some (.int .u32 a2) := hr4.num (i := 2) (by show 2 < 8; omega)
                  have c3 : wr.cell? ⟨g4, 3, none⟩ = some (.int .u32 a3) := hr4.num (i := 3) (by show 3 < 8; omega)
                  have c4 : wr.cell? ⟨g4, 4, none⟩ = some (.int .u32 a4) := hr4.num (i := 4) (by show 4 < 8; omega)
                  have c5 : wr.cell? ⟨g4, 5, none⟩ = some (.int .u32 a5) := hr4.num (i := 5) (by show 5 < 8; omega)
                  have c6 : wr.cell? ⟨g4, 6, none⟩ = some (.int .u32 a6) := hr4.num (i := 6) (by show 6 < 8; omega)
                  have c7 : wr.cell? ⟨g4, 7, none⟩ = some (.int .u32 a7) := hr4.num (i := 7) (by show 7 < 8; omega)
                  have hfr := fun q => hr4.free q
                  clear hr4
                  go_wp2_with fail
                  go_roundw
                  case rel =>
                    have hh := (((((((HR.out.2.2.putV 0 ((a0 + a) % 4294967296)).putV 1 ((a1 + b) % 4294967296)).putV 2 ((a2 + c) % 4294967296)).putV 3 ((a3 + d) % 4294967296)).putV 4 ((a4 + e) % 4294967296)).putV 5 ((a5 + f) % 4294967296)).putV 6 ((a6 + g) % 4294967296)).putV 7 ((a7 + h) % 4294967296)
                    have hr := HR.out.1
                    rw [hi64.out] at hr
                    rw [blocks_next hst.out HWW.out.2 hr hV.out] at hh
                    exact ⟨j + 1, by omega, by go_num, Lib.hid ⟨W, HWW.out.1, hh⟩⟩
                  case measure => simp [intOf]; omega
    · have hjN : Hid (j = N) := Lib.hid (by omega)
      have hdM : decide (64 * (j : Int) < (M : Int)) = false := decide_eq_false (by omega)
      obtain ⟨V, hV⟩ : ∃ V, Hid (V = (Sha.blocks Ks Hs T N).list) := ⟨_, Lib.hid rfl⟩
      obtain ⟨W, HO⟩ : ∃ W, Hid (RH w wr g3 g4 gb g6 cap M P V W) := by
        obtain ⟨W, h1, h2⟩ := HH.out
        rw [hjN.out, ← hV.out] at h2
        exact ⟨W, Lib.hid h2⟩
      have HV8 : Hid (V.length = 8) := Lib.hid (by rw [hV.out]; rfl)
      have HVb : Hid (∀ q, q < 8 → 0 ≤ V.getD q 0 ∧ V.getD q 0 < 4294967296) := Lib.hid (by rw [hV.out]; exact fun q hq => list_bd _ (Sha.blocks_ok Ks Hs T Hs_ok N) q hq)
      have H5 := Lib.hid (OutR.start HO.out)
      clear HH HO hMN2
      obtain ⟨gr, hgr⟩ : ∃ gr, Hid (gr = wr.heap.size) := ⟨_, Lib.hid rfl⟩
      rw [← hgr.out] at H5
      go_wp2_with fail
      rw [← hgr.out]
      go_loopw [25] (fun s25 wx => ∃ i : Nat, i ≤ 32 ∧ s25 = .int .i64 (i : Int) ∧ Hid (OutR w wx g4 gr V i)) (fun s25 _ => (32 - intOf s25).toNat)
      case atStart => exact ⟨0, by omega, rfl, H5⟩
      case round =>
        clear H5
        obtain ⟨i, hi, rfl, HR⟩ := hrel
        by_cases hli : i < 32
        · obtain ⟨q, r, hqr, hr4, hq8⟩ : ∃ q r : Nat, Hid (i = 4 * q + r) ∧ r < 4 ∧ q < 8 := ⟨i / 4, i % 4, Lib.hid (by omega), by omega, by omega⟩
          obtain ⟨y, hy⟩ : ∃ y, Hid (y = V.getD q 0) := ⟨_, Lib.hid rfl⟩
          have hyb := HVb.out q hq8
          have hc := HR.out.2.1.num (i := q) (by rw [HV8.out]; exact hq8)
          rw [← hy.out] at hyb hc
          have e1 : (i : Int).tdiv 4 = (q : Int) := by have := hqr.out; rw [Int.tdiv_eq_ediv_of_nonneg (by omega)]; omega
          have e2 : (i : Int).tmod 4 = (r : Int) := by have := hqr.out; rw [Int.tmod_eq_emod_of_nonneg (by omega)]; omega
          have hcx := HR.out.1.num (i := i) (by rw [List.length_append, List.length_take, bytesL_length, HV8.out]; simp; omega)
          have hfx := HR.out.1.free i
          go_wp2_with fail
          go_roundw
          case rel =>
            refine ⟨i + 1, by omega, by go_num, Lib.hid (HR.out.next HV8.out hli _ ?_)⟩
            rw [hqr.out, bytesL_get V q r (by rw [HV8.out]; exact hq8) hr4, putL_get4 _ r hr4, ← hy.out, show 24 - 8 * r = 8 * (3 - r) by omega]
          case measure => simp [intOf]; omega
        · have hi32 : Hid (i = 32) := Lib.hid (by omega)
          have hbl : (bytesL V).length = 32 := by rw [bytesL_length, HV8.out]
          obtain ⟨C, hC⟩ : ∃ C, Hid (C = nums .u8 (bytesL V)) := ⟨_, Lib.hid rfl⟩
          have h1 : Row wr gr 23 C := by
            have h := HR.out.1
            rw [hi32.out, List.take_of_length_le (by omega)] at h
            rw [hC.out]
            simpa using h
          have h2 := HR.out.2.2.1
          have zC : Hid (C.size = 32) := Lib.hid (by rw [hC.out, nums_size, hbl])
          have h5 : Hid ((nums .u8 (List.replicate 32 0)).size = C.size) := Lib.hid (by rw [zC.out, nums_size]; simp)
          have h3 : C.all (·.oneCell') = true := by rw [hC.out]; exact nums_one .u8 (bytesL V)
          have h6 : (Tryd.prog.info? 23).map (·.size) = some C.size := by rw [hC.out]; exact size32 (bytesL V) hbl
          clear hbl
          go_wp2_with (first
            | (refine wpList_load_row rfl 23 _ rfl gr rfl 23 _ (0, 0) _ h1 Tryd.underlying23 rfl h6 ?_)
            | (refine wpList_store_row rfl 23 _ _ rfl w.heap.size _ rfl rfl 23 _ h2 h6 h5.out h3 ?_))
          refine bodyPost_ret (results_cell_row rfl _ _ w.heap.size 23 _ (0, 0) _ rfl (h2.whole _) Tryd.underlying23 rfl h6) rfl ⟨?_, below_setRow HR.out.2.2.2.2 (Nat.le_refl _)⟩
          rw [HJ.out, ← hV.out, ← hC.out]
end Go.Proofs.YtpndccoikhejgaaDoor
