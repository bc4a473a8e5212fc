/-
  The walk of a range's Root (layer 5), of a range of some leaves: a range over a function of the library.
-/
import Derived.Test.YtfakimbneenfdaaDoorListMem
import Derived.Test.YtfakimbneenfdaaDoorRangeRoot
namespace Go.Proofs.YtfakimbneenfdaaDoor
open Go.RowKit Go.Shelf
set_option linter.unusedVariables false
set_option maxRecDepth 100000

attribute [local go_sem] Oper.semAt_some
attribute [local go_sem ↓ high] read_at write_at
theorem wpIn_gen {F : Fence} {n : Nat} {P : Program} {c : Code} {Q : Exit → Act → World → Prop} {a : Act} {w0 : World} (R : World → Prop) (hR : R w0) (h : ∀ wx, R wx → Code.wpIn F n P c Q a wx) : Code.wpIn F n P c Q a w0 := h _ hR
set_option maxHeartbeats 8000000 in
theorem rroot_more (w : World) (hT : Tab w) (s : Int) (A : Option Addr) (c : Nat) (hs : List (List Int)) (hh : hashes hs) (hA : HL w w.heap.size A hs) (hc : hs.length ≤ c) (hv : validB s hs.length = true) (hs0 : ¬ s = 0) :
    Calls Tryd.prog 15 #[.agg #[.int .i64 s, .slice A hs.length c]] w (GivesH w (rootF s hs)) := by
  obtain ⟨v0, v1, v2⟩ := validB_ones hv
  obtain ⟨n, hn⟩ : ∃ n, Hid (n = hs.length) := ⟨_, Lib.hid rfl⟩
  have hn1 : 0 < n := by rw [hn.out, v2]; exact ones_pos _ (by omega)
  have hn13 : n ≤ 13 := by rw [hn.out, v2]; exact ones_le 13 _ (by omega)
  obtain ⟨m, hm⟩ : ∃ m, Hid (n = m + 1) := ⟨n - 1, Lib.hid (by omega)⟩
  have hmn : m < hs.length := by rw [← hn.out]; have := hm.out; omega
  rw [← hn.out] at hc ⊢
  have e0 : (n : Int) - 1 = (m : Int) := by have := hm.out; omega
  have b1 : (m : Int) < (n : Int) := by omega
  have b2 : (m : Int) ≤ (c : Int) := by omega
  have b3 : m ≤ c := by omega
  have d0 : (s == 0) = false := by simpa using hs0
  obtain ⟨ad, rfl⟩ := hA.some m hmn
  have HB := Lib.hid (RootH.start w s (some ad) n c)
  have zZ : Hid ((nums .u8 (List.replicate 32 0)).size = 32) := Lib.hid (by rw [nums_size]; simp)
  have V1 : Hid (∀ W, Calls Tryd.prog 18 #[.agg #[.int .i64 s, .slice (some ad) n c]] W fun e w' => e = .returned (.bool true) ∧ Below W.heap.size W w') := Lib.hid fun W => by
    have := valid_any s (some ad) n c W
    rwa [hn.out, hv, ← hn.out] at this
  have HF : Hid (rootF s hs = (rootFold hs, 0)) := Lib.hid (rootF_ok hv)
  obtain ⟨L, hL⟩ : ∃ L, Hid (L = nums .u8 (hs.getD m [])) := ⟨_, Lib.hid rfl⟩
  have zL : Hid (L.size = 32) := Lib.hid (by rw [hL.out, nums_size]; exact (hashes_at hh m hmn).1)
  have oL : Hid (L.all (·.oneCell') = true) := Lib.hid (by rw [hL.out]; exact nums_one _ _)
  have SL : Hid (∀ W, Below w.heap.size w W → (readAt (.pointer (some (ad.add (m * 32))))).run Tryd.prog W = .ok (.agg L) W) := Lib.hid fun W hW => by
    rw [hL.out]; exact (hA.next hW (Nat.le_refl _)).read hh m hmn
  have HA := Lib.hid hA
  have HH := Lib.hid hh
  have HT := Lib.hid hT
  clear hA hh hT hv hs0 hmn v2
  refine (callsIn_wide (n := 4)).1 ?_
  refine callsIn_of_wp_marks Tryd.func15 rfl trivial ?_ rfl
  simp only [Tryd.ntmps15, List.size_toArray, List.length_cons, List.length_nil, Nat.reduceAdd, Nat.reduceSub, Array.replicate_succ, Array.replicate_zero, List.push_toArray, List.append_toArray, List.nil_append, List.cons_append]
  gi_wp2_with (first
    | (refine ⟨trivial, ?_⟩; gi_at_call 18; refine (callsIn_wide.2 (V1.out _)).mono ?_; rintro e w1 ⟨rfl, hb2⟩; have HY := Lib.hid (HB.out.next hb2); clear hb2; have c0 := HY.out.rg.cell 0; have c1 := HY.out.rg.cell 1; have s1 := SL.out _ HY.out.below; obtain ⟨w2, s2, hr2, hb2, hz2⟩ := made_write w1 L zL.out oL.out; have HR2 := Lib.hid hr2; have HZ2 := Lib.hid hz2; have HY2 := Lib.hid (HY.out.next hb2); clear hr2 hb2 hz2; have c2 := HY2.out.rg.cell 1)
    | (refine ⟨trivial, ?_⟩; gi_at_call 42; refine (callsIn_wide.2 (back_any _ _ _ _)).mono ?_; rintro e w3 ⟨rfl, rfl⟩))
  have hlm : (hs.take m).length = m := by rw [List.length_take, ← hn.out]; have := hm.out; omega
  obtain ⟨hs', hhs⟩ : ∃ hs', Hid (hs' = hs.take m) := ⟨_, Lib.hid rfl⟩
  have hlm' : Hid (hs'.length = m) := Lib.hid (by rw [hhs.out]; exact hlm)
  have HH' : Hid (hashes hs') := Lib.hid (by rw [hhs.out]; exact hashes_take HH.out m)
  obtain ⟨W0, hW0⟩ : ∃ W0, w2.alloc (.cells #[.slice (some ad) m c] 22) = W0 := ⟨_, rfl⟩
  have hbw : Below w2.heap.size w2 W0 := by rw [← hW0]; exact (Below.refl _ _).alloc (Nat.le_refl _) _
  have hz0 : W0.heap.size = w1.heap.size + 2 := by rw [← hW0]; simp; have := HZ2.out; omega
  have hzw : w.heap.size + 2 ≤ w1.heap.size := by have := HY.out.out.lt; omega
  have hBs : Row W0 (w1.heap.size + 1) 22 #[.slice (some ad) hs'.length c] := by
    have h1 := Row.made w2 22 #[.slice (some ad) m c]
    rw [hW0, HZ2.out] at h1
    rw [hlm'.out]; exact h1
  have hz2' := HZ2.out
  have hR0 : Row W0 w1.heap.size 31 L := HR2.out.next hbw
  have hRH := HY2.out.next hbw
  have hHL : HL W0 w.heap.size (some ad) hs' := by rw [hhs.out]; exact (HA.out.next hRH.below (Nat.le_refl _)).take m
  rw [hW0, hz2']
  obtain ⟨x0, hx0⟩ : ∃ x0, Hid (x0 = hs.getD m []) := ⟨_, Lib.hid rfl⟩
  have hx0i : x0.length = 32 ∧ bytes x0 := by rw [hx0.out]; exact hashes_at HH.out m (by rw [← hn.out]; have := hm.out; omega)
  have hL0 : Hid (L = nums .u8 x0) := Lib.hid (by rw [hL.out, hx0.out])
  have HFO : Hid (rootFold hs = foldB hs' x0 (List.range hs'.length).reverse) := Lib.hid (by
    rw [foldB_down hs' hs'.length (Nat.le_refl _) x0, List.take_length, hhs.out, hx0.out]
    congr 1
    have e : hs = hs.take (m + 1) := by rw [List.take_of_length_le (by rw [← hn.out, hm.out]; exact Nat.le_refl _)]
    conv => lhs; rw [e]
    rw [List.take_succ_eq_append_getElem (by rw [← hn.out]; have := hm.out; omega), List.getD_eq_getElem?_getD, List.getElem?_eq_getElem (by rw [← hn.out]; have := hm.out; omega)]; rfl)
  clear hW0 c0 c1 c2 s1 s2 hlm
  clear HY HY2 HR2 HZ2 hz2'
  refine wpIn_rangeFunc_ownH rfl (by omega) (gf := 61) (lb := #[.pointer (some ⟨w1.heap.size + 1, 0, none⟩)]) rfl trivial (enters_of Tryd.func61 (by kernel_rfl) rfl)
    (back_stops Fence.wide _ trivial rfl (by omega) (w1.heap.size + 1) w.heap.size (some ad) c hs' HH'.out (by rw [hlm'.out]; omega) W0 (by omega) hBs hHL) KeepB.trans
    (fun W l o o' hl h h1 h2 => ⟨belowK_b (by omega) W l o o' hl h h1 h2, World.putObj_heap_other (by omega)⟩) (Below.refl _ _) (fun _ => rfl)
    (fun pre W => Row W w1.heap.size 31 (nums .u8 (foldB hs' x0 (pre.map Fin.val))) ∧ RootH w W s (some ad) n c ∧ W0.heap.size ≤ W.heap.size)
    (fun _ _ _ => False)
    (fun pre X Y row h hg hr => by
      have hne : ∀ g, g < W0.heap.size → some g ≠ row := fun g hlt e => by have := (hr g e.symm).1; omega
      exact ⟨h.1.grown hg (hne _ (by omega)), ⟨h.2.1.rg.grown hg (hne _ (by omega)), h.2.1.out.grown hg (hne _ (by omega)), h.2.1.below.grown hg h.2.1.below.size (fun k e => by have := (hr k e).1; omega)⟩, Nat.le_trans h.2.2 hg.size⟩)
    (fun _ _ _ _ _ h _ _ => h)
    ⟨by show Row W0 _ _ (nums .u8 x0); rw [← hL0.out]; exact hR0, hRH, Nat.le_refl _⟩
    (fun x a' W => ∃ Bx, w1.heap.size < Bx ∧ Row W Bx 31 (nums .u8 (hs'.getD (x : Nat) [])) ∧ a' = { tmps := #[.agg #[.int .i64 s, .slice (some ad) n c], .pointer (some ⟨w.heap.size, 0, none⟩), .pointer (some ⟨w.heap.size + 1, 0, none⟩), .int .i64 0, .int .i64 (m : Int), .pointer (some ⟨w1.heap.size, 0, none⟩), undef, .pointer (some ⟨Bx, 0, none⟩), .agg #[.int .i64 s, .slice (some ad) n c], .bool true, .bool false, undef, .pointer (some ⟨w.heap.size, 0, none⟩), .int .i64 s, .bool false, undef, .pointer (some ⟨w.heap.size, 1, none⟩), .slice (some ad) n c, .int .i64 (n : Int), .int .i64 (m : Int), .pointer (some ⟨w.heap.size, 1, none⟩), .slice (some ad) n c, .int .i64 (m : Int), .pointer (some (ad.add (m * 32))), .agg L, .pointer (some ⟨w.heap.size, 1, none⟩), .slice (some ad) n c, .int .i64 (m : Int), .slice (some ad) m c, .func (.func 61) #[] #[.pointer (some ⟨w1.heap.size + 1, 0, none⟩)], .int .i64 ((x : Nat) : Int), .agg (nums .u8 (hs'.getD (x : Nat) [])), undef, undef, undef, undef], defers := [] })
    (fun x a' _ X Y row h hg hr => by
      obtain ⟨Bx, h1, h2, h3⟩ := h
      exact ⟨Bx, h1, h2.grown hg (fun e => by obtain ⟨_, o, ho, hc⟩ := hr Bx e.symm; rw [show X.heap[Bx]? = _ from h2] at ho; cases ho; cases hc), h3⟩)
    ?assign ?body ?done ?stop
  case assign =>
    rintro l pre x W K ⟨h5, hRW, hsz⟩ hK
    have hxl := hashes_at HH'.out x x.2
    obtain ⟨N, hN⟩ : ∃ N, Hid (N = nums .u8 (hs'.getD (x : Nat) [])) := ⟨_, Lib.hid rfl⟩
    obtain ⟨W2, s2, hr2, hb2, hz2⟩ := made_write W N (by rw [hN.out, nums_size]; exact hxl.1) (by rw [hN.out]; exact nums_one _ _)
    have HR2 := Lib.hid hr2
    have HB2 := Lib.hid hb2
    have H5 := Lib.hid h5
    have HRW := Lib.hid hRW
    have HK := Lib.hid hK
    clear hr2 hb2 hz2 h5 hRW hxl hK
    simp only [backE]
    rw [← hN.out]
    gi_wp2
    have hw := HRW.out.below.size
    exact HK.out _ _ ⟨HB2.out.size, fun k o _ h _ => (HB2.out.block k (Array.getElem?_eq_some_iff.1 h).1).trans h⟩ ⟨HB2.out.mono hw, HB2.out.block _ (by omega)⟩ ⟨H5.out.next HB2.out, HRW.out.next HB2.out, Nat.le_trans hsz HB2.out.size⟩ ⟨W.heap.size, H5.out.lt, by rw [← hN.out]; exact HR2.out, by rw [← hN.out]⟩
  case body =>
    rintro l pre x a' W hl ⟨r, hr⟩ ⟨h5, hRW, hsz⟩ ⟨Bx, hBx, bX, rfl⟩ hlt
    have hxl := hashes_at HH'.out x x.2
    obtain ⟨N, hN⟩ : ∃ N, Hid (N = nums .u8 (hs'.getD (x : Nat) [])) := ⟨_, Lib.hid rfl⟩
    obtain ⟨Y, hY⟩ : ∃ Y, Hid (Y = nums .u8 (foldB hs' x0 (pre.map Fin.val))) := ⟨_, Lib.hid rfl⟩
    obtain ⟨Z, hZ⟩ : ∃ Z, Hid (Z = nums .u8 (nodeL (hs'.getD (x : Nat) []) (foldB hs' x0 (pre.map Fin.val)))) := ⟨_, Lib.hid rfl⟩
    have hyl := foldB_is hs' x0 hx0i (pre.map Fin.val)
    have X3 : Hid (∀ W, Tab W → Calls Tryd.prog 36 #[.agg N, .agg Y] W fun ev w' => ev = .returned (.agg Z) ∧ Below W.heap.size W w') := Lib.hid fun W H => by
      rw [hN.out, hY.out, hZ.out]; exact node_any _ _ hxl.1 hyl.1 W H
    have zN : Hid (N.size = 32) := Lib.hid (by rw [hN.out, nums_size]; exact hxl.1)
    have zY : Hid (Y.size = 32) := Lib.hid (by rw [hY.out, nums_size]; exact hyl.1)
    have zZ' : Hid (Z.size = 32) := Lib.hid (by rw [hZ.out, nums_size]; exact (nodeL_is _ _).1)
    have oZ : Hid (Z.all (·.oneCell') = true) := Lib.hid (by rw [hZ.out]; exact nums_one _ _)
    rw [← hN.out] at bX
    rw [← hY.out] at h5
    rw [← hN.out]
    have s7 := bX.read zN.out
    have s5 := h5.read zY.out
    have HRW := Lib.hid hRW
    have H5 := Lib.hid h5
    have HTT := Lib.hid (HT.out.next hRW.below)
    have HEZ : Hid (Z = nums .u8 (foldB hs' x0 ((pre ++ [x]).map Fin.val))) := Lib.hid (by rw [hZ.out, List.map_append]; show _ = nums .u8 (foldB hs' x0 (pre.map Fin.val ++ [(x : Nat)])); rw [foldB_snoc])
    have hn1 : 1 ≤ 4 - 1 - 1 := by decide
    clear hxl hyl bX h5 hRW
    gi_wp2_with (refine ⟨trivial, ?_⟩; gi_at_call 36; refine (CallsIn.inRound l (callsIn_wide.2 (X3.out _ HTT.out))).mono ?_; rintro e w4 ⟨rfl, hb⟩; have HB4 := Lib.hid hb; clear hb s7 s5; have H54 := Lib.hid (H5.out.next HB4.out); have s3 := H54.out.write zY.out zZ'.out oZ.out)
    have hB5 : ∀ b, b ≠ w1.heap.size → b < W.heap.size → (w4.setRow w1.heap.size Z).heap[b]? = W.heap[b]? := fun b h1 h2 => (setRow_other w4 w1.heap.size b Z h1).trans (HB4.out.block b h2)
    have hs5 : (w4.setRow w1.heap.size Z).heap.size = w4.heap.size := by simp
    have hs4 := HB4.out.size
    have hw := HRW.out.below.size
    have hR4 := HRW.out.next HB4.out
    exact ⟨⟨by rw [hs5]; exact hs4, fun k o hk h _ => (hB5 k (by omega) (Array.getElem?_eq_some_iff.1 h).1).trans h⟩,
      ⟨below_setRow (HB4.out.mono hw) (by omega), hB5 _ (by omega) (by omega)⟩,
      by rw [← HEZ.out]; exact H54.out.whole Z, ⟨hR4.rg.wfar (by omega) _, hR4.out.wfar (by omega) _, below_setRow hR4.below (by omega)⟩, by rw [hs5]; omega⟩
  case done =>
    rintro D ys W hD hS ⟨h5, hRW, hsz⟩ hK
    rw [hS] at h5
    obtain ⟨Z, hZ⟩ : ∃ Z, Hid (Z = nums .u8 (foldB hs' x0 (List.range hs'.length).reverse)) := ⟨_, Lib.hid rfl⟩
    rw [← hZ.out] at h5
    have zZ' : Hid (Z.size = 32) := Lib.hid (by rw [hZ.out, nums_size]; exact (foldB_is hs' x0 hx0i _).1)
    have oZ : Hid (Z.all (·.oneCell') = true) := Lib.hid (by rw [hZ.out]; exact nums_one _ _)
    have s5 := h5.read zZ'.out
    have s2 := hRW.out.write zZ.out zZ'.out oZ.out
    have HRW := Lib.hid hRW
    have HK := Lib.hid hK
    clear h5 hRW hS hK
    gi_wp2
    have hK6 : (W.setRow (w.heap.size + 1) Z).heap[D]? = some (.deferred (some [])) := (setRow_other W (w.heap.size + 1) D Z (by omega)).trans HK.out
    refine ⟨by simp, .inl ⟨_, _, rfl, run_takeDeferred hK6, ?_⟩⟩
    refine ⟨_, results_row2 rfl _ _ (w.heap.size + 1) 31 Z (0, 0) _ rfl ((World.putObj_heap_other (by omega)).trans (HRW.out.out.whole Z)) Tryd.underlying31 rfl (sizeH _ zZ'.out) _ rfl, ?_⟩
    unfold GivesH
    rw [HF.out]
    exact ⟨by rw [hZ.out, HFO.out]; rfl, (below_setRow HRW.out.below (by omega)).trans (belowK_b (w := w) (Nat.le_refl _) _ D _ _ (by omega) hK6 rfl rfl)⟩
  case stop =>
    rintro D c pre W _ _ h _
    exact h.elim
theorem rroot_any (w : World) (hT : Tab w) (s : Int) (A : Option Addr) (c : Nat) (hs : List (List Int)) (hh : hashes hs) (hA : HL w w.heap.size A hs) (hc : hs.length ≤ c) :
    Calls Tryd.prog 15 #[.agg #[.int .i64 s, .slice A hs.length c]] w (GivesH w (rootF s hs)) := by
  cases hv : validB s hs.length with
  | false => exact rroot_few w hT s A c hs (.inl hv)
  | true =>
    by_cases h0 : s = 0
    · have h1 := (validB_ones hv).2.2
      subst h0
      rw [show (0 : Int).toNat = 0 from rfl, ones_zero] at h1
      exact rroot_few w hT 0 A c hs (.inr ⟨rfl, List.eq_nil_of_length_eq_zero h1⟩)
    · exact rroot_more w hT s A c hs hh hA hc hv h0
end Go.Proofs.YtfakimbneenfdaaDoor
