/-
  Proved: called with any text, any rough head and any three numbers, the statement HeadsGet (the signed head of any bytes is the document's, or there is none; so it is of a head's bytes of which one is another one, or some are left out, or more; of a text of more than 1000 bytes, a Sig of more than 300 bytes or a path of more than 40 hashes it asks the examples alone) returns true, and its arguments read as before. Condition: the two tables of the package sha hold what the program's text lays, which the card ties to that text.
-/
import Derived.Test.YtpndccoikhejgaaDoorPk28
import Derived.Test.YtpndccoikhejgaaDoorPk38
import Derived.Test.YtpndccoikhejgaaDoorPk06
namespace Go.Proofs.YtpndccoikhejgaaDoor
open Go.RowKit Go.Great
set_option linter.unusedVariables false
set_option maxRecDepth 100000

/-- What HeadsGet holds: a rough head, three numbers. -/
structure KpH (w : World) (C : Array Value) (A : Option Addr) (xs : List (List Int)) (AV : Array Value) (W : World) : Prop where
  row : Row W w.heap.size 29 C
  at_ : Row W (w.heap.size + 1) 46 AV
  lst : HW W A xs
  tab : Tab W
  below : Below w.heap.size w W
theorem KpH.next {w W W1 : World} {C AV : Array Value} {A : Option Addr} {xs : List (List Int)} (h : KpH w C A xs AV W) (hb : Below W.heap.size W W1) : KpH w C A xs AV W1 := ⟨h.row.next hb, h.at_.next hb, h.lst.next hb, h.tab.next hb, below_new h.below hb⟩
theorem KpH.start {w : World} (C AV : Array Value) {A : Option Addr} {xs : List (List Int)} (hA : HW w A xs) (hT : Tab w) : KpH w C A xs AV ((w.alloc (.cells C 29)).alloc (.cells AV 46)) :=
  have hb : Below w.heap.size w ((w.alloc (.cells C 29)).alloc (.cells AV 46)) := ((Below.refl _ _).alloc (Nat.le_refl _) _).alloc (by simp) _
  ⟨(Row.made _ _ _).alloc _, Row.made2 _ _ _ _, hA.next hb, hT.next hb, hb⟩
/-- Rows that stay, though the world turns. -/
theorem KpH.again {w W1 : World} {C AV : Array Value} {A : Option Addr} {xs : List (List Int)} (hA : HW w A xs) (hT : Tab w) (h1 : Row W1 w.heap.size 29 C) (h2 : Row W1 (w.heap.size + 1) 46 AV) (hb : Below w.heap.size w W1) : KpH w C A xs AV W1 := ⟨h1, h2, hA.next hb, hT.next hb, hb⟩
theorem KpH.set {w W : World} {C AV : Array Value} {A : Option Addr} {xs : List (List Int)} (h : KpH w C A xs AV W) (hA : HW w A xs) (hT : Tab w) (g : Nat) (hg : w.heap.size + 1 < g) (k : Nat) (v : Value) : KpH w C A xs AV (W.setCell ⟨g, k, none⟩ v) :=
  KpH.again hA hT (h.row.far (by show _ ≠ g; omega) _) (h.at_.far (by show _ ≠ g; omega) _) (h.below.setCell (p := ⟨g, k, none⟩) (by show _ ≤ g; omega) _)
theorem KpH.grown {w W W' : World} {C AV : Array Value} {A : Option Addr} {xs : List (List Int)} {r : Option Nat} (h : KpH w C A xs AV W) (hA : HW w A xs) (hT : Tab w) (hg : W.grownBy W' r) (hr : ∀ k, r = some k → w.heap.size + 1 < k) : KpH w C A xs AV W' :=
  KpH.again hA hT (h.row.grown hg (fun e => by have := hr _ e.symm; omega)) (h.at_.grown hg (fun e => by have := hr _ e.symm; omega)) (h.below.grown hg h.below.size (fun k e => by have := hr k e; omega))
theorem Got.free' {w : World} {B g cap : Nat} {l : List Int} {m : Nat} (h : Got w B g cap l m) (i : Nat) (hi : i < m) : w.frozen? ⟨g, i, none⟩ = false := by
  obtain ⟨_, _, h3, cur, fz, hr, hf, hc, _⟩ := h
  obtain ⟨lo, hi'⟩ := fz
  rcases hf with hf | hf
  · simp only [Prod.mk.injEq] at hf; obtain ⟨rfl, rfl⟩ := hf; exact frozen_of_row w g i cur _ hr
  · have : ¬ lo ≤ i := by simp at hf; omega
    simp [World.frozen?, hr, this]
theorem Got.set' {w : World} {B g cap : Nat} {l : List Int} {m : Nat} (h : Got w B g cap l m) (i : Nat) (x : Int) : Got (w.setCell ⟨g, i, none⟩ (.int .u8 x)) B g cap (l.set i x) m := by
  obtain ⟨h1, h2, h3, cur, fz, hr, hf, hc, ht⟩ := h
  refine ⟨by rw [List.length_set]; exact h1, h2, h3, cur.setIfInBounds i (.int .u8 x), fz, ?_, ?_, by simp [hc], ?_⟩
  · rw [setCell_eq_setRow w g i cur _ fz _ hr]; exact setRow_heap w g cur _ _ _ hr
  · simpa using hf
  · rw [Array.toList_setIfInBounds, List.take_set, ht, ← List.map_set]
theorem set_bytes {l : List Int} (h : bytes l) (k : Nat) (x : Int) (hx : 0 ≤ x ∧ x < 256) : bytes (l.set k x) := fun y hy => by
  rcases List.mem_or_eq_of_mem_set hy with hy | rfl
  · exact h y hy
  · exact hx
/-- Texts in a block. -/
structure TxH (W : World) (g : Nat) (ts : List ByteArray) : Prop where
  cell : ∀ j s, ts[j]? = some s → W.cell? ⟨g, j, none⟩ = some (.string s)
  lt : g < W.heap.size
theorem TxH.next {W W1 : World} {g : Nat} {ts : List ByteArray} (h : TxH W g ts) (hb : Below W.heap.size W W1) : TxH W1 g ts := ⟨fun j s hj => (hb.cell (p := ⟨g, j, none⟩) h.lt).trans (h.cell j s hj), Nat.lt_of_lt_of_le h.lt hb.size⟩
theorem TxH.made (w : World) (ts : List ByteArray) : TxH (w.alloc (.cells (cellsT ts).toArray 9)) w.heap.size ts :=
  ⟨fun j s hj => by rw [(Row.made w 9 (cellsT ts).toArray).cell, List.getElem?_toArray, cellsT_get, hj]; rfl, (Row.made w 9 (cellsT ts).toArray).lt⟩
attribute [local go_sem ↓ high] read_rg read_g write_g
set_option maxHeartbeats 16000000 in
theorem headsget_any (HS : HeadSays) (s : ByteArray) (hsm : s.size ≤ maxLen) (z : Int) (h64 : num64 z) (r : List Int) (hr : r.length = 32 ∧ bytes r) (i : Int) (i64 : num64 i) (t : ByteArray) (htm : t.size ≤ maxLen) (m : Int) (hm : -128 ≤ m ∧ m ≤ 127) (xs : List (List Int)) (hxs : hashes xs) (A : Option Addr) (c : Nat) (hc : xs.length ≤ c) (hcm : c ≤ maxLen) (a0 a1 a2 : Int) (b0 : 0 ≤ a0 ∧ a0 ≤ 65535) (b1 : 0 ≤ a1 ∧ a1 ≤ 65535) (b2 : 0 ≤ a2 ∧ a2 ≤ 65535) (w : World) (hA : HW w A xs) (hT : Tab w) :
    Calls Tryd.prog 4 #[.string s, .agg (roughV z r i t m A xs.length c), .agg (nums .u16 [a0, a1, a2])] w fun e w' => e = .returned (.bool true) ∧ Below w.heap.size w w' := by
  have KED : Hid (∀ W, Tab W → Calls Tryd.prog 8 #[] W fun e w' => e = .returned (.bool true) ∧ Below W.heap.size W w') := Lib.hid fun W h => headed_any HS W h
  obtain ⟨n, hn⟩ : ∃ n, Hid (n = xs.length) := ⟨_, Lib.hid rfl⟩
  rw [← hn.out]
  obtain ⟨C, hC⟩ : ∃ C, Hid (C = roughV z r i t m A n c) := ⟨_, Lib.hid rfl⟩
  obtain ⟨AV, hAV⟩ : ∃ C, Hid (C = nums .u16 [a0, a1, a2]) := ⟨_, Lib.hid rfl⟩
  have GO : Hid (∀ W g, Row W g 29 C → (readRg (.pointer (some ⟨g, 0, none⟩))).run Tryd.prog W = .ok (.agg C) W) := Lib.hid fun W g h => by rw [hC.out] at h ⊢; exact rough_all h hr.1
  have GA : Hid (∀ W g, Row W g 46 AV → W.cell? ⟨g, 0, none⟩ = some (.int .u16 a0) ∧ W.cell? ⟨g, 1, none⟩ = some (.int .u16 a1) ∧ W.cell? ⟨g, 2, none⟩ = some (.int .u16 a2)) := Lib.hid fun W g h => by rw [hAV.out] at h; exact ⟨h.cell 0, h.cell 1, h.cell 2⟩
  have H0 := Lib.hid (KpH.start C AV hA hT)
  have HA0 := Lib.hid hA
  have HTB := Lib.hid hT
  rw [← hC.out, ← hAV.out]
  clear hA hT
  by_cases h0 : 1000 < s.size
  · have d0 : decide ((1000 : Int) < (s.size : Int)) = true := decide_eq_true (by omega)
    clear h0 hm hr hxs hc hcm
    go_enter Tryd.func4, Tryd.ntmps4
    go_upto_region 1 with fail
    refine world_gen (fun X => KpH w C A xs AV X) H0.out (fun X HX => ?_)
    have HX := Lib.hid HX
    clear H0
    have l0 := GO.out _ _ HX.out.row
    go_wp2_with (go_at_call 8; (with_reducible refine (KED.out _ HX.out.tab).mono ?_); rintro e wz ⟨rfl, hb⟩; have HB := Lib.hid (below_new HX.out.below hb); clear hb)
    go_ret
    exact ⟨rfl, HB.out⟩
  have d0 : decide ((1000 : Int) < (s.size : Int)) = false := decide_eq_false (by omega)
  by_cases h1 : 300 < t.size ∨ 40 < n
  · have XGR : Hid (∀ W, Calls Tryd.prog 7 #[.agg C] W fun e w' => e = .returned (.bool true) ∧ Below W.heap.size W w') := Lib.hid fun W => by
      have := great_any z r hr.1 i t m A n c W
      rw [decide_eq_true h1] at this
      rw [hC.out]; exact this
    clear h1 hm hr hxs hc hcm
    go_enter Tryd.func4, Tryd.ntmps4
    go_upto_region 1 with fail
    refine world_gen (fun X => KpH w C A xs AV X) H0.out (fun X HX => ?_)
    have HX := Lib.hid HX
    clear H0
    have l0 := GO.out _ _ HX.out.row
    go_wp2_with (first
      | (go_at_call 7; (with_reducible refine (XGR.out _).mono ?_); rintro e w1 ⟨rfl, hb⟩; have H1 := Lib.hid (HX.out.next hb); clear hb)
      | (go_at_call 8; (with_reducible refine (KED.out _ H1.out.tab).mono ?_); rintro e wz ⟨rfl, hb⟩; have HB := Lib.hid (below_new H1.out.below hb); clear hb))
    go_ret
    exact ⟨rfl, HB.out⟩
  have XGR : Hid (∀ W, Calls Tryd.prog 7 #[.agg C] W fun e w' => e = .returned (.bool false) ∧ Below W.heap.size W w') := Lib.hid fun W => by
    have := great_any z r hr.1 i t m A n c W
    rw [decide_eq_false h1] at this
    rw [hC.out]; exact this
  have XSG : Hid (∀ W, HW W A xs → Calls Tryd.prog 9 #[.agg C] W fun e w' => ∃ x : Sh, (x.fits ∧ x.path = xs) ∧ e = .returned (.agg (shV x A c)) ∧ Below W.heap.size W w') := Lib.hid fun W _ => by
    rw [hC.out]
    refine (signed_any z r hr.1 i t (by omega) m hm A n c W).mono ?_
    rintro e w' ⟨sg, _, h2, h3⟩
    exact ⟨⟨z, r, i, sg, xs⟩, ⟨⟨hr, hxs⟩, rfl⟩, by rw [h2, hn.out]; rfl, h3⟩
  have XP : Hid (∀ (x : Sh) W, x.fits → x.path = xs → HW W A xs → Calls Tryd.prog 11 #[.agg (shV x A c)] W fun e w' => e = .returned (.tuple #[.string (putF x).1, .int .i64 (putF x).2]) ∧ Below W.heap.size W w') := Lib.hid fun x W h1 h2 h3 => refHeadPut_any x h1 A c W (by rw [h2]; exact h3)
  obtain ⟨ZS, hZS⟩ : ∃ C, Hid (C = signedV 0 zeroL 0 ⟨#[]⟩ none 0 0) := ⟨_, Lib.hid rfl⟩
  have zZ : Hid (ZS.size = 36 ∧ ZS.all (·.oneCell') = true) := Lib.hid (by rw [hZS.out]; exact ⟨signedV_size _ _ _ _ _ _ _ zeroL_is.1, signedV_one _ _ _ _ _ _ _⟩)
  have GZ : Hid (∀ W g, Row W g 34 ZS → (readG (.pointer (some ⟨g, 0, none⟩))).run Tryd.prog W = .ok (.agg ZS) W) := Lib.hid fun W g h => by rw [hZS.out] at h ⊢; exact signed_all h zeroL_is.1
  have zf : Hid ((⟨0, zeroL, 0, ⟨#[]⟩, []⟩ : Sh).fits) := Lib.hid ⟨zeroL_is, fun l hl => by cases hl⟩
  have SMZ : Hid (∀ W, Calls Tryd.prog 24 #[.agg ZS, .agg ZS] W fun e w' => e = .returned (.bool true) ∧ Below W.heap.size W w') := Lib.hid fun W => by
    have := lawHeadSame_any ⟨0, zeroL, 0, ⟨#[]⟩, []⟩ ⟨0, zeroL, 0, ⟨#[]⟩, []⟩ zf.out zf.out (Nat.zero_le _) (Nat.zero_le _) none none 0 0 W (HL.nil _ _ _) (HL.nil _ _ _)
    rw [decide_eq_true ((sameP_iff _ _).2 rfl)] at this
    rw [hZS.out]; exact this
  have hs1k : s.size ≤ 1000 := by omega
  clear h64 i64 htm hcm hc hxs hr hm h0 h1 hsm
  go_enter Tryd.func4, Tryd.ntmps4
  go_upto_region 1 with fail
  refine world_gen (fun X => KpH w C A xs AV X) H0.out (fun X HX => ?_)
  have HX := Lib.hid HX
  clear H0
  have l0 := GO.out _ _ HX.out.row
  go_upto_region 3 with (go_at_call 7; (with_reducible refine (XGR.out _).mono ?_); rintro e w1 ⟨rfl, hb⟩; have H1 := Lib.hid (HX.out.next hb); clear hb)
  clear l0
  have l1 := GO.out _ _ H1.out.row
  go_upto_region 4 with (first
    | (go_at_call 9; (with_reducible refine (XSG.out _ H1.out.lst).mono ?_); rintro e w2 ⟨x, hx, rfl, hb⟩; have H2 := Lib.hid (H1.out.next hb); have HXF := Lib.hid hx; clear hb hx)
    | (go_at_call 11; (with_reducible refine (XP.out x _ HXF.out.1 HXF.out.2 H2.out.lst).mono ?_); rintro e w3 ⟨rfl, hb⟩; have H3 := Lib.hid (H2.out.next hb); clear hb))
  clear l1 H1 H2 HX
  have hT2 : (putF x).1.size ≤ 20000 := by
    unfold putF
    split
    · rename_i ho; exact (headS_bounds x HXF.out.1 ho).2
    · exact Nat.zero_le _
  obtain ⟨T, hT⟩ : ∃ T, Hid (T = (putF x).1) := ⟨_, Lib.hid rfl⟩
  rw [← hT.out] at hT2 ⊢
  have jn := join_text T s (Nat.le_trans (Nat.add_le_add hT2 hs1k) (by decide))
  obtain ⟨v0, hv0⟩ : ∃ v0 : Nat, a0 = (v0 : Int) := ⟨a0.toNat, by omega⟩
  subst hv0
  obtain ⟨q, hq⟩ : ∃ q, Hid (q = v0 % (T.size + 1)) := ⟨_, Lib.hid rfl⟩
  have q1 : q < T.size + 1 := by rw [hq.out]; exact Nat.mod_lt _ (by omega)
  have q2 : (v0 : Int).tmod ((T.size : Int) + 1) = (q : Int) := by rw [hq.out]; exact rem_nat v0 (T.size + 1)
  have q3 : (q : Int) ≤ (T.size : Int) := by omega
  have q3b : q ≤ T.size := by omega
  have q4 : (0 : Int) ≤ (q : Int) := by omega
  have k1 : IntKind.i64.wrap (v0 : Int) = (v0 : Int) := by rw [IntKind.wrap_i64]; omega
  have k2 : wrap64 (v0 : Int) = (v0 : Int) := by unfold wrap64; omega
  have q5 : IntKind.i64.wrap (q : Int) = (q : Int) := by rw [IntKind.wrap_i64]; omega
  have q6 : wrap64 (q : Int) = (q : Int) := by unfold wrap64; omega
  have q7 : (T.size : Int) + 1 ≠ 0 := by omega
  have q8 : IntKind.i64.wrap ((T.size : Int) + 1) = (T.size : Int) + 1 := by rw [IntKind.wrap_i64]; omega
  have q9 : wrap64 ((T.size : Int) + 1) = (T.size : Int) + 1 := by unfold wrap64; omega
  have q10 : (((T.size : Int) + 1) == 0) = false := by rw [beq_eq_false_iff_ne]; exact q7
  obtain ⟨c0, c1, c2⟩ := GA.out _ _ H3.out.at_
  obtain ⟨ts, hts⟩ : ∃ ts, Hid (ts = [s, T, T ++ s, T.extract 0 q]) := ⟨_, Lib.hid rfl⟩
  go_upto_region 5 with (refine wpList_buildTexts rfl 4 _ rfl [s, T, T ++ s, T.extract 0 q] rfl (by decide) (by decide) rfl ?_)
  obtain ⟨wt, hwt⟩ : ∃ W, W = w3.alloc (.cells (cellsT [s, T, T ++ s, T.extract 0 q]).toArray 9) := ⟨_, rfl⟩
  have HR0 := Lib.hid (Row.made w3 9 (cellsT [s, T, T ++ s, T.extract 0 q]).toArray)
  have HT0 := Lib.hid (TxH.made w3 [s, T, T ++ s, T.extract 0 q])
  have HL0 := Lib.hid (H3.out.next ((Below.refl w3.heap.size w3).alloc (Nat.le_refl _) (.cells (cellsT [s, T, T ++ s, T.extract 0 q]).toArray 9)))
  obtain ⟨gt, hg⟩ : ∃ g, g = w3.heap.size := ⟨_, rfl⟩
  rw [← hwt, ← hg] at HT0 HR0
  rw [← hwt] at HL0 ⊢
  rw [← hg] at ⊢
  rw [← hts.out] at HT0 HR0
  have HSZ : Hid (∀ u ∈ ts, u.size ≤ maxLen) := Lib.hid (by
    have e1 : s.size ≤ maxLen := Nat.le_trans hs1k (by decide)
    have e2 : T.size ≤ maxLen := Nat.le_trans hT2 (by decide)
    have e3 : (T ++ s).size ≤ maxLen := by rw [ByteArray.size_append]; exact Nat.le_trans (Nat.add_le_add hT2 hs1k) (by decide)
    rw [hts.out]
    intro u hu
    simp only [List.mem_cons, List.not_mem_nil, or_false] at hu
    rcases hu with rfl | rfl | rfl | rfl
    · exact e1
    · exact e2
    · exact e3
    · exact front_le _ _ e2)
  have hn4 : Hid (4 = ts.length) := Lib.hid (by rw [hts.out]; rfl)
  have LT3 : Hid (w.heap.size + 1 < gt) := Lib.hid (by rw [hg]; exact H3.out.at_.lt)
  have OW : Hid (∀ W, Row W gt 9 (cellsT ts).toArray → W.ownsRow gt 9 1 (.slice (some ⟨gt, 0, none⟩) 4 4) 4 (cellsT ts)) := Lib.hid fun W h => by
    have := own_texts h (Nat.le_refl _) (by rw [← hn4.out]; decide)
    rw [← hn4.out] at this
    exact this
  have OB : Hid (∀ k, (Value.slice (some ⟨gt, 0, none⟩) 4 4).ownBlock = some k → w.heap.size + 1 < k) := Lib.hid fun k e => by
    have e2 : gt = k := by simpa [Value.ownBlock] using e
    rw [← e2]; exact LT3.out
  have T0 : Hid (∀ u, (ts ++ [u])[0]? = some s) := Lib.hid fun u => by rw [hts.out]; rfl
  clear hwt hg H3 c0 c1 c2 jn q1 q2 q3 q3b q4 k1 k2 q5 q6 q7 q8 q9 q10
  by_cases t0 : T.size = 0
  · have t1 : decide ((0 : Int) < (T.size : Int)) = false := decide_eq_false (by omega)
    have t2 : decide (0 < T.size) = false := decide_eq_false (by omega)
    have t3 : ¬ 0 < T.size := by omega
    have t4 : ¬ (0 : Int) < (T.size : Int) := by omega
    clear hT2 hs1k t0
    go_wp2
    go_loopw [12] (fun s12 wr => ∃ k : Nat, s12 = .int .i64 (k : Int) ∧ k ≤ 4 ∧ Hid (KpH w C A xs AV wr) ∧ Hid (TxH wr gt ts)) (fun s12 _ => (4 - intOf s12).toNat)
    case atStart => exact ⟨0, rfl, Nat.zero_le _, HL0, HT0⟩
    case round =>
      clear HL0 HT0
      obtain ⟨k, rfl, hk, HX, HTX⟩ := hrel
      by_cases hlt : k < 4
      · obtain ⟨u, hu⟩ : ∃ u, ts[k]? = some u := ⟨_, List.getElem?_eq_getElem (by rw [← hn4.out]; exact hlt)⟩
        have hum : u.size ≤ maxLen := HSZ.out u (List.mem_of_getElem? hu)
        have c0 := HTX.out.cell k u hu
        have XG1 := Lib.hid (fun W (h : Tab W) => HS.get u W h hum)
        have XG2 := Lib.hid (fun W => refHeadGet_any u hum W)
        rcases hg : getF u with _ | y
        · rw [hg] at XG1 XG2
          have YG1 : Hid (∀ W, Tab W → Calls Tryd.prog 22 #[.string u] W fun e w' => e = .returned (.tuple #[.agg ZS, .int .i64 10]) ∧ Below W.heap.size W w') := Lib.hid fun W h => by rw [hZS.out]; exact XG1.out W h
          have YG2 : Hid (∀ W, Calls Tryd.prog 23 #[.string u] W fun e w' => e = .returned (.tuple #[.agg ZS, .int .i64 10]) ∧ Below W.heap.size W w') := Lib.hid fun W => by rw [hZS.out]; exact XG2.out W
          clear XG1 XG2 hg
          go_upto_region 16 with (go_at_call 22; (with_reducible refine (YG1.out _ HX.out.tab).mono ?_); rintro e w6 ⟨rfl, hb⟩; have H6 := Lib.hid (HX.out.next hb); have T6 := Lib.hid (HTX.out.next hb); clear hb; obtain ⟨w7, s7, hr7, hb7⟩ := made_signed w6 ZS zZ.out.1 zZ.out.2; rw [← signed_zero] at s7)
          obtain ⟨g7, hg⟩ : ∃ g, g = w6.heap.size := ⟨_, rfl⟩
          rw [← hg] at hr7 ⊢
          have H7 := Lib.hid (H6.out.next hb7)
          have T7 := Lib.hid (T6.out.next hb7)
          have P7 := Lib.hid hr7
          have c1 := T7.out.cell k u hu
          clear s7 hr7 hb7 hg H6 T6 c0
          go_upto_region 17 with (go_at_call 23; (with_reducible refine (YG2.out _).mono ?_); rintro e w8 ⟨rfl, hb⟩; have H8 := Lib.hid (H7.out.next hb); have T8 := Lib.hid (T7.out.next hb); have P8 := Lib.hid (P7.out.next hb); clear hb; obtain ⟨w9, s9, hr9, hb9⟩ := made_signed w8 ZS zZ.out.1 zZ.out.2; rw [← signed_zero] at s9)
          obtain ⟨g9, hg⟩ : ∃ g, g = w8.heap.size := ⟨_, rfl⟩
          rw [← hg] at hr9 ⊢
          have H9 := Lib.hid (H8.out.next hb9)
          have T9 := Lib.hid (T8.out.next hb9)
          have l1 := GZ.out _ _ (P8.out.next hb9)
          have l2 := GZ.out _ _ hr9
          clear s9 hr9 hb9 hg H7 T7 P7 H8 T8 P8 c1
          go_wp2_with (go_at_call 24; (with_reducible refine (SMZ.out _).mono ?_); rintro e wd ⟨rfl, hb⟩; have HD := Lib.hid (H9.out.next hb); have TD := Lib.hid (T9.out.next hb); clear hb)
          go_roundw
          case rel => exact ⟨k + 1, by go_num, by omega, HD, TD⟩
          case measure => simp [intOf]; omega
        · rw [hg] at XG1 XG2
          have hyf := (get_form hg).2
          have y3 : y.path.length = 3 := hyf.2.2.2.2
          have SMY : Hid (∀ W B d B2 d2, HW W B y.path → HW W B2 y.path → Calls Tryd.prog 24 #[.agg (shV y B d), .agg (shV y B2 d2)] W fun e w' => e = .returned (.bool true) ∧ Below W.heap.size W w') := Lib.hid fun W B d B2 d2 h1 h2 => by
            have := lawHeadSame_any y y hyf.1 hyf.1 (by omega) (by omega) B B2 d d2 W h1 h2
            rw [decide_eq_true ((sameP_iff y y).2 rfl)] at this
            exact this
          have YG1 : Hid (∀ W, Tab W → Calls Tryd.prog 22 #[.string u] W fun e w' => ∃ B d, e = .returned (.tuple #[.agg (shV y B d), .int .i64 0]) ∧ HW w' B y.path ∧ Below W.heap.size W w') := Lib.hid fun W h => (XG1.out W h).mono (by rintro e w' ⟨B, d, e1, _, e3, e4⟩; exact ⟨B, d, e1, e3, e4⟩)
          have YG2 : Hid (∀ W, Calls Tryd.prog 23 #[.string u] W fun e w' => ∃ B d, e = .returned (.tuple #[.agg (shV y B d), .int .i64 0]) ∧ HW w' B y.path ∧ Below W.heap.size W w') := Lib.hid fun W => (XG2.out W).mono (by rintro e w' ⟨B, d, e1, _, e3, e4⟩; exact ⟨B, d, e1, e3, e4⟩)
          have x36 : Hid (∀ B d, (shV y B d).size = 36 ∧ (shV y B d).all (·.oneCell') = true) := Lib.hid fun B d => ⟨signedV_size _ _ _ _ _ _ _ hyf.1.1.1, signedV_one _ _ _ _ _ _ _⟩
          have GX : Hid (∀ B d W g, Row W g 34 (shV y B d) → (readG (.pointer (some ⟨g, 0, none⟩))).run Tryd.prog W = .ok (.agg (shV y B d)) W) := Lib.hid fun B d W g h => signed_all h hyf.1.1.1
          clear XG1 XG2 hg hyf y3
          go_upto_region 16 with (go_at_call 22; (with_reducible refine (YG1.out _ HX.out.tab).mono ?_); rintro e w6 ⟨B, d, rfl, hB, hb⟩; have H6 := Lib.hid (HX.out.next hb); have T6 := Lib.hid (HTX.out.next hb); have B6 := Lib.hid hB; clear hb hB; obtain ⟨XV1, hXV⟩ : ∃ C, Hid (C = shV y B d) := ⟨_, Lib.hid rfl⟩; obtain ⟨w7, s7, hr7, hb7⟩ := made_signed w6 XV1 (by rw [hXV.out]; exact (x36.out B d).1) (by rw [hXV.out]; exact (x36.out B d).2); rw [← signed_zero] at s7; rw [← hXV.out])
          obtain ⟨g7, hg⟩ : ∃ g, g = w6.heap.size := ⟨_, rfl⟩
          rw [← hg] at hr7 ⊢
          have H7 := Lib.hid (H6.out.next hb7)
          have T7 := Lib.hid (T6.out.next hb7)
          have B7 := Lib.hid (B6.out.next hb7)
          have P7 := Lib.hid hr7
          have c1 := T7.out.cell k u hu
          clear s7 hr7 hb7 hg H6 T6 B6 c0
          go_upto_region 17 with (go_at_call 23; (with_reducible refine (YG2.out _).mono ?_); rintro e w8 ⟨B2, d2, rfl, hB, hb⟩; have H8 := Lib.hid (H7.out.next hb); have T8 := Lib.hid (T7.out.next hb); have P8 := Lib.hid (P7.out.next hb); have B8 := Lib.hid (B7.out.next hb); have D8 := Lib.hid hB; clear hb hB; obtain ⟨XV2, hXV2⟩ : ∃ C, Hid (C = shV y B2 d2) := ⟨_, Lib.hid rfl⟩; obtain ⟨w9, s9, hr9, hb9⟩ := made_signed w8 XV2 (by rw [hXV2.out]; exact (x36.out B2 d2).1) (by rw [hXV2.out]; exact (x36.out B2 d2).2); rw [← signed_zero] at s9; rw [← hXV2.out])
          obtain ⟨g9, hg⟩ : ∃ g, g = w8.heap.size := ⟨_, rfl⟩
          rw [← hg] at hr9 ⊢
          have H9 := Lib.hid (H8.out.next hb9)
          have T9 := Lib.hid (T8.out.next hb9)
          have G1 : Hid (∀ W g, Row W g 34 XV1 → (readG (.pointer (some ⟨g, 0, none⟩))).run Tryd.prog W = .ok (.agg XV1) W) := Lib.hid fun W g h => by rw [hXV.out] at h ⊢; exact GX.out B d W g h
          have G2 : Hid (∀ W g, Row W g 34 XV2 → (readG (.pointer (some ⟨g, 0, none⟩))).run Tryd.prog W = .ok (.agg XV2) W) := Lib.hid fun W g h => by rw [hXV2.out] at h ⊢; exact GX.out B2 d2 W g h
          have l1 := G1.out _ _ (P8.out.next hb9)
          have l2 := G2.out _ _ hr9
          have SM := Lib.hid (SMY.out w9 B d B2 d2 (B8.out.next hb9) (D8.out.next hb9))
          rw [← hXV.out, ← hXV2.out] at SM
          clear s9 hr9 hb9 hg H7 T7 P7 B7 H8 T8 P8 B8 D8 c1
          go_wp2_with (go_at_call 24; (with_reducible refine SM.out.mono ?_); rintro e wd ⟨rfl, hb⟩; have HD := Lib.hid (H9.out.next hb); have TD := Lib.hid (T9.out.next hb); clear hb)
          go_roundw
          case rel => exact ⟨k + 1, by go_num, by omega, HD, TD⟩
          case measure => simp [intOf]; omega
      · go_wp2_with (go_at_call 8; (with_reducible refine (KED.out _ HX.out.tab).mono ?_); rintro e wz ⟨rfl, hb⟩; have HB := Lib.hid (below_new HX.out.below hb); clear hb)
        go_ret
        exact ⟨rfl, HB.out⟩
  · have t1 : decide ((0 : Int) < (T.size : Int)) = true := decide_eq_true (by omega)
    have t2 : decide (0 < T.size) = true := decide_eq_true (by omega)
    have t3 : 0 < T.size := by omega
    have t4 : (0 : Int) < (T.size : Int) := by omega
    obtain ⟨wb, cap, cv, hG, hBl⟩ := conv_text wt T
    have H6 := Lib.hid (HL0.out.next hBl.out)
    have R6 := Lib.hid (HR0.out.next hBl.out)
    have G6 : Hid (Got wb wt.heap.size wt.heap.size cap (textL T) T.size) := Lib.hid hG.out
    have LT6 : Hid (gt < wt.heap.size) := Lib.hid HT0.out.lt
    go_upto_region 7 with fail
    obtain ⟨g10, hg10⟩ : ∃ g, g = wt.heap.size := ⟨_, rfl⟩
    rw [← hg10] at G6 LT6 ⊢
    clear cv hg10 hG hBl HT0 HL0 HR0 t1 t2 t0
    obtain ⟨c0, c1, c2⟩ := GA.out _ _ H6.out.at_
    obtain ⟨p, hp⟩ : ∃ p, Hid (p = v0 % T.size) := ⟨_, Lib.hid rfl⟩
    have p1 : p < T.size := by rw [hp.out]; exact Nat.mod_lt _ t3
    have p2 : (v0 : Int).tmod (T.size : Int) = (p : Int) := by rw [hp.out]; exact rem_nat v0 T.size
    have k1 : IntKind.i64.wrap (v0 : Int) = (v0 : Int) := by rw [IntKind.wrap_i64]; omega
    have k2 : wrap64 (v0 : Int) = (v0 : Int) := by unfold wrap64; omega
    have p3 : IntKind.i64.wrap (p : Int) = (p : Int) := by rw [IntKind.wrap_i64]; omega
    have p4 : wrap64 (p : Int) = (p : Int) := by unfold wrap64; omega
    have p5 : (T.size : Int) ≠ 0 := by omega
    have p6 : ((T.size : Int) == 0) = false := by rw [beq_eq_false_iff_ne]; exact p5
    obtain ⟨v2, hv2⟩ : ∃ v2 : Nat, a2 = (v2 : Int) := ⟨a2.toNat, by omega⟩
    subst hv2
    have z3 := hT2
    have z5 := p1
    go_upto_region 8 with fail
    clear k1 k2 p2 t3 t4
    rcases (show v2 % 2 = 0 ∨ v2 % 2 = 1 by omega) with hd | hd
    · have e2 : (v2 : Int).tmod 2 = 0 := by have := rem_nat v2 2; rw [hd] at this; exact this
      obtain ⟨k, hk⟩ : ∃ k, Hid (k = p % 60) := ⟨_, Lib.hid rfl⟩
      have b4 : k < T.size := by rw [hk.out]; exact Nat.lt_of_le_of_lt (Nat.mod_le _ _) p1
      have e3 : (p : Int).tmod 60 = (k : Int) := by rw [hk.out]; exact rem_nat p 60
      have e4 : IntKind.i64.wrap (k : Int) = (k : Int) := by rw [IntKind.wrap_i64]; omega
      have e5 : wrap64 (k : Int) = (k : Int) := by unfold wrap64; omega
      go_upto_region 10 with fail
      clear e2 e3 e4 e5 hd hk
      have b1 : (k : Int) < (T.size : Int) := by omega
      have b2 : ¬ (T.size : Int) ≤ (k : Int) := by omega
      have b3 : (0 : Int) ≤ (k : Int) := by omega
      have b5 : ¬ (k : Int) < 0 := by omega
      have cT := G6.out.cell k b4
      have fT := G6.out.free' k b4
      go_upto_region 11 with fail
      refine world_gen (fun X => ∃ x, (0 ≤ x ∧ x < 256) ∧ KpH w C A xs AV X ∧ Row X gt 9 (cellsT ts).toArray ∧ Got X g10 g10 cap ((textL T).set k x) T.size) ⟨_, by omega, H6.out.set HA0.out HTB.out g10 (Nat.lt_trans LT3.out LT6.out) k _, R6.out.far (by show gt ≠ g10; exact Nat.ne_of_lt LT6.out) _, G6.out.set' k _⟩ (fun X HXX => ?_)
      obtain ⟨x, hx, h1, h2, h3⟩ := HXX
      have HXK := Lib.hid h1
      have HXR := Lib.hid h2
      obtain ⟨u, hu⟩ : ∃ u, Hid (u = strOfNums ((textL T).set k x)) := ⟨_, Lib.hid rfl⟩
      have hus : Hid (u.size = T.size) := Lib.hid (by rw [hu.out, strOfNums_size, List.length_set, textL_length])
      have cv2 := h3.text
      rw [← hu.out] at cv2
      have HU := Lib.hid (Row.made X 9 (cellsT [u]).toArray)
      have HOWN := Lib.hid (OW.out _ (HXR.out.alloc (.cells (cellsT [u]).toArray 9)))
      have HXA := Lib.hid (HXK.out.next ((Below.refl X.heap.size X).alloc (Nat.le_refl _) (.cells (cellsT [u]).toArray 9)))
      have HSL : Hid (gt ≤ (X.alloc (.cells (cellsT [u]).toArray 9)).heap.size) := Lib.hid (by have := HXR.out.lt; simp; omega)
      clear h1 h2 h3 hx b1 b2 b3 b5 cT fT H6 R6 G6 LT6 p1 p3 p4 p5 p6 z3 z5 c0 c1 c2 HXK HXR
      go_upto_region 12 with (first
        | (refine wpList_buildTexts rfl 1 _ rfl [u] rfl (by decide) (by decide) rfl ?_)
        | (refine wpList_appendText rfl _ _ rfl gt _ 4 ts rfl HOWN.out X.heap.size u rfl HU.out (by decide) HSL.out ?_; intro v' w' ho hgr; obtain ⟨hl5, g5, cap5, hv5, hB5, hc5, hm5, hcell⟩ := own_text ho (by decide); subst hv5; have HL5 := Lib.hid (HXA.out.grown HA0.out HTB.out hgr OB.out); have HT5 : Hid (TxH w' g5 (ts ++ [u])) := Lib.hid ⟨hcell, block_lt_of_cell (hcell 0 _ (T0.out u))⟩; clear hcell ho hgr hB5 hc5 hm5 hl5))
      clear cv2 HU HOWN HXA HSL
      obtain ⟨t5, ht5⟩ : ∃ l, Hid (l = ts ++ [u]) := ⟨_, Lib.hid rfl⟩
      rw [← ht5.out] at HT5
      have hn5 : Hid (5 = t5.length) := Lib.hid (by rw [ht5.out, List.length_append, ← hn4.out]; rfl)
      have HSZ5 : Hid (∀ u ∈ t5, u.size ≤ maxLen) := Lib.hid (by
        rw [ht5.out]
        intro z hz
        rcases List.mem_append.1 hz with hz | hz
        · exact HSZ.out z hz
        · rw [List.mem_singleton.1 hz, hus.out]; exact Nat.le_trans hT2 (by decide))
      clear hus hu
      go_wp2
      go_loopw [12] (fun s12 wr => ∃ k : Nat, s12 = .int .i64 (k : Int) ∧ k ≤ 5 ∧ Hid (KpH w C A xs AV wr) ∧ Hid (TxH wr g5 t5)) (fun s12 _ => (5 - intOf s12).toNat)
      case atStart => exact ⟨0, rfl, Nat.zero_le _, HL5, HT5⟩
      case round =>
        clear HL5 HT5
        obtain ⟨k, rfl, hk, HX, HTX⟩ := hrel
        by_cases hlt : k < 5
        · obtain ⟨u, hu⟩ : ∃ u, t5[k]? = some u := ⟨_, List.getElem?_eq_getElem (by rw [← hn5.out]; exact hlt)⟩
          have hum : u.size ≤ maxLen := HSZ5.out u (List.mem_of_getElem? hu)
          have c0 := HTX.out.cell k u hu
          have XG1 := Lib.hid (fun W (h : Tab W) => HS.get u W h hum)
          have XG2 := Lib.hid (fun W => refHeadGet_any u hum W)
          rcases hg : getF u with _ | y
          · rw [hg] at XG1 XG2
            have YG1 : Hid (∀ W, Tab W → Calls Tryd.prog 22 #[.string u] W fun e w' => e = .returned (.tuple #[.agg ZS, .int .i64 10]) ∧ Below W.heap.size W w') := Lib.hid fun W h => by rw [hZS.out]; exact XG1.out W h
            have YG2 : Hid (∀ W, Calls Tryd.prog 23 #[.string u] W fun e w' => e = .returned (.tuple #[.agg ZS, .int .i64 10]) ∧ Below W.heap.size W w') := Lib.hid fun W => by rw [hZS.out]; exact XG2.out W
            clear XG1 XG2 hg
            go_upto_region 16 with (go_at_call 22; (with_reducible refine (YG1.out _ HX.out.tab).mono ?_); rintro e w6 ⟨rfl, hb⟩; have H6 := Lib.hid (HX.out.next hb); have T6 := Lib.hid (HTX.out.next hb); clear hb; obtain ⟨w7, s7, hr7, hb7⟩ := made_signed w6 ZS zZ.out.1 zZ.out.2; rw [← signed_zero] at s7)
            obtain ⟨g7, hg⟩ : ∃ g, g = w6.heap.size := ⟨_, rfl⟩
            rw [← hg] at hr7 ⊢
            have H7 := Lib.hid (H6.out.next hb7)
            have T7 := Lib.hid (T6.out.next hb7)
            have P7 := Lib.hid hr7
            have c1 := T7.out.cell k u hu
            clear s7 hr7 hb7 hg H6 T6 c0
            go_upto_region 17 with (go_at_call 23; (with_reducible refine (YG2.out _).mono ?_); rintro e w8 ⟨rfl, hb⟩; have H8 := Lib.hid (H7.out.next hb); have T8 := Lib.hid (T7.out.next hb); have P8 := Lib.hid (P7.out.next hb); clear hb; obtain ⟨w9, s9, hr9, hb9⟩ := made_signed w8 ZS zZ.out.1 zZ.out.2; rw [← signed_zero] at s9)
            obtain ⟨g9, hg⟩ : ∃ g, g = w8.heap.size := ⟨_, rfl⟩
            rw [← hg] at hr9 ⊢
            have H9 := Lib.hid (H8.out.next hb9)
            have T9 := Lib.hid (T8.out.next hb9)
            have l1 := GZ.out _ _ (P8.out.next hb9)
            have l2 := GZ.out _ _ hr9
            clear s9 hr9 hb9 hg H7 T7 P7 H8 T8 P8 c1
            go_wp2_with (go_at_call 24; (with_reducible refine (SMZ.out _).mono ?_); rintro e wd ⟨rfl, hb⟩; have HD := Lib.hid (H9.out.next hb); have TD := Lib.hid (T9.out.next hb); clear hb)
            go_roundw
            case rel => exact ⟨k + 1, by go_num, by omega, HD, TD⟩
            case measure => simp [intOf]; omega
          · rw [hg] at XG1 XG2
            have hyf := (get_form hg).2
            have y3 : y.path.length = 3 := hyf.2.2.2.2
            have SMY : Hid (∀ W B d B2 d2, HW W B y.path → HW W B2 y.path → Calls Tryd.prog 24 #[.agg (shV y B d), .agg (shV y B2 d2)] W fun e w' => e = .returned (.bool true) ∧ Below W.heap.size W w') := Lib.hid fun W B d B2 d2 h1 h2 => by
              have := lawHeadSame_any y y hyf.1 hyf.1 (by omega) (by omega) B B2 d d2 W h1 h2
              rw [decide_eq_true ((sameP_iff y y).2 rfl)] at this
              exact this
            have YG1 : Hid (∀ W, Tab W → Calls Tryd.prog 22 #[.string u] W fun e w' => ∃ B d, e = .returned (.tuple #[.agg (shV y B d), .int .i64 0]) ∧ HW w' B y.path ∧ Below W.heap.size W w') := Lib.hid fun W h => (XG1.out W h).mono (by rintro e w' ⟨B, d, e1, _, e3, e4⟩; exact ⟨B, d, e1, e3, e4⟩)
            have YG2 : Hid (∀ W, Calls Tryd.prog 23 #[.string u] W fun e w' => ∃ B d, e = .returned (.tuple #[.agg (shV y B d), .int .i64 0]) ∧ HW w' B y.path ∧ Below W.heap.size W w') := Lib.hid fun W => (XG2.out W).mono (by rintro e w' ⟨B, d, e1, _, e3, e4⟩; exact ⟨B, d, e1, e3, e4⟩)
            have x36 : Hid (∀ B d, (shV y B d).size = 36 ∧ (shV y B d).all (·.oneCell') = true) := Lib.hid fun B d => ⟨signedV_size _ _ _ _ _ _ _ hyf.1.1.1, signedV_one _ _ _ _ _ _ _⟩
            have GX : Hid (∀ B d W g, Row W g 34 (shV y B d) → (readG (.pointer (some ⟨g, 0, none⟩))).run Tryd.prog W = .ok (.agg (shV y B d)) W) := Lib.hid fun B d W g h => signed_all h hyf.1.1.1
            clear XG1 XG2 hg hyf y3
            go_upto_region 16 with (go_at_call 22; (with_reducible refine (YG1.out _ HX.out.tab).mono ?_); rintro e w6 ⟨B, d, rfl, hB, hb⟩; have H6 := Lib.hid (HX.out.next hb); have T6 := Lib.hid (HTX.out.next hb); have B6 := Lib.hid hB; clear hb hB; obtain ⟨XV1, hXV⟩ : ∃ C, Hid (C = shV y B d) := ⟨_, Lib.hid rfl⟩; obtain ⟨w7, s7, hr7, hb7⟩ := made_signed w6 XV1 (by rw [hXV.out]; exact (x36.out B d).1) (by rw [hXV.out]; exact (x36.out B d).2); rw [← signed_zero] at s7; rw [← hXV.out])
            obtain ⟨g7, hg⟩ : ∃ g, g = w6.heap.size := ⟨_, rfl⟩
            rw [← hg] at hr7 ⊢
            have H7 := Lib.hid (H6.out.next hb7)
            have T7 := Lib.hid (T6.out.next hb7)
            have B7 := Lib.hid (B6.out.next hb7)
            have P7 := Lib.hid hr7
            have c1 := T7.out.cell k u hu
            clear s7 hr7 hb7 hg H6 T6 B6 c0
            go_upto_region 17 with (go_at_call 23; (with_reducible refine (YG2.out _).mono ?_); rintro e w8 ⟨B2, d2, rfl, hB, hb⟩; have H8 := Lib.hid (H7.out.next hb); have T8 := Lib.hid (T7.out.next hb); have P8 := Lib.hid (P7.out.next hb); have B8 := Lib.hid (B7.out.next hb); have D8 := Lib.hid hB; clear hb hB; obtain ⟨XV2, hXV2⟩ : ∃ C, Hid (C = shV y B2 d2) := ⟨_, Lib.hid rfl⟩; obtain ⟨w9, s9, hr9, hb9⟩ := made_signed w8 XV2 (by rw [hXV2.out]; exact (x36.out B2 d2).1) (by rw [hXV2.out]; exact (x36.out B2 d2).2); rw [← signed_zero] at s9; rw [← hXV2.out])
            obtain ⟨g9, hg⟩ : ∃ g, g = w8.heap.size := ⟨_, rfl⟩
            rw [← hg] at hr9 ⊢
            have H9 := Lib.hid (H8.out.next hb9)
            have T9 := Lib.hid (T8.out.next hb9)
            have G1 : Hid (∀ W g, Row W g 34 XV1 → (readG (.pointer (some ⟨g, 0, none⟩))).run Tryd.prog W = .ok (.agg XV1) W) := Lib.hid fun W g h => by rw [hXV.out] at h ⊢; exact GX.out B d W g h
            have G2 : Hid (∀ W g, Row W g 34 XV2 → (readG (.pointer (some ⟨g, 0, none⟩))).run Tryd.prog W = .ok (.agg XV2) W) := Lib.hid fun W g h => by rw [hXV2.out] at h ⊢; exact GX.out B2 d2 W g h
            have l1 := G1.out _ _ (P8.out.next hb9)
            have l2 := G2.out _ _ hr9
            have SM := Lib.hid (SMY.out w9 B d B2 d2 (B8.out.next hb9) (D8.out.next hb9))
            rw [← hXV.out, ← hXV2.out] at SM
            clear s9 hr9 hb9 hg H7 T7 P7 B7 H8 T8 P8 B8 D8 c1
            go_wp2_with (go_at_call 24; (with_reducible refine SM.out.mono ?_); rintro e wd ⟨rfl, hb⟩; have HD := Lib.hid (H9.out.next hb); have TD := Lib.hid (T9.out.next hb); clear hb)
            go_roundw
            case rel => exact ⟨k + 1, by go_num, by omega, HD, TD⟩
            case measure => simp [intOf]; omega
        · go_wp2_with (go_at_call 8; (with_reducible refine (KED.out _ HX.out.tab).mono ?_); rintro e wz ⟨rfl, hb⟩; have HB := Lib.hid (below_new HX.out.below hb); clear hb)
          go_ret
          exact ⟨rfl, HB.out⟩
    · have e2 : (v2 : Int).tmod 2 = 1 := by have := rem_nat v2 2; rw [hd] at this; exact this
      have b4 : p < T.size := p1
      go_upto_region 10 with fail
      clear e2 hd
      have b1 : (p : Int) < (T.size : Int) := by omega
      have b2 : ¬ (T.size : Int) ≤ (p : Int) := by omega
      have b3 : (0 : Int) ≤ (p : Int) := by omega
      have b5 : ¬ (p : Int) < 0 := by omega
      have cT := G6.out.cell p b4
      have fT := G6.out.free' p b4
      go_upto_region 11 with fail
      refine world_gen (fun X => ∃ x, (0 ≤ x ∧ x < 256) ∧ KpH w C A xs AV X ∧ Row X gt 9 (cellsT ts).toArray ∧ Got X g10 g10 cap ((textL T).set p x) T.size) ⟨_, by omega, H6.out.set HA0.out HTB.out g10 (Nat.lt_trans LT3.out LT6.out) p _, R6.out.far (by show gt ≠ g10; exact Nat.ne_of_lt LT6.out) _, G6.out.set' p _⟩ (fun X HXX => ?_)
      obtain ⟨x, hx, h1, h2, h3⟩ := HXX
      have HXK := Lib.hid h1
      have HXR := Lib.hid h2
      obtain ⟨u, hu⟩ : ∃ u, Hid (u = strOfNums ((textL T).set p x)) := ⟨_, Lib.hid rfl⟩
      have hus : Hid (u.size = T.size) := Lib.hid (by rw [hu.out, strOfNums_size, List.length_set, textL_length])
      have cv2 := h3.text
      rw [← hu.out] at cv2
      have HU := Lib.hid (Row.made X 9 (cellsT [u]).toArray)
      have HOWN := Lib.hid (OW.out _ (HXR.out.alloc (.cells (cellsT [u]).toArray 9)))
      have HXA := Lib.hid (HXK.out.next ((Below.refl X.heap.size X).alloc (Nat.le_refl _) (.cells (cellsT [u]).toArray 9)))
      have HSL : Hid (gt ≤ (X.alloc (.cells (cellsT [u]).toArray 9)).heap.size) := Lib.hid (by have := HXR.out.lt; simp; omega)
      clear h1 h2 h3 hx b1 b2 b3 b5 cT fT H6 R6 G6 LT6 p1 p3 p4 p5 p6 z3 z5 c0 c1 c2 HXK HXR
      go_upto_region 12 with (first
        | (refine wpList_buildTexts rfl 1 _ rfl [u] rfl (by decide) (by decide) rfl ?_)
        | (refine wpList_appendText rfl _ _ rfl gt _ 4 ts rfl HOWN.out X.heap.size u rfl HU.out (by decide) HSL.out ?_; intro v' w' ho hgr; obtain ⟨hl5, g5, cap5, hv5, hB5, hc5, hm5, hcell⟩ := own_text ho (by decide); subst hv5; have HL5 := Lib.hid (HXA.out.grown HA0.out HTB.out hgr OB.out); have HT5 : Hid (TxH w' g5 (ts ++ [u])) := Lib.hid ⟨hcell, block_lt_of_cell (hcell 0 _ (T0.out u))⟩; clear hcell ho hgr hB5 hc5 hm5 hl5))
      clear cv2 HU HOWN HXA HSL
      obtain ⟨t5, ht5⟩ : ∃ l, Hid (l = ts ++ [u]) := ⟨_, Lib.hid rfl⟩
      rw [← ht5.out] at HT5
      have hn5 : Hid (5 = t5.length) := Lib.hid (by rw [ht5.out, List.length_append, ← hn4.out]; rfl)
      have HSZ5 : Hid (∀ u ∈ t5, u.size ≤ maxLen) := Lib.hid (by
        rw [ht5.out]
        intro z hz
        rcases List.mem_append.1 hz with hz | hz
        · exact HSZ.out z hz
        · rw [List.mem_singleton.1 hz, hus.out]; exact Nat.le_trans hT2 (by decide))
      clear hus hu
      go_wp2
      go_loopw [12] (fun s12 wr => ∃ k : Nat, s12 = .int .i64 (k : Int) ∧ k ≤ 5 ∧ Hid (KpH w C A xs AV wr) ∧ Hid (TxH wr g5 t5)) (fun s12 _ => (5 - intOf s12).toNat)
      case atStart => exact ⟨0, rfl, Nat.zero_le _, HL5, HT5⟩
      case round =>
        clear HL5 HT5
        obtain ⟨k, rfl, hk, HX, HTX⟩ := hrel
        by_cases hlt : k < 5
        · obtain ⟨u, hu⟩ : ∃ u, t5[k]? = some u := ⟨_, List.getElem?_eq_getElem (by rw [← hn5.out]; exact hlt)⟩
          have hum : u.size ≤ maxLen := HSZ5.out u (List.mem_of_getElem? hu)
          have c0 := HTX.out.cell k u hu
          have XG1 := Lib.hid (fun W (h : Tab W) => HS.get u W h hum)
          have XG2 := Lib.hid (fun W => refHeadGet_any u hum W)
          rcases hg : getF u with _ | y
          · rw [hg] at XG1 XG2
            have YG1 : Hid (∀ W, Tab W → Calls Tryd.prog 22 #[.string u] W fun e w' => e = .returned (.tuple #[.agg ZS, .int .i64 10]) ∧ Below W.heap.size W w') := Lib.hid fun W h => by rw [hZS.out]; exact XG1.out W h
            have YG2 : Hid (∀ W, Calls Tryd.prog 23 #[.string u] W fun e w' => e = .returned (.tuple #[.agg ZS, .int .i64 10]) ∧ Below W.heap.size W w') := Lib.hid fun W => by rw [hZS.out]; exact XG2.out W
            clear XG1 XG2 hg
            go_upto_region 16 with (go_at_call 22; (with_reducible refine (YG1.out _ HX.out.tab).mono ?_); rintro e w6 ⟨rfl, hb⟩; have H6 := Lib.hid (HX.out.next hb); have T6 := Lib.hid (HTX.out.next hb); clear hb; obtain ⟨w7, s7, hr7, hb7⟩ := made_signed w6 ZS zZ.out.1 zZ.out.2; rw [← signed_zero] at s7)
            obtain ⟨g7, hg⟩ : ∃ g, g = w6.heap.size := ⟨_, rfl⟩
            rw [← hg] at hr7 ⊢
            have H7 := Lib.hid (H6.out.next hb7)
            have T7 := Lib.hid (T6.out.next hb7)
            have P7 := Lib.hid hr7
            have c1 := T7.out.cell k u hu
            clear s7 hr7 hb7 hg H6 T6 c0
            go_upto_region 17 with (go_at_call 23; (with_reducible refine (YG2.out _).mono ?_); rintro e w8 ⟨rfl, hb⟩; have H8 := Lib.hid (H7.out.next hb); have T8 := Lib.hid (T7.out.next hb); have P8 := Lib.hid (P7.out.next hb); clear hb; obtain ⟨w9, s9, hr9, hb9⟩ := made_signed w8 ZS zZ.out.1 zZ.out.2; rw [← signed_zero] at s9)
            obtain ⟨g9, hg⟩ : ∃ g, g = w8.heap.size := ⟨_, rfl⟩
            rw [← hg] at hr9 ⊢
            have H9 := Lib.hid (H8.out.next hb9)
            have T9 := Lib.hid (T8.out.next hb9)
            have l1 := GZ.out _ _ (P8.out.next hb9)
            have l2 := GZ.out _ _ hr9
            clear s9 hr9 hb9 hg H7 T7 P7 H8 T8 P8 c1
            go_wp2_with (go_at_call 24; (with_reducible refine (SMZ.out _).mono ?_); rintro e wd ⟨rfl, hb⟩; have HD := Lib.hid (H9.out.next hb); have TD := Lib.hid (T9.out.next hb); clear hb)
            go_roundw
            case rel => exact ⟨k + 1, by go_num, by omega, HD, TD⟩
            case measure => simp [intOf]; omega
          · rw [hg] at XG1 XG2
            have hyf := (get_form hg).2
            have y3 : y.path.length = 3 := hyf.2.2.2.2
            have SMY : Hid (∀ W B d B2 d2, HW W B y.path → HW W B2 y.path → Calls Tryd.prog 24 #[.agg (shV y B d), .agg (shV y B2 d2)] W fun e w' => e = .returned (.bool true) ∧ Below W.heap.size W w') := Lib.hid fun W B d B2 d2 h1 h2 => by
              have := lawHeadSame_any y y hyf.1 hyf.1 (by omega) (by omega) B B2 d d2 W h1 h2
              rw [decide_eq_true ((sameP_iff y y).2 rfl)] at this
              exact this
            have YG1 : Hid (∀ W, Tab W → Calls Tryd.prog 22 #[.string u] W fun e w' => ∃ B d, e = .returned (.tuple #[.agg (shV y B d), .int .i64 0]) ∧ HW w' B y.path ∧ Below W.heap.size W w') := Lib.hid fun W h => (XG1.out W h).mono (by rintro e w' ⟨B, d, e1, _, e3, e4⟩; exact ⟨B, d, e1, e3, e4⟩)
            have YG2 : Hid (∀ W, Calls Tryd.prog 23 #[.string u] W fun e w' => ∃ B d, e = .returned (.tuple #[.agg (shV y B d), .int .i64 0]) ∧ HW w' B y.path ∧ Below W.heap.size W w') := Lib.hid fun W => (XG2.out W).mono (by rintro e w' ⟨B, d, e1, _, e3, e4⟩; exact ⟨B, d, e1, e3, e4⟩)
            have x36 : Hid (∀ B d, (shV y B d).size = 36 ∧ (shV y B d).all (·.oneCell') = true) := Lib.hid fun B d => ⟨signedV_size _ _ _ _ _ _ _ hyf.1.1.1, signedV_one _ _ _ _ _ _ _⟩
            have GX : Hid (∀ B d W g, Row W g 34 (shV y B d) → (readG (.pointer (some ⟨g, 0, none⟩))).run Tryd.prog W = .ok (.agg (shV y B d)) W) := Lib.hid fun B d W g h => signed_all h hyf.1.1.1
            clear XG1 XG2 hg hyf y3
            go_upto_region 16 with (go_at_call 22; (with_reducible refine (YG1.out _ HX.out.tab).mono ?_); rintro e w6 ⟨B, d, rfl, hB, hb⟩; have H6 := Lib.hid (HX.out.next hb); have T6 := Lib.hid (HTX.out.next hb); have B6 := Lib.hid hB; clear hb hB; obtain ⟨XV1, hXV⟩ : ∃ C, Hid (C = shV y B d) := ⟨_, Lib.hid rfl⟩; obtain ⟨w7, s7, hr7, hb7⟩ := made_signed w6 XV1 (by rw [hXV.out]; exact (x36.out B d).1) (by rw [hXV.out]; exact (x36.out B d).2); rw [← signed_zero] at s7; rw [← hXV.out])
            obtain ⟨g7, hg⟩ : ∃ g, g = w6.heap.size := ⟨_, rfl⟩
            rw [← hg] at hr7 ⊢
            have H7 := Lib.hid (H6.out.next hb7)
            have T7 := Lib.hid (T6.out.next hb7)
            have B7 := Lib.hid (B6.out.next hb7)
            have P7 := Lib.hid hr7
            have c1 := T7.out.cell k u hu
            clear s7 hr7 hb7 hg H6 T6 B6 c0
            go_upto_region 17 with (go_at_call 23; (with_reducible refine (YG2.out _).mono ?_); rintro e w8 ⟨B2, d2, rfl, hB, hb⟩; have H8 := Lib.hid (H7.out.next hb); have T8 := Lib.hid (T7.out.next hb); have P8 := Lib.hid (P7.out.next hb); have B8 := Lib.hid (B7.out.next hb); have D8 := Lib.hid hB; clear hb hB; obtain ⟨XV2, hXV2⟩ : ∃ C, Hid (C = shV y B2 d2) := ⟨_, Lib.hid rfl⟩; obtain ⟨w9, s9, hr9, hb9⟩ := made_signed w8 XV2 (by rw [hXV2.out]; exact (x36.out B2 d2).1) (by rw [hXV2.out]; exact (x36.out B2 d2).2); rw [← signed_zero] at s9; rw [← hXV2.out])
            obtain ⟨g9, hg⟩ : ∃ g, g = w8.heap.size := ⟨_, rfl⟩
            rw [← hg] at hr9 ⊢
            have H9 := Lib.hid (H8.out.next hb9)
            have T9 := Lib.hid (T8.out.next hb9)
            have G1 : Hid (∀ W g, Row W g 34 XV1 → (readG (.pointer (some ⟨g, 0, none⟩))).run Tryd.prog W = .ok (.agg XV1) W) := Lib.hid fun W g h => by rw [hXV.out] at h ⊢; exact GX.out B d W g h
            have G2 : Hid (∀ W g, Row W g 34 XV2 → (readG (.pointer (some ⟨g, 0, none⟩))).run Tryd.prog W = .ok (.agg XV2) W) := Lib.hid fun W g h => by rw [hXV2.out] at h ⊢; exact GX.out B2 d2 W g h
            have l1 := G1.out _ _ (P8.out.next hb9)
            have l2 := G2.out _ _ hr9
            have SM := Lib.hid (SMY.out w9 B d B2 d2 (B8.out.next hb9) (D8.out.next hb9))
            rw [← hXV.out, ← hXV2.out] at SM
            clear s9 hr9 hb9 hg H7 T7 P7 B7 H8 T8 P8 B8 D8 c1
            go_wp2_with (go_at_call 24; (with_reducible refine SM.out.mono ?_); rintro e wd ⟨rfl, hb⟩; have HD := Lib.hid (H9.out.next hb); have TD := Lib.hid (T9.out.next hb); clear hb)
            go_roundw
            case rel => exact ⟨k + 1, by go_num, by omega, HD, TD⟩
            case measure => simp [intOf]; omega
        · go_wp2_with (go_at_call 8; (with_reducible refine (KED.out _ HX.out.tab).mono ?_); rintro e wz ⟨rfl, hb⟩; have HB := Lib.hid (below_new HX.out.below hb); clear hb)
          go_ret
          exact ⟨rfl, HB.out⟩
end Go.Proofs.YtpndccoikhejgaaDoor
namespace Go.Proofs.YtpndccoikhejgaaDoor.get
open Go.ChangeShapes Go.WideShapes Go.ChangeAt Go.RowKit
open Go.ChangeMaps (open_string)
set_option linter.unusedVariables false

set_option maxRecDepth 100000 in
theorem lifted (os : Os) (started : os.Started) (H : Type) (enc : TypeId × Value → H) :
    ReturnsInHanded {} Tryd.checked os 4 .any (fun w args => (Rows.headsGetSpec.pre enc Tryd.prog Tryd.f4 [] false w args ∧ laidMetH Tryd.prog laid2 w) ∧ sizedMet enc Tryd.prog Tryd.f4 (OpenSpec.ofChange Rows.headsGetSpec) false w args)
      (Rows.headsGetSpec.post enc Tryd.prog Tryd.f4 false true false false) := by
  refine returnsInHanded_of_change_and (C := Tryd.checked) (X := fun w _ => laidMetH Tryd.prog laid2 w) (fun _ _ _ hh h => h.of_heap hh) own started (by kernel_rfl) Tryd.func4
    (ChangeSpec.witness_shaped (enc := enc) (C := Tryd.checked) (os := os) (X := fun w _ => laidMetH Tryd.prog laid2 w) false (World.doorLaid Tryd.prog 400 os) #[.string ⟨#[]⟩, .agg (roughV 0 zero32 0 ⟨#[]⟩ 0 none 0 0), .agg (nums .u16 [0, 0, 0])] 8 rfl (World.shaped_of_RefB (by kernel_rfl) (by kernel_rfl)) (by kernel_rfl) (by kernel_rfl) (by kernel_rfl) (door_met os _)) ?_
  intro W base args ds gs before hval0 hW _ _ hL _
  have hval : ∀ (j : Nat) t v, Tryd.f4.params[j]? = some t → args[j]? = some v → Value.okWide Tryd.prog W .any base t v := hval0
  have hW' := hW
  obtain ⟨p, q, hA0, hV, rfl, hfz, hnd⟩ := hW
  have hA : DataW.TrodAll enc Tryd.prog W 0 (fun _ => true) true Tryd.f4.params.toList args.toList ds p := hA0
  rw [Tryd.params4] at hA hval
  obtain ⟨v0, vs0, d0, ds0, p0, q0, hargs, rfl, rfl, h0, r0⟩ := trodAll_cons hA
  obtain ⟨v1, vs1, d1, ds1, p1, q1, rfl, rfl, rfl, h1, r1⟩ := trodAll_cons r0
  obtain ⟨v2, vs2, d2, ds2, p2, q2, rfl, rfl, rfl, h2, r2⟩ := trodAll_cons r1
  obtain ⟨rfl, rfl, rfl⟩ := trodAll_nil r2
  obtain rfl : args = #[v0, v1, v2] := by cases args; simp_all
  obtain ⟨rfl, rfl⟩ := trodVars_none hV
  have k0 := h0
  have lt0 : ∀ x ∈ p0, x.block < W.heap.size := by obtain ⟨m, hm⟩ := k0; exact DataW.trod_lt m _ _ _ hm
  have k1 := h1
  have lt1 : ∀ x ∈ p1, x.block < W.heap.size := by obtain ⟨m, hm⟩ := k1; exact DataW.trod_lt m _ _ _ hm
  have k2 := h2
  have lt2 : ∀ x ∈ p2, x.block < W.heap.size := by obtain ⟨m, hm⟩ := k2; exact DataW.trod_lt m _ _ _ hm
  obtain ⟨s0, rfl, hd0, _, w0⟩ := open_string Tryd.underlying9 (hval 0 9 v0 rfl rfl) h0
  obtain ⟨z1, r1_, i1, t1, y1, A1, c1, ls1, rfl, hz1, hr1, hi1, ht1, hy1, hh1, hl1, hc1, hm1⟩ := open_rough (hval 1 29 v1 rfl rfl) h1
  obtain ⟨l2, rfl, hl2, hw2⟩ := open_nums (k := .u16) (n := 3) Tryd.underlying46 Tryd.underlying45 (by kernel_rfl) (by kernel_rfl) (hval 2 46 v2 rfl rfl) h2
  obtain ⟨a2, b2, c2, rfl⟩ := of_three hl2
  have b_a2 := bounds_u16 (hw2 a2 (by simp))
  have b_b2 := bounds_u16 (hw2 b2 (by simp))
  have b_c2 := bounds_u16 (hw2 c2 (by simp))
  clear hA0 hval0
  refine (headsget_any head_says s0 w0 z1 hz1 r1_ hr1 i1 hi1 t1 ht1 y1 hy1 ls1 hh1 A1 c1 hc1 hm1 a2 b2 c2 (by omega) (by omega) (by omega) W hl1 (of_laid hL)).mono fun e W' ⟨he, bel⟩ => ?_
  subst he
  exact ⟨_, rfl, _, _, _, [], _, [], hW', trodAll_mk1 (shut_bool Tryd.underlying4 _), (trodAll_cons_mk (Below.trod laidOut (by kernel_rfl) (of_decide_eq_true (by kernel_rfl)) k0 bel lt0) (trodAll_cons_mk (Below.trod laidOut (by kernel_rfl) (of_decide_eq_true (by kernel_rfl)) k1 bel lt1) (trodAll_cons_mk (Below.trod laidOut (by kernel_rfl) (of_decide_eq_true (by kernel_rfl)) k2 bel lt2) trodAll_mk0))), rfl, bel.frame _, fun h => by cases h⟩

theorem over : Rows.HeadsGetSaid :=
  OpenClaim.holds_of_wide 4 Tryd.f4 rfl rfl rfl rfl rfl rfl rfl ⟨rfl, rfl, rfl, rfl, rfl⟩ rfl rfl rfl rfl rfl (by kernel_rfl) Tryd.func4 (by kernel_rfl)
    (of_decide_eq_true (by kernel_rfl)) (by unfold Func.isWrapper; first | (rw [if_pos (by decide +kernel)]; kernel_rfl) | (rw [if_neg (by decide +kernel)]; exact ⟨rfl, rfl⟩))
    (fun os started H enc _ => lifted os started H enc)

/-- The statement. -/
theorem proved : Rows.HeadsGetCardSaid :=
  Claim7.holds_tied_plain_at .later [] [.data, .data] true _ false
    over (fun _ h => by cases h) (by kernel_rfl) (fun _ h => by cases h) headsGet_row_tie rfl ⟨rfl, rfl⟩ (by kernel_rfl) rfl
    (fun f fn hf hfn => by
      obtain rfl : f = 4 := Option.some.inj ((show Tryd.prog.funcNamed "speculum/speculumlaw10.HeadsGet" = some 4 by kernel_rfl).symm.trans hf) |>.symm
      obtain rfl : fn = Tryd.f4 := (Option.some.inj (Tryd.func4.symm.trans hfn)).symm
      exact ⟨by kernel_rfl, fun j t ht => by
        rw [Tryd.params4] at ht
        have hm : t ∈ [9, 29, 46] := by simpa using Array.mem_of_getElem? ht
        have hall : ([9, 29, 46].all fun u => !Tryd.prog.wantsStandIn u) = true := by kernel_rfl
        exact (show Tryd.prog.wantsStandIn t = false by simpa using List.all_eq_true.1 hall t hm)⟩)
    (by kernel_rfl)
#print axioms proved
end Go.Proofs.YtpndccoikhejgaaDoor.get
