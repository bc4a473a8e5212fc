/-
  RefHeadGet.
-/
import Derived.Test.YtpndccoikhejgaaDoorPk07
import Derived.Test.YtpndccoikhejgaaDoorPk08
import Derived.Test.YtpndccoikhejgaaDoorPk24
import Derived.Test.YtpndccoikhejgaaDoorPk15
namespace Go.Proofs.YtpndccoikhejgaaDoor
open Go.RowKit Go.Great
set_option linter.unusedVariables false
set_option maxRecDepth 100000

/-- What functions that hand a signed head back, and an error, do. -/
def GivesG (w : World) (r : Option Sh) (e : Ending) (w' : World) : Prop := match r with
  | none => e = .returned (.tuple #[.agg (signedV 0 zeroL 0 ⟨#[]⟩ none 0 0), .int .i64 10]) ∧ Below w.heap.size w w'
  | some y => ∃ A c, e = .returned (.tuple #[.agg (signedV y.size y.root y.index y.sig A y.path.length c), .int .i64 0]) ∧ (y.path.length ≤ c ∧ c ≤ maxLen) ∧ HW w' A y.path ∧ Below w.heap.size w w'
/-- What Get holds: its result. -/
structure GtH (w wr : World) : Prop where
  out : ∃ C, Row wr w.heap.size 34 C ∧ C.size = 36
  below : Below w.heap.size w wr
theorem GtH.next {w wr w1 : World} (h : GtH w wr) (hb : Below wr.heap.size wr w1) : GtH w w1 := by
  obtain ⟨C, h1, h2⟩ := h.out
  exact ⟨⟨C, h1.next hb, h2⟩, below_new h.below hb⟩
theorem signed_zero : (#[.int .i64 0, .int .u8 0, .int .u8 0, .int .u8 0, .int .u8 0, .int .u8 0, .int .u8 0, .int .u8 0, .int .u8 0, .int .u8 0, .int .u8 0, .int .u8 0, .int .u8 0, .int .u8 0, .int .u8 0, .int .u8 0, .int .u8 0, .int .u8 0, .int .u8 0, .int .u8 0, .int .u8 0, .int .u8 0, .int .u8 0, .int .u8 0, .int .u8 0, .int .u8 0, .int .u8 0, .int .u8 0, .int .u8 0, .int .u8 0, .int .u8 0, .int .u8 0, .int .u8 0, .int .i64 0, .string ⟨#[]⟩, .slice none 0 0] : Array Value) = signedV 0 zeroL 0 ⟨#[]⟩ none 0 0 := rfl
theorem GtH.start (w : World) (C : Array Value) (h : C.size = 36) : GtH w (w.alloc (.cells C 34)) := ⟨⟨C, Row.made _ _ _, h⟩, (Below.refl _ _).alloc (Nat.le_refl _) _⟩
/-- A signed head in a new block. -/
theorem made_signed (w1 : World) (D : Array Value) (hd : D.size = 36) (oD : D.all (·.oneCell') = true) : ∃ w2, (writeG (.pointer (some ⟨w1.heap.size, 0, none⟩)) (.agg D)).run Tryd.prog (w1.alloc (.cells (signedV 0 zeroL 0 ⟨#[]⟩ none 0 0) 34)) = .ok () w2 ∧ Row w2 w1.heap.size 34 D ∧ Below w1.heap.size w1 w2 :=
  ⟨(w1.alloc (.cells (signedV 0 zeroL 0 ⟨#[]⟩ none 0 0) 34)).setRow w1.heap.size D, (Row.made w1 34 _).writeG (signedV_size _ _ _ _ _ _ _ zeroL_is.1) hd oD, (Row.made _ _ _).whole _, below_setRow ((Below.refl _ _).alloc (Nat.le_refl _) _) (Nat.le_refl _)⟩
/-- A list of three hashes does not lie in a block of fewer cells. -/
theorem HW.far_short {w : World} {A : Option Addr} {ls : List (List Int)} (h : HW w A ls) (h3 : ls.length = 3) {g : Nat} {t : TypeId} {C : Array Value} (hr : Row w g t C) (hz : C.size = 36) (D : Array Value) : HW (w.setRow g D) A ls := by
  obtain ⟨ad, rfl, hb2, hc2⟩ := h 2 (by omega)
  have hne : ad.block ≠ g := by
    intro he
    have hr' : w.heap[g]? = some (.cells C t (0, 0)) := hr
    have h0 := hc2 31 (by decide)
    have ho : (ad.add (2 * 32 + 31)).off = ad.off + 95 := by unfold Addr.add; rw [if_neg (by decide)]
    have hbk : (ad.add (2 * 32 + 31)).block = g := by rw [block_of_add]; exact he
    simp only [World.cell?, hbk, hr', ho] at h0
    rw [Array.getElem?_eq_none (by omega)] at h0
    split at h0 <;> cases h0
  intro k hk
  obtain ⟨ad', e, hb, hc⟩ := h k hk
  cases e
  refine ⟨_, rfl, by simpa using hb, fun j hj => ?_⟩
  rw [World.cell?_of_block (setRow_other w g _ D (by rw [block_of_add]; exact hne))]
  exact hc j hj
attribute [local go_sem ↓ high] read_at write_at read_g write_g
set_option maxHeartbeats 16000000 in
theorem refHeadGet_any (s : ByteArray) (hs : s.size ≤ maxLen) (w : World) :
    Calls Tryd.prog 23 #[.string s] w (GivesG w (getF s)) := by
  obtain ⟨n, hn⟩ : ∃ n, Hid (n = numA s) := ⟨_, Lib.hid rfl⟩
  obtain ⟨i, hi⟩ : ∃ n, Hid (n = numA (rest2 s)) := ⟨_, Lib.hid rfl⟩
  obtain ⟨t1, ht1⟩ : ∃ n, Hid (n = rest1 s) := ⟨_, Lib.hid rfl⟩
  obtain ⟨t2, ht2⟩ : ∃ n, Hid (n = rest2 s) := ⟨_, Lib.hid rfl⟩
  obtain ⟨t3, ht3⟩ : ∃ n, Hid (n = rest3 s) := ⟨_, Lib.hid rfl⟩
  obtain ⟨t4, ht4⟩ : ∃ n, Hid (n = rest4 s) := ⟨_, Lib.hid rfl⟩
  obtain ⟨t5, ht5⟩ : ∃ n, Hid (n = unhsT (rest4 s)) := ⟨_, Lib.hid rfl⟩
  obtain ⟨sg, hsg⟩ : ∃ n, Hid (n = cutA (rest3 s)) := ⟨_, Lib.hid rfl⟩
  obtain ⟨pl, hpl⟩ : ∃ n, Hid (n = (unhsL (rest4 s)).length) := ⟨_, Lib.hid rfl⟩
  obtain ⟨o1, ho1⟩ : ∃ n, Hid (n = numO s) := ⟨_, Lib.hid rfl⟩
  obtain ⟨o2, ho2⟩ : ∃ n, Hid (n = hashO (rest1 s)) := ⟨_, Lib.hid rfl⟩
  obtain ⟨o3, ho3⟩ : ∃ n, Hid (n = numO (rest2 s)) := ⟨_, Lib.hid rfl⟩
  obtain ⟨o4, ho4⟩ : ∃ n, Hid (n = cutO (rest3 s)) := ⟨_, Lib.hid rfl⟩
  obtain ⟨o5, ho5⟩ : ∃ n, Hid (n = unhsO (rest4 s)) := ⟨_, Lib.hid rfl⟩
  obtain ⟨HA, hHA⟩ : ∃ C, Hid (C = nums .u8 (hashA (rest1 s))) := ⟨_, Lib.hid rfl⟩
  have zHA : Hid (HA.size = 32) := Lib.hid (by rw [hHA.out, nums_size]; exact (hashA_is _).1)
  have oHA : Hid (HA.all (·.oneCell') = true) := Lib.hid (by rw [hHA.out]; exact nums_one _ _)
  have m1 : (rest1 s).size ≤ maxLen := Nat.le_trans (numB_le s) hs
  have m2 : (rest2 s).size ≤ maxLen := Nat.le_trans (hashB_le _) m1
  have m3 : (rest3 s).size ≤ maxLen := Nat.le_trans (numB_le _) m2
  have m4 : (rest4 s).size ≤ maxLen := Nat.le_trans (cutB_le _) m3
  have X1 : Hid (∀ W, Calls Tryd.prog 45 #[.string s] W fun e w' => e = .returned (.tuple #[.int .u64 (n : Int), .string t1, .bool o1]) ∧ Below W.heap.size W w') := Lib.hid fun W => by
    have := refRead_any s hs W
    rw [readV_is] at this
    rw [hn.out, ht1.out, ho1.out]; exact this
  have X2 : Hid (∀ W, Calls Tryd.prog 46 #[.string t1] W fun e w' => e = .returned (.tuple #[.agg HA, .string t2, .bool o2]) ∧ Below W.heap.size W w') := Lib.hid fun W => by
    have := refUnhash_any (rest1 s) m1 W
    rw [unhV_is] at this
    rw [hHA.out, ht1.out, ht2.out, ho2.out]; exact this
  have X3 : Hid (∀ W, Calls Tryd.prog 45 #[.string t2] W fun e w' => e = .returned (.tuple #[.int .u64 (i : Int), .string t3, .bool o3]) ∧ Below W.heap.size W w') := Lib.hid fun W => by
    have := refRead_any (rest2 s) m2 W
    rw [readV_is] at this
    rw [hi.out, ht2.out, ht3.out, ho3.out]; exact this
  have X4 : Hid (∀ W, Calls Tryd.prog 47 #[.string t3] W fun e w' => e = .returned (.tuple #[.string sg, .string t4, .bool o4]) ∧ Below W.heap.size W w') := Lib.hid fun W => by
    have := refCut_any (rest3 s) m3 W
    rw [cutV_is] at this
    rw [hsg.out, ht3.out, ht4.out, ho4.out]; exact this
  have X5 : Hid (∀ W, Calls Tryd.prog 48 #[.string t4] W fun e w' => ∃ A c, e = .returned (.tuple #[.slice A pl c, .string t5, .bool o5]) ∧ HW w' A (unhsL (rest4 s)) ∧ (pl ≤ c ∧ c ≤ maxLen) ∧ Below W.heap.size W w') := Lib.hid fun W => by
    rw [ht4.out]
    refine (refUnhashes_any (rest4 s) m4 W).mono ?_
    intro e w' h
    obtain ⟨A, c, h1, h2, h3, h4⟩ := h.parts
    rw [hpl.out, ht5.out, ho5.out]
    exact ⟨A, c, h1, h2, h3, h4⟩
  obtain ⟨ZS, hZS⟩ : ∃ C, Hid (C = signedV 0 zeroL 0 ⟨#[]⟩ none 0 0) := ⟨_, Lib.hid rfl⟩
  have zZS : Hid (ZS.size = 36) := Lib.hid (by rw [hZS.out]; exact signedV_size 0 zeroL 0 ⟨#[]⟩ none 0 0 zeroL_is.1)
  have H0 := Lib.hid (GtH.start w (signedV 0 zeroL 0 ⟨#[]⟩ none 0 0) (signedV_size 0 zeroL 0 ⟨#[]⟩ none 0 0 zeroL_is.1))
  rw [← signed_zero] at H0
  have HAL : Hid (allO s ↔ o1 = true ∧ o2 = true ∧ o3 = true ∧ o4 = true ∧ o5 = true) := Lib.hid (by rw [ho1.out, ho2.out, ho3.out, ho4.out, ho5.out]; exact Iff.rfl)
  have HOK : Hid ((toldF s).ok → n ≤ 4096 ∧ i ≤ 7) := Lib.hid (fun h => by
    have h1 : (numA s : Int) ≤ 4096 := h.1.2
    have h2 : (numA (rest2 s) : Int) ≤ 7 := h.2.1.2
    rw [hn.out, hi.out]; omega)
  clear m1 m2 m3 m4 ho1 ho2 ho3 ho4 ho5 ht1 ht2 ht3 ht4 ht5
  by_cases q1 : o1 = true
  · subst q1
    by_cases q2 : o2 = true
    · subst q2
      by_cases q3 : o3 = true
      · subst q3
        by_cases q4 : o4 = true
        · subst q4
          by_cases q5 : o5 = true
          · subst q5
            by_cases q6 : n ≤ 4096
            · have d6 : decide (4096 < (n : Int)) = false := decide_eq_false (by omega)
              by_cases q7 : i ≤ 7
              · have d7 : decide (7 < (i : Int)) = false := decide_eq_false (by omega)
                have hall : allO s := HAL.out.2 ⟨rfl, rfl, rfl, rfl, rfl⟩
                obtain ⟨y, hy⟩ : ∃ y, Hid (y = toldF s) := ⟨_, Lib.hid rfl⟩
                have hr : Hid (HA = nums .u8 y.root ∧ y.root.length = 32 ∧ y.fits) := Lib.hid (by rw [hy.out]; exact ⟨hHA.out, (hashA_is _).1, toldF_fits s⟩)
                have hYA : Hid (∀ W A, HW W A (unhsL (rest4 s)) → HW W A y.path) := Lib.hid fun W A h => by rw [hy.out]; exact h
                have hYL : Hid (y.path.length = pl ∧ y.size = (n : Int) ∧ y.index = (i : Int) ∧ y.sig = sg) := Lib.hid (by rw [hy.out, hpl.out, hn.out, hi.out, hsg.out]; exact ⟨rfl, rfl, rfl, rfl⟩)
                have w1 : IntKind.i64.wrap (n : Int) = (n : Int) := by rw [IntKind.wrap_i64]; omega
                have w2 : IntKind.i64.wrap (i : Int) = (i : Int) := by rw [IntKind.wrap_i64]; omega
                have w1b : wrap64 (n : Int) = (n : Int) := by unfold wrap64; omega
                have w2b : wrap64 (i : Int) = (i : Int) := by unfold wrap64; omega
                have HGY : Hid ((y.ok → (headS y = s → getF s = some y) ∧ (¬ headS y = s → getF s = none)) ∧ (¬ y.ok → getF s = none)) := Lib.hid (by rw [hy.out]; exact ⟨fun ho => get_yes s hall ho, fun ho => get_bad s ho⟩)
                have XP : Hid (∀ W A c, HW W A y.path → Calls Tryd.prog 11 #[.agg (signedV (n : Int) y.root (i : Int) sg A pl c)] W fun e w' => e = .returned (.tuple #[.string (putF y).1, .int .i64 (putF y).2]) ∧ Below W.heap.size W w') := Lib.hid fun W A c h => by
                  have := refHeadPut_any y hr.out.2.2 A c W h
                  rw [hYL.out.1, hYL.out.2.1, hYL.out.2.2.1, hYL.out.2.2.2] at this
                  exact this
                clear HAL HOK hs hall hy hn hi hsg hpl
                go_enter Tryd.func23, Tryd.ntmps23
                go_upto_region 1 with fail
                refine world_gen (fun X => GtH w X) H0.out (fun X HX => ?_)
                have HX := Lib.hid HX
                clear H0
                go_upto_region 2 with (go_at_call 45; (with_reducible refine (X1.out _).mono ?_); rintro e w1 ⟨rfl, hb⟩; have H1 := Lib.hid (HX.out.next hb); clear hb HX)
                go_upto_region 3 with (go_at_call 46; (with_reducible refine (X2.out _).mono ?_); rintro e w2 ⟨rfl, hb⟩; obtain ⟨w3, s3, hr3, hb3, hz3⟩ := made_write w2 HA zHA.out oHA.out; have H3 := Lib.hid ((H1.out.next hb).next hb3); have R3 := Lib.hid hr3; clear hb hb3 hr3 hz3 H1)
                clear s3
                obtain ⟨g7, hg⟩ : ∃ g, g = w2.heap.size := ⟨_, rfl⟩
                rw [← hg] at R3 ⊢
                clear hg
                go_upto_region 4 with (go_at_call 45; (with_reducible refine (X3.out _).mono ?_); rintro e w4 ⟨rfl, hb⟩; have H4 := Lib.hid (H3.out.next hb); have R4 := Lib.hid (R3.out.next hb); clear hb H3 R3)
                go_upto_region 5 with (go_at_call 47; (with_reducible refine (X4.out _).mono ?_); rintro e w5 ⟨rfl, hb⟩; have H5 := Lib.hid (H4.out.next hb); have R5 := Lib.hid (R4.out.next hb); clear hb H4 R4)
                go_upto_region 6 with (go_at_call 48; (with_reducible refine (X5.out _).mono ?_); rintro e w6 ⟨A, c, rfl, hA, hc, hb⟩; have H6 := Lib.hid (H5.out.next hb); have R6 := Lib.hid (R5.out.next hb); have HA6 := Lib.hid hA; have HC := Lib.hid hc; clear hb H5 R5 hA hc)
                have l7 := R6.out.read zHA.out
                rw [hr.out.1] at l7
                obtain ⟨SV, hSV⟩ : ∃ C, Hid (C = signedV (n : Int) y.root (i : Int) sg A pl c) := ⟨_, Lib.hid rfl⟩
                have zSV : Hid (SV.size = 36) := Lib.hid (by rw [hSV.out]; exact signedV_size _ _ _ _ _ _ _ hr.out.2.1)
                have oSV : Hid (SV.all (·.oneCell') = true) := Lib.hid (by rw [hSV.out]; exact signedV_one _ _ _ _ _ _ _)
                have HY6 := Lib.hid (hYA.out _ _ HA6.out)
                have XQ : Hid (∀ W, HW W A y.path → Calls Tryd.prog 11 #[.agg SV] W fun e w' => e = .returned (.tuple #[.string (putF y).1, .int .i64 (putF y).2]) ∧ Below W.heap.size W w') := Lib.hid fun W h => by rw [hSV.out]; exact XP.out W A c h
                have GV : Hid (∀ W g, Row W g 34 SV → (readG (.pointer (some ⟨g, 0, none⟩))).run Tryd.prog W = .ok (.agg SV) W) := Lib.hid fun W g h => by rw [hSV.out] at h ⊢; exact signed_all h hr.out.2.1
                obtain ⟨w8, s8, hr8, hb8⟩ := made_signed w6 SV zSV.out oSV.out
                rw [← signed_zero] at s8
                go_upto_region 9 with (first
                  | (refine wpList_built_head rfl _ _ rfl (n : Int) y.root hr.out.2.1 rfl rfl ?_)
                  | (refine wpList_built_signed rfl _ _ rfl (n : Int) y.root hr.out.2.1 (i : Int) sg A pl c rfl rfl ?_; rw [← hSV.out]))
                have H8 := Lib.hid (H6.out.next hb8)
                have HY8 := Lib.hid (HY6.out.next hb8)
                obtain ⟨g8, hg⟩ : ∃ g, g = w6.heap.size := ⟨_, rfl⟩
                rw [← hg] at hr8 ⊢
                have R8 := Lib.hid hr8
                clear hg s8 hr8 hb8 H6 HY6 HA6 R6 l7 hYA XP w1 w2 w1b w2b X1 X2 X3 X4 X5
                have l8 := GV.out _ _ R8.out
                have X8 := Lib.hid (XQ.out _ HY8.out)
                go_upto_region 10 with (go_at_call 11; (with_reducible refine X8.out.mono ?_); rintro e w9 ⟨rfl, hb⟩; have H9 := Lib.hid (H8.out.next hb); have HY9 := Lib.hid (HY8.out.next hb); have R9 := Lib.hid (R8.out.next hb); clear hb H8 HY8 R8)
                clear l8 X8 XQ
                have l9 := GV.out _ _ R9.out
                obtain ⟨u, hu⟩ : ∃ u, Hid (u = (putF y).1) := ⟨_, Lib.hid rfl⟩
                obtain ⟨x, hx⟩ : ∃ x, Hid (x = (putF y).2) := ⟨_, Lib.hid rfl⟩
                rw [← hu.out, ← hx.out]
                obtain ⟨Z, hZ, hz⟩ := H9.out.out
                by_cases ho : y.ok
                · have hp : putF y = (headS y, 0) := by unfold putF; rw [if_pos ho]
                  obtain rfl : x = 0 := by rw [hx.out, hp]
                  have hu' : u = headS y := by rw [hu.out, hp]
                  by_cases he : headS y = s
                  · have HG : Hid (getF s = some y) := Lib.hid ((HGY.out.1 ho).1 he)
                    have h3 : Hid (y.path.length = 3) := Lib.hid ho.2.2.2
                    have dt : (u.toList == s.toList) = true := by rw [hu', he]; exact beq_self_eq_true _
                    have hL : Hid (HW (w9.setRow w.heap.size SV) A y.path) := Lib.hid (HY9.out.far_short h3.out hZ hz SV)
                    have s9 := hZ.writeG hz zSV.out oSV.out
                    clear hp hu' he HGY ho hu hx hZS ZS zZS GV HY9
                    go_wp2
                    refine bodyPost_ret (results_row2 (p := 2) (u := 3) rfl _ _ w.heap.size 34 _ (0, 0) _ rfl (hZ.whole SV) Tryd.underlying34 rfl (sizeG _ zSV.out) (.int .i64 0) rfl) rfl ?_
                    rw [HG.out]
                    refine ⟨A, c, ?_, ?_, hL.out, below_setRow H9.out.below (Nat.le_refl _)⟩
                    · rw [hSV.out, hYL.out.1, hYL.out.2.1, hYL.out.2.2.1, hYL.out.2.2.2]
                    · rw [hYL.out.1]; exact HC.out
                  · have HG : Hid (getF s = none) := Lib.hid ((HGY.out.1 ho).2 he)
                    have dt : (u.toList == s.toList) = false := by
                      rw [hu']
                      simp only [beq_eq_false_iff_ne]
                      exact fun h => he (text_of_list h)
                    have s9 := hZ.writeG hz (signedV_size 0 zeroL 0 ⟨#[]⟩ none 0 0 zeroL_is.1) (signedV_one 0 zeroL 0 ⟨#[]⟩ none 0 0)
                    rw [← hZS.out] at s9
                    clear hp hu' he HGY ho hu hx GV HY9 l9
                    go_wp2_with (refine wpList_built_none rfl rfl ?_; rw [← hZS.out])
                    refine bodyPost_ret (results_row2 (p := 2) (u := 3) rfl _ _ w.heap.size 34 _ (0, 0) _ rfl (hZ.whole ZS) Tryd.underlying34 rfl (sizeG _ zZS.out) (.int .i64 10) rfl) rfl ?_
                    rw [HG.out]
                    exact ⟨by rw [hZS.out], below_setRow H9.out.below (Nat.le_refl _)⟩
                · have hp : putF y = (⟨#[]⟩, 2) := by unfold putF; rw [if_neg ho]
                  obtain rfl : x = 2 := by rw [hx.out, hp]
                  have HG : Hid (getF s = none) := Lib.hid (HGY.out.2 ho)
                  have s9 := hZ.writeG hz (signedV_size 0 zeroL 0 ⟨#[]⟩ none 0 0 zeroL_is.1) (signedV_one 0 zeroL 0 ⟨#[]⟩ none 0 0)
                  rw [← hZS.out] at s9
                  clear hp HGY ho hu hx GV HY9 l9
                  go_wp2_with (refine wpList_built_none rfl rfl ?_; rw [← hZS.out])
                  refine bodyPost_ret (results_row2 (p := 2) (u := 3) rfl _ _ w.heap.size 34 _ (0, 0) _ rfl (hZ.whole ZS) Tryd.underlying34 rfl (sizeG _ zZS.out) (.int .i64 10) rfl) rfl ?_
                  rw [HG.out]
                  exact ⟨by rw [hZS.out], below_setRow H9.out.below (Nat.le_refl _)⟩
              · have HG : Hid (getF s = none) := Lib.hid (get_bad s (fun h => q7 (HOK.out h).2))
                have d7 : decide (7 < (i : Int)) = true := decide_eq_true (by omega)
                have d7b : (7 : Int) < (i : Int) := by omega
                clear HAL HOK hs
                go_enter Tryd.func23, Tryd.ntmps23
                go_upto_region 1 with fail
                refine world_gen (fun X => GtH w X) H0.out (fun X HX => ?_)
                have HX := Lib.hid HX
                clear H0
                go_upto_region 2 with (go_at_call 45; (with_reducible refine (X1.out _).mono ?_); rintro e w1 ⟨rfl, hb⟩; have H1 := Lib.hid (HX.out.next hb); clear hb HX)
                go_upto_region 3 with (go_at_call 46; (with_reducible refine (X2.out _).mono ?_); rintro e w2 ⟨rfl, hb⟩; obtain ⟨w3, s3, hr3, hb3, hz3⟩ := made_write w2 HA zHA.out oHA.out; have H3 := Lib.hid ((H1.out.next hb).next hb3); have R3 := Lib.hid hr3; clear hb hb3 hr3 hz3 H1)
                clear s3
                obtain ⟨g7, hg⟩ : ∃ g, g = w2.heap.size := ⟨_, rfl⟩
                rw [← hg] at R3 ⊢
                clear hg
                go_upto_region 4 with (go_at_call 45; (with_reducible refine (X3.out _).mono ?_); rintro e w4 ⟨rfl, hb⟩; have H4 := Lib.hid (H3.out.next hb); have R4 := Lib.hid (R3.out.next hb); clear hb H3 R3)
                go_upto_region 5 with (go_at_call 47; (with_reducible refine (X4.out _).mono ?_); rintro e w5 ⟨rfl, hb⟩; have H5 := Lib.hid (H4.out.next hb); have R5 := Lib.hid (R4.out.next hb); clear hb H4 R4)
                go_upto_region 6 with (go_at_call 48; (with_reducible refine (X5.out _).mono ?_); rintro e w6 ⟨A, c, rfl, hA, hc, hb⟩; have H6 := Lib.hid (H5.out.next hb); have R6 := Lib.hid (R5.out.next hb); have HA6 := Lib.hid hA; have HC := Lib.hid hc; clear hb H5 R5 hA hc)
                clear R6 HA6 HC
                obtain ⟨Z, hZ, hz⟩ := H6.out.out
                have s6 := hZ.writeG hz (signedV_size 0 zeroL 0 ⟨#[]⟩ none 0 0 zeroL_is.1) (signedV_one 0 zeroL 0 ⟨#[]⟩ none 0 0)
                rw [← hZS.out] at s6
                go_wp2_with (refine wpList_built_none rfl rfl ?_; rw [← hZS.out])
                refine bodyPost_ret (results_row2 (p := 2) (u := 3) rfl _ _ w.heap.size 34 _ (0, 0) _ rfl (hZ.whole ZS) Tryd.underlying34 rfl (sizeG _ zZS.out) (.int .i64 10) rfl) rfl ?_
                rw [HG.out]
                exact ⟨by rw [hZS.out], below_setRow H6.out.below (Nat.le_refl _)⟩
            · have HG : Hid (getF s = none) := Lib.hid (get_bad s (fun h => q6 (HOK.out h).1))
              have d6 : decide (4096 < (n : Int)) = true := decide_eq_true (by omega)
              have d6b : (4096 : Int) < (n : Int) := by omega
              clear HAL HOK hs
              go_enter Tryd.func23, Tryd.ntmps23
              go_upto_region 1 with fail
              refine world_gen (fun X => GtH w X) H0.out (fun X HX => ?_)
              have HX := Lib.hid HX
              clear H0
              go_upto_region 2 with (go_at_call 45; (with_reducible refine (X1.out _).mono ?_); rintro e w1 ⟨rfl, hb⟩; have H1 := Lib.hid (HX.out.next hb); clear hb HX)
              go_upto_region 3 with (go_at_call 46; (with_reducible refine (X2.out _).mono ?_); rintro e w2 ⟨rfl, hb⟩; obtain ⟨w3, s3, hr3, hb3, hz3⟩ := made_write w2 HA zHA.out oHA.out; have H3 := Lib.hid ((H1.out.next hb).next hb3); have R3 := Lib.hid hr3; clear hb hb3 hr3 hz3 H1)
              clear s3
              obtain ⟨g7, hg⟩ : ∃ g, g = w2.heap.size := ⟨_, rfl⟩
              rw [← hg] at R3 ⊢
              clear hg
              go_upto_region 4 with (go_at_call 45; (with_reducible refine (X3.out _).mono ?_); rintro e w4 ⟨rfl, hb⟩; have H4 := Lib.hid (H3.out.next hb); have R4 := Lib.hid (R3.out.next hb); clear hb H3 R3)
              go_upto_region 5 with (go_at_call 47; (with_reducible refine (X4.out _).mono ?_); rintro e w5 ⟨rfl, hb⟩; have H5 := Lib.hid (H4.out.next hb); have R5 := Lib.hid (R4.out.next hb); clear hb H4 R4)
              go_upto_region 6 with (go_at_call 48; (with_reducible refine (X5.out _).mono ?_); rintro e w6 ⟨A, c, rfl, hA, hc, hb⟩; have H6 := Lib.hid (H5.out.next hb); have R6 := Lib.hid (R5.out.next hb); have HA6 := Lib.hid hA; have HC := Lib.hid hc; clear hb H5 R5 hA hc)
              clear R6 HA6 HC
              obtain ⟨Z, hZ, hz⟩ := H6.out.out
              have s6 := hZ.writeG hz (signedV_size 0 zeroL 0 ⟨#[]⟩ none 0 0 zeroL_is.1) (signedV_one 0 zeroL 0 ⟨#[]⟩ none 0 0)
              rw [← hZS.out] at s6
              go_wp2_with (refine wpList_built_none rfl rfl ?_; rw [← hZS.out])
              refine bodyPost_ret (results_row2 (p := 2) (u := 3) rfl _ _ w.heap.size 34 _ (0, 0) _ rfl (hZ.whole ZS) Tryd.underlying34 rfl (sizeG _ zZS.out) (.int .i64 10) rfl) rfl ?_
              rw [HG.out]
              exact ⟨by rw [hZS.out], below_setRow H6.out.below (Nat.le_refl _)⟩
          · have HG : Hid (getF s = none) := Lib.hid (get_no s (fun ha => q5 (HAL.out.1 ha).2.2.2.2))
            obtain rfl : o5 = false := by simpa using q5
            clear q5 HAL HOK hs
            go_enter Tryd.func23, Tryd.ntmps23
            go_upto_region 1 with fail
            refine world_gen (fun X => GtH w X) H0.out (fun X HX => ?_)
            have HX := Lib.hid HX
            clear H0
            go_upto_region 2 with (go_at_call 45; (with_reducible refine (X1.out _).mono ?_); rintro e w1 ⟨rfl, hb⟩; have H1 := Lib.hid (HX.out.next hb); clear hb HX)
            go_upto_region 3 with (go_at_call 46; (with_reducible refine (X2.out _).mono ?_); rintro e w2 ⟨rfl, hb⟩; obtain ⟨w3, s3, hr3, hb3, hz3⟩ := made_write w2 HA zHA.out oHA.out; have H3 := Lib.hid ((H1.out.next hb).next hb3); have R3 := Lib.hid hr3; clear hb hb3 hr3 hz3 H1)
            clear s3
            obtain ⟨g7, hg⟩ : ∃ g, g = w2.heap.size := ⟨_, rfl⟩
            rw [← hg] at R3 ⊢
            clear hg
            go_upto_region 4 with (go_at_call 45; (with_reducible refine (X3.out _).mono ?_); rintro e w4 ⟨rfl, hb⟩; have H4 := Lib.hid (H3.out.next hb); have R4 := Lib.hid (R3.out.next hb); clear hb H3 R3)
            go_upto_region 5 with (go_at_call 47; (with_reducible refine (X4.out _).mono ?_); rintro e w5 ⟨rfl, hb⟩; have H5 := Lib.hid (H4.out.next hb); have R5 := Lib.hid (R4.out.next hb); clear hb H4 R4)
            go_upto_region 6 with (go_at_call 48; (with_reducible refine (X5.out _).mono ?_); rintro e w6 ⟨A, c, rfl, hA, hc, hb⟩; have H6 := Lib.hid (H5.out.next hb); have R6 := Lib.hid (R5.out.next hb); have HA6 := Lib.hid hA; have HC := Lib.hid hc; clear hb H5 R5 hA hc)
            clear R6 HA6 HC
            obtain ⟨Z, hZ, hz⟩ := H6.out.out
            have s6 := hZ.writeG hz (signedV_size 0 zeroL 0 ⟨#[]⟩ none 0 0 zeroL_is.1) (signedV_one 0 zeroL 0 ⟨#[]⟩ none 0 0)
            rw [← hZS.out] at s6
            go_wp2_with (refine wpList_built_none rfl rfl ?_; rw [← hZS.out])
            refine bodyPost_ret (results_row2 (p := 2) (u := 3) rfl _ _ w.heap.size 34 _ (0, 0) _ rfl (hZ.whole ZS) Tryd.underlying34 rfl (sizeG _ zZS.out) (.int .i64 10) rfl) rfl ?_
            rw [HG.out]
            exact ⟨by rw [hZS.out], below_setRow H6.out.below (Nat.le_refl _)⟩
        · have HG : Hid (getF s = none) := Lib.hid (get_no s (fun ha => q4 (HAL.out.1 ha).2.2.2.1))
          obtain rfl : o4 = false := by simpa using q4
          clear q4 HAL HOK hs
          go_enter Tryd.func23, Tryd.ntmps23
          go_upto_region 1 with fail
          refine world_gen (fun X => GtH w X) H0.out (fun X HX => ?_)
          have HX := Lib.hid HX
          clear H0
          go_upto_region 2 with (go_at_call 45; (with_reducible refine (X1.out _).mono ?_); rintro e w1 ⟨rfl, hb⟩; have H1 := Lib.hid (HX.out.next hb); clear hb HX)
          go_upto_region 3 with (go_at_call 46; (with_reducible refine (X2.out _).mono ?_); rintro e w2 ⟨rfl, hb⟩; obtain ⟨w3, s3, hr3, hb3, hz3⟩ := made_write w2 HA zHA.out oHA.out; have H3 := Lib.hid ((H1.out.next hb).next hb3); have R3 := Lib.hid hr3; clear hb hb3 hr3 hz3 H1)
          clear s3
          obtain ⟨g7, hg⟩ : ∃ g, g = w2.heap.size := ⟨_, rfl⟩
          rw [← hg] at R3 ⊢
          clear hg
          go_upto_region 4 with (go_at_call 45; (with_reducible refine (X3.out _).mono ?_); rintro e w4 ⟨rfl, hb⟩; have H4 := Lib.hid (H3.out.next hb); have R4 := Lib.hid (R3.out.next hb); clear hb H3 R3)
          go_upto_region 5 with (go_at_call 47; (with_reducible refine (X4.out _).mono ?_); rintro e w5 ⟨rfl, hb⟩; have H5 := Lib.hid (H4.out.next hb); have R5 := Lib.hid (R4.out.next hb); clear hb H4 R4)
          go_upto_region 6 with (go_at_call 48; (with_reducible refine (X5.out _).mono ?_); rintro e w6 ⟨A, c, rfl, hA, hc, hb⟩; have H6 := Lib.hid (H5.out.next hb); have R6 := Lib.hid (R5.out.next hb); have HA6 := Lib.hid hA; have HC := Lib.hid hc; clear hb H5 R5 hA hc)
          clear R6 HA6 HC
          obtain ⟨Z, hZ, hz⟩ := H6.out.out
          have s6 := hZ.writeG hz (signedV_size 0 zeroL 0 ⟨#[]⟩ none 0 0 zeroL_is.1) (signedV_one 0 zeroL 0 ⟨#[]⟩ none 0 0)
          rw [← hZS.out] at s6
          go_wp2_with (refine wpList_built_none rfl rfl ?_; rw [← hZS.out])
          refine bodyPost_ret (results_row2 (p := 2) (u := 3) rfl _ _ w.heap.size 34 _ (0, 0) _ rfl (hZ.whole ZS) Tryd.underlying34 rfl (sizeG _ zZS.out) (.int .i64 10) rfl) rfl ?_
          rw [HG.out]
          exact ⟨by rw [hZS.out], below_setRow H6.out.below (Nat.le_refl _)⟩
      · have HG : Hid (getF s = none) := Lib.hid (get_no s (fun ha => q3 (HAL.out.1 ha).2.2.1))
        obtain rfl : o3 = false := by simpa using q3
        clear q3 HAL HOK hs
        go_enter Tryd.func23, Tryd.ntmps23
        go_upto_region 1 with fail
        refine world_gen (fun X => GtH w X) H0.out (fun X HX => ?_)
        have HX := Lib.hid HX
        clear H0
        go_upto_region 2 with (go_at_call 45; (with_reducible refine (X1.out _).mono ?_); rintro e w1 ⟨rfl, hb⟩; have H1 := Lib.hid (HX.out.next hb); clear hb HX)
        go_upto_region 3 with (go_at_call 46; (with_reducible refine (X2.out _).mono ?_); rintro e w2 ⟨rfl, hb⟩; obtain ⟨w3, s3, hr3, hb3, hz3⟩ := made_write w2 HA zHA.out oHA.out; have H3 := Lib.hid ((H1.out.next hb).next hb3); have R3 := Lib.hid hr3; clear hb hb3 hr3 hz3 H1)
        clear s3
        obtain ⟨g7, hg⟩ : ∃ g, g = w2.heap.size := ⟨_, rfl⟩
        rw [← hg] at R3 ⊢
        clear hg
        go_upto_region 4 with (go_at_call 45; (with_reducible refine (X3.out _).mono ?_); rintro e w4 ⟨rfl, hb⟩; have H4 := Lib.hid (H3.out.next hb); have R4 := Lib.hid (R3.out.next hb); clear hb H3 R3)
        go_upto_region 5 with (go_at_call 47; (with_reducible refine (X4.out _).mono ?_); rintro e w5 ⟨rfl, hb⟩; have H5 := Lib.hid (H4.out.next hb); have R5 := Lib.hid (R4.out.next hb); clear hb H4 R4)
        go_upto_region 6 with (go_at_call 48; (with_reducible refine (X5.out _).mono ?_); rintro e w6 ⟨A, c, rfl, hA, hc, hb⟩; have H6 := Lib.hid (H5.out.next hb); have R6 := Lib.hid (R5.out.next hb); have HA6 := Lib.hid hA; have HC := Lib.hid hc; clear hb H5 R5 hA hc)
        clear R6 HA6 HC
        obtain ⟨Z, hZ, hz⟩ := H6.out.out
        have s6 := hZ.writeG hz (signedV_size 0 zeroL 0 ⟨#[]⟩ none 0 0 zeroL_is.1) (signedV_one 0 zeroL 0 ⟨#[]⟩ none 0 0)
        rw [← hZS.out] at s6
        go_wp2_with (refine wpList_built_none rfl rfl ?_; rw [← hZS.out])
        refine bodyPost_ret (results_row2 (p := 2) (u := 3) rfl _ _ w.heap.size 34 _ (0, 0) _ rfl (hZ.whole ZS) Tryd.underlying34 rfl (sizeG _ zZS.out) (.int .i64 10) rfl) rfl ?_
        rw [HG.out]
        exact ⟨by rw [hZS.out], below_setRow H6.out.below (Nat.le_refl _)⟩
    · have HG : Hid (getF s = none) := Lib.hid (get_no s (fun ha => q2 (HAL.out.1 ha).2.1))
      obtain rfl : o2 = false := by simpa using q2
      clear q2 HAL HOK hs
      go_enter Tryd.func23, Tryd.ntmps23
      go_upto_region 1 with fail
      refine world_gen (fun X => GtH w X) H0.out (fun X HX => ?_)
      have HX := Lib.hid HX
      clear H0
      go_upto_region 2 with (go_at_call 45; (with_reducible refine (X1.out _).mono ?_); rintro e w1 ⟨rfl, hb⟩; have H1 := Lib.hid (HX.out.next hb); clear hb HX)
      go_upto_region 3 with (go_at_call 46; (with_reducible refine (X2.out _).mono ?_); rintro e w2 ⟨rfl, hb⟩; obtain ⟨w3, s3, hr3, hb3, hz3⟩ := made_write w2 HA zHA.out oHA.out; have H3 := Lib.hid ((H1.out.next hb).next hb3); have R3 := Lib.hid hr3; clear hb hb3 hr3 hz3 H1)
      clear s3
      obtain ⟨g7, hg⟩ : ∃ g, g = w2.heap.size := ⟨_, rfl⟩
      rw [← hg] at R3 ⊢
      clear hg
      go_upto_region 4 with (go_at_call 45; (with_reducible refine (X3.out _).mono ?_); rintro e w4 ⟨rfl, hb⟩; have H4 := Lib.hid (H3.out.next hb); have R4 := Lib.hid (R3.out.next hb); clear hb H3 R3)
      go_upto_region 5 with (go_at_call 47; (with_reducible refine (X4.out _).mono ?_); rintro e w5 ⟨rfl, hb⟩; have H5 := Lib.hid (H4.out.next hb); have R5 := Lib.hid (R4.out.next hb); clear hb H4 R4)
      go_upto_region 6 with (go_at_call 48; (with_reducible refine (X5.out _).mono ?_); rintro e w6 ⟨A, c, rfl, hA, hc, hb⟩; have H6 := Lib.hid (H5.out.next hb); have R6 := Lib.hid (R5.out.next hb); have HA6 := Lib.hid hA; have HC := Lib.hid hc; clear hb H5 R5 hA hc)
      clear R6 HA6 HC
      obtain ⟨Z, hZ, hz⟩ := H6.out.out
      have s6 := hZ.writeG hz (signedV_size 0 zeroL 0 ⟨#[]⟩ none 0 0 zeroL_is.1) (signedV_one 0 zeroL 0 ⟨#[]⟩ none 0 0)
      rw [← hZS.out] at s6
      go_wp2_with (refine wpList_built_none rfl rfl ?_; rw [← hZS.out])
      refine bodyPost_ret (results_row2 (p := 2) (u := 3) rfl _ _ w.heap.size 34 _ (0, 0) _ rfl (hZ.whole ZS) Tryd.underlying34 rfl (sizeG _ zZS.out) (.int .i64 10) rfl) rfl ?_
      rw [HG.out]
      exact ⟨by rw [hZS.out], below_setRow H6.out.below (Nat.le_refl _)⟩
  · have HG : Hid (getF s = none) := Lib.hid (get_no s (fun ha => q1 (HAL.out.1 ha).1))
    obtain rfl : o1 = false := by simpa using q1
    clear q1 HAL HOK hs
    go_enter Tryd.func23, Tryd.ntmps23
    go_upto_region 1 with fail
    refine world_gen (fun X => GtH w X) H0.out (fun X HX => ?_)
    have HX := Lib.hid HX
    clear H0
    go_upto_region 2 with (go_at_call 45; (with_reducible refine (X1.out _).mono ?_); rintro e w1 ⟨rfl, hb⟩; have H1 := Lib.hid (HX.out.next hb); clear hb HX)
    go_upto_region 3 with (go_at_call 46; (with_reducible refine (X2.out _).mono ?_); rintro e w2 ⟨rfl, hb⟩; obtain ⟨w3, s3, hr3, hb3, hz3⟩ := made_write w2 HA zHA.out oHA.out; have H3 := Lib.hid ((H1.out.next hb).next hb3); have R3 := Lib.hid hr3; clear hb hb3 hr3 hz3 H1)
    clear s3
    obtain ⟨g7, hg⟩ : ∃ g, g = w2.heap.size := ⟨_, rfl⟩
    rw [← hg] at R3 ⊢
    clear hg
    go_upto_region 4 with (go_at_call 45; (with_reducible refine (X3.out _).mono ?_); rintro e w4 ⟨rfl, hb⟩; have H4 := Lib.hid (H3.out.next hb); have R4 := Lib.hid (R3.out.next hb); clear hb H3 R3)
    go_upto_region 5 with (go_at_call 47; (with_reducible refine (X4.out _).mono ?_); rintro e w5 ⟨rfl, hb⟩; have H5 := Lib.hid (H4.out.next hb); have R5 := Lib.hid (R4.out.next hb); clear hb H4 R4)
    go_upto_region 6 with (go_at_call 48; (with_reducible refine (X5.out _).mono ?_); rintro e w6 ⟨A, c, rfl, hA, hc, hb⟩; have H6 := Lib.hid (H5.out.next hb); have R6 := Lib.hid (R5.out.next hb); have HA6 := Lib.hid hA; have HC := Lib.hid hc; clear hb H5 R5 hA hc)
    clear R6 HA6 HC
    obtain ⟨Z, hZ, hz⟩ := H6.out.out
    have s6 := hZ.writeG hz (signedV_size 0 zeroL 0 ⟨#[]⟩ none 0 0 zeroL_is.1) (signedV_one 0 zeroL 0 ⟨#[]⟩ none 0 0)
    rw [← hZS.out] at s6
    go_wp2_with (refine wpList_built_none rfl rfl ?_; rw [← hZS.out])
    refine bodyPost_ret (results_row2 (p := 2) (u := 3) rfl _ _ w.heap.size 34 _ (0, 0) _ rfl (hZ.whole ZS) Tryd.underlying34 rfl (sizeG _ zZS.out) (.int .i64 10) rfl) rfl ?_
    rw [HG.out]
    exact ⟨by rw [hZS.out], below_setRow H6.out.below (Nat.le_refl _)⟩
end Go.Proofs.YtpndccoikhejgaaDoor
