/-
  Proved: called with any rough head, any text and any place, the statement HeadsBack (a signed head that may be is got of its bytes; of what is cut off, or has anything behind it, none is got; of a Sig of more than 300 bytes, a path of more than 40 hashes or more than 50 bytes behind it asks the examples alone) returns true, and its arguments read as before. Condition: the two tables of the package sha hold what the program's text lays, which the card ties to that text.
-/
import Derived.Test.YtpndccoikhejgaaDoorPk28
import Derived.Test.YtpndccoikhejgaaDoorPk38
namespace Go.Proofs.YtpndccoikhejgaaDoor
open Go.RowKit Go.Great
set_option linter.unusedVariables false
set_option maxRecDepth 100000

attribute [local go_sem ↓ high] read_rg read_g write_g
set_option maxHeartbeats 16000000 in
theorem headsback_any (HS : HeadSays) (s : Int) (h64 : num64 s) (r : List Int) (hr : r.length = 32 ∧ bytes r) (i : Int) (i64 : num64 i) (t : ByteArray) (htm : t.size ≤ maxLen) (m : Int) (hm : -128 ≤ m ∧ m ≤ 127) (xs : List (List Int)) (hxs : hashes xs) (A : Option Addr) (c : Nat) (hc : xs.length ≤ c) (hcm : c ≤ maxLen) (behind : ByteArray) (hbm : behind.size ≤ maxLen) (cut : Int) (hcut : 0 ≤ cut ∧ cut ≤ 65535) (w : World) (hA : HW w A xs) (hT : Tab w) :
    Calls Tryd.prog 5 #[.agg (roughV s r i t m A xs.length c), .string behind, .int .u16 cut] w fun e w' => e = .returned (.bool true) ∧ Below w.heap.size w w' := by
  have KED : Hid (∀ W, Tab W → Calls Tryd.prog 8 #[] W fun e w' => e = .returned (.bool true) ∧ Below W.heap.size W w') := Lib.hid fun W h => headed_any HS W h
  obtain ⟨n, hn⟩ : ∃ n, Hid (n = xs.length) := ⟨_, Lib.hid rfl⟩
  rw [← hn.out]
  obtain ⟨C, hC⟩ : ∃ C, Hid (C = roughV s r i t m A n c) := ⟨_, Lib.hid rfl⟩
  have GO : Hid (∀ W g, Row W g 29 C → (readRg (.pointer (some ⟨g, 0, none⟩))).run Tryd.prog W = .ok (.agg C) W) := Lib.hid fun W g h => by rw [hC.out] at h ⊢; exact rough_all h hr.1
  have H0 := Lib.hid (KoH.start C hA hT)
  rw [← hC.out]
  clear hA hT
  by_cases h1 : 300 < t.size ∨ 40 < n
  · have XGR : Hid (∀ W, Calls Tryd.prog 7 #[.agg C] W fun e w' => e = .returned (.bool true) ∧ Below W.heap.size W w') := Lib.hid fun W => by
      have := great_any s r hr.1 i t m A n c W
      rw [decide_eq_true h1] at this
      rw [hC.out]; exact this
    clear h1 hm hr hxs hc hcm
    go_enter Tryd.func5, Tryd.ntmps5
    go_upto_region 1 with fail
    refine world_gen (fun X => KoH w C A xs X) H0.out (fun X HX => ?_)
    have HX := Lib.hid HX
    clear H0
    have l0 := GO.out _ _ HX.out.row
    go_wp2_with (first
      | (go_at_call 7; (with_reducible refine (XGR.out _).mono ?_); rintro e w1 ⟨rfl, hb⟩; have H1 := Lib.hid (HX.out.next hb); clear hb)
      | (go_at_call 8; (with_reducible refine (KED.out _ H1.out.tab).mono ?_); rintro e wz ⟨rfl, hb⟩; have HB := Lib.hid (below_new H1.out.below hb); clear hb))
    go_ret
    exact ⟨rfl, HB.out⟩
  have XGR : Hid (∀ W, Calls Tryd.prog 7 #[.agg C] W fun e w' => e = .returned (.bool false) ∧ Below W.heap.size W w') := Lib.hid fun W => by
    have := great_any s r hr.1 i t m A n c W
    rw [decide_eq_false h1] at this
    rw [hC.out]; exact this
  by_cases h2 : 50 < behind.size
  · have d2 : decide ((50 : Int) < (behind.size : Int)) = true := decide_eq_true (by omega)
    clear h1 hm hr hxs hc hcm
    go_enter Tryd.func5, Tryd.ntmps5
    go_upto_region 1 with fail
    refine world_gen (fun X => KoH w C A xs X) H0.out (fun X HX => ?_)
    have HX := Lib.hid HX
    clear H0
    have l0 := GO.out _ _ HX.out.row
    go_wp2_with (first
      | (go_at_call 7; (with_reducible refine (XGR.out _).mono ?_); rintro e w1 ⟨rfl, hb⟩; have H1 := Lib.hid (HX.out.next hb); clear hb)
      | (go_at_call 8; (with_reducible refine (KED.out _ H1.out.tab).mono ?_); rintro e wz ⟨rfl, hb⟩; have HB := Lib.hid (below_new H1.out.below hb); clear hb))
    go_ret
    exact ⟨rfl, HB.out⟩
  have d2 : decide ((50 : Int) < (behind.size : Int)) = false := decide_eq_false (by omega)
  have XSG : Hid (∀ W, Calls Tryd.prog 9 #[.agg C] W fun e w' => ∃ sg, sg.size ≤ 16511 ∧ e = .returned (.agg (signedV s r i sg A n c)) ∧ Below W.heap.size W w') := Lib.hid fun W => by
    rw [hC.out]; exact signed_any s r hr.1 i t (by omega) m hm A n c W
  go_enter Tryd.func5, Tryd.ntmps5
  go_upto_region 1 with fail
  refine world_gen (fun X => KoH w C A xs X) H0.out (fun X HX => ?_)
  have HX := Lib.hid HX
  clear H0
  have l0 := GO.out _ _ HX.out.row
  go_upto_region 3 with (go_at_call 7; (with_reducible refine (XGR.out _).mono ?_); rintro e w1 ⟨rfl, hb⟩; have H1 := Lib.hid (HX.out.next hb); clear hb)
  clear l0
  have l1 := GO.out _ _ H1.out.row
  go_upto_region 4 with (go_at_call 9; (with_reducible refine (XSG.out _).mono ?_); rintro e w2 ⟨sg, hsg, rfl, hb⟩; have H2 := Lib.hid (H1.out.next hb); clear hb; obtain ⟨x, hx⟩ : ∃ x : Sh, Hid (x = ⟨s, r, i, sg, xs⟩) := ⟨_, Lib.hid rfl⟩; obtain ⟨SV, hSV⟩ : ∃ C, Hid (C = signedV s r i sg A n c) := ⟨_, Lib.hid rfl⟩; have zS : Hid (SV.size = 36 ∧ SV.all (·.oneCell') = true) := Lib.hid (by rw [hSV.out]; exact ⟨signedV_size _ _ _ _ _ _ _ hr.1, signedV_one _ _ _ _ _ _ _⟩); rw [← hSV.out]; obtain ⟨w3, s3, hr3, hb3⟩ := made_signed w2 SV zS.out.1 zS.out.2; rw [← signed_zero] at s3)
  obtain ⟨g3, hg⟩ : ∃ g, g = w2.heap.size := ⟨_, rfl⟩
  rw [← hg] at hr3 ⊢
  have H3 := Lib.hid (H2.out.next hb3)
  have R3 := Lib.hid hr3
  have HSX : Hid (shV x A c = SV) := Lib.hid (by rw [hx.out, hSV.out, hn.out]; rfl)
  have HIN : Hid (∀ W, HW W A xs → HeadIn W x A c) := Lib.hid fun W h => by rw [hx.out]; exact ⟨⟨hr, hxs⟩, h64, i64, by show sg.size ≤ maxLen; unfold maxLen; omega, h, hc, hcm⟩
  clear s3 hr3 hb3 hg H2 H1 HX l1
  have GV : Hid (∀ W g, Row W g 34 SV → (readG (.pointer (some ⟨g, 0, none⟩))).run Tryd.prog W = .ok (.agg SV) W) := Lib.hid fun W g h => by rw [hSV.out] at h ⊢; exact signed_all h hr.1
  have XP : Hid (∀ W, Tab W → HW W A xs → Calls Tryd.prog 10 #[.agg SV] W fun e w' => e = .returned (.tuple #[.string (putF x).1, .int .i64 (putF x).2]) ∧ Below W.heap.size W w') := Lib.hid fun W h1 h2 => by rw [← HSX.out]; exact HS.put x A c W h1 (HIN.out W h2)
  have XV : Hid (∀ W, Tab W → HW W A xs → Calls Tryd.prog 14 #[.agg SV] W fun e w' => e = .returned (.bool (decide x.ok)) ∧ Below W.heap.size W w') := Lib.hid fun W h1 h2 => by rw [← HSX.out]; exact HS.valid x A c W h1 (HIN.out W h2)
  have hf : Hid x.fits := Lib.hid (by rw [hx.out]; exact ⟨hr, hxs⟩)
  have l3 := GV.out _ _ R3.out
  by_cases ho : x.ok
  · rw [decide_eq_true ho] at XV
    have hp : putF x = (headS x, 0) := by unfold putF; rw [if_pos ho]
    rw [hp] at XP
    have hbd := headS_bounds x hf.out ho
    obtain ⟨T, hT⟩ : ∃ T, Hid (T = headS x) := ⟨_, Lib.hid rfl⟩
    simp only [← hT.out] at XP hbd
    obtain ⟨k, hk⟩ : ∃ k : Nat, cut = (k : Int) := ⟨cut.toNat, by omega⟩
    subst hk
    obtain ⟨q, hq⟩ : ∃ q, Hid (q = k % T.size) := ⟨_, Lib.hid rfl⟩
    have q1 : q < T.size := by rw [hq.out]; exact Nat.mod_lt _ (by omega)
    have q2 : (k : Int).tmod (T.size : Int) = (q : Int) := by rw [hq.out]; exact rem_nat k T.size
    have q3 : (q : Int) ≤ (T.size : Int) := by omega
    have q3b : q ≤ T.size := by omega
    have q4 : (0 : Int) ≤ (q : Int) := by omega
    have k1 : IntKind.i64.wrap (k : Int) = (k : Int) := by rw [IntKind.wrap_i64]; omega
    have k2 : wrap64 (k : Int) = (k : Int) := by unfold wrap64; omega
    have q5 : IntKind.i64.wrap (q : Int) = (q : Int) := by rw [IntKind.wrap_i64]; omega
    have q6 : wrap64 (q : Int) = (q : Int) := by unfold wrap64; omega
    have q7 : (T.size : Int) ≠ 0 := by omega
    have q8 : ¬ (T.size : Int) ≤ 16384 := by omega
    have q9 : decide ((T.size : Int) ≤ 16384) = false := decide_eq_false q8
    have q10 : ((T.size : Int) == 0) = false := by rw [beq_eq_false_iff_ne]; exact q7
    obtain ⟨U, hU⟩ : ∃ U, Hid (U = T.extract 0 q) := ⟨_, Lib.hid rfl⟩
    have tz : Hid (T.size ≤ maxLen) := Lib.hid (Nat.le_trans hbd.2 (by decide))
    have uz : Hid (U.size ≤ maxLen) := Lib.hid (by rw [hU.out]; exact front_le _ _ tz.out)
    have jn := join_text T behind (by have := hbd.2; omega)
    obtain ⟨ZS, hZS⟩ : ∃ C, Hid (C = signedV 0 zeroL 0 ⟨#[]⟩ none 0 0) := ⟨_, Lib.hid rfl⟩
    have zZ : Hid (ZS.size = 36 ∧ ZS.all (·.oneCell') = true) := Lib.hid (by rw [hZS.out]; exact ⟨signedV_size _ _ _ _ _ _ _ zeroL_is.1, signedV_one _ _ _ _ _ _ _⟩)
    have BZ : Hid (Tryd.prog.built 34 [] = some ZS) := Lib.hid (by rw [hZS.out]; exact built_signed0)
    have GZ : Hid (∀ W g, Row W g 34 ZS → (readG (.pointer (some ⟨g, 0, none⟩))).run Tryd.prog W = .ok (.agg ZS) W) := Lib.hid fun W g h => by rw [hZS.out] at h ⊢; exact signed_all h zeroL_is.1
    have YG : Hid (∀ W, Tab W → Calls Tryd.prog 22 #[.string T] W fun e w' => ∃ B d, e = .returned (.tuple #[.agg (shV x B d), .int .i64 0]) ∧ (n ≤ d ∧ d ≤ maxLen) ∧ HW w' B xs ∧ Below W.heap.size W w') := Lib.hid fun W h => by
      have := HS.get T W h tz.out
      rw [hT.out, get_put x hf.out ho] at this
      rw [hT.out]
      have hxp : x.path = xs := by rw [hx.out]
      refine this.mono ?_
      rintro e w' ⟨B, d, e1, e2, e3, e4⟩
      rw [hxp] at e2 e3
      rw [hn.out]
      exact ⟨B, d, e1, e2, e3, e4⟩
    have YC : Hid (∀ W, Tab W → Calls Tryd.prog 22 #[.string U] W fun e w' => e = .returned (.tuple #[.agg ZS, .int .i64 10]) ∧ Below W.heap.size W w') := Lib.hid fun W h => by
      have hg : getF U = none := by rw [hU.out, hT.out]; exact get_cut x hf.out ho q (by rw [← hT.out]; exact q1)
      have := HS.get U W h uz.out
      rw [hg] at this
      rw [hZS.out]; exact this
    have n63 : Hid (n ≤ 9223372036854775807) := Lib.hid (by rw [hn.out]; unfold maxLen at hcm; omega)
    have hxn : Hid (x.path = xs ∧ x.path.length = n) := Lib.hid ⟨by rw [hx.out], by rw [hx.out, hn.out]⟩
    have SMX : Hid (∀ W B d, HW W B xs → HW W A xs → Calls Tryd.prog 24 #[.agg (shV x B d), .agg SV] W fun e w' => e = .returned (.bool true) ∧ Below W.heap.size W w') := Lib.hid fun W B d h1 h2 => by
      have h63 : x.path.length ≤ 9223372036854775807 := by rw [hxn.out.2]; exact n63.out
      have := lawHeadSame_any x x hf.out hf.out h63 h63 B A d c W (by rw [hxn.out.1]; exact h1) (by rw [hxn.out.1]; exact h2)
      rw [decide_eq_true ((sameP_iff x x).2 rfl)] at this
      rw [← HSX.out]; exact this
    have zf : Hid ((⟨0, zeroL, 0, ⟨#[]⟩, []⟩ : Sh).fits) := Lib.hid ⟨zeroL_is, fun l hl => by cases hl⟩
    have SMZ : Hid (∀ W, Calls Tryd.prog 24 #[.agg ZS, .agg ZS] W fun e w' => e = .returned (.bool true) ∧ Below W.heap.size W w') := Lib.hid fun W => by
      have := lawHeadSame_any ⟨0, zeroL, 0, ⟨#[]⟩, []⟩ ⟨0, zeroL, 0, ⟨#[]⟩, []⟩ zf.out zf.out (Nat.zero_le _) (Nat.zero_le _) none none 0 0 W (HL.nil _ _ _) (HL.nil _ _ _)
      rw [decide_eq_true ((sameP_iff _ _).2 rfl)] at this
      rw [hZS.out]; exact this
    have SMN : Hid (∀ W, HW W A xs → Calls Tryd.prog 24 #[.agg ZS, .agg SV] W fun e w' => e = .returned (.bool false) ∧ Below W.heap.size W w') := Lib.hid fun W h2 => by
      have h63 : x.path.length ≤ 9223372036854775807 := by rw [hxn.out.2]; exact n63.out
      have := lawHeadSame_any ⟨0, zeroL, 0, ⟨#[]⟩, []⟩ x zf.out hf.out (Nat.zero_le _) h63 none A 0 c W (HL.nil _ _ _) (by rw [hxn.out.1]; exact h2)
      rw [decide_eq_false (fun e => by have e := (sameP_iff _ _).1 e; have := ho.2.2.2; rw [← e] at this; cases this)] at this
      rw [← HSX.out, hZS.out]; exact this
    have x36 : Hid (∀ B d, (shV x B d).size = 36 ∧ (shV x B d).all (·.oneCell') = true) := Lib.hid fun B d => ⟨signedV_size _ _ _ _ _ _ _ hf.out.1.1, signedV_one _ _ _ _ _ _ _⟩
    have GX : Hid (∀ B d W g, Row W g 34 (shV x B d) → (readG (.pointer (some ⟨g, 0, none⟩))).run Tryd.prog W = .ok (.agg (shV x B d)) W) := Lib.hid fun B d W g h => signed_all h hf.out.1.1
    have h2b : Hid (behind.size ≤ 50) := Lib.hid (by omega)
    have hbd2 := Lib.hid hbd
    clear hp h64 i64 htm hbm hcm hc hxs hr hm hcut h2 hbd
    go_upto_region 5 with (go_at_call 10; (with_reducible refine (XP.out _ H3.out.tab H3.out.lst).mono ?_); rintro e w4 ⟨rfl, hb⟩; have H4 := Lib.hid (H3.out.next hb); have R4 := Lib.hid (R3.out.next hb); clear hb)
    have l4 := GV.out _ _ R4.out
    go_upto_region 7 with (go_at_call 14; (with_reducible refine (XV.out _ H4.out.tab H4.out.lst).mono ?_); rintro e w5 ⟨rfl, hb⟩; have H5 := Lib.hid (H4.out.next hb); have R5 := Lib.hid (R4.out.next hb); clear hb)
    clear l3 l4 H3 R3 H4 R4
    go_upto_region 8 with (go_at_call 22; (with_reducible refine (YG.out _ H5.out.tab).mono ?_); rintro e w6 ⟨B, d, rfl, hd, hB, hb⟩; have H6 := Lib.hid (H5.out.next hb); have R6 := Lib.hid (R5.out.next hb); have B6 := Lib.hid hB; clear hb hB hd; obtain ⟨XV1, hXV⟩ : ∃ C, Hid (C = shV x B d) := ⟨_, Lib.hid rfl⟩; obtain ⟨w7, s7, hr7, hb7⟩ := made_signed w6 XV1 (by rw [hXV.out]; exact (x36.out B d).1) (by rw [hXV.out]; exact (x36.out B d).2); rw [← signed_zero] at s7; rw [← hXV.out])
    obtain ⟨g7, hg⟩ : ∃ g, g = w6.heap.size := ⟨_, rfl⟩
    rw [← hg] at hr7 ⊢
    have H7 := Lib.hid (H6.out.next hb7)
    have R7 := Lib.hid (R6.out.next hb7)
    have P7 := Lib.hid hr7
    have B7 := Lib.hid (B6.out.next hb7)
    clear s7 hr7 hb7 hg H5 R5 H6 R6 B6
    have SM1 := Lib.hid (SMX.out w7 B d B7.out H7.out.lst)
    have GX1 : Hid (∀ W g, Row W g 34 XV1 → (readG (.pointer (some ⟨g, 0, none⟩))).run Tryd.prog W = .ok (.agg XV1) W) := Lib.hid fun W g h => by rw [hXV.out] at h ⊢; exact GX.out B d W g h
    rw [← hXV.out] at SM1
    have l7 := GV.out _ _ R7.out
    have l8 := GX1.out _ _ P7.out
    clear hXV
    go_upto_region 10 with (go_at_call 24; (with_reducible refine SM1.out.mono ?_); rintro e w8 ⟨rfl, hb⟩; have H8 := Lib.hid (H7.out.next hb); have R8 := Lib.hid (R7.out.next hb); clear hb)
    clear l7 l8 H7 R7 P7 B7 SM1
    have hU2 := hU.out.symm
    go_upto_region 11 with (go_at_call 22; (with_reducible refine (YC.out _ H8.out.tab).mono ?_); rintro e w9 ⟨rfl, hb⟩; have H9 := Lib.hid (H8.out.next hb); have R9 := Lib.hid (R8.out.next hb); clear hb; obtain ⟨wa, sa, hra, hba⟩ := made_signed w9 ZS zZ.out.1 zZ.out.2; rw [← signed_zero] at sa)
    obtain ⟨ga, hg⟩ : ∃ g, g = w9.heap.size := ⟨_, rfl⟩
    rw [← hg] at hra ⊢
    have HA1 := Lib.hid (H9.out.next hba)
    have RA1 := Lib.hid (R9.out.next hba)
    have PA1 := Lib.hid hra
    clear sa hra hba hg H8 R8 H9 R9
    by_cases hz : behind.size = 0
    · obtain rfl : behind = ⟨#[]⟩ := empty_of_size hz
      have tb : ((⟨#[]⟩ : ByteArray).toList == (⟨#[]⟩ : ByteArray).toList) = true := beq_self_eq_true _
      have eT : T ++ ⟨#[]⟩ = T := app_empty T
      rw [eT] at jn
      go_upto_region 12 with (go_at_call 22; (with_reducible refine (YG.out _ HA1.out.tab).mono ?_); rintro e wb ⟨B2, d2, rfl, hd, hB, hb⟩; have H6 := Lib.hid (HA1.out.next hb); have R6 := Lib.hid (RA1.out.next hb); have P6 := Lib.hid (PA1.out.next hb); have B6 := Lib.hid hB; clear hb hB hd; obtain ⟨XV2, hXV⟩ : ∃ C, Hid (C = shV x B2 d2) := ⟨_, Lib.hid rfl⟩; obtain ⟨wc, s7, hr7, hb7⟩ := made_signed wb XV2 (by rw [hXV.out]; exact (x36.out B2 d2).1) (by rw [hXV.out]; exact (x36.out B2 d2).2); rw [← signed_zero] at s7; rw [← hXV.out])
      obtain ⟨gc, hg⟩ : ∃ g, g = wb.heap.size := ⟨_, rfl⟩
      rw [← hg] at hr7 ⊢
      have H7 := Lib.hid (H6.out.next hb7)
      have R7 := Lib.hid (R6.out.next hb7)
      have P7 := Lib.hid (P6.out.next hb7)
      have Q7 := Lib.hid hr7
      have B7 := Lib.hid (B6.out.next hb7)
      clear s7 hr7 hb7 hg H6 R6 B6 P6 HA1 RA1 PA1
      have GX1 : Hid (∀ W g, Row W g 34 XV2 → (readG (.pointer (some ⟨g, 0, none⟩))).run Tryd.prog W = .ok (.agg XV2) W) := Lib.hid fun W g h => by rw [hXV.out] at h ⊢; exact GX.out B2 d2 W g h
      have SM2 : Hid (∀ W, HW W B2 xs → HW W A xs → Calls Tryd.prog 24 #[.agg XV2, .agg SV] W fun e w' => e = .returned (.bool true) ∧ Below W.heap.size W w') := Lib.hid fun W h1 h2 => by rw [hXV.out]; exact SMX.out W B2 d2 h1 h2
      clear hXV
      have l7 := GZ.out _ _ P7.out
      go_wp2_with (first
        | (refine wpList_builtG0 rfl rfl BZ.out ?_)
        | (go_at_call 24; (with_reducible refine (SMZ.out _).mono ?_); rintro e wd ⟨rfl, hb⟩; have H8 := Lib.hid (H7.out.next hb); have l8 := GV.out _ _ (R7.out.next hb); have l9 := GX1.out _ _ (Q7.out.next hb); have B8 := Lib.hid (B7.out.next hb); clear hb)
        | (go_at_call 24; (with_reducible refine (SM2.out _ B8.out H8.out.lst).mono ?_); rintro e we ⟨rfl, hb⟩; have H9 := Lib.hid (H8.out.next hb); clear hb)
        | (go_at_call 8; (with_reducible refine (KED.out _ H9.out.tab).mono ?_); rintro e wz ⟨rfl, hb⟩; have HB := Lib.hid (below_new H9.out.below hb); clear hb))
      go_ret
      exact ⟨rfl, HB.out⟩
    · have tb : (behind.toList == (⟨#[]⟩ : ByteArray).toList) = false := text_eq_no (fun e => hz (by rw [e]; rfl))
      have hl : behind.toList ≠ [] := fun e => hz (by
        have e2 : behind = ⟨#[]⟩ := text_of_list (by rw [e]; first | rfl | simp [ByteArray.toList_eq] | decide)
        rw [e2]; rfl)
      have t1 : (behind.toList == []) = false := by simpa using hl
      have t2 : behind.toList.isEmpty = false := by simpa using hl
      have t3 : decide (behind.toList = []) = false := by simpa using hl
      have YB : Hid (∀ W, Tab W → Calls Tryd.prog 22 #[.string (T ++ behind)] W fun e w' => e = .returned (.tuple #[.agg ZS, .int .i64 10]) ∧ Below W.heap.size W w') := Lib.hid fun W h => by
        have := HS.get (T ++ behind) W h (Nat.le_trans (by rw [ByteArray.size_append]; exact Nat.add_le_add hbd2.out.2 h2b.out) (by decide : 20000 + 50 ≤ maxLen))
        rw [hT.out, get_behind x hf.out ho behind hz] at this
        rw [hT.out, hZS.out]; exact this
      go_upto_region 12 with (go_at_call 22; (with_reducible refine (YB.out _ HA1.out.tab).mono ?_); rintro e wb ⟨rfl, hb⟩; have H6 := Lib.hid (HA1.out.next hb); have R6 := Lib.hid (RA1.out.next hb); have P6 := Lib.hid (PA1.out.next hb); clear hb; obtain ⟨wc, s7, hr7, hb7⟩ := made_signed wb ZS zZ.out.1 zZ.out.2; rw [← signed_zero] at s7)
      obtain ⟨gc, hg⟩ : ∃ g, g = wb.heap.size := ⟨_, rfl⟩
      rw [← hg] at hr7 ⊢
      have H7 := Lib.hid (H6.out.next hb7)
      have R7 := Lib.hid (R6.out.next hb7)
      have P7 := Lib.hid (P6.out.next hb7)
      have Q7 := Lib.hid hr7
      clear s7 hr7 hb7 hg H6 R6 P6 HA1 RA1 PA1
      have l7 := GZ.out _ _ P7.out
      go_wp2_with (first
        | (refine wpList_builtG0 rfl rfl BZ.out ?_)
        | (go_at_call 24; (with_reducible refine (SMZ.out _).mono ?_); rintro e wd ⟨rfl, hb⟩; have H8 := Lib.hid (H7.out.next hb); have l8 := GV.out _ _ (R7.out.next hb); have l9 := GZ.out _ _ (Q7.out.next hb); clear hb)
        | (go_at_call 24; (with_reducible refine (SMN.out _ H8.out.lst).mono ?_); rintro e we ⟨rfl, hb⟩; have H9 := Lib.hid (H8.out.next hb); clear hb)
        | (go_at_call 8; (with_reducible refine (KED.out _ H9.out.tab).mono ?_); rintro e wz ⟨rfl, hb⟩; have HB := Lib.hid (below_new H9.out.below hb); clear hb))
      go_ret
      exact ⟨rfl, HB.out⟩
  · rw [decide_eq_false ho] at XV
    have hp : putF x = (⟨#[]⟩, 2) := by unfold putF; rw [if_neg ho]
    rw [hp] at XP
    clear hp h64 i64 htm hbm hcm hc hxs hr hm hcut h2
    go_upto_region 5 with (go_at_call 10; (with_reducible refine (XP.out _ H3.out.tab H3.out.lst).mono ?_); rintro e w4 ⟨rfl, hb⟩; have H4 := Lib.hid (H3.out.next hb); have R4 := Lib.hid (R3.out.next hb); clear hb)
    have l4 := GV.out _ _ R4.out
    go_wp2_with (first
      | (go_at_call 14; (with_reducible refine (XV.out _ H4.out.tab H4.out.lst).mono ?_); rintro e w5 ⟨rfl, hb⟩; have H9 := Lib.hid (H4.out.next hb); clear hb)
      | (go_at_call 8; (with_reducible refine (KED.out _ H9.out.tab).mono ?_); rintro e wz ⟨rfl, hb⟩; have HB := Lib.hid (below_new H9.out.below hb); clear hb))
    go_ret
    exact ⟨rfl, HB.out⟩
end Go.Proofs.YtpndccoikhejgaaDoor
namespace Go.Proofs.YtpndccoikhejgaaDoor.back
open Go.ChangeShapes Go.WideShapes Go.ChangeAt Go.RowKit
open Go.ChangeMaps (open_string)
set_option linter.unusedVariables false

set_option maxRecDepth 100000 in
theorem lifted (os : Os) (started : os.Started) (H : Type) (enc : TypeId × Value → H) :
    ReturnsInHanded {} Tryd.checked os 5 .any (fun w args => (Rows.headsBackSpec.pre enc Tryd.prog Tryd.f5 [] false w args ∧ laidMetH Tryd.prog laid2 w) ∧ sizedMet enc Tryd.prog Tryd.f5 (OpenSpec.ofChange Rows.headsBackSpec) false w args)
      (Rows.headsBackSpec.post enc Tryd.prog Tryd.f5 false true false false) := by
  refine returnsInHanded_of_change_and (C := Tryd.checked) (X := fun w _ => laidMetH Tryd.prog laid2 w) (fun _ _ _ hh h => h.of_heap hh) own started (by kernel_rfl) Tryd.func5
    (ChangeSpec.witness_shaped (enc := enc) (C := Tryd.checked) (os := os) (X := fun w _ => laidMetH Tryd.prog laid2 w) false (World.doorLaid Tryd.prog 400 os) #[.agg (roughV 0 zero32 0 ⟨#[]⟩ 0 none 0 0), .string ⟨#[]⟩, .int .u16 0] 8 rfl (World.shaped_of_RefB (by kernel_rfl) (by kernel_rfl)) (by kernel_rfl) (by kernel_rfl) (by kernel_rfl) (door_met os _)) ?_
  intro W base args ds gs before hval0 hW _ _ hL _
  have hval : ∀ (j : Nat) t v, Tryd.f5.params[j]? = some t → args[j]? = some v → Value.okWide Tryd.prog W .any base t v := hval0
  have hW' := hW
  obtain ⟨p, q, hA0, hV, rfl, hfz, hnd⟩ := hW
  have hA : DataW.TrodAll enc Tryd.prog W 0 (fun _ => true) true Tryd.f5.params.toList args.toList ds p := hA0
  rw [Tryd.params5] at hA hval
  obtain ⟨v0, vs0, d0, ds0, p0, q0, hargs, rfl, rfl, h0, r0⟩ := trodAll_cons hA
  obtain ⟨v1, vs1, d1, ds1, p1, q1, rfl, rfl, rfl, h1, r1⟩ := trodAll_cons r0
  obtain ⟨v2, vs2, d2, ds2, p2, q2, rfl, rfl, rfl, h2, r2⟩ := trodAll_cons r1
  obtain ⟨rfl, rfl, rfl⟩ := trodAll_nil r2
  obtain rfl : args = #[v0, v1, v2] := by cases args; simp_all
  obtain ⟨rfl, rfl⟩ := trodVars_none hV
  have k0 := h0
  have lt0 : ∀ x ∈ p0, x.block < W.heap.size := by obtain ⟨m, hm⟩ := k0; exact DataW.trod_lt m _ _ _ hm
  have k1 := h1
  have lt1 : ∀ x ∈ p1, x.block < W.heap.size := by obtain ⟨m, hm⟩ := k1; exact DataW.trod_lt m _ _ _ hm
  obtain ⟨z0, r0_, i0, t0, y0, A0, c0, ls0, rfl, hz0, hr0, hi0, ht0, hy0, hh0, hl0, hc0, hm0⟩ := open_rough (hval 0 29 v0 rfl rfl) h0
  obtain ⟨s1, rfl, hd1, _, w1⟩ := open_string Tryd.underlying9 (hval 1 9 v1 rfl rfl) h1
  obtain ⟨n2, rfl, rfl, rfl, w2⟩ := open_int Tryd.underlying45 (hval 2 45 v2 rfl rfl) h2
  have b2 := bounds_u16 w2
  clear hA0 hval0
  refine (headsback_any head_says z0 hz0 r0_ hr0 i0 hi0 t0 ht0 y0 hy0 ls0 hh0 A0 c0 hc0 hm0 s1 w1 n2 (by omega) W hl0 (of_laid hL)).mono fun e W' ⟨he, bel⟩ => ?_
  subst he
  exact ⟨_, rfl, _, _, _, [], _, [], hW', trodAll_mk1 (shut_bool Tryd.underlying4 _), (trodAll_cons_mk (Below.trod laidOut (by kernel_rfl) (of_decide_eq_true (by kernel_rfl)) k0 bel lt0) (trodAll_cons_mk (Below.trod laidOut (by kernel_rfl) (of_decide_eq_true (by kernel_rfl)) k1 bel lt1) (trodAll_cons_mk (shut_int Tryd.underlying45 w2) trodAll_mk0))), rfl, bel.frame _, fun h => by cases h⟩

theorem over : Rows.HeadsBackSaid :=
  OpenClaim.holds_of_wide 5 Tryd.f5 rfl rfl rfl rfl rfl rfl rfl ⟨rfl, rfl, rfl, rfl, rfl⟩ rfl rfl rfl rfl rfl (by kernel_rfl) Tryd.func5 (by kernel_rfl)
    (of_decide_eq_true (by kernel_rfl)) (by unfold Func.isWrapper; first | (rw [if_pos (by decide +kernel)]; kernel_rfl) | (rw [if_neg (by decide +kernel)]; exact ⟨rfl, rfl⟩))
    (fun os started H enc _ => lifted os started H enc)

/-- The statement. -/
theorem proved : Rows.HeadsBackCardSaid :=
  Claim7.holds_tied_plain_at .later [] [.data, .data] true _ false
    over (fun _ h => by cases h) (by kernel_rfl) (fun _ h => by cases h) headsBack_row_tie rfl ⟨rfl, rfl⟩ (by kernel_rfl) rfl
    (fun f fn hf hfn => by
      obtain rfl : f = 5 := Option.some.inj ((show Tryd.prog.funcNamed "speculum/speculumlaw10.HeadsBack" = some 5 by kernel_rfl).symm.trans hf) |>.symm
      obtain rfl : fn = Tryd.f5 := (Option.some.inj (Tryd.func5.symm.trans hfn)).symm
      exact ⟨by kernel_rfl, fun j t ht => by
        rw [Tryd.params5] at ht
        have hm : t ∈ [29, 9, 45] := by simpa using Array.mem_of_getElem? ht
        have hall : ([29, 9, 45].all fun u => !Tryd.prog.wantsStandIn u) = true := by kernel_rfl
        exact (show Tryd.prog.wantsStandIn t = false by simpa using List.all_eq_true.1 hall t hm)⟩)
    (by kernel_rfl)
#print axioms proved
end Go.Proofs.YtpndccoikhejgaaDoor.back
