/-
  Proved: called with any forgery and any two hashes, the statement KeytreeVerify (whether any seal is verified against any root, for any digest, is the document's; so it is of what a key has signed, and of what is made of that; of a path of more than 40 hashes it asks the examples alone) returns true, and its arguments read as before. Condition: the two tables of the package sha hold what the program's text lays, which the card ties to that text.
-/
import Derived.Test.YtgnkdkehooagpaaDoorPk90
import Derived.Test.YtgnkdkehooagpaaDoorPk34
import Derived.Test.YtgnkdkehooagpaaDoorPk27
namespace Go.Proofs.YtgnkdkehooagpaaDoor
open Go.RowKit Go.Great
set_option linter.unusedVariables false
set_option maxRecDepth 100000

theorem extract_le (s : ByteArray) (a b : Nat) (h : s.size ≤ maxLen) : (s.extract a b).size ≤ maxLen := by rw [ByteArray.size_extract]; omega
attribute [local go_sem ↓ high] read_at write_at read_s write_s eq_at neq_at
set_option maxHeartbeats 16000000 in
theorem keyverlaw_any (TR : World → Value → ByteArray → Prop) (TS : TreeSays TR) (x0 m0 y0 u0 : Int) (hx0 : num64 x0) (hm0 : 0 ≤ m0 ∧ m0 < 65536) (hy0 : 0 ≤ y0 ∧ y0 < 256) (hu0 : 0 ≤ u0 ∧ u0 < 65536) (xs : List (List Int)) (hxs : hashes xs) (XA : Option Addr) (xc : Nat)
    (root : List Int) (hr : root.length = 32 ∧ bytes root) (d : List Int) (hd : d.length = 32 ∧ bytes d) (w : World) (hT : Tab w) (hXA : HW w XA xs) (hxc : xs.length ≤ xc) (hxm : xc ≤ maxLen) :
    Calls Tryd.prog 4 #[.agg (forgeV x0 m0 y0 XA xs.length xc u0), .agg (nums .u8 root), .agg (nums .u8 d)] w fun e w' => e = .returned (.bool true) ∧ Below w.heap.size w w' := by
  have KED : Hid (∀ W, Tab W → Calls Tryd.prog 7 #[] W fun e w' => e = .returned (.bool true) ∧ Below W.heap.size W w') := Lib.hid fun W h => planted_any TR TS W h
  obtain ⟨n, hn⟩ : ∃ n, Hid (n = xs.length) := ⟨_, Lib.hid rfl⟩
  obtain ⟨FV, hFV⟩ : ∃ F, F = forgeV x0 m0 y0 XA n xc u0 := ⟨_, rfl⟩
  obtain ⟨R0, hR0⟩ : ∃ R, Hid (R = nums .u8 root) := ⟨_, Lib.hid rfl⟩
  obtain ⟨D, hD⟩ : ∃ D, Hid (D = nums .u8 d) := ⟨_, Lib.hid rfl⟩
  have zR0 : Hid (R0.size = 32) := Lib.hid (by rw [hR0.out, nums_size]; exact hr.1)
  have zD : Hid (D.size = 32) := Lib.hid (by rw [hD.out, nums_size]; exact hd.1)
  have oR0 : Hid (R0.all (·.oneCell') = true) := Lib.hid (by rw [hR0.out]; exact nums_one _ _)
  have H0 := Lib.hid (KuH.start hT FV R0 D)
  have CF : Hid (∀ W g, Row W g 41 FV → W.cell? ⟨g, 0, none⟩ = some (.int .i64 x0) ∧ W.cell? ⟨g, 1, none⟩ = some (.int .u16 m0) ∧ W.cell? ⟨g, 2, none⟩ = some (.int .u8 y0) ∧ W.cell? ⟨g, 3, none⟩ = some (.slice XA n xc) ∧ W.cell? ⟨g, 4, none⟩ = some (.int .u16 u0)) := Lib.hid fun W g h => by
    subst hFV; exact forge_cells h
  have HXA := Lib.hid hXA
  rw [← hn.out, ← hFV, ← hR0.out, ← hD.out]
  clear hFV
  by_cases h4 : 40 < n
  · have e1 : decide (40 < (n : Int)) = true := decide_eq_true (by omega)
    have e2 : (40 : Int) < (n : Int) := by omega
    clear hxs hr hd hT hXA hxc hxm hx0 hm0 hy0 hu0
    go_enter Tryd.func4, Tryd.ntmps4
    go_upto_region 1 with fail
    refine world_gen (fun X => KuH w FV R0 D X) H0.out (fun X HX => ?_)
    have HX := Lib.hid HX
    obtain ⟨c0, c1, c2, c3, c4⟩ := CF.out _ _ HX.out.fg
    go_wp2_with (go_at_call 7; (with_reducible refine (KED.out _ HX.out.tab).mono ?_); rintro e w1 ⟨rfl, hb⟩; have HB := Lib.hid (below_new HX.out.below hb); clear hb)
    go_ret
    exact ⟨rfl, HB.out⟩
  have e1 : decide (40 < (n : Int)) = false := decide_eq_false (by omega)
  have e2 : ¬ (40 : Int) < (n : Int) := by omega
  have HNX : Hid (n = xs.length ∧ n ≤ xc ∧ xc ≤ maxLen) := Lib.hid ⟨hn.out, by rw [hn.out]; exact hxc, hxm⟩
  have HXS := Lib.hid hxs
  have HR := Lib.hid hr
  have HDD := Lib.hid hd
  have HX0 := Lib.hid hx0
  obtain ⟨I, hI⟩ : ∃ I : Nat, x0 % 8 = (I : Int) := ⟨(x0 % 8).toNat, by omega⟩
  have HI8 : Hid (I < 8) := Lib.hid (by omega)
  have ha : bits .and .i64 x0 7 = (I : Int) := by rw [and_7, hI]
  obtain ⟨E, hE⟩ : ∃ E, Hid (E = sigF ⟨#[107]⟩ I d) := ⟨_, Lib.hid rfl⟩
  have EZ : Hid (E.size = 16384) := Lib.hid (by rw [hE.out]; exact sigF_size ⟨#[107]⟩ I d (by have := HI8.out; omega))
  have hEi : (E.size : Int) = 16384 := by have := EZ.out; omega
  have EM : Hid (E.size ≤ maxLen) := Lib.hid (by rw [EZ.out]; decide)
  obtain ⟨ps, hps⟩ : ∃ ps, Hid (ps = pathL (keysF ⟨#[107]⟩) I) := ⟨_, Lib.hid rfl⟩
  have lps : Hid (ps.length = 3) := Lib.hid (by rw [hps.out]; exact path8_length ⟨#[107]⟩ I HI8.out)
  have hhp : Hid (hashes ps) := Lib.hid (by rw [hps.out]; exact path8_hashes ⟨#[107]⟩ I)
  obtain ⟨rt, hrt⟩ : ∃ r, Hid (r = rootF ⟨#[107]⟩) := ⟨_, Lib.hid rfl⟩
  have rt32 : Hid (rt.length = 32 ∧ bytes rt) := Lib.hid (by rw [hrt.out]; exact rootF_is ⟨#[107]⟩)
  obtain ⟨RT, hRT⟩ : ∃ R, Hid (R = nums .u8 rt) := ⟨_, Lib.hid rfl⟩
  have zRT : Hid (RT.size = 32) := Lib.hid (by rw [hRT.out, nums_size]; exact rt32.out.1)
  have oRT : Hid (RT.all (·.oneCell') = true) := Lib.hid (by rw [hRT.out]; exact nums_one _ _)
  have XN : Hid (∀ W, Tab W → Calls Tryd.prog 8 #[.string ⟨#[107]⟩] W fun e w' => ∃ v, e = .returned v ∧ TR w' v ⟨#[107]⟩ ∧ Below W.heap.size W w') := Lib.hid fun W h => TS.new_ ⟨#[107]⟩ W h (by decide)
  have XR : Hid (∀ v W, Tab W → TR W v ⟨#[107]⟩ → Calls Tryd.prog 10 #[v] W fun e w' => e = .returned (.agg RT) ∧ Below W.heap.size W w') := Lib.hid fun v W h hv => by rw [hRT.out, hrt.out]; exact TS.root ⟨#[107]⟩ v W h hv (by decide)
  have XG : Hid (∀ v W, Tab W → TR W v ⟨#[107]⟩ → Calls Tryd.prog 12 #[v, .int .i64 (I : Int), .agg D] W fun e w' => ∃ A c, e = .returned (.tuple #[.agg (sealV (I : Int) E A 3 c), .int .i64 0]) ∧ (3 ≤ c ∧ c ≤ maxLen) ∧ HW w' A ps ∧ Below W.heap.size W w') := Lib.hid fun v W h hv => by
    rw [hD.out]
    refine (TS.sign ⟨#[107]⟩ v (I : Int) d W h hv (by decide) (by have := HI8.out; unfold num64; omega) HDD.out).mono ?_
    rintro e w' ⟨A, c, h1, h2, h3, h4, h5⟩
    have hs : sealF ⟨#[107]⟩ (I : Int) d = (((I : Int), E, ps), 0) := by rw [sealF_ok HI8.out, hE.out, hps.out]
    rw [hs] at h1 h2 h4
    rw [show (((I : Int), E, ps), (0 : Int)).1.2.2.length = 3 from lps.out] at h1 h2
    exact ⟨A, c, h1, ⟨h2, h3⟩, h4, h5⟩
  have NI : Hid (num64 (I : Int)) := Lib.hid (by have := HI8.out; unfold num64; omega)
  obtain ⟨j, MH⟩ : ∃ j : Nat, Hid (m0.tmod 16384 = (j : Int) ∧ IntKind.i64.wrap (j : Int) = (j : Int) ∧ wrap64 (j : Int) = (j : Int) ∧ j < 16384) := by
    obtain ⟨j, h⟩ := place_at m0.toNat
    rw [Int.toNat_of_nonneg hm0.1] at h
    exact ⟨j, Lib.hid h⟩
  obtain ⟨q, CH⟩ : ∃ q : Nat, Hid (u0.tmod 16385 = (q : Int) ∧ IntKind.i64.wrap (q : Int) = (q : Int) ∧ wrap64 (q : Int) = (q : Int) ∧ q ≤ 16384) := by
    obtain ⟨q, h⟩ := place_cut u0.toNat
    rw [Int.toNat_of_nonneg hu0.1] at h
    exact ⟨q, Lib.hid h⟩
  have wm0 : wrap64 m0 = m0 ∧ IntKind.i64.wrap m0 = m0 := ⟨by unfold wrap64; omega, by rw [IntKind.wrap_i64]; omega⟩
  have wu0 : (wrap64 u0 = u0 ∧ IntKind.i64.wrap u0 = u0) ∧ IntKind.i64.wrap 16385 = 16385 := ⟨⟨by unfold wrap64; omega, by rw [IntKind.wrap_i64]; omega⟩, by rw [IntKind.wrap_i64]; omega⟩
  have WM := Lib.hid wm0
  have WU := Lib.hid wu0
  clear hxs hr hd hT hXA hxc hxm hx0 hm0 hy0 hu0 h4 hn hI wm0 wu0
  go_enter Tryd.func4, Tryd.ntmps4
  go_upto_region 1 with fail
  refine world_gen (fun X => KuH w FV R0 D X) H0.out (fun X HX => ?_)
  have HX := Lib.hid HX
  clear H0
  obtain ⟨c0, c1, c2, c3, c4⟩ := CF.out _ _ HX.out.fg
  go_upto_region 4 with (go_at_call 8; (with_reducible refine (XN.out _ HX.out.tab).mono ?_); rintro e w0 ⟨v, rfl, hv, hb⟩; have H1 := Lib.hid (And.intro (HX.out.next hb) hv); clear hv hb)
  have HU1 := Lib.hid H1.out.1
  have HV1 := Lib.hid H1.out.2
  clear c0 c1 c2 c3 c4 HX H1
  obtain ⟨c0, c1, c2, c3, c4⟩ := CF.out _ _ HU1.out.fg
  have l1 := HU1.out.dig.read zD.out
  go_upto_region 5 with (go_at_call 12; (with_reducible refine (XG.out _ _ HU1.out.tab HV1.out).mono ?_); rintro e w2 ⟨A, c, rfl, hc, hA, hb⟩; obtain ⟨w3, s3, hr3, hb3⟩ := made_seal w2 (sealV (I : Int) E A 3 c) rfl (sealV_one (I : Int) E A 3 c); have H3 : Hid (KvB TR w v ⟨#[107]⟩ FV R0 D w2.heap.size (sealV (I : Int) E A 3 c) A ps w3) := Lib.hid ⟨(HU1.out.next hb).next hb3, TS.next (TS.next HV1.out hb) hb3, hr3, HW.next hA hb3⟩; have HC := Lib.hid hc; clear hr3 hb3 hb hA hc)
  clear s3 l1 c0 c1 c2 c3 c4 HU1 HV1
  obtain ⟨g8, hg⟩ : ∃ g, g = w2.heap.size := ⟨_, rfl⟩
  rw [← hg] at H3 ⊢
  clear hg
  obtain ⟨ad, rfl⟩ : ∃ ad, A = some ad := HL.some H3.out.lst 0 (by rw [lps.out]; decide)
  obtain ⟨a0, a1, a2⟩ := seal_cells H3.out.sl
  go_wp2
  go_loopw [10] (fun s10 wr => ∃ (k : Nat), s10 = .int .i64 ((k : Nat) : Int) ∧ k ≤ 7 ∧ Hid (KvB TR w v ⟨#[107]⟩ FV R0 D g8 (sealV (I : Int) E (some ad) 3 c) (some ad) ps wr)) (fun s10 _ => (7 - intOf s10).toNat)
  case atStart => exact ⟨0, rfl, by omega, H3⟩
  case round =>
    clear H3 a0 a1 a2
    obtain ⟨k, rfl, hk, HQ⟩ := hrel
    by_cases hlt : k < 7
    · have hwk : IntKind.i64.wrap ((k : Int) + 1) = (k : Int) + 1 := by rw [IntKind.wrap_i64]; omega
      have hlt2 : (k : Int) < 7 := by omega
      obtain ⟨w3, s3, hr3, hb3⟩ := made_seal wr (sealV (I : Int) E (some ad) 3 c) rfl (sealV_one _ _ _ _ _)
      have l1 := HQ.out.sl.readS rfl
      go_upto_region 11 with fail
      have H4 : Hid (KvB TR w v ⟨#[107]⟩ FV R0 D g8 (sealV (I : Int) E (some ad) 3 c) (some ad) ps w3) := Lib.hid (HQ.out.next TS hb3)
      have HU4 : Hid (Row w3 wr.heap.size 32 (sealV (I : Int) E (some ad) 3 c) ∧ Below wr.heap.size wr w3) := Lib.hid ⟨hr3, hb3⟩
      clear s3 hr3 hb3 l1
      have ht := H4.out.arg.tab
      have hv := H4.out.tree
      go_upto_region 12 with (go_at_call 10; (with_reducible refine (XR.out _ _ ht hv).mono ?_); rintro e w4 ⟨rfl, hb⟩; obtain ⟨w5, s5, hr5, hb5, hz5⟩ := made_write w4 RT zRT.out oRT.out; have H5 : Hid (KvX TR w v ⟨#[107]⟩ FV R0 D g8 (sealV (I : Int) E (some ad) 3 c) (some ad) ps wr wr.heap.size w4.heap.size RT w5 ∧ Row w5 wr.heap.size 32 (sealV (I : Int) E (some ad) 3 c)) := Lib.hid (by have hu := (HU4.out.1.next hb).next hb5; have h4 := HU4.out.1.lt; have h5 := hb.size; have h6 := HU4.out.2.size; exact ⟨⟨HQ.out, below_new (below_new HU4.out.2 hb) hb5, ⟨_, _, _, _, _, hu⟩, hr5, Nat.le_refl _, by omega, by omega⟩, hu⟩); clear hr5 hb5 hz5 hb)
      have HX5 := Lib.hid H5.out.1
      have HU5 := Lib.hid H5.out.2
      clear s5 ht hv H4 HU4 H5
      obtain ⟨gu, hgu⟩ : ∃ g, g = wr.heap.size := ⟨_, rfl⟩
      obtain ⟨gr, hgr⟩ : ∃ g, g = w4.heap.size := ⟨_, rfl⟩
      rw [← hgu, ← hgr] at HX5
      rw [← hgu] at HU5
      rw [← hgu, ← hgr]
      clear hgu hgr
      have H6 : Hid (KvX TR w v ⟨#[107]⟩ FV R0 D g8 (sealV (I : Int) E (some ad) 3 c) (some ad) ps wr gu gr RT w5 ∧ Row w5 gu 32 (sealV (I : Int) E (some ad) 3 c)) := Lib.hid ⟨HX5.out, HU5.out⟩
      clear HX5 HU5
      go_cut [44] (fun s44 wx => s44 = .int .i64 (k : Int) ∧ Hid (KvX TR w v ⟨#[107]⟩ FV R0 D g8 (sealV (I : Int) E (some ad) 3 c) (some ad) ps wr gu gr RT wx ∧ Row wx gu 32 (sealV (I : Int) E (some ad) 3 c)))
      case first =>
        go_wp2
        go_meet
        exact ⟨rfl, H6⟩
      case rest =>
      obtain ⟨rfl, H7⟩ := hcut
      clear H6
      go_step
      go_cut [13] (fun s13 wx => ∃ (i' : Int) (s' : ByteArray) (B' : Option Addr) (n' c' : Nat) (qs : List (List Int)) (r' : List Int), Hid (((num64 i' ∧ s'.size ≤ maxLen) ∧ hashes qs) ∧ (n' = qs.length ∧ n' ≤ c' ∧ c' ≤ maxLen) ∧ r'.length = 32 ∧ bytes r') ∧ Hid (KvU TR w v ⟨#[107]⟩ FV R0 D g8 (sealV (I : Int) E (some ad) 3 c) (some ad) ps wr gu gr (nums .u8 r') (sealV i' s' B' n' c') B' qs wx))
      case first =>
        have HX7 := Lib.hid H7.out.1
        have HU7 := Lib.hid H7.out.2
        clear H7
        rcases (show k = 0 ∨ k = 1 ∨ k = 2 ∨ k = 3 ∨ k = 4 ∨ k = 5 ∨ k = 6 by omega) with rfl | rfl | rfl | rfl | rfl | rfl | rfl
        · go_wp2
          go_meet
          exact ⟨_, _, _, _, _, ps, rt, Lib.hid ⟨⟨⟨NI.out, EM.out⟩, hhp.out⟩, ⟨lps.out.symm, HC.out.1, HC.out.2⟩, rt32.out⟩, Lib.hid (by rw [← hRT.out]; exact ⟨HX7.out, HU7.out, (HX7.out.old TS).lst⟩)⟩
        · obtain ⟨c0, c1, c2, c3, c4⟩ := CF.out _ _ (HX7.out.old TS).arg.fg
          obtain ⟨a0, a1, a2⟩ := seal_cells HU7.out
          have f0 := HU7.out.free 0
          have HP := Lib.hid (HX7.out.put HU7.out 0 (.int .i64 x0) (seal_int' _ x0 _ _ _ _))
          have HL2 := Lib.hid (HW.far_cell (HX7.out.old TS).lst HU7.out 0 (.int .i64 x0))
          go_wp2
          go_meet
          exact ⟨x0, _, _, _, _, ps, rt, Lib.hid ⟨⟨⟨HX0.out, EM.out⟩, hhp.out⟩, ⟨lps.out.symm, HC.out.1, HC.out.2⟩, rt32.out⟩, Lib.hid (by rw [← hRT.out]; exact ⟨HP.out.1, HP.out.2, HL2.out⟩)⟩
        · obtain ⟨b0, b1, b2⟩ := seal_cells (HX7.out.old TS).sl
          obtain ⟨wb, cap, cv, hG, hBl⟩ := conv_text wc E
          rw [EZ.out] at cv hG
          have HX8 := Lib.hid (HX7.out.next hBl.out)
          have HU8 := Lib.hid (HU7.out.next hBl.out)
          have HG : Hid (Got wb wc.heap.size wc.heap.size cap (textL E) 16384) := Lib.hid hG.out
          have L4 : Hid (wr.heap.size ≤ wc.heap.size ∧ gu < wc.heap.size ∧ gr < wc.heap.size) := Lib.hid ⟨HX7.out.b0.size, HU7.out.lt, HX7.out.r.lt⟩
          go_upto_region 17 with fail
          clear cv b0 b1 b2 hG hBl HX7 HU7
          obtain ⟨gt, hg⟩ : ∃ g, g = wc.heap.size := ⟨_, rfl⟩
          rw [← hg] at HG L4 ⊢
          clear hg
          obtain ⟨m4, m5, m6, mj⟩ := MH.out
          have mj2 : (j : Int) < 16384 := by omega
          have mj3 : (0 : Int) ≤ (j : Int) := by omega
          obtain ⟨wm0, wm1⟩ := WM.out
          have cT := HG.out.drew.cell j mj
          have fT := HG.out.drew.free j mj
          obtain ⟨c0, c1, c2, c3, c4⟩ := CF.out _ _ (HX8.out.old TS).arg.fg.drew
          refine wp_region_still_tail 10 (by kernel_rfl) (by kernel_rfl) ?_
          simp only [List.take_succ_cons, List.take_zero, List.drop_succ_cons, List.drop_zero]
          refine wpStill_hide (fun Q' hQ => ?_)
          have HQ' := Lib.hid hQ
          clear hQ
          iterate 10 ((refine (wpStill_step (fun K hK => ?_) : wpStill _ _ _ _ (_ :: _) _)); go_simp; refine hK _ ?_; clear hK K)
          refine wpStill_nil ?_
          refine HQ'.out _ ?_
          change wpList _ _ _ _ _ wb.drew
          go_upto_region 18 with fail
          refine world_gen (fun X => ∃ x, (KvX TR w v ⟨#[107]⟩ FV R0 D g8 (sealV (I : Int) E (some ad) 3 c) (some ad) ps wr gu gr RT X ∧ Row X gu 32 (sealV (I : Int) E (some ad) 3 c)) ∧ Got X gt gt cap ((textL E).set j x) 16384) ⟨_, ⟨(HX8.out.next (Below.refl _ _).drew).off gt L4.out.1 (Nat.ne_of_lt L4.out.2.1) (Nat.ne_of_lt L4.out.2.2) j _, HU8.out.drew.far (Nat.ne_of_lt L4.out.2.1) _⟩, HG.out.drew.set j _⟩ (fun X16 HX => ?_)
          obtain ⟨x, HX1, HX2⟩ := HX
          have HK5 := Lib.hid HX1.1
          have HU5 := Lib.hid HX1.2
          have HG5 := Lib.hid HX2
          clear HX1 HX2 HQ' cT fT c0 c1 c2 c3 c4 HX8 HU8 HG mj mj2 mj3 m4 m5 m6 L4 wm0 wm1
          obtain ⟨l2, hl2⟩ : ∃ l, l = (textL E).set j x := ⟨_, rfl⟩
          obtain ⟨T2, hT2⟩ : ∃ T, Hid (T = strOfNums l2) := ⟨_, Lib.hid rfl⟩
          have zl : l2.length = 16384 := by rw [hl2, List.length_set, textL_length]; exact EZ.out
          have TM : Hid (T2.size ≤ maxLen) := Lib.hid (by rw [hT2.out, strOfNums_size, zl]; decide)
          rw [← hl2] at HG5
          clear hl2
          have cv : (convert 42 9 (.slice (some ⟨gt, 0, none⟩) 16384 cap)).run Tryd.prog X16 = .ok (.string T2) X16 := by
            rw [hT2.out]
            exact run_convert_bytes_arg X16 42 5 Tryd.underlying42 Tryd.underlying5 gt 0 16384 cap l2 zl (fun i hi => by rw [Nat.zero_add]; exact HG5.out.cell i hi) 9 Tryd.underlying9
          obtain ⟨b0, b1, b2⟩ := seal_cells HU5.out
          have f1 := HU5.out.free 1
          have HP := Lib.hid (HK5.out.put HU5.out 1 (.string T2) (seal_text' _ _ T2 _ _ _))
          have HL2 := Lib.hid (HW.far_cell (HK5.out.old TS).lst HU5.out 1 (.string T2))
          clear hT2 zl HG5
          go_wp2
          go_meet
          exact ⟨_, T2, _, _, _, ps, rt, Lib.hid ⟨⟨⟨NI.out, TM.out⟩, hhp.out⟩, ⟨lps.out.symm, HC.out.1, HC.out.2⟩, rt32.out⟩, Lib.hid (by rw [← hRT.out]; exact ⟨HP.out.1, HP.out.2, HL2.out⟩)⟩
        · obtain ⟨c0, c1, c2, c3, c4⟩ := CF.out _ _ (HX7.out.old TS).arg.fg
          obtain ⟨a0, a1, a2⟩ := seal_cells HU7.out
          have f2 := HU7.out.free 2
          have HP := Lib.hid (HX7.out.put HU7.out 2 (.slice XA n xc) (seal_path' _ _ _ XA _ _ n xc))
          have HL2 := Lib.hid (HW.far_cell (HXA.out.next (HX7.out.old TS).arg.below) HU7.out 2 (.slice XA n xc))
          go_wp2
          go_meet
          exact ⟨_, _, XA, n, xc, xs, rt, Lib.hid ⟨⟨⟨NI.out, EM.out⟩, HXS.out⟩, ⟨HNX.out.1, HNX.out.2.1, HNX.out.2.2⟩, rt32.out⟩, Lib.hid (by rw [← hRT.out]; exact ⟨HP.out.1, HP.out.2, HL2.out⟩)⟩
        · obtain ⟨q4, q5, q6, qj⟩ := CH.out
          have qj2 : (q : Int) ≤ 16384 := by omega
          have qj3 : (0 : Int) ≤ (q : Int) := by omega
          have qj4 : q ≤ E.size := by have := EZ.out; omega
          obtain ⟨⟨wu0, wu1⟩, wu2⟩ := WU.out
          go_upto_region 22 with fail
          obtain ⟨c0, c1, c2, c3, c4⟩ := CF.out _ _ (HX7.out.old TS).arg.fg.drew
          obtain ⟨b0, b1, b2⟩ := seal_cells (HX7.out.old TS).sl.drew
          obtain ⟨a0, a1, a2⟩ := seal_cells HU7.out.drew
          have f1 := HU7.out.drew.free 1
          refine wp_region_still_tail 12 (by kernel_rfl) (by kernel_rfl) ?_
          simp only [List.take_succ_cons, List.take_zero, List.drop_succ_cons, List.drop_zero]
          refine wpStill_hide (fun Q' hQ => ?_)
          have HQ' := Lib.hid hQ
          clear hQ
          iterate 12 ((refine (wpStill_step (fun K hK => ?_) : wpStill _ _ _ _ (_ :: _) _)); go_simp; refine hK _ ?_; clear hK K)
          refine wpStill_nil ?_
          refine HQ'.out _ ?_
          change wpList _ _ _ _ _ wc.drew
          have HP := fun t : ByteArray => (HX7.out.next (Below.refl _ _).drew).put HU7.out.drew 1 (.string t) (seal_text' _ _ t _ _ _)
          have HL2 := fun t : ByteArray => HW.far_cell (HW.next (HX7.out.old TS).lst (Below.refl _ _).drew) HU7.out.drew 1 (.string t)
          have HP2 := Lib.hid HP
          have HL3 := Lib.hid HL2
          clear HP HL2
          go_wp2
          go_meet
          exact ⟨_, _, _, _, _, ps, rt, Lib.hid ⟨⟨⟨NI.out, extract_le _ _ _ EM.out⟩, hhp.out⟩, ⟨lps.out.symm, HC.out.1, HC.out.2⟩, rt32.out⟩, Lib.hid (by rw [← hRT.out]; exact ⟨(HP2.out _).1, (HP2.out _).2, HL3.out _⟩)⟩
        · have l1 := (HX7.out.old TS).arg.rt0.read zR0.out
          have s1 := HX7.out.r.write zRT.out zR0.out oR0.out
          have HL2 : Hid (HW (wc.setRow gr R0) (some ad) ps) := Lib.hid ((HX7.out.putR R0).old TS).lst
          go_wp2
          go_meet
          exact ⟨_, _, _, _, _, ps, root, Lib.hid ⟨⟨⟨NI.out, EM.out⟩, hhp.out⟩, ⟨lps.out.symm, HC.out.1, HC.out.2⟩, HR.out⟩, Lib.hid (by rw [← hR0.out]; exact ⟨HX7.out.putR R0, HU7.out.wfar HX7.out.ne _, HL2.out⟩)⟩
        · go_upto_region 26 with fail
          have HB : Hid (Below wc.heap.size wc wc.drew) := Lib.hid (Below.refl _ _).drew
          refine wp_region_fk (KvX TR w v ⟨#[107]⟩ FV R0 D g8 (sealV (I : Int) E (some ad) 3 c) (some ad) ps wr gu gr RT) (.get 0 (.get 1 (.get 3 (.fork 2 4 (.call 4 (.call 5 (.get 6 (.call 7 .done)))) (.call 2 (.call 5 (.get 6 (.call 7 .done)))))))) (by kernel_rfl) rfl (by kernel_rfl) (by kernel_rfl) (by intro c a d v w h; cases d <;> exact h) (HX7.out.next (Below.refl _ _).drew) (fun Q' hQ => ?_)
          have HS := Lib.hid (HX7.out.next (Below.refl _ _).drew)
          have HQ' := Lib.hid hQ
          clear hQ
          refine wpFk_get rfl (by rfl) (fun K hK => ?_)
          refine ⟨?_, fun w' hS' => ?_, ?_⟩
          rotate_left
          · go_simp
            try (with_reducible rfl)
          try go_simp
          refine hK _ ?_
          clear hK K
          refine wpFk_get rfl (by rfl) (fun K hK => ?_)
          refine ⟨?_, fun w' hS' => ?_, ?_⟩
          rotate_left
          · have ⟨c0, c1, c2⟩ := seal_cells (hS'.old TS).sl
            go_simp
            try (with_reducible rfl)
          try go_simp
          refine hK _ ?_
          clear hK K
          refine wpFk_get rfl (by rfl) (fun K hK => ?_)
          refine ⟨_, fun w' hS' => get_load rfl rfl ((hS'.old TS).arg.rt0.read zR0.out), ?_⟩
          try go_simp
          refine hK _ ?_
          clear hK K
          refine wpFk_fork ?_ ?_
          · refine wpFk_call rfl (by rfl) (fun K hK => ?_)
            refine wp_appendC (.const (.slice none 0 0)) (.tmp 93) rfl wc.heap.size ps rfl (some ad) 3 c rfl lps.out.symm hhp.out (HS.out.old TS).lst (by decide) HB.out.size ?_
            intro v1 w6 ho hg
            have HO : Hid (w6.ownsRow wc.heap.size 23 32 v1 3 (cellsL ps)) := Lib.hid ho
            have hbx := (Below.refl _ _).grown hg (Nat.le_refl _) (by intro k hk; simp at hk)
            replace HS := Lib.hid (HS.out.next hbx)
            replace HB := Lib.hid (below_new HB.out hbx)
            clear ho hg hbx
            try go_simp
            refine hK _ _ HS.out ?_
            clear hK K
            refine wpFk_call rfl (by rfl) (fun K hK => ?_)
            refine wp_buildOne (.tmp 95) rfl R0 rfl zR0.out ?_
            have HRt := Lib.hid (Row.made w6 23 R0)
            have hbx := (Below.refl (w6).heap.size (w6)).alloc (Nat.le_refl _) (.cells R0 23)
            replace HO := Lib.hid (own_below HO.out hbx)
            replace HS := Lib.hid (HS.out.next hbx)
            replace HB := Lib.hid (below_new HB.out hbx)
            clear hbx
            try go_simp
            refine hK _ _ HS.out ?_
            clear hK K
            refine wpFk_call rfl (by rfl) (fun K hK => ?_)
            refine wp_appendH (.tmp 94) (.tmp 96) rfl wc.heap.size v1 3 ps [root] rfl HO.out _ 1 1 rfl rfl (fun l hl => by rw [List.mem_singleton.1 hl]; exact HR.out) (HL.row (by rw [← hR0.out]; exact HRt.out) HR.out.1) (by decide) HB.out.size ?_
            intro v2 w7 ho hg
            obtain ⟨A2, c2, rfl⟩ := own_form ho
            have hl4 : (ps ++ [root]).length = 4 := by rw [List.length_append, lps.out]; rfl
            have HP7 : Hid (HW w7 A2 (ps ++ [root])) := Lib.hid (own_HL (by rw [hl4]; exact ho) (hashes_snoc hhp.out HR.out))
            have HC2 : Hid (4 = (ps ++ [root]).length ∧ 4 ≤ c2 ∧ c2 ≤ maxLen) := Lib.hid ⟨hl4.symm, (own_some ho).1, by have := (own_some ho).2.1; unfold maxLen; omega⟩
            have hbx := HB.out.grown hg HB.out.size (fun k hk => (HO.out.lt k hk).1)
            have hU := HU7.out.below hbx HU7.out.lt
            replace HS : Hid (KvX TR w v ⟨#[107]⟩ FV R0 D g8 (sealV (I : Int) E (some ad) 3 c) (some ad) ps wr gu gr RT w7) := Lib.hid ⟨HX7.out.base, below_new HX7.out.b0 hbx, ⟨_, _, _, _, _, hU⟩, HX7.out.r.below hbx HX7.out.r.lt, HX7.out.lu, HX7.out.lr, HX7.out.ne⟩
            have HU8 := Lib.hid hU
            clear ho hg hbx hU
            try go_simp
            refine hK _ _ HS.out ?_
            clear hK K
            refine wpFk_get rfl (by rfl) (fun K hK => ?_)
            refine ⟨?_, fun w' hS' => ?_, ?_⟩
            rotate_left
            · go_simp
              try (with_reducible rfl)
            try go_simp
            refine hK _ ?_
            clear hK K
            refine wpFk_call rfl (by rfl) (fun K hK => ?_)
            obtain ⟨e0, e1, e2⟩ := seal_cells HU8.out
            have f2 := HU8.out.free 2
            go_simp
            have HP := Lib.hid (HS.out.put HU8.out 2 (.slice A2 4 c2) (seal_path' _ _ _ A2 _ _ 4 c2))
            have HL2 := Lib.hid (HW.far_cell HP7.out HU8.out 2 (.slice A2 4 c2))
            clear e0 e1 e2 f2 HS
            have HS := Lib.hid HP.out.1
            refine hK _ _ HS.out ?_
            clear hK K
            refine wpFk_done ?_
            refine HQ'.out _ _ ?_
            clear HQ'
            go_wp2
            go_meet
            exact ⟨_, _, A2, 4, c2, ps ++ [root], rt, Lib.hid ⟨⟨⟨NI.out, EM.out⟩, hashes_snoc hhp.out HR.out⟩, ⟨HC2.out.1, HC2.out.2.1, HC2.out.2.2⟩, rt32.out⟩, Lib.hid (by rw [← hRT.out]; exact ⟨HP.out.1, HP.out.2, HL2.out⟩)⟩
          · refine wpFk_call rfl (by rfl) (fun K hK => ?_)
            refine wp_buildOne (.tmp 95) rfl R0 rfl zR0.out ?_
            have HRt := Lib.hid (Row.made wc.drew 23 R0)
            have hbx := (Below.refl (wc.drew).heap.size (wc.drew)).alloc (Nat.le_refl _) (.cells R0 23)
            replace HS := Lib.hid (HS.out.next hbx)
            replace HB := Lib.hid (below_new HB.out hbx)
            clear hbx
            try go_simp
            refine hK _ _ HS.out ?_
            clear hK K
            refine wpFk_call rfl (by rfl) (fun K hK => ?_)
            refine wp_appendC (.const (.slice none 0 0)) (.tmp 93) rfl wc.heap.size ps rfl (some ad) 3 c rfl lps.out.symm hhp.out (HS.out.old TS).lst (by decide) HB.out.size ?_
            intro v1 w6 ho hg
            have HO : Hid (w6.ownsRow wc.heap.size 23 32 v1 3 (cellsL ps)) := Lib.hid ho
            replace HRt := Lib.hid (HRt.out.next ((Below.refl _ _).grown hg (Nat.le_refl _) (by intro k hk; simp at hk)))
            have hbx := (Below.refl _ _).grown hg (Nat.le_refl _) (by intro k hk; simp at hk)
            replace HS := Lib.hid (HS.out.next hbx)
            replace HB := Lib.hid (below_new HB.out hbx)
            clear ho hg hbx
            try go_simp
            refine hK _ _ HS.out ?_
            clear hK K
            refine wpFk_call rfl (by rfl) (fun K hK => ?_)
            refine wp_appendH (.tmp 94) (.tmp 96) rfl wc.heap.size v1 3 ps [root] rfl HO.out _ 1 1 rfl rfl (fun l hl => by rw [List.mem_singleton.1 hl]; exact HR.out) (HL.row (by rw [← hR0.out]; exact HRt.out) HR.out.1) (by decide) HB.out.size ?_
            intro v2 w7 ho hg
            obtain ⟨A2, c2, rfl⟩ := own_form ho
            have hl4 : (ps ++ [root]).length = 4 := by rw [List.length_append, lps.out]; rfl
            have HP7 : Hid (HW w7 A2 (ps ++ [root])) := Lib.hid (own_HL (by rw [hl4]; exact ho) (hashes_snoc hhp.out HR.out))
            have HC2 : Hid (4 = (ps ++ [root]).length ∧ 4 ≤ c2 ∧ c2 ≤ maxLen) := Lib.hid ⟨hl4.symm, (own_some ho).1, by have := (own_some ho).2.1; unfold maxLen; omega⟩
            have hbx := HB.out.grown hg HB.out.size (fun k hk => (HO.out.lt k hk).1)
            have hU := HU7.out.below hbx HU7.out.lt
            replace HS : Hid (KvX TR w v ⟨#[107]⟩ FV R0 D g8 (sealV (I : Int) E (some ad) 3 c) (some ad) ps wr gu gr RT w7) := Lib.hid ⟨HX7.out.base, below_new HX7.out.b0 hbx, ⟨_, _, _, _, _, hU⟩, HX7.out.r.below hbx HX7.out.r.lt, HX7.out.lu, HX7.out.lr, HX7.out.ne⟩
            have HU8 := Lib.hid hU
            clear ho hg hbx hU
            try go_simp
            refine hK _ _ HS.out ?_
            clear hK K
            refine wpFk_get rfl (by rfl) (fun K hK => ?_)
            refine ⟨?_, fun w' hS' => ?_, ?_⟩
            rotate_left
            · go_simp
              try (with_reducible rfl)
            try go_simp
            refine hK _ ?_
            clear hK K
            refine wpFk_call rfl (by rfl) (fun K hK => ?_)
            obtain ⟨e0, e1, e2⟩ := seal_cells HU8.out
            have f2 := HU8.out.free 2
            go_simp
            have HP := Lib.hid (HS.out.put HU8.out 2 (.slice A2 4 c2) (seal_path' _ _ _ A2 _ _ 4 c2))
            have HL2 := Lib.hid (HW.far_cell HP7.out HU8.out 2 (.slice A2 4 c2))
            clear e0 e1 e2 f2 HS
            have HS := Lib.hid HP.out.1
            refine hK _ _ HS.out ?_
            clear hK K
            refine wpFk_done ?_
            refine HQ'.out _ _ ?_
            clear HQ'
            go_wp2
            go_meet
            exact ⟨_, _, A2, 4, c2, ps ++ [root], rt, Lib.hid ⟨⟨⟨NI.out, EM.out⟩, hashes_snoc hhp.out HR.out⟩, ⟨HC2.out.1, HC2.out.2.1, HC2.out.2.2⟩, rt32.out⟩, Lib.hid (by rw [← hRT.out]; exact ⟨HP.out.1, HP.out.2, HL2.out⟩)⟩
      case rest =>
      obtain ⟨i', s', B', n', c', qs, r', HF, H8⟩ := hcut
      clear H7
      obtain ⟨RR, hRR⟩ : ∃ R, Hid (R = nums .u8 r') := ⟨_, Lib.hid rfl⟩
      rw [← hRR.out] at H8
      have zRR : Hid (RR.size = 32) := Lib.hid (by rw [hRR.out, nums_size]; exact HF.out.2.2.1)
      obtain ⟨va, hva⟩ : ∃ x, Hid (x = verF r' d i' s' qs) := ⟨_, Lib.hid rfl⟩
      obtain ⟨vb, hvb⟩ : ∃ x, Hid (x = verF r' root i' s' qs) := ⟨_, Lib.hid rfl⟩
      have V1 : Hid (∀ W, Tab W → HW W B' qs → Calls Tryd.prog 15 #[.agg RR, .agg D, .agg (sealV i' s' B' n' c')] W fun e w' => e = .returned (.int .i64 va) ∧ Below W.heap.size W w') := Lib.hid fun W h hA => by
        rw [hRR.out, hD.out, hva.out, HF.out.2.1.1]; exact TS.ver r' d i' s' qs B' c' W h HF.out.2.2 HDD.out HF.out.1.1.1 HF.out.1.1.2 HF.out.1.2 hA (by rw [← HF.out.2.1.1]; exact HF.out.2.1.2.1) HF.out.2.1.2.2
      have V2 : Hid (∀ W, Tab W → HW W B' qs → Calls Tryd.prog 15 #[.agg RR, .agg R0, .agg (sealV i' s' B' n' c')] W fun e w' => e = .returned (.int .i64 vb) ∧ Below W.heap.size W w') := Lib.hid fun W h hA => by
        rw [hRR.out, hR0.out, hvb.out, HF.out.2.1.1]; exact TS.ver r' root i' s' qs B' c' W h HF.out.2.2 HR.out HF.out.1.1.1 HF.out.1.1.2 HF.out.1.2 hA (by rw [← HF.out.2.1.1]; exact HF.out.2.1.2.1) HF.out.2.1.2.2
      have Q1 : Hid (∀ W, HW W B' qs → Calls Tryd.prog 16 #[.agg RR, .agg D, .agg (sealV i' s' B' n' c')] W fun e w' => e = .returned (.int .i64 va) ∧ Below W.heap.size W w') := Lib.hid fun W hA => by
        rw [hRR.out, hD.out, hva.out, HF.out.2.1.1]; exact refVerify_any r' d HF.out.2.2 HDD.out i' HF.out.1.1.1 s' HF.out.1.1.2 qs HF.out.1.2 B' c' W hA (by rw [← HF.out.2.1.1]; exact HF.out.2.1.2.1) HF.out.2.1.2.2
      have Q2 : Hid (∀ W, HW W B' qs → Calls Tryd.prog 16 #[.agg RR, .agg R0, .agg (sealV i' s' B' n' c')] W fun e w' => e = .returned (.int .i64 vb) ∧ Below W.heap.size W w') := Lib.hid fun W hA => by
        rw [hRR.out, hR0.out, hvb.out, HF.out.2.1.1]; exact refVerify_any r' root HF.out.2.2 HR.out i' HF.out.1.1.1 s' HF.out.1.1.2 qs HF.out.1.2 B' c' W hA (by rw [← HF.out.2.1.1]; exact HF.out.2.1.2.1) HF.out.2.1.2.2
      have qa : (va != va) = false := by simp
      have qb : (vb != vb) = false := by simp
      clear hva hvb hRR
      go_upto_region 27 with fail
      refine wp_region_fk (KvU TR w v ⟨#[107]⟩ FV R0 D g8 (sealV (I : Int) E (some ad) 3 c) (some ad) ps wr gu gr RR (sealV i' s' B' n' c') B' qs) (.get 0 (.get 1 (.get 2 (.get 4 (.get 5 (.get 6 (.call 3 (.call 7 (.get 8 (.get 9 (.get 10 (.get 11 (.get 12 (.get 14 (.get 15 (.get 16 (.call 13 (.call 17 (.get 18 (.get 19 .done)))))))))))))))))))) (by kernel_rfl) rfl (by kernel_rfl) (by kernel_rfl) (by intro c a d v w h; cases d <;> exact h) (H8.out.next (Below.refl _ _).drew) (fun Q' hQ => ?_)
      have HS := Lib.hid (H8.out.next (Below.refl _ _).drew)
      have HQ' := Lib.hid hQ
      clear hQ
      refine wpFk_get rfl (by rfl) (fun K hK => ?_)
      refine ⟨_, fun w' hS' => get_load rfl rfl (hS'.x.r.read zRR.out), ?_⟩
      try go_simp
      refine hK _ ?_
      clear hK K
      refine wpFk_get rfl (by rfl) (fun K hK => ?_)
      refine ⟨_, fun w' hS' => get_load rfl rfl ((hS'.x.old TS).arg.dig.read zD.out), ?_⟩
      try go_simp
      refine hK _ ?_
      clear hK K
      refine wpFk_get rfl (by rfl) (fun K hK => ?_)
      refine ⟨_, fun w' hS' => get_loadS rfl rfl (hS'.u.readS rfl), ?_⟩
      try go_simp
      refine hK _ ?_
      clear hK K
      refine wpFk_get rfl (by rfl) (fun K hK => ?_)
      refine ⟨_, fun w' hS' => get_load rfl rfl (hS'.x.r.read zRR.out), ?_⟩
      try go_simp
      refine hK _ ?_
      clear hK K
      refine wpFk_get rfl (by rfl) (fun K hK => ?_)
      refine ⟨_, fun w' hS' => get_load rfl rfl ((hS'.x.old TS).arg.dig.read zD.out), ?_⟩
      try go_simp
      refine hK _ ?_
      clear hK K
      refine wpFk_get rfl (by rfl) (fun K hK => ?_)
      refine ⟨_, fun w' hS' => get_loadS rfl rfl (hS'.u.readS rfl), ?_⟩
      try go_simp
      refine hK _ ?_
      clear hK K
      refine wpFk_call rfl (by rfl) (fun K hK => ?_)
      go_simp
      have ho := (HS.out.x.old TS).arg.tab
      have hp := HS.out.q
      go_at_call 15
      (with_reducible refine (V1.out _ ho hp).mono ?_)
      rintro e w2x ⟨rfl, hb⟩
      replace HS := Lib.hid (HS.out.next hb)
      clear hb ho hp
      refine hK _ _ HS.out ?_
      clear hK K
      refine wpFk_call rfl (by rfl) (fun K hK => ?_)
      go_simp
      have ho := (HS.out.x.old TS).arg.tab
      have hp := HS.out.q
      go_at_call 16
      (with_reducible refine (Q1.out _ hp).mono ?_)
      rintro e w2x ⟨rfl, hb⟩
      replace HS := Lib.hid (HS.out.next hb)
      clear hb ho hp
      refine hK _ _ HS.out ?_
      clear hK K
      refine wpFk_get rfl (by rfl) (fun K hK => ?_)
      refine ⟨?_, fun w' hS' => ?_, ?_⟩
      rotate_left
      · go_simp
        try (with_reducible rfl)
      try go_simp
      refine hK _ ?_
      clear hK K
      refine wpFk_get rfl (by rfl) (fun K hK => ?_)
      refine ⟨?_, fun w' hS' => ?_, ?_⟩
      rotate_left
      · go_simp
        try (with_reducible rfl)
      try go_simp
      refine hK _ ?_
      clear hK K
      refine wpFk_get rfl (by rfl) (fun K hK => ?_)
      refine ⟨_, fun w' hS' => get_load rfl rfl (hS'.x.r.read zRR.out), ?_⟩
      try go_simp
      refine hK _ ?_
      clear hK K
      refine wpFk_get rfl (by rfl) (fun K hK => ?_)
      refine ⟨_, fun w' hS' => get_load rfl rfl ((hS'.x.old TS).arg.rt0.read zR0.out), ?_⟩
      try go_simp
      refine hK _ ?_
      clear hK K
      refine wpFk_get rfl (by rfl) (fun K hK => ?_)
      refine ⟨_, fun w' hS' => get_loadS rfl rfl (hS'.u.readS rfl), ?_⟩
      try go_simp
      refine hK _ ?_
      clear hK K
      refine wpFk_get rfl (by rfl) (fun K hK => ?_)
      refine ⟨_, fun w' hS' => get_load rfl rfl (hS'.x.r.read zRR.out), ?_⟩
      try go_simp
      refine hK _ ?_
      clear hK K
      refine wpFk_get rfl (by rfl) (fun K hK => ?_)
      refine ⟨_, fun w' hS' => get_load rfl rfl ((hS'.x.old TS).arg.rt0.read zR0.out), ?_⟩
      try go_simp
      refine hK _ ?_
      clear hK K
      refine wpFk_get rfl (by rfl) (fun K hK => ?_)
      refine ⟨_, fun w' hS' => get_loadS rfl rfl (hS'.u.readS rfl), ?_⟩
      try go_simp
      refine hK _ ?_
      clear hK K
      refine wpFk_call rfl (by rfl) (fun K hK => ?_)
      go_simp
      have ho := (HS.out.x.old TS).arg.tab
      have hp := HS.out.q
      go_at_call 15
      (with_reducible refine (V2.out _ ho hp).mono ?_)
      rintro e w2x ⟨rfl, hb⟩
      replace HS := Lib.hid (HS.out.next hb)
      clear hb ho hp
      refine hK _ _ HS.out ?_
      clear hK K
      refine wpFk_call rfl (by rfl) (fun K hK => ?_)
      go_simp
      have ho := (HS.out.x.old TS).arg.tab
      have hp := HS.out.q
      go_at_call 16
      (with_reducible refine (Q2.out _ hp).mono ?_)
      rintro e w2x ⟨rfl, hb⟩
      replace HS := Lib.hid (HS.out.next hb)
      clear hb ho hp
      refine hK _ _ HS.out ?_
      clear hK K
      refine wpFk_get rfl (by rfl) (fun K hK => ?_)
      refine ⟨?_, fun w' hS' => ?_, ?_⟩
      rotate_left
      · go_simp
        try (with_reducible rfl)
      try go_simp
      refine hK _ ?_
      clear hK K
      refine wpFk_get rfl (by rfl) (fun K hK => ?_)
      refine ⟨?_, fun w' hS' => ?_, ?_⟩
      rotate_left
      · go_simp
        try (with_reducible rfl)
      try go_simp
      refine hK _ ?_
      clear hK K
      refine wpFk_done ?_
      refine HQ'.out _ _ ?_
      clear HQ' HQ
      go_wp2
      have HE := Lib.hid (HS.out.x.old TS)
      clear HS
      go_roundw
      case rel => exact ⟨k + 1, by go_num, by omega, HE⟩
      case measure => simp [intOf]; omega
    · have hk9 : k = 7 := by omega
      have hlt2 : ¬ (k : Int) < 7 := by omega
      have ht := HQ.out.arg.tab
      go_wp2_with (go_at_call 7; (with_reducible refine (KED.out _ ht).mono ?_); rintro e w9 ⟨rfl, hb⟩; have HZ := Lib.hid (below_new HQ.out.arg.below hb); clear hb)
      go_ret
      exact ⟨rfl, HZ.out⟩
end Go.Proofs.YtgnkdkehooagpaaDoor
namespace Go.Proofs.YtgnkdkehooagpaaDoor
open Go.ChangeShapes Go.WideShapes Go.ChangeAt Go.RowKit
set_option linter.unusedVariables false
set_option maxRecDepth 100000

theorem cForge : Tryd.prog.cellsOf 41 = 5 := by kernel_rfl
theorem cInt9 : Tryd.prog.cellsOf 3 = 1 := by kernel_rfl
theorem cU16 : Tryd.prog.cellsOf 39 = 1 := by kernel_rfl
theorem cU8 : Tryd.prog.cellsOf 5 = 1 := by kernel_rfl
theorem cList9 : Tryd.prog.cellsOf 27 = 1 := by kernel_rfl
/-- A list's one cell, opened. -/
theorem list_cell1 {H : Type} {enc : TypeId × Value → H} {W : World} {base fuel : Nat} {sp : Nat → Bool} {cs : List Value} {x : DataW H × List MemPlace}
    (hf : DataW.trod enc Tryd.prog W base sp true fuel 27 cs = some x) :
    ∃ A c ls, cs = [.slice A ls.length c] ∧ hashes ls ∧ HL W W.heap.size A ls ∧ ls.length ≤ c ∧ c ≤ maxLen := by
  rcases DataW.trod_slice Tryd.underlying27 hf with ⟨hcs, hx⟩ | ⟨a, len, cap, elems, rest, n, _, hcs, hx, hb, hl, hm, hlen, hel, _⟩
  · exact ⟨none, 0, [], hcs, fun l h => by (cases h), HL.nil _ _ _, Nat.le_refl _, by simp⟩
  · have each : ∀ i, i < len → ∃ l : List Int, l.length = 32 ∧ (∀ y ∈ l, 0 ≤ y ∧ y < 256) ∧ ∀ j, j < 32 → W.cell? (a.add (i * 32 + j)) = some (.int .u8 (l.getD j 0)) := fun i hi => by
      have e0 := hel i hi
      rw [List.getElem?_eq_getElem (show i < elems.length by omega), Option.bind_eq_some_iff, cHash] at e0
      obtain ⟨cs, hc, ht⟩ := e0
      obtain ⟨_, hcl, hcc⟩ := World.cells?_some hc
      obtain ⟨l, h1, h2, h3⟩ := hash_cells ht hcl
      refine ⟨l, h1, h2, fun j hj => ?_⟩
      rw [← add_of_add, hcc j hj]
      exact h3 j hj
    have hex : ∃ f : Nat → List Int, ∀ i, i < len → (f i).length = 32 ∧ (∀ y ∈ f i, 0 ≤ y ∧ y < 256) ∧ ∀ j, j < 32 → W.cell? (a.add (i * 32 + j)) = some (.int .u8 ((f i).getD j 0)) :=
      ⟨fun i => if h : i < len then (each i h).choose else [], fun i hi => by simp only [dif_pos hi]; exact (each i hi).choose_spec⟩
    obtain ⟨f, hf⟩ := hex
    have hll : ((List.range len).map f).length = len := by simp
    refine ⟨some a, cap, (List.range len).map f, by rw [hll]; exact hcs, fun l hl' => ?_, fun i hi => ?_, by rw [hll]; omega, by omega⟩
    · obtain ⟨i, hi, rfl⟩ := List.mem_map.1 hl'
      have := hf i (by simpa using hi)
      exact ⟨this.1, this.2.1⟩
    · rw [hll] at hi
      have hfi := hf i hi
      have e : ((List.range len).map f).getD i [] = f i := by simp [List.getD, hi]
      refine ⟨a, rfl, ?_, fun j hj => ?_⟩
      · have := block_lt_of_cell (hfi.2.2 0 (by omega))
        rwa [block_of_add] at this
      · rw [e]; exact hfi.2.2 j hj
/-- A forgery, opened. -/
theorem open_forgery {H : Type} {enc : TypeId × Value → H} {W : World} {base b0 : Nat} {sp : Nat → Bool} {v : Value} {d : DataW H} {ps : List MemPlace}
    (hval : Value.okWide Tryd.prog W .any b0 41 v) (h : DataW.Trod enc Tryd.prog W base sp true 41 v d ps) :
    ∃ (i t y u : Int) (A : Option Addr) (c : Nat) (hs : List (List Int)), v = .agg (forgeV i t y A hs.length c u) ∧ num64 i ∧ (0 ≤ t ∧ t < 65536) ∧ (0 ≤ y ∧ y < 256) ∧ (0 ≤ u ∧ u < 65536) ∧ hashes hs ∧ HL W W.heap.size A hs ∧ hs.length ≤ c ∧ c ≤ maxLen := by
  obtain ⟨cs, rfl, hsz⟩ := okWide_struct Tryd.underlying41 hval
  rw [cForge] at hsz
  obtain ⟨fuel, hf⟩ := h
  obtain ⟨xs, m, _, _, _, hl, hx⟩ := DataW.trod_struct Tryd.underlying41 hf
  have hl5 : xs.length = 5 := hl
  have e0 : DataW.trod enc Tryd.prog W base sp true m 3 ((cs.toList.drop 0).take (Tryd.prog.cellsOf 3)) = xs[0]? := hx 0 _ rfl
  have e1 : DataW.trod enc Tryd.prog W base sp true m 39 ((cs.toList.drop 1).take (Tryd.prog.cellsOf 39)) = xs[1]? := hx 1 _ rfl
  have e2 : DataW.trod enc Tryd.prog W base sp true m 5 ((cs.toList.drop 2).take (Tryd.prog.cellsOf 5)) = xs[2]? := hx 2 _ rfl
  have e3 : DataW.trod enc Tryd.prog W base sp true m 27 ((cs.toList.drop 3).take (Tryd.prog.cellsOf 27)) = xs[3]? := hx 3 _ rfl
  have e4 : DataW.trod enc Tryd.prog W base sp true m 39 ((cs.toList.drop 4).take (Tryd.prog.cellsOf 39)) = xs[4]? := hx 4 _ rfl
  rw [List.getElem?_eq_getElem (show 0 < xs.length by omega)] at e0
  rw [List.getElem?_eq_getElem (show 1 < xs.length by omega)] at e1
  rw [List.getElem?_eq_getElem (show 2 < xs.length by omega)] at e2
  rw [List.getElem?_eq_getElem (show 3 < xs.length by omega)] at e3
  rw [List.getElem?_eq_getElem (show 4 < xs.length by omega)] at e4
  rw [cInt9] at e0
  rw [cU16] at e1 e4
  rw [cU8] at e2
  rw [cList9] at e3
  obtain ⟨i, hi, _, wi⟩ := DataW.trod_int Tryd.underlying3 e0
  obtain ⟨t, ht, _, wt⟩ := DataW.trod_int Tryd.underlying39 e1
  obtain ⟨y, hy, _, wy⟩ := DataW.trod_int Tryd.underlying5 e2
  obtain ⟨A, c, hs, hA, h1, h2, h3, h4⟩ := list_cell1 e3
  obtain ⟨u, hu, _, wu⟩ := DataW.trod_int Tryd.underlying39 e4
  have bi := bounds_i64 wi
  have bt := bounds_u16 wt
  have by_ := bounds_u8 wy
  have bu := bounds_u16 wu
  refine ⟨i, t, y, u, A, c, hs, ?_, by unfold num64; omega, by omega, by omega, by omega, h1, h2, h3, h4⟩
  congr 1
  apply Array.ext_getElem?
  intro k
  have f0 := of_one cs.toList 0 _ hi
  have f1 := of_one cs.toList 1 _ ht
  have f2 := of_one cs.toList 2 _ hy
  have f3 := of_one cs.toList 3 _ hA
  have f4 := of_one cs.toList 4 _ hu
  rw [Array.getElem?_toList] at f0 f1 f2 f3 f4
  unfold forgeV
  match k with
  | 0 => rw [f0]; rfl
  | 1 => rw [f1]; rfl
  | 2 => rw [f2]; rfl
  | 3 => rw [f3]; rfl
  | 4 => rw [f4]; rfl
  | k + 5 => rw [Array.getElem?_eq_none (by omega), Array.getElem?_eq_none (by simp)]
end Go.Proofs.YtgnkdkehooagpaaDoor
namespace Go.Proofs.YtgnkdkehooagpaaDoor.verify
open Go.ChangeShapes Go.WideShapes Go.ChangeAt Go.RowKit
open Go.ChangeMaps (open_string)
set_option linter.unusedVariables false

set_option maxRecDepth 100000 in
theorem lifted (os : Os) (started : os.Started) (H : Type) (enc : TypeId × Value → H) :
    ReturnsInHanded {} Tryd.checked os 4 .any (fun w args => (Rows.keytreeVerifySpec.pre enc Tryd.prog Tryd.f4 [] false w args ∧ laidMetH Tryd.prog laid2 w) ∧ sizedMet enc Tryd.prog Tryd.f4 (OpenSpec.ofChange Rows.keytreeVerifySpec) false w args)
      (Rows.keytreeVerifySpec.post enc Tryd.prog Tryd.f4 false true false false) := by
  refine returnsInHanded_of_change_and (C := Tryd.checked) (X := fun w _ => laidMetH Tryd.prog laid2 w) (fun _ _ _ hh h => h.of_heap hh) own started (by kernel_rfl) Tryd.func4
    (ChangeSpec.witness_shaped (enc := enc) (C := Tryd.checked) (os := os) (X := fun w _ => laidMetH Tryd.prog laid2 w) false (World.doorLaid Tryd.prog 400 os) #[.agg (forgeV 0 0 0 none 0 0 0), .agg (nums .u8 zero32), .agg (nums .u8 zero32)] 8 rfl (World.shaped_of_RefB (by kernel_rfl) (by kernel_rfl)) (by kernel_rfl) (by kernel_rfl) (by kernel_rfl) (door_met os _)) ?_
  intro W base args ds gs before hval0 hW _ _ hL _
  have hval : ∀ (j : Nat) t v, Tryd.f4.params[j]? = some t → args[j]? = some v → Value.okWide Tryd.prog W .any base t v := hval0
  have hW' := hW
  obtain ⟨p, q, hA0, hV, rfl, hfz, hnd⟩ := hW
  have hA : DataW.TrodAll enc Tryd.prog W 0 (fun _ => true) true Tryd.f4.params.toList args.toList ds p := hA0
  rw [Tryd.params4] at hA hval
  obtain ⟨v0, vs0, d0, ds0, p0, q0, hargs, rfl, rfl, h0, r0⟩ := trodAll_cons hA
  obtain ⟨v1, vs1, d1, ds1, p1, q1, rfl, rfl, rfl, h1, r1⟩ := trodAll_cons r0
  obtain ⟨v2, vs2, d2, ds2, p2, q2, rfl, rfl, rfl, h2, r2⟩ := trodAll_cons r1
  obtain ⟨rfl, rfl, rfl⟩ := trodAll_nil r2
  obtain rfl : args = #[v0, v1, v2] := by cases args; simp_all
  obtain ⟨rfl, rfl⟩ := trodVars_none hV
  have k0 := h0
  have lt0 : ∀ x ∈ p0, x.block < W.heap.size := by obtain ⟨m, hm⟩ := k0; exact DataW.trod_lt m _ _ _ hm
  have k1 := h1
  have lt1 : ∀ x ∈ p1, x.block < W.heap.size := by obtain ⟨m, hm⟩ := k1; exact DataW.trod_lt m _ _ _ hm
  have k2 := h2
  have lt2 : ∀ x ∈ p2, x.block < W.heap.size := by obtain ⟨m, hm⟩ := k2; exact DataW.trod_lt m _ _ _ hm
  obtain ⟨i0, t0, y0, u0, A0, c0, ls0, rfl, hi0, ht0, hy0, hu0, hh0, hl0, hc0, hm0⟩ := open_forgery (hval 0 41 v0 rfl rfl) h0
  obtain ⟨l1, rfl, hl1, hb1⟩ := open_hash (hval 1 23 v1 rfl rfl) h1
  obtain ⟨l2, rfl, hl2, hb2⟩ := open_hash (hval 2 23 v2 rfl rfl) h2
  clear hA0 hval0
  refine (keyverlaw_any treeR tree_says i0 t0 y0 u0 hi0 ht0 hy0 hu0 ls0 hh0 A0 c0 l1 ⟨hl1, hb1⟩ l2 ⟨hl2, hb2⟩ W (of_laid hL) hl0 hc0 hm0).mono fun e W' ⟨he, bel⟩ => ?_
  subst he
  exact ⟨_, rfl, _, _, _, [], _, [], hW', trodAll_mk1 (shut_bool Tryd.underlying4 _), (trodAll_cons_mk (Below.trod laidOut (by kernel_rfl) (of_decide_eq_true (by kernel_rfl)) k0 bel lt0) (trodAll_cons_mk (Below.trod laidOut (by kernel_rfl) (of_decide_eq_true (by kernel_rfl)) k1 bel lt1) (trodAll_cons_mk (Below.trod laidOut (by kernel_rfl) (of_decide_eq_true (by kernel_rfl)) k2 bel lt2) trodAll_mk0))), rfl, bel.frame _, fun h => by cases h⟩

theorem over : Rows.KeytreeVerifySaid :=
  OpenClaim.holds_of_wide 4 Tryd.f4 rfl rfl rfl rfl rfl rfl rfl ⟨rfl, rfl, rfl, rfl, rfl⟩ rfl rfl rfl rfl rfl (by kernel_rfl) Tryd.func4 (by kernel_rfl)
    (of_decide_eq_true (by kernel_rfl)) (by unfold Func.isWrapper; first | (rw [if_pos (by decide +kernel)]; kernel_rfl) | (rw [if_neg (by decide +kernel)]; exact ⟨rfl, rfl⟩))
    (fun os started H enc _ => lifted os started H enc)

/-- The statement. -/
theorem proved : Rows.KeytreeVerifyCardSaid :=
  Claim7.holds_tied_plain_at .later [] [.data, .data] true _ false
    over (fun _ h => by cases h) (by kernel_rfl) (fun _ h => by cases h) keytreeVerify_row_tie rfl ⟨rfl, rfl⟩ (by kernel_rfl) rfl
    (fun f fn hf hfn => by
      obtain rfl : f = 4 := Option.some.inj ((show Tryd.prog.funcNamed "speculum/speculumlaw09.KeytreeVerify" = some 4 by kernel_rfl).symm.trans hf) |>.symm
      obtain rfl : fn = Tryd.f4 := (Option.some.inj (Tryd.func4.symm.trans hfn)).symm
      exact ⟨by kernel_rfl, fun j t ht => by
        rw [Tryd.params4] at ht
        have hm : t ∈ [41, 23, 23] := by simpa using Array.mem_of_getElem? ht
        have hall : ([41, 23, 23].all fun u => !Tryd.prog.wantsStandIn u) = true := by kernel_rfl
        exact (show Tryd.prog.wantsStandIn t = false by simpa using List.all_eq_true.1 hall t hm)⟩)
    (by kernel_rfl)
#print axioms proved
end Go.Proofs.YtgnkdkehooagpaaDoor.verify
