/-
  Proved: called with any two heads and any key's number, the statement HeadsSigned (what a tree of keys signed of a head is checked with its root, and with no other key; and not of a head of another size, or another root; where two unlike texts have one hash it asks the examples alone) returns true, and its arguments read as before. Condition: the two tables of the package sha hold what the program's text lays, which the card ties to that text.
-/
import Derived.Test.YtpndccoikhejgaaDoorPk28
import Derived.Test.YtpndccoikhejgaaDoorPk31
import Derived.Test.YtpndccoikhejgaaDoorPk38
namespace Go.Proofs.YtpndccoikhejgaaDoor
open Go.RowKit Go.Great
set_option linter.unusedVariables false
set_option maxRecDepth 100000

theorem and_4095 (x : Int) : bits .and .i64 x 4095 = x % 4096 := by
  have oa : (BitVec.ofInt 64 x).toNat = (x % 18446744073709551616).toNat := by rw [BitVec.toNat_ofInt]; rfl
  have ob : (BitVec.ofInt 64 (4095 : Int)).toNat = 4095 := by decide
  show IntKind.i64.wrap ((BitVec.ofInt 64 x &&& BitVec.ofInt 64 4095).toNat : Int) = _
  rw [BitVec.toNat_and, oa, ob, show (4095 : Nat) = 2 ^ 12 - 1 by decide, Nat.and_two_pow_sub_one_eq_mod, IntKind.wrap_i64]
  omega
theorem headV_list (s : Int) (r : List Int) : (headV s r).toList = Value.int .i64 s :: (nums .u8 r).toList := by simp [headV]
theorem headV_set0 (s : Int) (r : List Int) (x : Int) : (headV s r).setIfInBounds 0 (.int .i64 x) = headV x r := by
  apply Array.toList_inj.1
  rw [Array.toList_setIfInBounds, headV_list, headV_list]; rfl
theorem signedV_headSet {s : Int} {r : List Int} {i : Int} {t : ByteArray} {A : Option Addr} {n c : Nat} (hr : r.length = 32) (s' : Int) (l : List Int) (hl : l.length = 32) : setMany (signedV s r i t A n c) 0 (headV s' l).toList = signedV s' l i t A n c := by
  have z1 := signedV_size s r i t A n c hr
  have zl : (headV s' l).toList.length = 33 := by rw [Array.length_toList]; exact headV_size s' l hl
  apply Array.ext_getElem?
  intro k
  rw [setMany_get, zl, z1]
  by_cases h1 : k < 33
  · rw [if_pos (by omega), signedV_low s' l i t A n c hl k h1, Array.getElem?_toList, Nat.sub_zero]
  · rw [if_neg (by omega)]
    obtain ⟨j, rfl⟩ : ∃ j, k = 33 + j := ⟨k - 33, by omega⟩
    rw [signedV_high s r i t A n c hr, signedV_high s' l i t A n c hl]
theorem get_neqD {o : Oper} {a : Act} {x y : Operand} {T : TypeId} {A B : Array Value} {v : Value} {w : World} (ho : o.op = .binOp .neq 25 x y T) (hx : a.eval x = .agg A) (hy : a.eval y = .agg B)
    (h : (neqD (.agg A) (.agg B)).run Tryd.prog w = .ok v w) : (execOp a.eval o).run Tryd.prog w = .ok (.value v) w := by
  have hg : (eqGuard .neq 25 x y (.agg A) (.agg B)).run Tryd.prog w = .ok () w := by
    simp [eqGuard]
  unfold execOp
  simp only [ho, hx, hy, hg, neq_d, Sem.run_bind, Sem.run_pure, h, Result.andThen_ok]
/-- A head stored into a signed head. -/
theorem Row.writeHead {w : World} {g : Nat} {t : TypeId} {s : Int} {r : List Int} {i : Int} {u : ByteArray} {A : Option Addr} {n c : Nat} (h : Row w g t (signedV s r i u A n c)) (hr : r.length = 32) (s' : Int) (l : List Int) (hl : l.length = 32) :
    (Go.Proofs.YtpndccoikhejgaaDoor.writeD (.pointer (some ⟨g, 0, none⟩)) (.agg (headV s' l))).run Tryd.prog w = .ok () (w.setCells g 0 (headV s' l).toList) ∧ Row (w.setCells g 0 (headV s' l).toList) g t (signedV s' l i u A n c) :=
  ⟨run_storeAt_mid (P := Tryd.prog) w g 0 25 (headV s' l) (fun j hj => by
    rw [headV_size s' l hl] at hj
    rw [Nat.zero_add]
    exact ⟨by rw [h.cell, Array.getElem?_eq_getElem (by rw [signedV_size s r i u A n c hr]; omega)]; rfl, h.free _⟩) (sizeD _ (headV_size s' l hl)) (headV_one _ _), by
    rw [← signedV_headSet (s := s) (r := r) hr s' l hl]; exact Row.cells _ _ h⟩
/-- What is said of a head that was signed: checked with its root, and what follows of the others. -/
structure SgF (rt : List Int) (a b va vb : Int) (hr orr : List Int) : Prop where
  own : rt = orr → va = 0
  same : a = b ∧ hr = orr → vb = 0
  ord : ordF a hr b orr = 1 ↔ a = b ∧ hr = orr
theorem ordF_one (a b : Int) (hr orr : List Int) : ordF a hr b orr = 1 ↔ a = b ∧ hr = orr := by
  unfold ordF
  by_cases h1 : a < b
  · rw [if_pos h1]; exact ⟨fun h => by omega, fun h => by omega⟩
  · rw [if_neg h1]
    by_cases h2 : b < a
    · rw [if_pos h2]; exact ⟨fun h => by omega, fun h => by omega⟩
    · rw [if_neg h2]
      by_cases h3 : hr = orr
      · rw [if_pos h3]; exact ⟨fun _ => ⟨by omega, h3⟩, fun _ => rfl⟩
      · rw [if_neg h3]; exact ⟨fun h => by omega, fun h => absurd h.2 h3⟩
/-- What HeadsSigned holds ahead: two heads. -/
structure SaH (w : World) (HA HO : Array Value) (W : World) : Prop where
  ha : Row W w.heap.size 25 HA
  ho : Row W (w.heap.size + 1) 25 HO
  tab : Tab W
  below : Below w.heap.size w W
theorem SaH.next {w W W1 : World} {HA HO : Array Value} (h : SaH w HA HO W) (hb : Below W.heap.size W W1) : SaH w HA HO W1 := ⟨h.ha.next hb, h.ho.next hb, h.tab.next hb, below_new h.below hb⟩
theorem SaH.start {w : World} (HA HO : Array Value) (hT : Tab w) : SaH w HA HO ((w.alloc (.cells HA 25)).alloc (.cells HO 25)) :=
  have hb : Below w.heap.size w ((w.alloc (.cells HA 25)).alloc (.cells HO 25)) := ((Below.refl _ _).alloc (Nat.le_refl _) _).alloc (by simp) _
  ⟨(Row.made _ _ _).alloc _, Row.made2 _ _ _ _, hT.next hb, hb⟩
theorem SaH.size1 {w W : World} {a : Int} {r : List Int} {HO : Array Value} (h : SaH w (headV a r) HO W) (hT : Tab w) (x : Int) : SaH w (headV x r) HO (W.setCell ⟨w.heap.size, 0, none⟩ (.int .i64 x)) :=
  have hb : Below w.heap.size w (W.setCell ⟨w.heap.size, 0, none⟩ (.int .i64 x)) := h.below.setCell (p := ⟨w.heap.size, 0, none⟩) (Nat.le_refl _) _
  ⟨by rw [← headV_set0 a]; exact h.ha.put 0 _, h.ho.far (by show _ ≠ w.heap.size; omega) _, hT.next hb, hb⟩
theorem SaH.size2 {w W : World} {b : Int} {q : List Int} {HA : Array Value} (h : SaH w HA (headV b q) W) (hT : Tab w) (x : Int) : SaH w HA (headV x q) (W.setCell ⟨w.heap.size + 1, 0, none⟩ (.int .i64 x)) :=
  have hb : Below w.heap.size w (W.setCell ⟨w.heap.size + 1, 0, none⟩ (.int .i64 x)) := h.below.setCell (p := ⟨w.heap.size + 1, 0, none⟩) (by show _ ≤ w.heap.size + 1; omega) _
  ⟨h.ha.far (by show _ ≠ w.heap.size + 1; omega) _, by rw [← headV_set0 b]; exact h.ho.put 0 _, hT.next hb, hb⟩
/-- .. then a tree, and a path. -/
structure SbH (TR : World → Value → ByteArray → Prop) (w : World) (HA HO : Array Value) (v : Value) (A : Option Addr) (ps : List (List Int)) (W : World) : Prop where
  sa : SaH w HA HO W
  tree : TR W v ⟨#[108, 111, 103]⟩
  lst : HW W A ps
theorem SbH.next {TR : World → Value → ByteArray → Prop} (TS : TreeSays TR) {w W W1 : World} {HA HO : Array Value} {v : Value} {A : Option Addr} {ps : List (List Int)} (h : SbH TR w HA HO v A ps W) (hb : Below W.heap.size W W1) : SbH TR w HA HO v A ps W1 := ⟨h.sa.next hb, TS.next h.tree hb, h.lst.next hb⟩
/-- .. then two signed heads. -/
structure ScH (TR : World → Value → ByteArray → Prop) (w : World) (HA HO : Array Value) (v : Value) (A : Option Addr) (ps : List (List Int)) (g1 g2 : Nat) (SA SB : Array Value) (W : World) : Prop where
  sb : SbH TR w HA HO v A ps W
  ra : Row W g1 34 SA
  rb : Row W g2 34 SB
theorem ScH.next {TR : World → Value → ByteArray → Prop} (TS : TreeSays TR) {w W W1 : World} {HA HO : Array Value} {v : Value} {A : Option Addr} {ps : List (List Int)} {g1 g2 : Nat} {SA SB : Array Value} (h : ScH TR w HA HO v A ps g1 g2 SA SB W) (hb : Below W.heap.size W W1) : ScH TR w HA HO v A ps g1 g2 SA SB W1 := ⟨h.sb.next TS hb, h.ra.next hb, h.rb.next hb⟩
attribute [local go_sem ↓ high] read_at write_at read_d write_d read_g write_g read_s write_s eq_at neq_at eq_d neq_d
set_option maxHeartbeats 16000000 in
theorem headssigned_any (HS : HeadSays) (TR : World → Value → ByteArray → Prop) (TS : TreeSays TR) (hz : Int) (h64 : num64 hz) (hr : List Int) (hhr : hr.length = 32 ∧ bytes hr) (ix : Int) (hix : 0 ≤ ix ∧ ix ≤ 255) (oz : Int) (o64 : num64 oz) (orr : List Int) (hor : orr.length = 32 ∧ bytes orr) (w : World) (hT : Tab w) :
    Calls Tryd.prog 6 #[.agg (headV hz hr), .int .u8 ix, .agg (headV oz orr)] w fun e w' => e = .returned (.bool true) ∧ Below w.heap.size w w' := by
  have KED : Hid (∀ W, Tab W → Calls Tryd.prog 8 #[] W fun e w' => e = .returned (.bool true) ∧ Below W.heap.size W w') := Lib.hid fun W h => headed_any HS W h
  obtain ⟨a, ha⟩ : ∃ a, Hid (a = hz % 4096) := ⟨_, Lib.hid rfl⟩
  obtain ⟨b, hb⟩ : ∃ b, Hid (b = oz % 4096) := ⟨_, Lib.hid rfl⟩
  have ha1 : 0 ≤ a ∧ a ≤ 4096 := by have := ha.out; omega
  have hb1 : 0 ≤ b ∧ b ≤ 4096 := by have := hb.out; omega
  have N12 : Hid (bits .and .i64 hz 4095 = a ∧ bits .and .i64 oz 4095 = b) := Lib.hid ⟨by rw [and_4095, ha.out], by rw [and_4095, hb.out]⟩
  obtain ⟨k, rfl⟩ : ∃ k : Nat, ix = (k : Int) := ⟨ix.toNat, by omega⟩
  obtain ⟨I, hI⟩ : ∃ I : Nat, Hid (I = k % 8) := ⟨_, Lib.hid rfl⟩
  have HI8 : Hid (I < 8) := Lib.hid (by rw [hI.out]; omega)
  have R15 : Hid ((k : Int).tmod 8 = (I : Int) ∧ IntKind.i64.wrap (k : Int) = (k : Int) ∧ wrap64 (k : Int) = (k : Int) ∧ IntKind.i64.wrap (I : Int) = (I : Int) ∧ wrap64 (I : Int) = (I : Int)) := Lib.hid ⟨by rw [hI.out]; exact rem_nat k 8, by rw [IntKind.wrap_i64]; omega, by unfold wrap64; omega, by have := HI8.out; rw [IntKind.wrap_i64]; omega, by have := HI8.out; unfold wrap64; omega⟩
  obtain ⟨dg, hdg⟩ : ∃ d, Hid (d = digF a hr) := ⟨_, Lib.hid rfl⟩
  have dg32 : Hid (dg.length = 32 ∧ bytes dg) := Lib.hid (by rw [hdg.out]; exact digF_is _ _)
  obtain ⟨D, hD⟩ : ∃ C, Hid (C = nums .u8 dg) := ⟨_, Lib.hid rfl⟩
  obtain ⟨E, hE⟩ : ∃ E, Hid (E = sigF ⟨#[108, 111, 103]⟩ I dg) := ⟨_, Lib.hid rfl⟩
  have EZ : Hid (E.size = 16384) := Lib.hid (by rw [hE.out]; exact sigF_size ⟨#[108, 111, 103]⟩ I dg (by have := HI8.out; omega))
  have EM : Hid (E.size ≤ maxLen) := Lib.hid (by rw [EZ.out]; decide)
  obtain ⟨ps, hps⟩ : ∃ ps, Hid (ps = pathL (keysF ⟨#[108, 111, 103]⟩) I) := ⟨_, Lib.hid rfl⟩
  have lps : Hid (ps.length = 3) := Lib.hid (by rw [hps.out]; exact path8_length ⟨#[108, 111, 103]⟩ I HI8.out)
  have hhp : Hid (hashes ps) := Lib.hid (by rw [hps.out]; exact path8_hashes ⟨#[108, 111, 103]⟩ I)
  obtain ⟨rt, hrt⟩ : ∃ r, Hid (r = rootF ⟨#[108, 111, 103]⟩) := ⟨_, Lib.hid rfl⟩
  have rt32 : Hid (rt.length = 32 ∧ bytes rt) := Lib.hid (by rw [hrt.out]; exact rootF_is ⟨#[108, 111, 103]⟩)
  obtain ⟨x, hx⟩ : ∃ x : Sh, Hid (x = ⟨a, hr, (I : Int), E, ps⟩) := ⟨_, Lib.hid rfl⟩
  obtain ⟨y, hy⟩ : ∃ y : Sh, Hid (y = ⟨b, orr, (I : Int), E, ps⟩) := ⟨_, Lib.hid rfl⟩
  have hfx : Hid x.fits := Lib.hid (by rw [hx.out]; exact ⟨hhr, hhp.out⟩)
  have hfy : Hid y.fits := Lib.hid (by rw [hy.out]; exact ⟨hor, hhp.out⟩)
  have hI7 : (0 : Int) ≤ (I : Int) ∧ (I : Int) ≤ 7 := by have := HI8.out; omega
  have okx : Hid x.ok := Lib.hid (by rw [hx.out]; exact ⟨ha1, hI7, EZ.out, lps.out⟩)
  have hv0 : verF rt dg (I : Int) E ps = 0 := by rw [hrt.out, hE.out, hps.out]; exact verF_own ⟨#[108, 111, 103]⟩ I HI8.out dg
  have fx : Hid (x.size = a ∧ x.root = hr ∧ x.index = (I : Int) ∧ x.sig = E ∧ x.path = ps) := Lib.hid (by rw [hx.out]; exact ⟨rfl, rfl, rfl, rfl, rfl⟩)
  have fy : Hid (y.size = b ∧ y.root = orr ∧ y.index = (I : Int) ∧ y.sig = E ∧ y.path = ps) := Lib.hid (by rw [hy.out]; exact ⟨rfl, rfl, rfl, rfl, rfl⟩)
  have C0 : Hid (chkF rt x = 0) := Lib.hid (by
    unfold chkF
    rw [if_pos okx.out, fx.out.1, fx.out.2.1, fx.out.2.2.1, fx.out.2.2.2.1, fx.out.2.2.2.2, ← hdg.out, if_pos hv0])
  clear hv0
  obtain ⟨va, hva⟩ : ∃ v, Hid (v = chkF orr x) := ⟨_, Lib.hid rfl⟩
  obtain ⟨vb, hvb⟩ : ∃ v, Hid (v = chkF rt y) := ⟨_, Lib.hid rfl⟩
  have SF : Hid (SgF rt a b va vb hr orr) := Lib.hid ⟨fun e => by rw [hva.out, ← e]; exact C0.out, fun e => by
    rw [hvb.out]
    have exy : y = x := by rw [hx.out, hy.out, e.1, e.2]
    rw [exy]; exact C0.out, ordF_one a b hr orr⟩
  obtain ⟨HZ, hHZ⟩ : ∃ C, Hid (C = headV hz hr) := ⟨_, Lib.hid rfl⟩
  obtain ⟨OZ, hOZ⟩ : ∃ C, Hid (C = headV oz orr) := ⟨_, Lib.hid rfl⟩
  obtain ⟨HA, hHA⟩ : ∃ C, Hid (C = headV a hr) := ⟨_, Lib.hid rfl⟩
  obtain ⟨HO, hHO⟩ : ∃ C, Hid (C = headV b orr) := ⟨_, Lib.hid rfl⟩
  obtain ⟨OR, hOR⟩ : ∃ C, Hid (C = nums .u8 orr) := ⟨_, Lib.hid rfl⟩
  obtain ⟨RT, hRT⟩ : ∃ C, Hid (C = nums .u8 rt) := ⟨_, Lib.hid rfl⟩
  have HT0 := Lib.hid hT
  have H0 := Lib.hid (SaH.start HZ OZ hT)
  have XN : Hid (∀ W, Tab W → Calls Tryd.prog 25 #[.string ⟨#[108, 111, 103]⟩] W fun e w' => ∃ v, e = .returned v ∧ TR w' v ⟨#[108, 111, 103]⟩ ∧ Below W.heap.size W w') := Lib.hid fun W h => TS.new_ ⟨#[108, 111, 103]⟩ W h (by decide)
  have XR : Hid (∀ v W, Tab W → TR W v ⟨#[108, 111, 103]⟩ → Calls Tryd.prog 27 #[v] W fun e w' => e = .returned (.agg RT) ∧ Below W.heap.size W w') := Lib.hid fun v W h hv => by rw [hRT.out, hrt.out]; exact TS.root ⟨#[108, 111, 103]⟩ v W h hv (by decide)
  have XD : Hid (∀ W, Tab W → Calls Tryd.prog 12 #[.agg HA] W fun e w' => e = .returned (.agg D) ∧ Below W.heap.size W w') := Lib.hid fun W h => by rw [hHA.out, hD.out, hdg.out]; exact HS.digest a hr W h (by unfold num64; omega) hhr
  have XG : Hid (∀ v W, Tab W → TR W v ⟨#[108, 111, 103]⟩ → Calls Tryd.prog 26 #[v, .int .i64 (I : Int), .agg D] W fun e w' => ∃ A c, e = .returned (.tuple #[.agg (sealV (I : Int) E A 3 c), .int .i64 0]) ∧ (3 ≤ c ∧ c ≤ maxLen) ∧ HW w' A ps ∧ Below W.heap.size W w') := Lib.hid fun v W h hv => by
    rw [hD.out]
    refine (TS.sign ⟨#[108, 111, 103]⟩ v (I : Int) dg W h hv (by decide) (by have := HI8.out; unfold num64; omega) dg32.out).mono ?_
    rintro e w' ⟨A, c, h1, h2, h3, h4, h5⟩
    have hs : sealF ⟨#[108, 111, 103]⟩ (I : Int) dg = (((I : Int), E, ps), 0) := by rw [sealF_ok HI8.out, hE.out, hps.out]
    rw [hs] at h1 h2 h4
    rw [show (((I : Int), E, ps), (0 : Int)).1.2.2.length = 3 from lps.out] at h1 h2
    exact ⟨A, c, h1, ⟨h2, h3⟩, h4, h5⟩
  have lHA : Hid (∀ W, Row W w.heap.size 25 HA → (readD (.pointer (some ⟨w.heap.size, 0, none⟩))).run Tryd.prog W = .ok (.agg HA) W) := Lib.hid fun W h => by rw [hHA.out] at h ⊢; exact head_all h hhr.1
  have lHO : Hid (∀ W, Row W (w.heap.size + 1) 25 HO → (readD (.pointer (some ⟨w.heap.size + 1, 0, none⟩))).run Tryd.prog W = .ok (.agg HO) W) := Lib.hid fun W h => by rw [hHO.out] at h ⊢; exact head_all h hor.1
  have lOR : Hid (∀ W, Row W (w.heap.size + 1) 25 HO → (readAt (.pointer (some ⟨w.heap.size + 1, 1, none⟩))).run Tryd.prog W = .ok (.agg OR) W) := Lib.hid fun W h => by rw [hHO.out] at h; rw [hOR.out]; exact head_root h hor.1
  have HHR := Lib.hid hhr
  have HOR := Lib.hid hor
  have NA : Hid (num64 x.size ∧ num64 x.index ∧ num64 y.size ∧ num64 y.index) := Lib.hid (by
    rw [fx.out.1, fx.out.2.2.1, fy.out.1, fy.out.2.2.1]
    exact ⟨by unfold num64; omega, by unfold num64; omega, by unfold num64; omega, by unfold num64; omega⟩)
  have HI7 := Lib.hid hI7
  have N64 : Hid (num64 a ∧ num64 b) := Lib.hid ⟨by unfold num64; omega, by unfold num64; omega⟩
  rw [← hHZ.out, ← hOZ.out]
  clear h64 o64 hhr hor hix ha hb ha1 hb1 hI7 hT
  go_enter Tryd.func6, Tryd.ntmps6
  go_upto_region 1 with fail
  refine world_gen (fun X => SaH w HZ OZ X) H0.out (fun X HX => ?_)
  have HX := Lib.hid HX
  clear H0
  obtain ⟨N1, N2⟩ := N12.out
  go_cut [13] (fun s13 wx => Hid (SaH w HA HO wx))
  case first =>
    have WK : Hid (∀ z1 z2 W, SaH w (headV z1 hr) (headV z2 orr) W → ∃ z1 z2, SaH w (headV z1 hr) (headV z2 orr) W) := Lib.hid fun z1 z2 W h => ⟨z1, z2, h⟩
    have HP : Hid (SaH w (headV hz hr) (headV oz orr) X) := Lib.hid (by rw [← hHZ.out, ← hOZ.out]; exact HX.out)
    replace HP := Lib.hid (HP.out.next (Below.refl X.heap.size X).drew)
    refine wp_region_fk (fun W => ∃ z1 z2, SaH w (headV z1 hr) (headV z2 orr) W) (.get 0 (.get 3 (.fork 1 4 (.get 2 (.get 6 (.fork 4 7 (.get 5 (.call 7 (.get 8 (.call 9 .done)))) (.call 4 (.get 5 (.get 8 (.call 9 .done))))))) (.get 5 (.call 1 (.get 2 (.get 6 (.call 7 (.get 8 (.call 9 .done)))))))))) (by kernel_rfl) rfl (by kernel_rfl) (by kernel_rfl) (by intro c a d v w h; cases d <;> exact h) (WK.out _ _ _ HP.out) (fun Q' hQ => ?_)
    have HS := Lib.hid (WK.out _ _ _ HP.out)
    have HQ := Lib.hid hQ
    clear hQ
    obtain ⟨W0, hW0⟩ : ∃ W, W = X.drew := ⟨_, rfl⟩
    rw [← hW0] at HS HP ⊢
    clear hW0
    refine wpFk_get rfl (by rfl) (fun K hK => ?_)
    refine ⟨?_, fun w' hS' => ?_, ?_⟩
    rotate_left
    · go_simp
      try (with_reducible rfl)
    try go_simp
    refine hK _ ?_
    clear hK K
    refine wpFk_get rfl (by rfl) (fun K hK => ?_)
    refine ⟨?_, fun w' hS' => ?_, ?_⟩
    rotate_left
    · go_simp
      try (with_reducible rfl)
    try go_simp
    refine hK _ ?_
    clear hK K
    refine wpFk_fork ?_ ?_
    · refine wpFk_call rfl (by rfl) (fun K hK => ?_)
      have c0 := head_cells HP.out.ha
      go_simp
      clear c0
      refine hK _ _ HS.out ?_
      clear hK K
      refine wpFk_get rfl (by rfl) (fun K hK => ?_)
      refine ⟨?_, fun w' hS' => ?_, ?_⟩
      rotate_left
      · go_simp
        try (with_reducible rfl)
      try go_simp
      refine hK _ ?_
      clear hK K
      refine wpFk_get rfl (by rfl) (fun K hK => ?_)
      refine ⟨?_, fun w' hS' => ?_, ?_⟩
      rotate_left
      · go_simp
        try (with_reducible rfl)
      try go_simp
      refine hK _ ?_
      clear hK K
      refine wpFk_fork ?_ ?_
      · refine wpFk_call rfl (by rfl) (fun K hK => ?_)
        have c1 := head_cells HP.out.ho
        go_simp
        clear c1
        refine hK _ _ HS.out ?_
        clear hK K
        refine wpFk_get rfl (by rfl) (fun K hK => ?_)
        refine ⟨?_, fun w' hS' => ?_, ?_⟩
        rotate_left
        · go_simp
          try (with_reducible rfl)
        try go_simp
        refine hK _ ?_
        clear hK K
        refine wpFk_call rfl (by rfl) (fun K hK => ?_)
        have c0 := head_cells HP.out.ha
        have f0 := HP.out.ha.free 0
        go_simp
        clear c0 f0
        replace HP := Lib.hid (HP.out.size1 HT0.out a)
        replace HS := Lib.hid (WK.out _ _ _ HP.out)
        refine hK _ _ HS.out ?_
        clear hK K
        refine wpFk_get rfl (by rfl) (fun K hK => ?_)
        refine ⟨?_, fun w' hS' => ?_, ?_⟩
        rotate_left
        · go_simp
          try (with_reducible rfl)
        try go_simp
        refine hK _ ?_
        clear hK K
        refine wpFk_call rfl (by rfl) (fun K hK => ?_)
        have c1 := head_cells HP.out.ho
        have f1 := HP.out.ho.free 0
        go_simp
        clear c1 f1
        replace HP := Lib.hid (HP.out.size2 HT0.out b)
        replace HS := Lib.hid (WK.out _ _ _ HP.out)
        refine hK _ _ HS.out ?_
        clear hK K
        refine wpFk_done ?_
        refine HQ.out _ _ ?_
        clear HQ
        go_wp2
        go_meet
        rw [hHA.out, hHO.out]
        exact HP
      · refine wpFk_call rfl (by rfl) (fun K hK => ?_)
        have c0 := head_cells HP.out.ha
        have f0 := HP.out.ha.free 0
        go_simp
        clear c0 f0
        replace HP := Lib.hid (HP.out.size1 HT0.out a)
        replace HS := Lib.hid (WK.out _ _ _ HP.out)
        refine hK _ _ HS.out ?_
        clear hK K
        refine wpFk_call rfl (by rfl) (fun K hK => ?_)
        have c1 := head_cells HP.out.ho
        go_simp
        clear c1
        refine hK _ _ HS.out ?_
        clear hK K
        refine wpFk_get rfl (by rfl) (fun K hK => ?_)
        refine ⟨?_, fun w' hS' => ?_, ?_⟩
        rotate_left
        · go_simp
          try (with_reducible rfl)
        try go_simp
        refine hK _ ?_
        clear hK K
        refine wpFk_get rfl (by rfl) (fun K hK => ?_)
        refine ⟨?_, fun w' hS' => ?_, ?_⟩
        rotate_left
        · go_simp
          try (with_reducible rfl)
        try go_simp
        refine hK _ ?_
        clear hK K
        refine wpFk_call rfl (by rfl) (fun K hK => ?_)
        have c1 := head_cells HP.out.ho
        have f1 := HP.out.ho.free 0
        go_simp
        clear c1 f1
        replace HP := Lib.hid (HP.out.size2 HT0.out b)
        replace HS := Lib.hid (WK.out _ _ _ HP.out)
        refine hK _ _ HS.out ?_
        clear hK K
        refine wpFk_done ?_
        refine HQ.out _ _ ?_
        clear HQ
        go_wp2
        go_meet
        rw [hHA.out, hHO.out]
        exact HP
    · refine wpFk_call rfl (by rfl) (fun K hK => ?_)
      have c1 := head_cells HP.out.ho
      go_simp
      clear c1
      refine hK _ _ HS.out ?_
      clear hK K
      refine wpFk_get rfl (by rfl) (fun K hK => ?_)
      refine ⟨?_, fun w' hS' => ?_, ?_⟩
      rotate_left
      · go_simp
        try (with_reducible rfl)
      try go_simp
      refine hK _ ?_
      clear hK K
      refine wpFk_call rfl (by rfl) (fun K hK => ?_)
      have c0 := head_cells HP.out.ha
      go_simp
      clear c0
      refine hK _ _ HS.out ?_
      clear hK K
      refine wpFk_get rfl (by rfl) (fun K hK => ?_)
      refine ⟨?_, fun w' hS' => ?_, ?_⟩
      rotate_left
      · go_simp
        try (with_reducible rfl)
      try go_simp
      refine hK _ ?_
      clear hK K
      refine wpFk_get rfl (by rfl) (fun K hK => ?_)
      refine ⟨?_, fun w' hS' => ?_, ?_⟩
      rotate_left
      · go_simp
        try (with_reducible rfl)
      try go_simp
      refine hK _ ?_
      clear hK K
      refine wpFk_call rfl (by rfl) (fun K hK => ?_)
      have c0 := head_cells HP.out.ha
      have f0 := HP.out.ha.free 0
      go_simp
      clear c0 f0
      replace HP := Lib.hid (HP.out.size1 HT0.out a)
      replace HS := Lib.hid (WK.out _ _ _ HP.out)
      refine hK _ _ HS.out ?_
      clear hK K
      refine wpFk_get rfl (by rfl) (fun K hK => ?_)
      refine ⟨?_, fun w' hS' => ?_, ?_⟩
      rotate_left
      · go_simp
        try (with_reducible rfl)
      try go_simp
      refine hK _ ?_
      clear hK K
      refine wpFk_call rfl (by rfl) (fun K hK => ?_)
      have c1 := head_cells HP.out.ho
      have f1 := HP.out.ho.free 0
      go_simp
      clear c1 f1
      replace HP := Lib.hid (HP.out.size2 HT0.out b)
      replace HS := Lib.hid (WK.out _ _ _ HP.out)
      refine hK _ _ HS.out ?_
      clear hK K
      refine wpFk_done ?_
      refine HQ.out _ _ ?_
      clear HQ
      go_wp2
      go_meet
      rw [hHA.out, hHO.out]
      exact HP
  case rest =>
  have H1 := hcut
  clear hcut HX N1 N2 hHZ hOZ
  go_step
  go_upto_region 3 with (go_at_call 25; (with_reducible refine (XN.out _ H1.out.tab).mono ?_); rintro e w2 ⟨v, rfl, hv, hb⟩; have H2 := Lib.hid (H1.out.next hb); have V2 := Lib.hid hv; clear hv hb)
  clear H1 XN
  obtain ⟨r1, r2, r3, r4, r5⟩ := R15.out
  have l2 := lHA.out _ H2.out.ha
  go_upto_region 4 with (first
    | (go_at_call 12; (with_reducible refine (XD.out _ H2.out.tab).mono ?_); rintro e w3 ⟨rfl, hb⟩; have H3 := Lib.hid (H2.out.next hb); have V3 := Lib.hid (TS.next V2.out hb); clear hb)
    | (go_at_call 26; (with_reducible refine (XG.out _ _ H3.out.tab V3.out).mono ?_); rintro e w4 ⟨A, c, rfl, hc, hA, hb⟩; obtain ⟨w5, s5, hr5, hb5⟩ := made_seal w4 (sealV (I : Int) E A 3 c) rfl (sealV_one (I : Int) E A 3 c); have H5 : Hid (SbH TR w HA HO v A ps w5) := Lib.hid ⟨(H3.out.next hb).next hb5, TS.next (TS.next V3.out hb) hb5, hA.next hb5⟩; have R5 := Lib.hid hr5; have HC := Lib.hid hc; clear hr5 hb5 hb hA hc))
  clear s5 l2 H2 V2 H3 V3 r1 r2 r3 r4 r5 XG XD
  obtain ⟨g8, hg⟩ : ∃ g, g = w4.heap.size := ⟨_, rfl⟩
  rw [← hg] at R5 ⊢
  clear hg
  obtain ⟨SA, hSA⟩ : ∃ C, Hid (C = signedV a hr (I : Int) E A 3 c) := ⟨_, Lib.hid rfl⟩
  obtain ⟨SB, hSB⟩ : ∃ C, Hid (C = signedV b orr (I : Int) E A 3 c) := ⟨_, Lib.hid rfl⟩
  have zSA : Hid (SA.size = 36 ∧ SA.all (·.oneCell') = true) := Lib.hid (by rw [hSA.out]; exact ⟨signedV_size _ _ _ _ _ _ _ HHR.out.1, signedV_one _ _ _ _ _ _ _⟩)
  have GA : Hid (∀ W g, Row W g 34 SA → (readG (.pointer (some ⟨g, 0, none⟩))).run Tryd.prog W = .ok (.agg SA) W) := Lib.hid fun W g h => by rw [hSA.out] at h ⊢; exact signed_all h HHR.out.1
  have GB : Hid (∀ W g, Row W g 34 SB → (readG (.pointer (some ⟨g, 0, none⟩))).run Tryd.prog W = .ok (.agg SB) W) := Lib.hid fun W g h => by rw [hSB.out] at h ⊢; exact signed_all h HOR.out.1
  have l3 := lHA.out _ H5.out.sa.ha
  have l4 := R5.out.readS rfl
  go_upto_region 6 with fail
  obtain ⟨w6, s6, hr6, hb6⟩ := made_signed w5 SA zSA.out.1 zSA.out.2
  rw [← signed_zero] at s6
  go_upto_region 7 with (refine wpList_built_signed rfl _ _ rfl a hr HHR.out.1 (I : Int) E A 3 c (by rw [hHA.out]; first | rfl | (rw [← hHA.out]; rfl)) rfl ?_; rw [← hSA.out])
  have H6 := Lib.hid (H5.out.next TS hb6)
  have R6 := Lib.hid hr6
  obtain ⟨g10, hg⟩ : ∃ g, g = w5.heap.size := ⟨_, rfl⟩
  rw [← hg] at R6 ⊢
  clear hg s6 hr6 hb6 l3 l4 H5 R5
  have l5 := GA.out _ _ R6.out
  obtain ⟨w7, s7, hr7, hb7⟩ := made_signed w6 SA zSA.out.1 zSA.out.2
  rw [← signed_zero] at s7
  go_upto_region 8 with fail
  have l6 := lHO.out _ (H6.out.sa.next hb7).ho
  have R7 := hr7
  rw [hSA.out] at R7
  obtain ⟨s8, R8⟩ := R7.writeHead HHR.out.1 b orr HOR.out.1
  rw [← hHO.out] at s8 R8
  rw [← hSB.out] at R8
  have hb8 : Below w6.heap.size w6 (w7.setCells w6.heap.size 0 HO.toList) := hb7.trans (below_setCells_w (Nat.le_refl _) _ _ _)
  obtain ⟨g11, hg⟩ : ∃ g, g = w6.heap.size := ⟨_, rfl⟩
  have H8 : Hid (ScH TR w HA HO v A ps g10 g11 SA SB (w7.setCells g11 0 HO.toList)) := Lib.hid (by rw [hg]; exact ⟨H6.out.next TS hb8, R6.out.next hb8, R8⟩)
  rw [← hg] at s7 s8 ⊢
  clear R7 R8 hb8 hr7 hb7 l5 hg H6 R6 s7
  go_upto_region 9 with fail
  refine world_gen (fun X => ScH TR w HA HO v A ps g10 g11 SA SB X) H8.out (fun wd HX => ?_)
  have H9 := Lib.hid HX
  clear HX s8 l6 H8
  have XY : Hid (∀ W, HW W A ps → HeadIn W x A c ∧ HeadIn W y A c) := Lib.hid fun W h => by
    have hl : ps.length ≤ c := by rw [lps.out]; exact HC.out.1
    constructor
    · exact ⟨hfx.out, NA.out.1, NA.out.2.1, by rw [fx.out.2.2.2.1]; exact EM.out, by rw [fx.out.2.2.2.2]; exact h, by rw [fx.out.2.2.2.2]; exact hl, HC.out.2⟩
    · exact ⟨hfy.out, NA.out.2.2.1, NA.out.2.2.2, by rw [fy.out.2.2.2.1]; exact EM.out, by rw [fy.out.2.2.2.2]; exact h, by rw [fy.out.2.2.2.2]; exact hl, HC.out.2⟩
  have SX : Hid (shV x A c = SA ∧ shV y A c = SB) := Lib.hid (by
    unfold shV
    rw [hSA.out, hSB.out, fx.out.1, fx.out.2.1, fx.out.2.2.1, fx.out.2.2.2.1, fx.out.2.2.2.2, fy.out.1, fy.out.2.1, fy.out.2.2.1, fy.out.2.2.2.1, fy.out.2.2.2.2, lps.out]; exact ⟨rfl, rfl⟩)
  have REFC : Hid (∀ (z : Sh) (key : List Int) W, key.length = 32 ∧ bytes key → HeadIn W z A c → Calls Tryd.prog 17 #[.agg (nums .u8 key), .agg (shV z A c)] W fun e w' => e = .returned (.int .i64 (chkF key z)) ∧ Below W.heap.size W w') := Lib.hid fun z key W hk h => refHeadCheck_any key hk z h.fits h.size h.index h.sig A c W h.lst h.len h.cap
  have A1 : Hid (∀ W, HW W A ps → Calls Tryd.prog 17 #[.agg OR, .agg SA] W fun e w' => e = .returned (.int .i64 va) ∧ Below W.heap.size W w') := Lib.hid fun W h => by rw [hOR.out, ← SX.out.1, hva.out]; exact REFC.out x orr W HOR.out (XY.out W h).1
  have A2 : Hid (∀ W, HW W A ps → Calls Tryd.prog 17 #[.agg RT, .agg SB] W fun e w' => e = .returned (.int .i64 vb) ∧ Below W.heap.size W w') := Lib.hid fun W h => by rw [hRT.out, ← SX.out.2, hvb.out]; exact REFC.out y rt W rt32.out (XY.out W h).2
  have B0 : Hid (∀ W, Tab W → HW W A ps → Calls Tryd.prog 16 #[.agg RT, .agg SA] W fun e w' => e = .returned (.int .i64 0) ∧ Below W.heap.size W w') := Lib.hid fun W h1 h => by
    have := HS.check rt x A c W h1 rt32.out (XY.out W h).1
    rw [C0.out] at this
    rw [hRT.out, ← SX.out.1]; exact this
  have B1 : Hid (∀ W, Tab W → HW W A ps → Calls Tryd.prog 16 #[.agg OR, .agg SA] W fun e w' => e = .returned (.int .i64 va) ∧ Below W.heap.size W w') := Lib.hid fun W h1 h => by rw [hOR.out, ← SX.out.1, hva.out]; exact HS.check orr x A c W h1 HOR.out (XY.out W h).1
  have B2 : Hid (∀ W, Tab W → HW W A ps → Calls Tryd.prog 16 #[.agg RT, .agg SB] W fun e w' => e = .returned (.int .i64 vb) ∧ Below W.heap.size W w') := Lib.hid fun W h1 h => by rw [hRT.out, ← SX.out.2, hvb.out]; exact HS.check rt y A c W h1 rt32.out (XY.out W h).2
  have VV : Hid (∀ W, Tab W → HW W A ps → Calls Tryd.prog 14 #[.agg SA] W fun e w' => e = .returned (.bool true) ∧ Below W.heap.size W w') := Lib.hid fun W h1 h => by
    have := HS.valid x A c W h1 (XY.out W h).1
    rw [decide_eq_true okx.out] at this
    rw [← SX.out.1]; exact this
  obtain ⟨ov, hov⟩ : ∃ v, Hid (v = ordF a hr b orr) := ⟨_, Lib.hid rfl⟩
  have OO : Hid (∀ W, Tab W → Calls Tryd.prog 18 #[.agg HA, .agg HO] W fun e w' => e = .returned (.int .i64 ov) ∧ Below W.heap.size W w') := Lib.hid fun W h => by rw [hHA.out, hHO.out, hov.out]; exact HS.order a b hr orr W h N64.out.1 N64.out.2 HHR.out HOR.out
  have EP : Hid (∀ W, (eqAt (.agg OR) (.agg RT)).run Tryd.prog W = .ok (.bool (decide (orr = rt))) W) := Lib.hid fun W => by rw [hOR.out, hRT.out]; exact eqAt_hash orr rt HOR.out.1 rt32.out.1 HOR.out.2 rt32.out.2 W
  have NP0 : Hid (∀ W, (neqAt (.agg OR) (.agg RT)).run Tryd.prog W = .ok (.bool (!decide (orr = rt))) W) := Lib.hid fun W => by rw [hOR.out, hRT.out]; exact neqAt_hash orr rt HOR.out.1 rt32.out.1 HOR.out.2 rt32.out.2 W
  have EQ : Hid (∀ W, (eqD (.agg HA) (.agg HO)).run Tryd.prog W = .ok (.bool (decide (a = b ∧ hr = orr))) W) := Lib.hid fun W => by rw [hHA.out, hHO.out]; exact eqD_head a b hr orr HHR.out HOR.out W
  have NQ0 : Hid (∀ W, (neqD (.agg HA) (.agg HO)).run Tryd.prog W = .ok (.bool (!decide (a = b ∧ hr = orr))) W) := Lib.hid fun W => by rw [hHA.out, hHO.out]; exact neqD_head a b hr orr HHR.out HOR.out W
  obtain ⟨p, hp⟩ : ∃ p : Prop, Hid (p ↔ orr = rt) := ⟨_, Lib.hid Iff.rfl⟩
  obtain ⟨q, hq⟩ : ∃ q : Prop, Hid (q ↔ (a = b ∧ hr = orr)) := ⟨_, Lib.hid Iff.rfl⟩
  have hpa : Hid (p → va = 0) := Lib.hid fun h => SF.out.own (hp.out.1 h).symm
  have hqb : Hid (q → vb = 0) := Lib.hid fun h => SF.out.same (hq.out.1 h)
  have hqo : Hid (ov = 1 ↔ q) := Lib.hid (by rw [hov.out, SF.out.ord]; exact hq.out.symm)
  obtain ⟨ua, hua⟩ : ∃ u : Bool, Hid ((va == 0) = u) := ⟨_, Lib.hid rfl⟩
  obtain ⟨ub, hub⟩ : ∃ u : Bool, Hid ((vb == 0) = u) := ⟨_, Lib.hid rfl⟩
  have hua2 : Hid (ua = true ↔ va = 0) := Lib.hid (by rw [← hua.out]; simp)
  have hub2 : Hid (ub = true ↔ vb = 0) := Lib.hid (by rw [← hub.out]; simp)
  clear hdg dg32 hD hE EZ EM hps hhp hrt hfx hfy okx C0 SF hva hvb hov NA HI7 HI8 N64 REFC XY SX hSA hSB zSA hx hy fx fy
  go_cut [63] (fun s63 wx => ∃ cv : Bool, s63 = .bool cv ∧ Hid (((¬ p ∧ ua = true) ∨ (¬ q ∧ ub = true)) ↔ cv = true) ∧ Hid (ScH TR w HA HO v A ps g10 g11 SA SB wx))
  case first =>
    by_cases hp1 : p
    · by_cases hq1 : q
      · have NP : Hid (∀ W, (neqAt (.agg OR) (.agg RT)).run Tryd.prog W = .ok (.bool false) W) := Lib.hid fun W => by rw [NP0.out W, decide_eq_true (hp.out.1 hp1)]; rfl
        have NQ : Hid (∀ W, (neqD (.agg HA) (.agg HO)).run Tryd.prog W = .ok (.bool false) W) := Lib.hid fun W => by rw [NQ0.out W, decide_eq_true (hq.out.1 hq1)]; rfl
        have fa := hua.out
        have fb := hub.out
        refine wp_region_fk (ScH TR w HA HO v A ps g10 g11 SA SB) (.get 0 (.get 1 (.get 2 (.call 3 (.get 4 (.get 5 (.get 6 (.get 7 (.get 8 (.get 9 (.get 10 (.get 11 (.get 12 (.get 13 (.get 14 (.get 15 (.get 16 (.get 17 (.get 18 (.get 19 (.get 20 (.get 21 (.get 22 (.get 23 .done)))))))))))))))))))))))) (by kernel_rfl) rfl (by kernel_rfl) (by kernel_rfl) (by intro c a d v w h; cases d <;> exact h) (H9.out.next TS (Below.refl _ _).drew) (fun Q' hQ => ?_)
        have HS := Lib.hid (H9.out.next TS (Below.refl _ _).drew)
        have HQ := Lib.hid hQ
        clear hQ
        refine wpFk_get rfl (by rfl) (fun K hK => ?_)
        refine ⟨?_, fun w' hS' => ?_, ?_⟩
        rotate_left
        · go_simp
          try (with_reducible rfl)
        try go_simp
        refine hK _ ?_
        clear hK K
        refine wpFk_get rfl (by rfl) (fun K hK => ?_)
        refine ⟨_, fun w' hS' => get_load rfl rfl (lOR.out _ hS'.sb.sa.ho), ?_⟩
        try go_simp
        refine hK _ ?_
        clear hK K
        refine wpFk_get rfl (by rfl) (fun K hK => ?_)
        refine ⟨?_, fun w' hS' => ?_, ?_⟩
        rotate_left
        · go_simp
          try (with_reducible rfl)
        try go_simp
        refine hK _ ?_
        clear hK K
        refine wpFk_call rfl (by rfl) (fun K hK => ?_)
        go_simp
        go_at_call 27
        (with_reducible refine (XR.out _ _ HS.out.sb.sa.tab HS.out.sb.tree).mono ?_)
        rintro e w1x ⟨rfl, hb⟩
        replace HS := Lib.hid (HS.out.next TS hb)
        clear hb
        refine hK _ _ HS.out ?_
        clear hK K
        refine wpFk_get rfl (by rfl) (fun K hK => ?_)
        refine ⟨_, fun w' hS' => get_neqH rfl rfl rfl (NP.out _), ?_⟩
        try go_simp
        refine hK _ ?_
        clear hK K
        refine wpFk_get rfl (by rfl) (fun K hK => ?_)
        refine ⟨?_, fun w' hS' => ?_, ?_⟩
        rotate_left
        · go_simp
          try (with_reducible rfl)
        try go_simp
        refine hK _ ?_
        clear hK K
        refine wpFk_skip rfl (by rfl) (fun K hK => ?_)
        try go_simp
        refine hK _ ?_
        clear hK K
        refine wpFk_skip rfl (by rfl) (fun K hK => ?_)
        try go_simp
        refine hK _ ?_
        clear hK K
        refine wpFk_skip rfl (by rfl) (fun K hK => ?_)
        try go_simp
        refine hK _ ?_
        clear hK K
        refine wpFk_skip rfl (by rfl) (fun K hK => ?_)
        try go_simp
        refine hK _ ?_
        clear hK K
        refine wpFk_skip rfl (by rfl) (fun K hK => ?_)
        try go_simp
        refine hK _ ?_
        clear hK K
        refine wpFk_get rfl (by rfl) (fun K hK => ?_)
        refine ⟨?_, fun w' hS' => ?_, ?_⟩
        rotate_left
        · go_simp
          try (with_reducible rfl)
        try go_simp
        refine hK _ ?_
        clear hK K
        refine wpFk_get rfl (by rfl) (fun K hK => ?_)
        refine ⟨?_, fun w' hS' => ?_, ?_⟩
        rotate_left
        · go_simp
          try (with_reducible rfl)
        try go_simp
        refine hK _ ?_
        clear hK K
        refine wpFk_get rfl (by rfl) (fun K hK => ?_)
        refine ⟨_, fun w' hS' => get_loadD rfl rfl (lHA.out _ hS'.sb.sa.ha), ?_⟩
        try go_simp
        refine hK _ ?_
        clear hK K
        refine wpFk_get rfl (by rfl) (fun K hK => ?_)
        refine ⟨_, fun w' hS' => get_loadD rfl rfl (lHO.out _ hS'.sb.sa.ho), ?_⟩
        try go_simp
        refine hK _ ?_
        clear hK K
        refine wpFk_get rfl (by rfl) (fun K hK => ?_)
        refine ⟨_, fun w' hS' => get_neqD rfl rfl rfl (NQ.out _), ?_⟩
        try go_simp
        refine hK _ ?_
        clear hK K
        refine wpFk_get rfl (by rfl) (fun K hK => ?_)
        refine ⟨?_, fun w' hS' => ?_, ?_⟩
        rotate_left
        · go_simp
          try (with_reducible rfl)
        try go_simp
        refine hK _ ?_
        clear hK K
        refine wpFk_skip rfl (by rfl) (fun K hK => ?_)
        try go_simp
        refine hK _ ?_
        clear hK K
        refine wpFk_skip rfl (by rfl) (fun K hK => ?_)
        try go_simp
        refine hK _ ?_
        clear hK K
        refine wpFk_skip rfl (by rfl) (fun K hK => ?_)
        try go_simp
        refine hK _ ?_
        clear hK K
        refine wpFk_skip rfl (by rfl) (fun K hK => ?_)
        try go_simp
        refine hK _ ?_
        clear hK K
        refine wpFk_skip rfl (by rfl) (fun K hK => ?_)
        try go_simp
        refine hK _ ?_
        clear hK K
        refine wpFk_get rfl (by rfl) (fun K hK => ?_)
        refine ⟨?_, fun w' hS' => ?_, ?_⟩
        rotate_left
        · go_simp
          try (with_reducible rfl)
        try go_simp
        refine hK _ ?_
        clear hK K
        refine wpFk_get rfl (by rfl) (fun K hK => ?_)
        refine ⟨?_, fun w' hS' => ?_, ?_⟩
        rotate_left
        · go_simp
          try (with_reducible rfl)
        try go_simp
        refine hK _ ?_
        clear hK K
        refine wpFk_done ?_
        refine HQ.out _ _ ?_
        clear HQ
        go_wp2
        go_meet
        exact ⟨false, rfl, Lib.hid ⟨fun h => h.elim (fun h => absurd hp1 h.1) (fun h => absurd hq1 h.1), fun h => Bool.noConfusion h⟩, HS⟩
      · have NP : Hid (∀ W, (neqAt (.agg OR) (.agg RT)).run Tryd.prog W = .ok (.bool false) W) := Lib.hid fun W => by rw [NP0.out W, decide_eq_true (hp.out.1 hp1)]; rfl
        have NQ : Hid (∀ W, (neqD (.agg HA) (.agg HO)).run Tryd.prog W = .ok (.bool true) W) := Lib.hid fun W => by rw [NQ0.out W, decide_eq_false (fun h => hq1 (hq.out.2 h))]; rfl
        have fa := hua.out
        have fb := hub.out
        refine wp_region_fk (ScH TR w HA HO v A ps g10 g11 SA SB) (.get 0 (.get 1 (.get 2 (.call 3 (.get 4 (.get 5 (.get 6 (.get 7 (.get 8 (.get 9 (.get 10 (.get 11 (.get 12 (.get 13 (.get 14 (.get 15 (.get 16 (.get 17 (.get 19 (.call 18 (.call 20 (.get 21 (.get 22 (.get 23 .done)))))))))))))))))))))))) (by kernel_rfl) rfl (by kernel_rfl) (by kernel_rfl) (by intro c a d v w h; cases d <;> exact h) (H9.out.next TS (Below.refl _ _).drew) (fun Q' hQ => ?_)
        have HS := Lib.hid (H9.out.next TS (Below.refl _ _).drew)
        have HQ := Lib.hid hQ
        clear hQ
        refine wpFk_get rfl (by rfl) (fun K hK => ?_)
        refine ⟨?_, fun w' hS' => ?_, ?_⟩
        rotate_left
        · go_simp
          try (with_reducible rfl)
        try go_simp
        refine hK _ ?_
        clear hK K
        refine wpFk_get rfl (by rfl) (fun K hK => ?_)
        refine ⟨_, fun w' hS' => get_load rfl rfl (lOR.out _ hS'.sb.sa.ho), ?_⟩
        try go_simp
        refine hK _ ?_
        clear hK K
        refine wpFk_get rfl (by rfl) (fun K hK => ?_)
        refine ⟨?_, fun w' hS' => ?_, ?_⟩
        rotate_left
        · go_simp
          try (with_reducible rfl)
        try go_simp
        refine hK _ ?_
        clear hK K
        refine wpFk_call rfl (by rfl) (fun K hK => ?_)
        go_simp
        go_at_call 27
        (with_reducible refine (XR.out _ _ HS.out.sb.sa.tab HS.out.sb.tree).mono ?_)
        rintro e w1x ⟨rfl, hb⟩
        replace HS := Lib.hid (HS.out.next TS hb)
        clear hb
        refine hK _ _ HS.out ?_
        clear hK K
        refine wpFk_get rfl (by rfl) (fun K hK => ?_)
        refine ⟨_, fun w' hS' => get_neqH rfl rfl rfl (NP.out _), ?_⟩
        try go_simp
        refine hK _ ?_
        clear hK K
        refine wpFk_get rfl (by rfl) (fun K hK => ?_)
        refine ⟨?_, fun w' hS' => ?_, ?_⟩
        rotate_left
        · go_simp
          try (with_reducible rfl)
        try go_simp
        refine hK _ ?_
        clear hK K
        refine wpFk_skip rfl (by rfl) (fun K hK => ?_)
        try go_simp
        refine hK _ ?_
        clear hK K
        refine wpFk_skip rfl (by rfl) (fun K hK => ?_)
        try go_simp
        refine hK _ ?_
        clear hK K
        refine wpFk_skip rfl (by rfl) (fun K hK => ?_)
        try go_simp
        refine hK _ ?_
        clear hK K
        refine wpFk_skip rfl (by rfl) (fun K hK => ?_)
        try go_simp
        refine hK _ ?_
        clear hK K
        refine wpFk_skip rfl (by rfl) (fun K hK => ?_)
        try go_simp
        refine hK _ ?_
        clear hK K
        refine wpFk_get rfl (by rfl) (fun K hK => ?_)
        refine ⟨?_, fun w' hS' => ?_, ?_⟩
        rotate_left
        · go_simp
          try (with_reducible rfl)
        try go_simp
        refine hK _ ?_
        clear hK K
        refine wpFk_get rfl (by rfl) (fun K hK => ?_)
        refine ⟨?_, fun w' hS' => ?_, ?_⟩
        rotate_left
        · go_simp
          try (with_reducible rfl)
        try go_simp
        refine hK _ ?_
        clear hK K
        refine wpFk_get rfl (by rfl) (fun K hK => ?_)
        refine ⟨_, fun w' hS' => get_loadD rfl rfl (lHA.out _ hS'.sb.sa.ha), ?_⟩
        try go_simp
        refine hK _ ?_
        clear hK K
        refine wpFk_get rfl (by rfl) (fun K hK => ?_)
        refine ⟨_, fun w' hS' => get_loadD rfl rfl (lHO.out _ hS'.sb.sa.ho), ?_⟩
        try go_simp
        refine hK _ ?_
        clear hK K
        refine wpFk_get rfl (by rfl) (fun K hK => ?_)
        refine ⟨_, fun w' hS' => get_neqD rfl rfl rfl (NQ.out _), ?_⟩
        try go_simp
        refine hK _ ?_
        clear hK K
        refine wpFk_get rfl (by rfl) (fun K hK => ?_)
        refine ⟨?_, fun w' hS' => ?_, ?_⟩
        rotate_left
        · go_simp
          try (with_reducible rfl)
        try go_simp
        refine hK _ ?_
        clear hK K
        refine wpFk_get rfl (by rfl) (fun K hK => ?_)
        refine ⟨?_, fun w' hS' => ?_, ?_⟩
        rotate_left
        · go_simp
          try (with_reducible rfl)
        try go_simp
        refine hK _ ?_
        clear hK K
        refine wpFk_get rfl (by rfl) (fun K hK => ?_)
        refine ⟨_, fun w' hS' => get_loadG rfl rfl (GB.out _ _ hS'.rb), ?_⟩
        try go_simp
        refine hK _ ?_
        clear hK K
        refine wpFk_call rfl (by rfl) (fun K hK => ?_)
        go_simp
        go_at_call 27
        (with_reducible refine (XR.out _ _ HS.out.sb.sa.tab HS.out.sb.tree).mono ?_)
        rintro e w1x ⟨rfl, hb⟩
        replace HS := Lib.hid (HS.out.next TS hb)
        clear hb
        refine hK _ _ HS.out ?_
        clear hK K
        refine wpFk_call rfl (by rfl) (fun K hK => ?_)
        go_simp
        go_at_call 17
        (with_reducible refine (A2.out _ HS.out.sb.lst).mono ?_)
        rintro e w1x ⟨rfl, hb⟩
        replace HS := Lib.hid (HS.out.next TS hb)
        clear hb
        refine hK _ _ HS.out ?_
        clear hK K
        refine wpFk_get rfl (by rfl) (fun K hK => ?_)
        refine ⟨?_, fun w' hS' => ?_, ?_⟩
        rotate_left
        · go_simp
          try (with_reducible rfl)
        try go_simp
        refine hK _ ?_
        clear hK K
        refine wpFk_get rfl (by rfl) (fun K hK => ?_)
        refine ⟨?_, fun w' hS' => ?_, ?_⟩
        rotate_left
        · go_simp
          try (with_reducible rfl)
        try go_simp
        refine hK _ ?_
        clear hK K
        refine wpFk_get rfl (by rfl) (fun K hK => ?_)
        refine ⟨?_, fun w' hS' => ?_, ?_⟩
        rotate_left
        · go_simp
          try (with_reducible rfl)
        try go_simp
        refine hK _ ?_
        clear hK K
        refine wpFk_done ?_
        refine HQ.out _ _ ?_
        clear HQ
        go_wp2
        go_meet
        exact ⟨ub, rfl, Lib.hid ⟨fun h => h.elim (fun h => absurd hp1 h.1) (fun h => h.2), fun h => .inr ⟨hq1, h⟩⟩, HS⟩
    · rcases ua with _ | _
      · by_cases hq1 : q
        · have NP : Hid (∀ W, (neqAt (.agg OR) (.agg RT)).run Tryd.prog W = .ok (.bool true) W) := Lib.hid fun W => by rw [NP0.out W, decide_eq_false (fun h => hp1 (hp.out.2 h))]; rfl
          have NQ : Hid (∀ W, (neqD (.agg HA) (.agg HO)).run Tryd.prog W = .ok (.bool false) W) := Lib.hid fun W => by rw [NQ0.out W, decide_eq_true (hq.out.1 hq1)]; rfl
          have fa := hua.out
          have fb := hub.out
          refine wp_region_fk (ScH TR w HA HO v A ps g10 g11 SA SB) (.get 0 (.get 1 (.get 2 (.call 3 (.get 4 (.get 5 (.get 6 (.get 7 (.get 8 (.call 9 (.get 10 (.get 11 (.get 12 (.get 13 (.get 14 (.get 15 (.get 16 (.get 17 (.get 18 (.get 19 (.get 20 (.get 21 (.get 22 (.get 23 .done)))))))))))))))))))))))) (by kernel_rfl) rfl (by kernel_rfl) (by kernel_rfl) (by intro c a d v w h; cases d <;> exact h) (H9.out.next TS (Below.refl _ _).drew) (fun Q' hQ => ?_)
          have HS := Lib.hid (H9.out.next TS (Below.refl _ _).drew)
          have HQ := Lib.hid hQ
          clear hQ
          refine wpFk_get rfl (by rfl) (fun K hK => ?_)
          refine ⟨?_, fun w' hS' => ?_, ?_⟩
          rotate_left
          · go_simp
            try (with_reducible rfl)
          try go_simp
          refine hK _ ?_
          clear hK K
          refine wpFk_get rfl (by rfl) (fun K hK => ?_)
          refine ⟨_, fun w' hS' => get_load rfl rfl (lOR.out _ hS'.sb.sa.ho), ?_⟩
          try go_simp
          refine hK _ ?_
          clear hK K
          refine wpFk_get rfl (by rfl) (fun K hK => ?_)
          refine ⟨?_, fun w' hS' => ?_, ?_⟩
          rotate_left
          · go_simp
            try (with_reducible rfl)
          try go_simp
          refine hK _ ?_
          clear hK K
          refine wpFk_call rfl (by rfl) (fun K hK => ?_)
          go_simp
          go_at_call 27
          (with_reducible refine (XR.out _ _ HS.out.sb.sa.tab HS.out.sb.tree).mono ?_)
          rintro e w1x ⟨rfl, hb⟩
          replace HS := Lib.hid (HS.out.next TS hb)
          clear hb
          refine hK _ _ HS.out ?_
          clear hK K
          refine wpFk_get rfl (by rfl) (fun K hK => ?_)
          refine ⟨_, fun w' hS' => get_neqH rfl rfl rfl (NP.out _), ?_⟩
          try go_simp
          refine hK _ ?_
          clear hK K
          refine wpFk_get rfl (by rfl) (fun K hK => ?_)
          refine ⟨?_, fun w' hS' => ?_, ?_⟩
          rotate_left
          · go_simp
            try (with_reducible rfl)
          try go_simp
          refine hK _ ?_
          clear hK K
          refine wpFk_get rfl (by rfl) (fun K hK => ?_)
          refine ⟨?_, fun w' hS' => ?_, ?_⟩
          rotate_left
          · go_simp
            try (with_reducible rfl)
          try go_simp
          refine hK _ ?_
          clear hK K
          refine wpFk_get rfl (by rfl) (fun K hK => ?_)
          refine ⟨_, fun w' hS' => get_load rfl rfl (lOR.out _ hS'.sb.sa.ho), ?_⟩
          try go_simp
          refine hK _ ?_
          clear hK K
          refine wpFk_get rfl (by rfl) (fun K hK => ?_)
          refine ⟨_, fun w' hS' => get_loadG rfl rfl (GA.out _ _ hS'.ra), ?_⟩
          try go_simp
          refine hK _ ?_
          clear hK K
          refine wpFk_call rfl (by rfl) (fun K hK => ?_)
          go_simp
          go_at_call 17
          (with_reducible refine (A1.out _ HS.out.sb.lst).mono ?_)
          rintro e w1x ⟨rfl, hb⟩
          replace HS := Lib.hid (HS.out.next TS hb)
          clear hb
          refine hK _ _ HS.out ?_
          clear hK K
          refine wpFk_get rfl (by rfl) (fun K hK => ?_)
          refine ⟨?_, fun w' hS' => ?_, ?_⟩
          rotate_left
          · go_simp
            try (with_reducible rfl)
          try go_simp
          refine hK _ ?_
          clear hK K
          refine wpFk_get rfl (by rfl) (fun K hK => ?_)
          refine ⟨?_, fun w' hS' => ?_, ?_⟩
          rotate_left
          · go_simp
            try (with_reducible rfl)
          try go_simp
          refine hK _ ?_
          clear hK K
          refine wpFk_get rfl (by rfl) (fun K hK => ?_)
          refine ⟨?_, fun w' hS' => ?_, ?_⟩
          rotate_left
          · go_simp
            try (with_reducible rfl)
          try go_simp
          refine hK _ ?_
          clear hK K
          refine wpFk_get rfl (by rfl) (fun K hK => ?_)
          refine ⟨_, fun w' hS' => get_loadD rfl rfl (lHA.out _ hS'.sb.sa.ha), ?_⟩
          try go_simp
          refine hK _ ?_
          clear hK K
          refine wpFk_get rfl (by rfl) (fun K hK => ?_)
          refine ⟨_, fun w' hS' => get_loadD rfl rfl (lHO.out _ hS'.sb.sa.ho), ?_⟩
          try go_simp
          refine hK _ ?_
          clear hK K
          refine wpFk_get rfl (by rfl) (fun K hK => ?_)
          refine ⟨_, fun w' hS' => get_neqD rfl rfl rfl (NQ.out _), ?_⟩
          try go_simp
          refine hK _ ?_
          clear hK K
          refine wpFk_get rfl (by rfl) (fun K hK => ?_)
          refine ⟨?_, fun w' hS' => ?_, ?_⟩
          rotate_left
          · go_simp
            try (with_reducible rfl)
          try go_simp
          refine hK _ ?_
          clear hK K
          refine wpFk_skip rfl (by rfl) (fun K hK => ?_)
          try go_simp
          refine hK _ ?_
          clear hK K
          refine wpFk_skip rfl (by rfl) (fun K hK => ?_)
          try go_simp
          refine hK _ ?_
          clear hK K
          refine wpFk_skip rfl (by rfl) (fun K hK => ?_)
          try go_simp
          refine hK _ ?_
          clear hK K
          refine wpFk_skip rfl (by rfl) (fun K hK => ?_)
          try go_simp
          refine hK _ ?_
          clear hK K
          refine wpFk_skip rfl (by rfl) (fun K hK => ?_)
          try go_simp
          refine hK _ ?_
          clear hK K
          refine wpFk_get rfl (by rfl) (fun K hK => ?_)
          refine ⟨?_, fun w' hS' => ?_, ?_⟩
          rotate_left
          · go_simp
            try (with_reducible rfl)
          try go_simp
          refine hK _ ?_
          clear hK K
          refine wpFk_get rfl (by rfl) (fun K hK => ?_)
          refine ⟨?_, fun w' hS' => ?_, ?_⟩
          rotate_left
          · go_simp
            try (with_reducible rfl)
          try go_simp
          refine hK _ ?_
          clear hK K
          refine wpFk_done ?_
          refine HQ.out _ _ ?_
          clear HQ
          go_wp2
          go_meet
          exact ⟨false, rfl, Lib.hid ⟨fun h => h.elim (fun h => Bool.noConfusion h.2) (fun h => absurd hq1 h.1), fun h => Bool.noConfusion h⟩, HS⟩
        · have NP : Hid (∀ W, (neqAt (.agg OR) (.agg RT)).run Tryd.prog W = .ok (.bool true) W) := Lib.hid fun W => by rw [NP0.out W, decide_eq_false (fun h => hp1 (hp.out.2 h))]; rfl
          have NQ : Hid (∀ W, (neqD (.agg HA) (.agg HO)).run Tryd.prog W = .ok (.bool true) W) := Lib.hid fun W => by rw [NQ0.out W, decide_eq_false (fun h => hq1 (hq.out.2 h))]; rfl
          have fa := hua.out
          have fb := hub.out
          refine wp_region_fk (ScH TR w HA HO v A ps g10 g11 SA SB) (.get 0 (.get 1 (.get 2 (.call 3 (.get 4 (.get 5 (.get 6 (.get 7 (.get 8 (.call 9 (.get 10 (.get 11 (.get 12 (.get 13 (.get 14 (.get 15 (.get 16 (.get 17 (.get 19 (.call 18 (.call 20 (.get 21 (.get 22 (.get 23 .done)))))))))))))))))))))))) (by kernel_rfl) rfl (by kernel_rfl) (by kernel_rfl) (by intro c a d v w h; cases d <;> exact h) (H9.out.next TS (Below.refl _ _).drew) (fun Q' hQ => ?_)
          have HS := Lib.hid (H9.out.next TS (Below.refl _ _).drew)
          have HQ := Lib.hid hQ
          clear hQ
          refine wpFk_get rfl (by rfl) (fun K hK => ?_)
          refine ⟨?_, fun w' hS' => ?_, ?_⟩
          rotate_left
          · go_simp
            try (with_reducible rfl)
          try go_simp
          refine hK _ ?_
          clear hK K
          refine wpFk_get rfl (by rfl) (fun K hK => ?_)
          refine ⟨_, fun w' hS' => get_load rfl rfl (lOR.out _ hS'.sb.sa.ho), ?_⟩
          try go_simp
          refine hK _ ?_
          clear hK K
          refine wpFk_get rfl (by rfl) (fun K hK => ?_)
          refine ⟨?_, fun w' hS' => ?_, ?_⟩
          rotate_left
          · go_simp
            try (with_reducible rfl)
          try go_simp
          refine hK _ ?_
          clear hK K
          refine wpFk_call rfl (by rfl) (fun K hK => ?_)
          go_simp
          go_at_call 27
          (with_reducible refine (XR.out _ _ HS.out.sb.sa.tab HS.out.sb.tree).mono ?_)
          rintro e w1x ⟨rfl, hb⟩
          replace HS := Lib.hid (HS.out.next TS hb)
          clear hb
          refine hK _ _ HS.out ?_
          clear hK K
          refine wpFk_get rfl (by rfl) (fun K hK => ?_)
          refine ⟨_, fun w' hS' => get_neqH rfl rfl rfl (NP.out _), ?_⟩
          try go_simp
          refine hK _ ?_
          clear hK K
          refine wpFk_get rfl (by rfl) (fun K hK => ?_)
          refine ⟨?_, fun w' hS' => ?_, ?_⟩
          rotate_left
          · go_simp
            try (with_reducible rfl)
          try go_simp
          refine hK _ ?_
          clear hK K
          refine wpFk_get rfl (by rfl) (fun K hK => ?_)
          refine ⟨?_, fun w' hS' => ?_, ?_⟩
          rotate_left
          · go_simp
            try (with_reducible rfl)
          try go_simp
          refine hK _ ?_
          clear hK K
          refine wpFk_get rfl (by rfl) (fun K hK => ?_)
          refine ⟨_, fun w' hS' => get_load rfl rfl (lOR.out _ hS'.sb.sa.ho), ?_⟩
          try go_simp
          refine hK _ ?_
          clear hK K
          refine wpFk_get rfl (by rfl) (fun K hK => ?_)
          refine ⟨_, fun w' hS' => get_loadG rfl rfl (GA.out _ _ hS'.ra), ?_⟩
          try go_simp
          refine hK _ ?_
          clear hK K
          refine wpFk_call rfl (by rfl) (fun K hK => ?_)
          go_simp
          go_at_call 17
          (with_reducible refine (A1.out _ HS.out.sb.lst).mono ?_)
          rintro e w1x ⟨rfl, hb⟩
          replace HS := Lib.hid (HS.out.next TS hb)
          clear hb
          refine hK _ _ HS.out ?_
          clear hK K
          refine wpFk_get rfl (by rfl) (fun K hK => ?_)
          refine ⟨?_, fun w' hS' => ?_, ?_⟩
          rotate_left
          · go_simp
            try (with_reducible rfl)
          try go_simp
          refine hK _ ?_
          clear hK K
          refine wpFk_get rfl (by rfl) (fun K hK => ?_)
          refine ⟨?_, fun w' hS' => ?_, ?_⟩
          rotate_left
          · go_simp
            try (with_reducible rfl)
          try go_simp
          refine hK _ ?_
          clear hK K
          refine wpFk_get rfl (by rfl) (fun K hK => ?_)
          refine ⟨?_, fun w' hS' => ?_, ?_⟩
          rotate_left
          · go_simp
            try (with_reducible rfl)
          try go_simp
          refine hK _ ?_
          clear hK K
          refine wpFk_get rfl (by rfl) (fun K hK => ?_)
          refine ⟨_, fun w' hS' => get_loadD rfl rfl (lHA.out _ hS'.sb.sa.ha), ?_⟩
          try go_simp
          refine hK _ ?_
          clear hK K
          refine wpFk_get rfl (by rfl) (fun K hK => ?_)
          refine ⟨_, fun w' hS' => get_loadD rfl rfl (lHO.out _ hS'.sb.sa.ho), ?_⟩
          try go_simp
          refine hK _ ?_
          clear hK K
          refine wpFk_get rfl (by rfl) (fun K hK => ?_)
          refine ⟨_, fun w' hS' => get_neqD rfl rfl rfl (NQ.out _), ?_⟩
          try go_simp
          refine hK _ ?_
          clear hK K
          refine wpFk_get rfl (by rfl) (fun K hK => ?_)
          refine ⟨?_, fun w' hS' => ?_, ?_⟩
          rotate_left
          · go_simp
            try (with_reducible rfl)
          try go_simp
          refine hK _ ?_
          clear hK K
          refine wpFk_get rfl (by rfl) (fun K hK => ?_)
          refine ⟨?_, fun w' hS' => ?_, ?_⟩
          rotate_left
          · go_simp
            try (with_reducible rfl)
          try go_simp
          refine hK _ ?_
          clear hK K
          refine wpFk_get rfl (by rfl) (fun K hK => ?_)
          refine ⟨_, fun w' hS' => get_loadG rfl rfl (GB.out _ _ hS'.rb), ?_⟩
          try go_simp
          refine hK _ ?_
          clear hK K
          refine wpFk_call rfl (by rfl) (fun K hK => ?_)
          go_simp
          go_at_call 27
          (with_reducible refine (XR.out _ _ HS.out.sb.sa.tab HS.out.sb.tree).mono ?_)
          rintro e w1x ⟨rfl, hb⟩
          replace HS := Lib.hid (HS.out.next TS hb)
          clear hb
          refine hK _ _ HS.out ?_
          clear hK K
          refine wpFk_call rfl (by rfl) (fun K hK => ?_)
          go_simp
          go_at_call 17
          (with_reducible refine (A2.out _ HS.out.sb.lst).mono ?_)
          rintro e w1x ⟨rfl, hb⟩
          replace HS := Lib.hid (HS.out.next TS hb)
          clear hb
          refine hK _ _ HS.out ?_
          clear hK K
          refine wpFk_get rfl (by rfl) (fun K hK => ?_)
          refine ⟨?_, fun w' hS' => ?_, ?_⟩
          rotate_left
          · go_simp
            try (with_reducible rfl)
          try go_simp
          refine hK _ ?_
          clear hK K
          refine wpFk_get rfl (by rfl) (fun K hK => ?_)
          refine ⟨?_, fun w' hS' => ?_, ?_⟩
          rotate_left
          · go_simp
            try (with_reducible rfl)
          try go_simp
          refine hK _ ?_
          clear hK K
          refine wpFk_get rfl (by rfl) (fun K hK => ?_)
          refine ⟨?_, fun w' hS' => ?_, ?_⟩
          rotate_left
          · go_simp
            try (with_reducible rfl)
          try go_simp
          refine hK _ ?_
          clear hK K
          refine wpFk_done ?_
          refine HQ.out _ _ ?_
          clear HQ
          go_wp2
          go_meet
          exact ⟨ub, rfl, Lib.hid ⟨fun h => h.elim (fun h => Bool.noConfusion h.2) (fun h => h.2), fun h => .inr ⟨hq1, h⟩⟩, HS⟩
      · have NP : Hid (∀ W, (neqAt (.agg OR) (.agg RT)).run Tryd.prog W = .ok (.bool true) W) := Lib.hid fun W => by rw [NP0.out W, decide_eq_false (fun h => hp1 (hp.out.2 h))]; rfl
        have fa := hua.out
        have fb := hub.out
        refine wp_region_fk (ScH TR w HA HO v A ps g10 g11 SA SB) (.get 0 (.get 1 (.get 2 (.call 3 (.get 4 (.get 5 (.get 6 (.get 7 (.get 8 (.call 9 (.get 10 (.get 11 (.get 12 (.get 13 (.get 14 (.get 15 (.get 16 (.get 17 (.get 18 (.get 19 (.get 20 (.get 21 (.get 22 (.get 23 .done)))))))))))))))))))))))) (by kernel_rfl) rfl (by kernel_rfl) (by kernel_rfl) (by intro c a d v w h; cases d <;> exact h) (H9.out.next TS (Below.refl _ _).drew) (fun Q' hQ => ?_)
        have HS := Lib.hid (H9.out.next TS (Below.refl _ _).drew)
        have HQ := Lib.hid hQ
        clear hQ
        refine wpFk_get rfl (by rfl) (fun K hK => ?_)
        refine ⟨?_, fun w' hS' => ?_, ?_⟩
        rotate_left
        · go_simp
          try (with_reducible rfl)
        try go_simp
        refine hK _ ?_
        clear hK K
        refine wpFk_get rfl (by rfl) (fun K hK => ?_)
        refine ⟨_, fun w' hS' => get_load rfl rfl (lOR.out _ hS'.sb.sa.ho), ?_⟩
        try go_simp
        refine hK _ ?_
        clear hK K
        refine wpFk_get rfl (by rfl) (fun K hK => ?_)
        refine ⟨?_, fun w' hS' => ?_, ?_⟩
        rotate_left
        · go_simp
          try (with_reducible rfl)
        try go_simp
        refine hK _ ?_
        clear hK K
        refine wpFk_call rfl (by rfl) (fun K hK => ?_)
        go_simp
        go_at_call 27
        (with_reducible refine (XR.out _ _ HS.out.sb.sa.tab HS.out.sb.tree).mono ?_)
        rintro e w1x ⟨rfl, hb⟩
        replace HS := Lib.hid (HS.out.next TS hb)
        clear hb
        refine hK _ _ HS.out ?_
        clear hK K
        refine wpFk_get rfl (by rfl) (fun K hK => ?_)
        refine ⟨_, fun w' hS' => get_neqH rfl rfl rfl (NP.out _), ?_⟩
        try go_simp
        refine hK _ ?_
        clear hK K
        refine wpFk_get rfl (by rfl) (fun K hK => ?_)
        refine ⟨?_, fun w' hS' => ?_, ?_⟩
        rotate_left
        · go_simp
          try (with_reducible rfl)
        try go_simp
        refine hK _ ?_
        clear hK K
        refine wpFk_get rfl (by rfl) (fun K hK => ?_)
        refine ⟨?_, fun w' hS' => ?_, ?_⟩
        rotate_left
        · go_simp
          try (with_reducible rfl)
        try go_simp
        refine hK _ ?_
        clear hK K
        refine wpFk_get rfl (by rfl) (fun K hK => ?_)
        refine ⟨_, fun w' hS' => get_load rfl rfl (lOR.out _ hS'.sb.sa.ho), ?_⟩
        try go_simp
        refine hK _ ?_
        clear hK K
        refine wpFk_get rfl (by rfl) (fun K hK => ?_)
        refine ⟨_, fun w' hS' => get_loadG rfl rfl (GA.out _ _ hS'.ra), ?_⟩
        try go_simp
        refine hK _ ?_
        clear hK K
        refine wpFk_call rfl (by rfl) (fun K hK => ?_)
        go_simp
        go_at_call 17
        (with_reducible refine (A1.out _ HS.out.sb.lst).mono ?_)
        rintro e w1x ⟨rfl, hb⟩
        replace HS := Lib.hid (HS.out.next TS hb)
        clear hb
        refine hK _ _ HS.out ?_
        clear hK K
        refine wpFk_get rfl (by rfl) (fun K hK => ?_)
        refine ⟨?_, fun w' hS' => ?_, ?_⟩
        rotate_left
        · go_simp
          try (with_reducible rfl)
        try go_simp
        refine hK _ ?_
        clear hK K
        refine wpFk_get rfl (by rfl) (fun K hK => ?_)
        refine ⟨?_, fun w' hS' => ?_, ?_⟩
        rotate_left
        · go_simp
          try (with_reducible rfl)
        try go_simp
        refine hK _ ?_
        clear hK K
        refine wpFk_get rfl (by rfl) (fun K hK => ?_)
        refine ⟨?_, fun w' hS' => ?_, ?_⟩
        rotate_left
        · go_simp
          try (with_reducible rfl)
        try go_simp
        refine hK _ ?_
        clear hK K
        refine wpFk_skip rfl (by rfl) (fun K hK => ?_)
        try go_simp
        refine hK _ ?_
        clear hK K
        refine wpFk_skip rfl (by rfl) (fun K hK => ?_)
        try go_simp
        refine hK _ ?_
        clear hK K
        refine wpFk_skip rfl (by rfl) (fun K hK => ?_)
        try go_simp
        refine hK _ ?_
        clear hK K
        refine wpFk_skip rfl (by rfl) (fun K hK => ?_)
        try go_simp
        refine hK _ ?_
        clear hK K
        refine wpFk_skip rfl (by rfl) (fun K hK => ?_)
        try go_simp
        refine hK _ ?_
        clear hK K
        refine wpFk_skip rfl (by rfl) (fun K hK => ?_)
        try go_simp
        refine hK _ ?_
        clear hK K
        refine wpFk_skip rfl (by rfl) (fun K hK => ?_)
        try go_simp
        refine hK _ ?_
        clear hK K
        refine wpFk_skip rfl (by rfl) (fun K hK => ?_)
        try go_simp
        refine hK _ ?_
        clear hK K
        refine wpFk_skip rfl (by rfl) (fun K hK => ?_)
        try go_simp
        refine hK _ ?_
        clear hK K
        refine wpFk_skip rfl (by rfl) (fun K hK => ?_)
        try go_simp
        refine hK _ ?_
        clear hK K
        refine wpFk_get rfl (by rfl) (fun K hK => ?_)
        refine ⟨?_, fun w' hS' => ?_, ?_⟩
        rotate_left
        · go_simp
          try (with_reducible rfl)
        try go_simp
        refine hK _ ?_
        clear hK K
        refine wpFk_done ?_
        refine HQ.out _ _ ?_
        clear HQ
        go_wp2
        go_meet
        exact ⟨true, rfl, Lib.hid (iff_of_true (.inl ⟨hp1, by first | rfl | trivial⟩) (by first | rfl | trivial)), HS⟩
  case rest =>
  obtain ⟨cv, rfl, hcv, H9⟩ := hcut
  rcases cv with _ | _
  · have hn : ¬ ((¬ p ∧ ua = true) ∨ (¬ q ∧ ub = true)) := fun h => Bool.noConfusion (hcv.out.1 h)
    have hpu : Hid (decide (orr = rt) = ua) := Lib.hid (by
      by_cases h : p
      · rw [decide_eq_true (hp.out.1 h)]; exact (hua2.out.2 (hpa.out h)).symm
      · rw [decide_eq_false (fun e => h (hp.out.2 e))]
        rcases ua with _ | _
        · rfl
        · exact absurd (.inl ⟨h, rfl⟩) hn)
    have hqu : Hid (decide (a = b ∧ hr = orr) = ub) := Lib.hid (by
      by_cases h : q
      · rw [decide_eq_true (hq.out.1 h)]; exact (hub2.out.2 (hqb.out h)).symm
      · rw [decide_eq_false (fun e => h (hq.out.2 e))]
        rcases ub with _ | _
        · rfl
        · exact absurd (.inr ⟨h, rfl⟩) hn)
    have hou : Hid ((ov == 1) = ub) := Lib.hid (by
      rw [← hqu.out]
      by_cases h : q
      · rw [decide_eq_true (hq.out.1 h), hqo.out.2 h]; rfl
      · rw [decide_eq_false (fun e => h (hq.out.2 e))]
        simp only [beq_eq_false_iff_ne]
        exact fun e => h (hqo.out.1 e))
    have EP2 : Hid (∀ W, (eqAt (.agg OR) (.agg RT)).run Tryd.prog W = .ok (.bool ua) W) := Lib.hid fun W => by rw [EP.out W, hpu.out]
    have EQ2 : ∀ W, (eqD (.agg HA) (.agg HO)).run Tryd.prog W = .ok (.bool ub) W := fun W => by rw [EQ.out W, hqu.out]
    have fa := hua.out
    have fb := hub.out
    have fo := hou.out
    have t1 : (ua != ua) = false := bne_self_eq_false _
    have t2 : (ub == ub) = true := beq_self_eq_true _
    clear hn hpu hqu hou EP EQ NP0 NQ0 hcv hp hq hpa hqb hqo hua hub hua2 hub2 A1 A2
    go_step
    go_upto_region 11 with fail
    refine wp_region_fk (ScH TR w HA HO v A ps g10 g11 SA SB) (.get 0 (.call 1 (.get 2 (.get 3 (.get 4 (.get 6 (.call 5 (.call 7 (.get 8 (.get 9 (.get 10 (.get 11 (.get 12 (.get 13 (.get 16 (.get 17 (.get 18 (.call 14 (.get 15 (.call 19 (.get 20 (.get 21 (.get 22 .done))))))))))))))))))))))) (by kernel_rfl) rfl (by kernel_rfl) (by kernel_rfl) (by intro c a d v w h; cases d <;> exact h) (H9.out.next TS (Below.refl _ _).drew) (fun Q' hQ => ?_)
    have HS := Lib.hid (H9.out.next TS (Below.refl _ _).drew)
    have HQ := Lib.hid hQ
    clear hQ
    refine wpFk_get rfl (by rfl) (fun K hK => ?_)
    refine ⟨_, fun w' hS' => get_loadG rfl rfl (GA.out _ _ hS'.ra), ?_⟩
    try go_simp
    refine hK _ ?_
    clear hK K
    refine wpFk_call rfl (by rfl) (fun K hK => ?_)
    go_simp
    go_at_call 14
    (with_reducible refine (VV.out _ HS.out.sb.sa.tab HS.out.sb.lst).mono ?_)
    rintro e w1x ⟨rfl, hb⟩
    replace HS := Lib.hid (HS.out.next TS hb)
    clear hb
    refine hK _ _ HS.out ?_
    clear hK K
    refine wpFk_get rfl (by rfl) (fun K hK => ?_)
    refine ⟨?_, fun w' hS' => ?_, ?_⟩
    rotate_left
    · go_simp
      try (with_reducible rfl)
    try go_simp
    refine hK _ ?_
    clear hK K
    refine wpFk_get rfl (by rfl) (fun K hK => ?_)
    refine ⟨?_, fun w' hS' => ?_, ?_⟩
    rotate_left
    · go_simp
      try (with_reducible rfl)
    try go_simp
    refine hK _ ?_
    clear hK K
    refine wpFk_get rfl (by rfl) (fun K hK => ?_)
    refine ⟨?_, fun w' hS' => ?_, ?_⟩
    rotate_left
    · go_simp
      try (with_reducible rfl)
    try go_simp
    refine hK _ ?_
    clear hK K
    refine wpFk_get rfl (by rfl) (fun K hK => ?_)
    refine ⟨_, fun w' hS' => get_loadG rfl rfl (GA.out _ _ hS'.ra), ?_⟩
    try go_simp
    refine hK _ ?_
    clear hK K
    refine wpFk_call rfl (by rfl) (fun K hK => ?_)
    go_simp
    go_at_call 27
    (with_reducible refine (XR.out _ _ HS.out.sb.sa.tab HS.out.sb.tree).mono ?_)
    rintro e w1x ⟨rfl, hb⟩
    replace HS := Lib.hid (HS.out.next TS hb)
    clear hb
    refine hK _ _ HS.out ?_
    clear hK K
    refine wpFk_call rfl (by rfl) (fun K hK => ?_)
    go_simp
    go_at_call 16
    (with_reducible refine (B0.out _ HS.out.sb.sa.tab HS.out.sb.lst).mono ?_)
    rintro e w1x ⟨rfl, hb⟩
    replace HS := Lib.hid (HS.out.next TS hb)
    clear hb
    refine hK _ _ HS.out ?_
    clear hK K
    refine wpFk_get rfl (by rfl) (fun K hK => ?_)
    refine ⟨?_, fun w' hS' => ?_, ?_⟩
    rotate_left
    · go_simp
      try (with_reducible rfl)
    try go_simp
    refine hK _ ?_
    clear hK K
    refine wpFk_get rfl (by rfl) (fun K hK => ?_)
    refine ⟨?_, fun w' hS' => ?_, ?_⟩
    rotate_left
    · go_simp
      try (with_reducible rfl)
    try go_simp
    refine hK _ ?_
    clear hK K
    refine wpFk_get rfl (by rfl) (fun K hK => ?_)
    refine ⟨?_, fun w' hS' => ?_, ?_⟩
    rotate_left
    · go_simp
      try (with_reducible rfl)
    try go_simp
    refine hK _ ?_
    clear hK K
    refine wpFk_get rfl (by rfl) (fun K hK => ?_)
    refine ⟨?_, fun w' hS' => ?_, ?_⟩
    rotate_left
    · go_simp
      try (with_reducible rfl)
    try go_simp
    refine hK _ ?_
    clear hK K
    refine wpFk_get rfl (by rfl) (fun K hK => ?_)
    refine ⟨_, fun w' hS' => get_load rfl rfl (lOR.out _ hS'.sb.sa.ho), ?_⟩
    try go_simp
    refine hK _ ?_
    clear hK K
    refine wpFk_get rfl (by rfl) (fun K hK => ?_)
    refine ⟨_, fun w' hS' => get_loadG rfl rfl (GA.out _ _ hS'.ra), ?_⟩
    try go_simp
    refine hK _ ?_
    clear hK K
    refine wpFk_get rfl (by rfl) (fun K hK => ?_)
    refine ⟨?_, fun w' hS' => ?_, ?_⟩
    rotate_left
    · go_simp
      try (with_reducible rfl)
    try go_simp
    refine hK _ ?_
    clear hK K
    refine wpFk_get rfl (by rfl) (fun K hK => ?_)
    refine ⟨_, fun w' hS' => get_load rfl rfl (lOR.out _ hS'.sb.sa.ho), ?_⟩
    try go_simp
    refine hK _ ?_
    clear hK K
    refine wpFk_get rfl (by rfl) (fun K hK => ?_)
    refine ⟨?_, fun w' hS' => ?_, ?_⟩
    rotate_left
    · go_simp
      try (with_reducible rfl)
    try go_simp
    refine hK _ ?_
    clear hK K
    refine wpFk_call rfl (by rfl) (fun K hK => ?_)
    go_simp
    go_at_call 16
    (with_reducible refine (B1.out _ HS.out.sb.sa.tab HS.out.sb.lst).mono ?_)
    rintro e w1x ⟨rfl, hb⟩
    replace HS := Lib.hid (HS.out.next TS hb)
    clear hb
    refine hK _ _ HS.out ?_
    clear hK K
    refine wpFk_get rfl (by rfl) (fun K hK => ?_)
    refine ⟨?_, fun w' hS' => ?_, ?_⟩
    rotate_left
    · go_simp
      try (with_reducible rfl)
    try go_simp
    refine hK _ ?_
    clear hK K
    refine wpFk_call rfl (by rfl) (fun K hK => ?_)
    go_simp
    go_at_call 27
    (with_reducible refine (XR.out _ _ HS.out.sb.sa.tab HS.out.sb.tree).mono ?_)
    rintro e w1x ⟨rfl, hb⟩
    replace HS := Lib.hid (HS.out.next TS hb)
    clear hb
    refine hK _ _ HS.out ?_
    clear hK K
    refine wpFk_get rfl (by rfl) (fun K hK => ?_)
    refine ⟨_, fun w' hS' => get_eqH rfl rfl rfl (EP2.out _), ?_⟩
    try go_simp
    refine hK _ ?_
    clear hK K
    refine wpFk_get rfl (by rfl) (fun K hK => ?_)
    refine ⟨?_, fun w' hS' => ?_, ?_⟩
    rotate_left
    · go_simp
      try (with_reducible rfl)
    try go_simp
    refine hK _ ?_
    clear hK K
    refine wpFk_get rfl (by rfl) (fun K hK => ?_)
    refine ⟨?_, fun w' hS' => ?_, ?_⟩
    rotate_left
    · go_simp
      try (with_reducible rfl)
    try go_simp
    refine hK _ ?_
    clear hK K
    refine wpFk_done ?_
    refine HQ.out _ _ ?_
    clear HQ
    go_upto_region 13 with fail
    have H13 := HS
    clear HS
    refine wp_region_fk (ScH TR w HA HO v A ps g10 g11 SA SB) (.get 0 (.get 2 (.call 1 (.call 3 (.get 4 (.get 5 .done)))))) (by kernel_rfl) rfl (by kernel_rfl) (by kernel_rfl) (by intro c a d v w h; cases d <;> exact h) (H13.out.next TS (Below.refl _ _).drew) (fun Q' hQ => ?_)
    have HS := Lib.hid (H13.out.next TS (Below.refl _ _).drew)
    have HQ := Lib.hid hQ
    clear hQ
    refine wpFk_get rfl (by rfl) (fun K hK => ?_)
    refine ⟨?_, fun w' hS' => ?_, ?_⟩
    rotate_left
    · go_simp
      try (with_reducible rfl)
    try go_simp
    refine hK _ ?_
    clear hK K
    refine wpFk_get rfl (by rfl) (fun K hK => ?_)
    refine ⟨_, fun w' hS' => get_loadG rfl rfl (GB.out _ _ hS'.rb), ?_⟩
    try go_simp
    refine hK _ ?_
    clear hK K
    refine wpFk_call rfl (by rfl) (fun K hK => ?_)
    go_simp
    go_at_call 27
    (with_reducible refine (XR.out _ _ HS.out.sb.sa.tab HS.out.sb.tree).mono ?_)
    rintro e w1x ⟨rfl, hb⟩
    replace HS := Lib.hid (HS.out.next TS hb)
    clear hb
    refine hK _ _ HS.out ?_
    clear hK K
    refine wpFk_call rfl (by rfl) (fun K hK => ?_)
    go_simp
    go_at_call 16
    (with_reducible refine (B2.out _ HS.out.sb.sa.tab HS.out.sb.lst).mono ?_)
    rintro e w1x ⟨rfl, hb⟩
    replace HS := Lib.hid (HS.out.next TS hb)
    clear hb
    refine hK _ _ HS.out ?_
    clear hK K
    refine wpFk_get rfl (by rfl) (fun K hK => ?_)
    refine ⟨?_, fun w' hS' => ?_, ?_⟩
    rotate_left
    · go_simp
      try (with_reducible rfl)
    try go_simp
    refine hK _ ?_
    clear hK K
    refine wpFk_get rfl (by rfl) (fun K hK => ?_)
    refine ⟨?_, fun w' hS' => ?_, ?_⟩
    rotate_left
    · go_simp
      try (with_reducible rfl)
    try go_simp
    refine hK _ ?_
    clear hK K
    refine wpFk_done ?_
    refine HQ.out _ _ ?_
    clear HQ
    go_upto_region 14 with fail
    have l1 := lHA.out _ HS.out.sb.sa.ha
    have l2 := lHO.out _ HS.out.sb.sa.ho
    go_wp2_with (first
      | (go_at_call 18; (with_reducible refine (OO.out _ HS.out.sb.sa.tab).mono ?_); rintro e w1x ⟨rfl, hb⟩; replace HS := Lib.hid (HS.out.next TS hb); clear hb l1 l2)
      | (go_at_call 8; (with_reducible refine (KED.out _ HS.out.sb.sa.tab).mono ?_); rintro e w1x ⟨rfl, hb⟩; replace HS := Lib.hid (HS.out.next TS hb); clear hb))
    go_ret
    exact ⟨rfl, HS.out.sb.sa.below⟩
  · clear EP EQ NP0 NQ0 hcv hp hq hpa hqb hqo hua hub hua2 hub2 A1 A2
    go_step
    go_wp2_with (go_at_call 8; (with_reducible refine (KED.out _ H9.out.sb.sa.tab).mono ?_); rintro e wz ⟨rfl, hb⟩; have HB := Lib.hid (below_new H9.out.sb.sa.below hb); clear hb)
    go_ret
    exact ⟨rfl, HB.out⟩
end Go.Proofs.YtpndccoikhejgaaDoor
namespace Go.Proofs.YtpndccoikhejgaaDoor.signed
open Go.ChangeShapes Go.WideShapes Go.ChangeAt Go.RowKit
open Go.ChangeMaps (open_string)
set_option linter.unusedVariables false

set_option maxRecDepth 100000 in
theorem lifted (os : Os) (started : os.Started) (H : Type) (enc : TypeId × Value → H) :
    ReturnsInHanded {} Tryd.checked os 6 .any (fun w args => (Rows.headsSignedSpec.pre enc Tryd.prog Tryd.f6 [] false w args ∧ laidMetH Tryd.prog laid2 w) ∧ sizedMet enc Tryd.prog Tryd.f6 (OpenSpec.ofChange Rows.headsSignedSpec) false w args)
      (Rows.headsSignedSpec.post enc Tryd.prog Tryd.f6 false true false false) := by
  refine returnsInHanded_of_change_and (C := Tryd.checked) (X := fun w _ => laidMetH Tryd.prog laid2 w) (fun _ _ _ hh h => h.of_heap hh) own started (by kernel_rfl) Tryd.func6
    (ChangeSpec.witness_shaped (enc := enc) (C := Tryd.checked) (os := os) (X := fun w _ => laidMetH Tryd.prog laid2 w) false (World.doorLaid Tryd.prog 400 os) #[.agg (headV 0 zero32), .int .u8 0, .agg (headV 0 zero32)] 8 rfl (World.shaped_of_RefB (by kernel_rfl) (by kernel_rfl)) (by kernel_rfl) (by kernel_rfl) (by kernel_rfl) (door_met os _)) ?_
  intro W base args ds gs before hval0 hW _ _ hL _
  have hval : ∀ (j : Nat) t v, Tryd.f6.params[j]? = some t → args[j]? = some v → Value.okWide Tryd.prog W .any base t v := hval0
  have hW' := hW
  obtain ⟨p, q, hA0, hV, rfl, hfz, hnd⟩ := hW
  have hA : DataW.TrodAll enc Tryd.prog W 0 (fun _ => true) true Tryd.f6.params.toList args.toList ds p := hA0
  rw [Tryd.params6] at hA hval
  obtain ⟨v0, vs0, d0, ds0, p0, q0, hargs, rfl, rfl, h0, r0⟩ := trodAll_cons hA
  obtain ⟨v1, vs1, d1, ds1, p1, q1, rfl, rfl, rfl, h1, r1⟩ := trodAll_cons r0
  obtain ⟨v2, vs2, d2, ds2, p2, q2, rfl, rfl, rfl, h2, r2⟩ := trodAll_cons r1
  obtain ⟨rfl, rfl, rfl⟩ := trodAll_nil r2
  obtain rfl : args = #[v0, v1, v2] := by cases args; simp_all
  obtain ⟨rfl, rfl⟩ := trodVars_none hV
  have k0 := h0
  have lt0 : ∀ x ∈ p0, x.block < W.heap.size := by obtain ⟨m, hm⟩ := k0; exact DataW.trod_lt m _ _ _ hm
  have k2 := h2
  have lt2 : ∀ x ∈ p2, x.block < W.heap.size := by obtain ⟨m, hm⟩ := k2; exact DataW.trod_lt m _ _ _ hm
  obtain ⟨z0, r0_, rfl, hz0, hr0, hb0⟩ := open_head (hval 0 25 v0 rfl rfl) h0
  obtain ⟨n1, rfl, rfl, rfl, w1⟩ := open_int Tryd.underlying5 (hval 1 5 v1 rfl rfl) h1
  have b1 := bounds_u8 w1
  obtain ⟨z2, r2_, rfl, hz2, hr2, hb2⟩ := open_head (hval 2 25 v2 rfl rfl) h2
  clear hA0 hval0
  refine (headssigned_any head_says treeR tree_says z0 hz0 r0_ ⟨hr0, hb0⟩ n1 (by omega) z2 hz2 r2_ ⟨hr2, hb2⟩ W (of_laid hL)).mono fun e W' ⟨he, bel⟩ => ?_
  subst he
  exact ⟨_, rfl, _, _, _, [], _, [], hW', trodAll_mk1 (shut_bool Tryd.underlying4 _), (trodAll_cons_mk (Below.trod laidOut (by kernel_rfl) (of_decide_eq_true (by kernel_rfl)) k0 bel lt0) (trodAll_cons_mk (shut_int Tryd.underlying5 w1) (trodAll_cons_mk (Below.trod laidOut (by kernel_rfl) (of_decide_eq_true (by kernel_rfl)) k2 bel lt2) trodAll_mk0))), rfl, bel.frame _, fun h => by cases h⟩

theorem over : Rows.HeadsSignedSaid :=
  OpenClaim.holds_of_wide 6 Tryd.f6 rfl rfl rfl rfl rfl rfl rfl ⟨rfl, rfl, rfl, rfl, rfl⟩ rfl rfl rfl rfl rfl (by kernel_rfl) Tryd.func6 (by kernel_rfl)
    (of_decide_eq_true (by kernel_rfl)) (by unfold Func.isWrapper; first | (rw [if_pos (by decide +kernel)]; kernel_rfl) | (rw [if_neg (by decide +kernel)]; exact ⟨rfl, rfl⟩))
    (fun os started H enc _ => lifted os started H enc)

/-- The statement. -/
theorem proved : Rows.HeadsSignedCardSaid :=
  Claim7.holds_tied_plain_at .later [] [.data, .data] true _ false
    over (fun _ h => by cases h) (by kernel_rfl) (fun _ h => by cases h) headsSigned_row_tie rfl ⟨rfl, rfl⟩ (by kernel_rfl) rfl
    (fun f fn hf hfn => by
      obtain rfl : f = 6 := Option.some.inj ((show Tryd.prog.funcNamed "speculum/speculumlaw10.HeadsSigned" = some 6 by kernel_rfl).symm.trans hf) |>.symm
      obtain rfl : fn = Tryd.f6 := (Option.some.inj (Tryd.func6.symm.trans hfn)).symm
      exact ⟨by kernel_rfl, fun j t ht => by
        rw [Tryd.params6] at ht
        have hm : t ∈ [25, 5, 25] := by simpa using Array.mem_of_getElem? ht
        have hall : ([25, 5, 25].all fun u => !Tryd.prog.wantsStandIn u) = true := by kernel_rfl
        exact (show Tryd.prog.wantsStandIn t = false by simpa using List.all_eq_true.1 hall t hm)⟩)
    (by kernel_rfl)
#print axioms proved
end Go.Proofs.YtpndccoikhejgaaDoor.signed
