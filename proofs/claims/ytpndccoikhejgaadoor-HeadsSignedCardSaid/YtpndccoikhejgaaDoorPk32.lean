/-
  Several texts in one (a claim has room for 60 files): HeadGetP, KeyMem, KeySmall.
-/
import Derived.Test.YtpndccoikhejgaaDoorPk31
import Derived.Test.YtpndccoikhejgaaDoorPk26
import Derived.Test.YtpndccoikhejgaaDoorPk15
namespace Go.Proofs.YtpndccoikhejgaaDoor
open Go.RowKit Go.Great
set_option linter.unusedVariables false
set_option maxRecDepth 100000

attribute [local go_sem ↓ high] read_g write_g
theorem text_eq_not {a b : ByteArray} (h : ¬ a = b) : (a.toList == b.toList) = false := by
  simp only [beq_eq_false_iff_ne]
  exact fun e => h (text_of_list e)
set_option maxHeartbeats 16000000 in
theorem headGet_any (s : ByteArray) (hs : s.size ≤ maxLen) (w : World) :
    Calls Tryd.prog 22 #[.string s] w (GivesG w (getF s)) := by
  obtain ⟨y, hy⟩ : ∃ y, Hid (y = toldG s) := ⟨_, Lib.hid rfl⟩
  obtain ⟨t5, ht5⟩ : ∃ n, Hid (n = unhsT (rest4 s)) := ⟨_, Lib.hid rfl⟩
  obtain ⟨o5, ho5⟩ : ∃ n, Hid (n = unhsO (rest4 s)) := ⟨_, Lib.hid rfl⟩
  have hf : Hid y.fits := Lib.hid (by rw [hy.out]; exact toldG_fits s)
  have X1 : Hid (∀ W, Calls Tryd.prog 44 #[.string s] W fun e w' => ∃ A c, e = .returned (.tuple #[.agg (signedV y.size y.root y.index y.sig A y.path.length c), .string t5, .bool o5]) ∧ (y.path.length ≤ c ∧ c ≤ maxLen) ∧ HW w' A y.path ∧ Below W.heap.size W w') := Lib.hid fun W => by rw [hy.out, ht5.out, ho5.out]; exact headRead_any s hs W
  have G0 : Hid (¬ o5 = true → getF s = none) := Lib.hid (by rw [ho5.out]; exact getG_no s)
  have G1 : Hid (¬ t5 = ⟨#[]⟩ → getF s = none) := Lib.hid (by rw [ht5.out]; exact getG_rest s)
  have G2 : Hid (¬ y.ok → getF s = none) := Lib.hid (by rw [hy.out]; exact getG_bad s)
  have G3 : Hid (o5 = true → t5 = ⟨#[]⟩ → y.ok → getF s = some y) := Lib.hid (by rw [ho5.out, ht5.out, hy.out]; exact getG_yes s)
  obtain ⟨ZS, hZS⟩ : ∃ C, Hid (C = signedV 0 zeroL 0 ⟨#[]⟩ none 0 0) := ⟨_, Lib.hid rfl⟩
  have zZS : Hid (ZS.size = 36) := Lib.hid (by rw [hZS.out]; exact signedV_size 0 zeroL 0 ⟨#[]⟩ none 0 0 zeroL_is.1)
  have H0 := Lib.hid (GtH.start w (signedV 0 zeroL 0 ⟨#[]⟩ none 0 0) (signedV_size 0 zeroL 0 ⟨#[]⟩ none 0 0 zeroL_is.1))
  rw [← signed_zero] at H0
  clear hy ht5 ho5 hs
  by_cases q5 : o5 = true
  · subst q5
    by_cases qt : t5 = ⟨#[]⟩
    · subst qt
      have tb : ((⟨#[]⟩ : ByteArray).toList == (⟨#[]⟩ : ByteArray).toList) = true := beq_self_eq_true _
      by_cases ho : y.ok
      · have HG : Hid (getF s = some y) := Lib.hid (G3.out rfl rfl ho)
        have h3 : Hid (y.path.length = 3) := Lib.hid ho.2.2.2
        clear G0 G1 G2 G3
        go_enter Tryd.func22, Tryd.ntmps22
        go_upto_region 1 with fail
        refine world_gen (fun X => GtH w X) H0.out (fun X HX => ?_)
        have HX := Lib.hid HX
        clear H0
        go_upto_region 2 with (go_at_call 44; (with_reducible refine (X1.out _).mono ?_); rintro e w1 ⟨A, c, rfl, hc, hA, hb⟩; have H1 := Lib.hid (HX.out.next hb); have HA1 := Lib.hid hA; have HC := Lib.hid hc; clear hb hA hc HX; obtain ⟨SV, hSV⟩ : ∃ C, Hid (C = signedV y.size y.root y.index y.sig A y.path.length c) := ⟨_, Lib.hid rfl⟩; have zSV : Hid (SV.size = 36) := Lib.hid (by rw [hSV.out]; exact signedV_size _ _ _ _ _ _ _ hf.out.1.1); have oSV : Hid (SV.all (·.oneCell') = true) := Lib.hid (by rw [hSV.out]; exact signedV_one _ _ _ _ _ _ _); obtain ⟨w2, s2, hr2, hb2⟩ := made_signed w1 SV zSV.out oSV.out; rw [← signed_zero] at s2; rw [← hSV.out])
        have H2 := Lib.hid (H1.out.next hb2)
        have HA2 := Lib.hid (HA1.out.next hb2)
        obtain ⟨g2, hg⟩ : ∃ g, g = w1.heap.size := ⟨_, rfl⟩
        rw [← hg] at hr2 ⊢
        have R2 := Lib.hid hr2
        clear hg s2 hr2 hb2 H1 HA1 X1
        have GV : Hid (∀ W g, Row W g 34 SV → (readG (.pointer (some ⟨g, 0, none⟩))).run Tryd.prog W = .ok (.agg SV) W) := Lib.hid fun W g h => by rw [hSV.out] at h ⊢; exact signed_all h hf.out.1.1
        have l2 := GV.out _ _ R2.out
        have XV : Hid (∀ W, Calls Tryd.prog 14 #[.agg SV] W fun e w' => e = .returned (.bool (decide y.ok)) ∧ Below W.heap.size W w') := Lib.hid fun W => by rw [hSV.out]; exact headValid_any y hf.out.1.1 A c W
        rw [decide_eq_true ho] at XV
        clear ho
        go_upto_region 4 with (go_at_call 14; (with_reducible refine (XV.out _).mono ?_); rintro e w3 ⟨rfl, hb⟩; have HE := Lib.hid (H2.out.next hb); have HA3 := Lib.hid (HA2.out.next hb); have R3 := Lib.hid (R2.out.next hb); clear hb)
        clear l2 H2 HA2 R2
        have l3 := GV.out _ _ R3.out
        obtain ⟨Z, hZ, hz⟩ := HE.out.out
        have hL : Hid (HW (w3.setRow w.heap.size SV) A y.path) := Lib.hid (HA3.out.far_short h3.out hZ hz SV)
        have s9 := hZ.writeG hz zSV.out oSV.out
        clear GV HA3
        go_wp2
        refine bodyPost_ret (results_row2 (p := 2) (u := 3) rfl _ _ w.heap.size 34 _ (0, 0) _ rfl (hZ.whole SV) Tryd.underlying34 rfl (sizeG _ zSV.out) (.int .i64 0) rfl) rfl ?_
        rw [HG.out]
        exact ⟨A, c, by rw [hSV.out], HC.out, hL.out, below_setRow HE.out.below (Nat.le_refl _)⟩
      · have HG : Hid (getF s = none) := Lib.hid (G2.out ho)
        clear G0 G1 G2 G3
        go_enter Tryd.func22, Tryd.ntmps22
        go_upto_region 1 with fail
        refine world_gen (fun X => GtH w X) H0.out (fun X HX => ?_)
        have HX := Lib.hid HX
        clear H0
        go_upto_region 2 with (go_at_call 44; (with_reducible refine (X1.out _).mono ?_); rintro e w1 ⟨A, c, rfl, hc, hA, hb⟩; have H1 := Lib.hid (HX.out.next hb); have HA1 := Lib.hid hA; have HC := Lib.hid hc; clear hb hA hc HX; obtain ⟨SV, hSV⟩ : ∃ C, Hid (C = signedV y.size y.root y.index y.sig A y.path.length c) := ⟨_, Lib.hid rfl⟩; have zSV : Hid (SV.size = 36) := Lib.hid (by rw [hSV.out]; exact signedV_size _ _ _ _ _ _ _ hf.out.1.1); have oSV : Hid (SV.all (·.oneCell') = true) := Lib.hid (by rw [hSV.out]; exact signedV_one _ _ _ _ _ _ _); obtain ⟨w2, s2, hr2, hb2⟩ := made_signed w1 SV zSV.out oSV.out; rw [← signed_zero] at s2; rw [← hSV.out])
        have H2 := Lib.hid (H1.out.next hb2)
        have HA2 := Lib.hid (HA1.out.next hb2)
        obtain ⟨g2, hg⟩ : ∃ g, g = w1.heap.size := ⟨_, rfl⟩
        rw [← hg] at hr2 ⊢
        have R2 := Lib.hid hr2
        clear hg s2 hr2 hb2 H1 HA1 X1
        have GV : Hid (∀ W g, Row W g 34 SV → (readG (.pointer (some ⟨g, 0, none⟩))).run Tryd.prog W = .ok (.agg SV) W) := Lib.hid fun W g h => by rw [hSV.out] at h ⊢; exact signed_all h hf.out.1.1
        have l2 := GV.out _ _ R2.out
        have XV : Hid (∀ W, Calls Tryd.prog 14 #[.agg SV] W fun e w' => e = .returned (.bool (decide y.ok)) ∧ Below W.heap.size W w') := Lib.hid fun W => by rw [hSV.out]; exact headValid_any y hf.out.1.1 A c W
        rw [decide_eq_false ho] at XV
        clear ho
        go_upto_region 3 with (go_at_call 14; (with_reducible refine (XV.out _).mono ?_); rintro e w3 ⟨rfl, hb⟩; have HE := Lib.hid (H2.out.next hb); clear hb)
        clear l2
        obtain ⟨Z, hZ, hz⟩ := HE.out.out
        have s6 := hZ.writeG hz (signedV_size 0 zeroL 0 ⟨#[]⟩ none 0 0 zeroL_is.1) (signedV_one 0 zeroL 0 ⟨#[]⟩ none 0 0)
        rw [← hZS.out] at s6
        go_wp2_with (refine wpList_built_none rfl rfl ?_; rw [← hZS.out])
        refine bodyPost_ret (results_row2 (p := 2) (u := 3) rfl _ _ w.heap.size 34 _ (0, 0) _ rfl (hZ.whole ZS) Tryd.underlying34 rfl (sizeG _ zZS.out) (.int .i64 10) rfl) rfl ?_
        rw [HG.out]
        exact ⟨by rw [hZS.out], below_setRow HE.out.below (Nat.le_refl _)⟩
    · have HG : Hid (getF s = none) := Lib.hid (G1.out qt)
      have hl : t5.toList ≠ [] := fun e => qt (text_of_list (by rw [e]; first | rfl | simp [ByteArray.toList_eq] | decide))
      have t0 : (t5.toList == (⟨#[]⟩ : ByteArray).toList) = false := text_eq_not qt
      have t1 : (t5.toList == []) = false := by simpa using hl
      have t1b : (t5.toList != []) = true := by simpa using hl
      have t2 : t5.toList.isEmpty = false := by simpa using hl
      have t3 : decide (t5.toList = []) = false := by simpa using hl
      clear G0 G1 G2 G3
      go_enter Tryd.func22, Tryd.ntmps22
      go_upto_region 1 with fail
      refine world_gen (fun X => GtH w X) H0.out (fun X HX => ?_)
      have HX := Lib.hid HX
      clear H0
      go_upto_region 2 with (go_at_call 44; (with_reducible refine (X1.out _).mono ?_); rintro e w1 ⟨A, c, rfl, hc, hA, hb⟩; have H1 := Lib.hid (HX.out.next hb); have HA1 := Lib.hid hA; have HC := Lib.hid hc; clear hb hA hc HX; obtain ⟨SV, hSV⟩ : ∃ C, Hid (C = signedV y.size y.root y.index y.sig A y.path.length c) := ⟨_, Lib.hid rfl⟩; have zSV : Hid (SV.size = 36) := Lib.hid (by rw [hSV.out]; exact signedV_size _ _ _ _ _ _ _ hf.out.1.1); have oSV : Hid (SV.all (·.oneCell') = true) := Lib.hid (by rw [hSV.out]; exact signedV_one _ _ _ _ _ _ _); obtain ⟨w2, s2, hr2, hb2⟩ := made_signed w1 SV zSV.out oSV.out; rw [← signed_zero] at s2; rw [← hSV.out])
      have H2 := Lib.hid (H1.out.next hb2)
      have HA2 := Lib.hid (HA1.out.next hb2)
      obtain ⟨g2, hg⟩ : ∃ g, g = w1.heap.size := ⟨_, rfl⟩
      rw [← hg] at hr2 ⊢
      have R2 := Lib.hid hr2
      clear hg s2 hr2 hb2 H1 HA1 X1
      have GV : Hid (∀ W g, Row W g 34 SV → (readG (.pointer (some ⟨g, 0, none⟩))).run Tryd.prog W = .ok (.agg SV) W) := Lib.hid fun W g h => by rw [hSV.out] at h ⊢; exact signed_all h hf.out.1.1
      have l2 := GV.out _ _ R2.out
      have XV : Hid (∀ W, Calls Tryd.prog 14 #[.agg SV] W fun e w' => e = .returned (.bool (decide y.ok)) ∧ Below W.heap.size W w') := Lib.hid fun W => by rw [hSV.out]; exact headValid_any y hf.out.1.1 A c W
      go_upto_region 3 with fail
      have HE := H2
      clear l2
      obtain ⟨Z, hZ, hz⟩ := HE.out.out
      have s6 := hZ.writeG hz (signedV_size 0 zeroL 0 ⟨#[]⟩ none 0 0 zeroL_is.1) (signedV_one 0 zeroL 0 ⟨#[]⟩ none 0 0)
      rw [← hZS.out] at s6
      go_wp2_with (refine wpList_built_none rfl rfl ?_; rw [← hZS.out])
      refine bodyPost_ret (results_row2 (p := 2) (u := 3) rfl _ _ w.heap.size 34 _ (0, 0) _ rfl (hZ.whole ZS) Tryd.underlying34 rfl (sizeG _ zZS.out) (.int .i64 10) rfl) rfl ?_
      rw [HG.out]
      exact ⟨by rw [hZS.out], below_setRow HE.out.below (Nat.le_refl _)⟩
  · obtain rfl : o5 = false := by simpa using q5
    have HG : Hid (getF s = none) := Lib.hid (G0.out (by simp))
    clear G0 G1 G2 G3
    go_enter Tryd.func22, Tryd.ntmps22
    go_upto_region 1 with fail
    refine world_gen (fun X => GtH w X) H0.out (fun X HX => ?_)
    have HX := Lib.hid HX
    clear H0
    go_upto_region 2 with (go_at_call 44; (with_reducible refine (X1.out _).mono ?_); rintro e w1 ⟨A, c, rfl, hc, hA, hb⟩; have H1 := Lib.hid (HX.out.next hb); have HA1 := Lib.hid hA; have HC := Lib.hid hc; clear hb hA hc HX; obtain ⟨SV, hSV⟩ : ∃ C, Hid (C = signedV y.size y.root y.index y.sig A y.path.length c) := ⟨_, Lib.hid rfl⟩; have zSV : Hid (SV.size = 36) := Lib.hid (by rw [hSV.out]; exact signedV_size _ _ _ _ _ _ _ hf.out.1.1); have oSV : Hid (SV.all (·.oneCell') = true) := Lib.hid (by rw [hSV.out]; exact signedV_one _ _ _ _ _ _ _); obtain ⟨w2, s2, hr2, hb2⟩ := made_signed w1 SV zSV.out oSV.out; rw [← signed_zero] at s2; rw [← hSV.out])
    have H2 := Lib.hid (H1.out.next hb2)
    have HA2 := Lib.hid (HA1.out.next hb2)
    obtain ⟨g2, hg⟩ : ∃ g, g = w1.heap.size := ⟨_, rfl⟩
    rw [← hg] at hr2 ⊢
    have R2 := Lib.hid hr2
    clear hg s2 hr2 hb2 H1 HA1 X1
    have GV : Hid (∀ W g, Row W g 34 SV → (readG (.pointer (some ⟨g, 0, none⟩))).run Tryd.prog W = .ok (.agg SV) W) := Lib.hid fun W g h => by rw [hSV.out] at h ⊢; exact signed_all h hf.out.1.1
    have l2 := GV.out _ _ R2.out
    have XV : Hid (∀ W, Calls Tryd.prog 14 #[.agg SV] W fun e w' => e = .returned (.bool (decide y.ok)) ∧ Below W.heap.size W w') := Lib.hid fun W => by rw [hSV.out]; exact headValid_any y hf.out.1.1 A c W
    go_upto_region 3 with fail
    have HE := H2
    clear l2
    obtain ⟨Z, hZ, hz⟩ := HE.out.out
    have s6 := hZ.writeG hz (signedV_size 0 zeroL 0 ⟨#[]⟩ none 0 0 zeroL_is.1) (signedV_one 0 zeroL 0 ⟨#[]⟩ none 0 0)
    rw [← hZS.out] at s6
    go_wp2_with (refine wpList_built_none rfl rfl ?_; rw [← hZS.out])
    refine bodyPost_ret (results_row2 (p := 2) (u := 3) rfl _ _ w.heap.size 34 _ (0, 0) _ rfl (hZ.whole ZS) Tryd.underlying34 rfl (sizeG _ zZS.out) (.int .i64 10) rfl) rfl ?_
    rw [HG.out]
    exact ⟨by rw [hZS.out], below_setRow HE.out.below (Nat.le_refl _)⟩
end Go.Proofs.YtpndccoikhejgaaDoor
namespace Go.Proofs.YtpndccoikhejgaaDoor
open Go.RowKit Go.Great
set_option linter.unusedVariables false
set_option maxRecDepth 100000

/-- A tree's block as it is made: a seed, hashes of zeros. -/
def treeZ (b : Bool) (s : ByteArray) : Array Value := #[Value.bool b, Value.string s] ++ nums .u8 (List.replicate 288 0)
theorem treeZ_size (b : Bool) (s : ByteArray) : (treeZ b s).size = 290 := by simp [treeZ, nums_size]
theorem treeZ_get (b : Bool) (s : ByteArray) (j : Nat) (h : j < 288) : (treeZ b s)[2 + j]? = some (.int .u8 0) := by
  unfold treeZ
  rw [Array.getElem?_append_right (by simp), show 2 + j - (#[Value.bool b, Value.string s] : Array Value).size = j by simp, nums_get .u8 _ j (by rw [List.length_replicate]; exact h), List.getD_eq_getElem?_getD, List.getElem?_replicate, if_pos h]
  rfl
theorem built_tree (s : ByteArray) : Tryd.prog.built 82 [(0, .bool true), (1, .string s)] = some (treeZ true s) := by
  kernel_rfl
theorem built_none : Tryd.prog.built 82 [] = some (treeZ false ⟨#[]⟩) := by
  kernel_rfl
theorem wpList_buildTree {ops : Array Oper} {rest : List Oper} {o : Oper} {a : Act} {w : World} {Q : Exit → Act → World → Prop} (hgd : o.guard = none) (x : Operand) (ho : o.op = .build 82 #[(0, .const (.bool true)), (1, x)])
    (s : ByteArray) (hx : a.eval x = .string s) (h : wpList Tryd.prog ops Q rest (a.put o.dst (.agg (treeZ true s))) w) : wpList Tryd.prog ops Q (o :: rest) a w :=
  wpList_plain hgd fun _ hK => by
    have e : ((#[(0, .const (.bool true)), (1, x)] : Array (Nat × Operand)).map fun (i, x) => (i, a.eval x)).toList = [(0, .bool true), (1, .string s)] := by
      simp [hx]
      rfl
    unfold Oper.wp execOp
    simp only [ho, Sem.run_bind, Sem.run_pure, run_build w 82 _ (treeZ true s) (by rw [e]; exact built_tree s), Result.andThen_ok]
    exact hK _ _ h
theorem wpList_buildNone {ops : Array Oper} {rest : List Oper} {o : Oper} {a : Act} {w : World} {Q : Exit → Act → World → Prop} (hgd : o.guard = none) (ho : o.op = .build 82 #[])
    (h : wpList Tryd.prog ops Q rest (a.put o.dst (.agg (treeZ false ⟨#[]⟩))) w) : wpList Tryd.prog ops Q (o :: rest) a w :=
  wpList_plain hgd fun _ hK => by
    have e : ((#[] : Array (Nat × Operand)).map fun (i, x) => (i, a.eval x)).toList = [] := by simp
    unfold Oper.wp execOp
    simp only [ho, Sem.run_bind, Sem.run_pure, run_build w 82 _ (treeZ false ⟨#[]⟩) (by rw [e]; exact built_none), Result.andThen_ok]
    exact hK _ _ h
/-- A tree of keys in memory. -/
structure TreeM (W : World) (g : Nat) (seed : ByteArray) (ms : List (List Int)) (rt : List Int) : Prop where
  made : W.cell? ⟨g, 0, none⟩ = some (.bool true)
  sd : W.cell? ⟨g, 1, none⟩ = some (.string seed)
  lst : HL W (g + 1) (some ⟨g, 2, none⟩) ms
  root : ∀ j, j < 32 → W.cell? ⟨g, 258 + j, none⟩ = some (.int .u8 (rt.getD j 0))
  room : W.there g 2 288
  lt : g < W.heap.size
section
variable {W W1 : World} {g : Nat} {seed : ByteArray} {ms : List (List Int)} {rt : List Int}
theorem there_old {B o n : Nat} (h : W.there g o n) (hb : Below B W W1) (hg : g < B) : W1.there g o n := fun j hj =>
  have e := hb.block g hg
  ⟨by rw [World.cell?_of_block e]; exact (h j hj).1, by rw [World.frozen?_of_block e]; exact (h j hj).2⟩
theorem TreeM.old {B : Nat} (h : TreeM W g seed ms rt) (hb : Below B W W1) (hg : g < B) : TreeM W1 g seed ms rt :=
  have e := hb.block g hg
  ⟨by rw [World.cell?_of_block e]; exact h.made, by rw [World.cell?_of_block e]; exact h.sd, h.lst.next hb hg, fun j hj => by rw [World.cell?_of_block e]; exact h.root j hj, there_old h.room hb hg, Nat.lt_of_lt_of_le h.lt hb.size⟩
theorem TreeM.next (h : TreeM W g seed ms rt) (hb : Below W.heap.size W W1) : TreeM W1 g seed ms rt := h.old hb h.lt
theorem TreeM.list (h : TreeM W g seed ms rt) : HL W W.heap.size (some ⟨g, 2, none⟩) ms := h.lst.more h.lt
theorem TreeM.there (h : TreeM W g seed ms rt) (k : Nat) (hk : k < 9) : W.there g (2 + k * 32) 32 := fun j hj => by
  have := h.room (k * 32 + j) (by omega)
  rwa [← Nat.add_assoc] at this
theorem TreeM.readRoot (h : TreeM W g seed ms rt) (hl : rt.length = 32) : (readAt (.pointer (some ⟨g, 258, none⟩))).run Tryd.prog W = .ok (.agg (nums .u8 rt)) W :=
  read_flat W ⟨g, 258, none⟩ rt hl fun j hj => by rw [Addr.add_mid]; exact h.root j hj
/-- A leaf is put in its place. -/
theorem TreeM.put (h : TreeM W g seed ms rt) (k : Nat) (hk : k < 8) (hm : ms.length = 8) (x : List Int) (hx : x.length = 32) : TreeM (W.setCells g (2 + k * 32) (nums .u8 x).toList) g seed (ms.set k x) rt := by
  have hvl : (nums .u8 x).toList.length = 32 := by rw [Array.length_toList, nums_size, hx]
  have ht := h.there k (by omega)
  have out : ∀ o, o < 2 + k * 32 ∨ 2 + k * 32 + 32 ≤ o → (W.setCells g (2 + k * 32) (nums .u8 x).toList).cell? ⟨g, o, none⟩ = W.cell? ⟨g, o, none⟩ := fun o ho =>
    World.cell?_setCells_out g _ _ W ⟨g, o, none⟩ (fun _ _ => by rw [hvl]; exact ho)
  refine ⟨(out 0 (by omega)).trans h.made, (out 1 (by omega)).trans h.sd, ?_, fun j hj => (out (258 + j) (by omega)).trans (h.root j hj), World.there_setCells h.room _ _ _, by rw [size_setCells]; exact h.lt⟩
  intro i hi
  rw [List.length_set, hm] at hi
  obtain ⟨ad, e, hlt, hc⟩ := h.lst i (by omega)
  cases e
  refine ⟨_, rfl, hlt, fun j hj => ?_⟩
  have hcj := hc j hj
  rw [Addr.add_mid] at hcj ⊢
  rw [setL_getD ms k i x (by omega)]
  by_cases hik : i = k
  · subst hik
    rw [if_pos rfl, ← Nat.add_assoc, World.cell?_setCells_in g _ _ W (fun q hq => (ht q (by omega)).1) j (by omega)]
    have e := nums_get .u8 x j (by omega)
    rw [← Array.getElem?_toList, List.getElem?_eq_getElem (by omega)] at e
    exact e
  · rw [if_neg hik]
    refine (out _ ?_).trans hcj
    rcases Nat.lt_or_gt_of_ne hik with h' | h'
    · left; have := Nat.mul_le_mul_right 32 (show i + 1 ≤ k by omega); omega
    · right; have := Nat.mul_le_mul_right 32 (show k + 1 ≤ i by omega); omega
/-- The root is put in its place. -/
theorem TreeM.putRoot (h : TreeM W g seed ms rt) (hm : ms.length = 8) (x : List Int) (hx : x.length = 32) : TreeM (W.setCells g 258 (nums .u8 x).toList) g seed ms x := by
  have hvl : (nums .u8 x).toList.length = 32 := by rw [Array.length_toList, nums_size, hx]
  have ht := h.there 8 (by omega)
  have out : ∀ o, o < 258 → (W.setCells g 258 (nums .u8 x).toList).cell? ⟨g, o, none⟩ = W.cell? ⟨g, o, none⟩ := fun o ho =>
    World.cell?_setCells_out g _ _ W ⟨g, o, none⟩ (fun _ _ => .inl ho)
  refine ⟨(out 0 (by omega)).trans h.made, (out 1 (by omega)).trans h.sd, ?_, fun j hj => ?_, World.there_setCells h.room _ _ _, by rw [size_setCells]; exact h.lt⟩
  · intro i hi
    obtain ⟨ad, e, hlt, hc⟩ := h.lst i hi
    cases e
    refine ⟨_, rfl, hlt, fun j hj => ?_⟩
    have hcj := hc j hj
    rw [Addr.add_mid] at hcj ⊢
    exact (out _ (by omega)).trans hcj
  · rw [World.cell?_setCells_in g _ _ W (fun q hq => (ht q (by omega)).1) j (by omega)]
    have e := nums_get .u8 x j (by omega)
    rw [← Array.getElem?_toList, List.getElem?_eq_getElem (by omega)] at e
    exact e
end
/-- The leaves that are there behind k of them. -/
def keysM (seed : ByteArray) (k : Nat) : List (List Int) := (List.range 8).map fun j => if j < k then keyF (pubN seed j 512) else zeroL
theorem keysM_length (seed : ByteArray) (k : Nat) : (keysM seed k).length = 8 := by simp [keysM]
theorem keysM_get (seed : ByteArray) (k j : Nat) (h : j < 8) : (keysM seed k).getD j [] = if j < k then keyF (pubN seed j 512) else zeroL := by simp [keysM, List.getD, h]
theorem keysM_done (seed : ByteArray) : keysM seed 8 = keysF seed := by
  unfold keysM keysF
  refine List.map_congr_left fun j hj => ?_
  rw [if_pos (List.mem_range.1 hj)]
theorem keysM_step (seed : ByteArray) (k : Nat) : (keysM seed k).set k (keyF (pubN seed k 512)) = keysM seed (k + 1) := by
  apply List.ext_getElem?
  intro j
  rw [List.getElem?_set]
  unfold keysM
  simp only [List.length_map, List.length_range, List.getElem?_map]
  by_cases hj : j < 8
  · rw [List.getElem?_range hj]
    by_cases h1 : k = j
    · subst h1; simp [hj]
    · rw [if_neg h1]
      by_cases h2 : j < k
      · simp [h2, show j < k + 1 by omega]
      · simp [h2, show ¬ j < k + 1 by omega]
  · rw [List.getElem?_eq_none (l := List.range 8) (by simp; omega)]
    by_cases h1 : k = j
    · subst h1; simp [hj]
    · rw [if_neg h1]; rfl
theorem treeZ_made (b : Bool) (s : ByteArray) : (treeZ b s)[0]? = some (.bool b) := by
  unfold treeZ
  rw [Array.getElem?_append_left (by simp)]; rfl
theorem treeZ_seed (b : Bool) (s : ByteArray) : (treeZ b s)[1]? = some (.string s) := by
  unfold treeZ
  rw [Array.getElem?_append_left (by simp)]; rfl
theorem TreeM.start {W : World} {g : Nat} {seed : ByteArray} (h : Row W g 82 (treeZ true seed)) : TreeM W g seed (keysM seed 0) zeroL := by
  have z : ∀ j, j < 288 → W.cell? ⟨g, 2 + j, none⟩ = some (.int .u8 0) := fun j hj => by
    have := h.cell (2 + j)
    rw [treeZ_get true seed j hj] at this
    exact this
  have z0 : ∀ j, j < 32 → zeroL.getD j 0 = 0 := fun j hj => by
    unfold zeroL
    rw [List.getD_eq_getElem?_getD, List.getElem?_replicate, if_pos hj]; rfl
  refine ⟨(h.cell 0).trans (treeZ_made _ _), (h.cell 1).trans (treeZ_seed _ _), ?_, fun j hj => ?_, fun j hj => ⟨by rw [z j hj]; rfl, h.free _⟩, h.lt⟩
  · intro i hi
    rw [keysM_length] at hi
    refine ⟨_, rfl, by show g < g + 1; omega, fun j hj => ?_⟩
    rw [Addr.add_mid, keysM_get _ _ _ hi, if_neg (by omega), z0 j hj]
    exact z _ (by omega)
  · rw [z0 j hj, show 258 + j = 2 + (256 + j) by omega]
    exact z _ (by omega)
/-- What the program holds of a tree. -/
def treeR (W : World) (v : Value) (seed : ByteArray) : Prop := ∃ g, v = .pointer (some ⟨g, 0, none⟩) ∧ TreeM W g seed (keysF seed) (rootF seed)
theorem treeR.next {W W1 : World} {v : Value} {seed : ByteArray} (h : treeR W v seed) (hb : Below W.heap.size W W1) : treeR W1 v seed := by
  obtain ⟨g, e, h⟩ := h
  exact ⟨g, e, h.next hb⟩
end Go.Proofs.YtpndccoikhejgaaDoor
namespace Go.Proofs.YtpndccoikhejgaaDoor
open Go.RowKit Go.Great
set_option linter.unusedVariables false
set_option maxRecDepth 100000

set_option maxHeartbeats 1000000 in
theorem isKey8_any (x : Int) (w : World) : Calls Tryd.prog 54 #[.int .i64 x] w fun e w' => e = .returned (.bool (decide (0 ≤ x ∧ x < 8))) ∧ w = w' := by
  by_cases h1 : 0 ≤ x
  · have d1 : decide (0 ≤ x) = true := decide_eq_true h1
    by_cases h2 : x < 8
    · have d2 : decide (x < 8) = true := decide_eq_true h2
      have d3 : decide (0 ≤ x ∧ x < 8) = true := decide_eq_true ⟨h1, h2⟩
      rw [d3]
      go_enter Tryd.func54, Tryd.ntmps54
      go_wp2
      go_ret
      exact ⟨rfl, rfl⟩
    · have d2 : decide (x < 8) = false := decide_eq_false h2
      have d3 : decide (0 ≤ x ∧ x < 8) = false := decide_eq_false (fun h => h2 h.2)
      rw [d3]
      go_enter Tryd.func54, Tryd.ntmps54
      go_wp2
      go_ret
      exact ⟨rfl, rfl⟩
  · have d1 : decide (0 ≤ x) = false := decide_eq_false h1
    have d3 : decide (0 ≤ x ∧ x < 8) = false := decide_eq_false (fun h => h1 h.1)
    rw [d3]
    go_enter Tryd.func54, Tryd.ntmps54
    go_wp2
    go_ret
    exact ⟨rfl, rfl⟩
theorem isKey8_yes (x : Int) (h : 0 ≤ x ∧ x < 8) (w : World) : Calls Tryd.prog 54 #[.int .i64 x] w fun e w' => e = .returned (.bool true) ∧ w = w' := by
  have := isKey8_any x w
  rwa [decide_eq_true h] at this
theorem isKey8_no (x : Int) (h : x < 0 ∨ 7 < x) (w : World) : Calls Tryd.prog 54 #[.int .i64 x] w fun e w' => e = .returned (.bool false) ∧ w = w' := by
  have := isKey8_any x w
  rwa [decide_eq_false (by omega)] at this
set_option maxHeartbeats 1000000 in
theorem isNone_nil (w : World) : Calls Tryd.prog 53 #[.pointer none] w fun e w' => e = .returned (.bool true) ∧ w = w' := by
  go_enter Tryd.func53, Tryd.ntmps53
  go_wp2
  go_ret
  exact ⟨rfl, rfl⟩
set_option maxHeartbeats 1000000 in
theorem isNone_at (g : Nat) (b : Bool) (w : World) (h : w.cell? ⟨g, 0, none⟩ = some (.bool b)) : Calls Tryd.prog 53 #[.pointer (some ⟨g, 0, none⟩)] w fun e w' => e = .returned (.bool (!b)) ∧ w = w' := by
  go_enter Tryd.func53, Tryd.ntmps53
  go_wp2
  go_ret
  exact ⟨rfl, rfl⟩
end Go.Proofs.YtpndccoikhejgaaDoor
