/-
  Several texts in one (a claim has room for 60 files): Headed, HeadLawH, ShaCard, ListCard, LampArg, RoughArg, HeadOwn.
-/
import Derived.Test.YtpndccoikhejgaaDoorPk26
import Derived.Test.YtpndccoikhejgaaDoorPk27
import Derived.Test.YtpndccoikhejgaaDoorPk03
import Derived.Test.YtpndccoikhejgaaDoorPk04
import Derived.Test.YtpndccoikhejgaaDoorTie
import Derived.Test.YtpndccoikhejgaaDoorCards
import Derived.ProofKit
import Derived.LaidMore
import Derived.OpenShut
import Derived.ShutString
import Derived.ChangeOld
import Derived.Stop.Joined
import Derived.SevenTiedAt
import Derived.Lib.LaidTab
import Derived.Lib.LaidU8
import Derived.Test.YtpndccoikhejgaaDoorPk14
import Derived.Test.YtpndccoikhejgaaDoorPk07
namespace Go.Proofs.YtpndccoikhejgaaDoor
open Go.RowKit Go.Great
set_option linter.unusedVariables false
set_option maxRecDepth 100000

theorem head_3 : (#[.int .i64 3, .int .u8 0, .int .u8 0, .int .u8 0, .int .u8 0, .int .u8 0, .int .u8 0, .int .u8 0, .int .u8 0, .int .u8 0, .int .u8 0, .int .u8 0, .int .u8 0, .int .u8 0, .int .u8 0, .int .u8 0, .int .u8 0, .int .u8 0, .int .u8 0, .int .u8 0, .int .u8 0, .int .u8 0, .int .u8 0, .int .u8 0, .int .u8 0, .int .u8 0, .int .u8 0, .int .u8 0, .int .u8 0, .int .u8 0, .int .u8 0, .int .u8 0, .int .u8 0] : Array Value) = headV 3 zeroL := rfl
theorem head_4 : (#[.int .i64 4, .int .u8 0, .int .u8 0, .int .u8 0, .int .u8 0, .int .u8 0, .int .u8 0, .int .u8 0, .int .u8 0, .int .u8 0, .int .u8 0, .int .u8 0, .int .u8 0, .int .u8 0, .int .u8 0, .int .u8 0, .int .u8 0, .int .u8 0, .int .u8 0, .int .u8 0, .int .u8 0, .int .u8 0, .int .u8 0, .int .u8 0, .int .u8 0, .int .u8 0, .int .u8 0, .int .u8 0, .int .u8 0, .int .u8 0, .int .u8 0, .int .u8 0, .int .u8 0] : Array Value) = headV 4 zeroL := rfl
theorem head_5 : (#[.int .i64 4, .int .u8 1, .int .u8 0, .int .u8 0, .int .u8 0, .int .u8 0, .int .u8 0, .int .u8 0, .int .u8 0, .int .u8 0, .int .u8 0, .int .u8 0, .int .u8 0, .int .u8 0, .int .u8 0, .int .u8 0, .int .u8 0, .int .u8 0, .int .u8 0, .int .u8 0, .int .u8 0, .int .u8 0, .int .u8 0, .int .u8 0, .int .u8 0, .int .u8 0, .int .u8 0, .int .u8 0, .int .u8 0, .int .u8 0, .int .u8 0, .int .u8 0, .int .u8 0] : Array Value) = headV 4 (1 :: List.replicate 31 0) := rfl
theorem hash_0 : (#[.int .u8 0, .int .u8 0, .int .u8 0, .int .u8 0, .int .u8 0, .int .u8 0, .int .u8 0, .int .u8 0, .int .u8 0, .int .u8 0, .int .u8 0, .int .u8 0, .int .u8 0, .int .u8 0, .int .u8 0, .int .u8 0, .int .u8 0, .int .u8 0, .int .u8 0, .int .u8 0, .int .u8 0, .int .u8 0, .int .u8 0, .int .u8 0, .int .u8 0, .int .u8 0, .int .u8 0, .int .u8 0, .int .u8 0, .int .u8 0, .int .u8 0, .int .u8 0] : Array Value) = nums .u8 zeroL := rfl
theorem zero_head : (#[.int .i64 0, .int .u8 0, .int .u8 0, .int .u8 0, .int .u8 0, .int .u8 0, .int .u8 0, .int .u8 0, .int .u8 0, .int .u8 0, .int .u8 0, .int .u8 0, .int .u8 0, .int .u8 0, .int .u8 0, .int .u8 0, .int .u8 0, .int .u8 0, .int .u8 0, .int .u8 0, .int .u8 0, .int .u8 0, .int .u8 0, .int .u8 0, .int .u8 0, .int .u8 0, .int .u8 0, .int .u8 0, .int .u8 0, .int .u8 0, .int .u8 0, .int .u8 0, .int .u8 0] : Array Value) = headV 0 zeroL := rfl
def writeD (p v : Value) : Sem Unit := Instr.storeAt 25 p v
theorem write_d (p v : Value) : Instr.storeAt 25 p v = writeD p v := rfl
theorem Row.writeD {w : World} {g : Nat} {t : TypeId} {C D : Array Value} (h : Row w g t C) (hn : C.size = 33) (hd : D.size = 33) (h1 : D.all (·.oneCell') = true) : (writeD (.pointer (some ⟨g, 0, none⟩)) (.agg D)).run Tryd.prog w = .ok () (w.setRow g D) := by
  unfold Go.Proofs.YtpndccoikhejgaaDoor.writeD
  simp only [Instr.storeAt, Instr.sureAddr, Sem.run_bind, Sem.run_pure, Result.andThen_ok, run_storeVar_row w g t 25 C D h (sizeD _ hd) (by rw [hn, hd]) h1]
theorem made_head (w1 : World) (D : Array Value) (hd : D.size = 33) (oD : D.all (·.oneCell') = true) : ∃ w2, (writeD (.pointer (some ⟨w1.heap.size, 0, none⟩)) (.agg D)).run Tryd.prog (w1.alloc (.cells (headV 0 zeroL) 25)) = .ok () w2 ∧ Row w2 w1.heap.size 25 D ∧ Below w1.heap.size w1 w2 :=
  ⟨(w1.alloc (.cells (headV 0 zeroL) 25)).setRow w1.heap.size D, (Row.made w1 25 _).writeD (headV_size _ _ zeroL_is.1) hd oD, (Row.made _ _ _).whole _, below_setRow ((Below.refl _ _).alloc (Nat.le_refl _) _) (Nat.le_refl _)⟩
theorem made_heads (w1 : World) (D E : Array Value) (hd : D.size = 33) (oD : D.all (·.oneCell') = true) (he : E.size = 33) (oE : E.all (·.oneCell') = true) : ∃ w2 w3, (writeD (.pointer (some ⟨w1.heap.size, 0, none⟩)) (.agg D)).run Tryd.prog ((w1.alloc (.cells (headV 0 zeroL) 25)).alloc (.cells (headV 0 zeroL) 25)) = .ok () w2 ∧
    (writeD (.pointer (some ⟨w1.heap.size + 1, 0, none⟩)) (.agg E)).run Tryd.prog w2 = .ok () w3 ∧ Row w3 w1.heap.size 25 D ∧ Row w3 (w1.heap.size + 1) 25 E ∧ Below w1.heap.size w1 w3 :=
  ⟨((w1.alloc (.cells (headV 0 zeroL) 25)).alloc (.cells (headV 0 zeroL) 25)).setRow w1.heap.size D, (((w1.alloc (.cells (headV 0 zeroL) 25)).alloc (.cells (headV 0 zeroL) 25)).setRow w1.heap.size D).setRow (w1.heap.size + 1) E,
    Row.writeD ((Row.made w1 25 (headV 0 zeroL)).alloc _) (headV_size _ _ zeroL_is.1) hd oD,
    Row.writeD ((Row.made2 w1 _ 25 (headV 0 zeroL)).wfar (by omega) D) (headV_size _ _ zeroL_is.1) he oE,
    (((Row.made w1 25 (headV 0 zeroL)).alloc _).whole D).wfar (by omega) E,
    ((Row.made2 w1 _ 25 (headV 0 zeroL)).wfar (by omega) D).whole E,
    below_setRow (below_setRow (((Below.refl _ _).alloc (Nat.le_refl _) _).alloc (by simp) _) (Nat.le_refl _)) (by omega)⟩
/-- A composite literal, guarded or not. -/
theorem wpList_builtG {ops : Array Oper} {rest : List Oper} {o : Oper} {a : Act} {w : World} {Q : Exit → Act → World → Prop} {T : TypeId} {parts : Array (Nat × Operand)} {cells : Array Value} (hw : Region.wanted o (yielded ops a.tmps) = true) (ho : o.op = .build T parts) (h : Tryd.prog.built T (parts.map fun (i, x) => (i, a.eval x)).toList = some cells) (hk : wpList Tryd.prog ops Q rest (a.put o.dst (.agg cells)) w) : wpList Tryd.prog ops Q (o :: rest) a w :=
  wpList_step fun _ hK => by
    rw [if_pos hw]
    unfold Oper.wp execOp
    simp only [ho, Sem.run_bind, Sem.run_pure, run_build w T _ cells h, Result.andThen_ok]
    exact hK _ _ hk
theorem wpList_builtG1 {ops : Array Oper} {rest : List Oper} {o : Oper} {a : Act} {w : World} {Q : Exit → Act → World → Prop} {T : TypeId} (x : Operand) (v : Value) {cells : Array Value} (hw : Region.wanted o (yielded ops a.tmps) = true) (ho : o.op = .build T #[(0, x)]) (hx : a.eval x = v) (h : Tryd.prog.built T [(0, v)] = some cells) (hk : wpList Tryd.prog ops Q rest (a.put o.dst (.agg cells)) w) : wpList Tryd.prog ops Q (o :: rest) a w :=
  wpList_builtG hw ho (by
    have e : ((#[(0, x)] : Array (Nat × Operand)).map fun (i, x) => (i, a.eval x)).toList = [(0, v)] := by simp [hx]
    rw [e]; exact h) hk
def oneL : List Int := 1 :: List.replicate 31 0
theorem oneL_is : oneL.length = 32 ∧ bytes oneL := ⟨rfl, by intro x hx; unfold oneL at hx; simp at hx; omega⟩
theorem built_one : Tryd.prog.built 23 [(0, .int .u8 1)] = some (nums .u8 oneL) := by kernel_rfl
theorem built_hash0 : Tryd.prog.built 23 [] = some (nums .u8 zeroL) := by kernel_rfl
/-- What the examples hold: three heads. -/
structure HdH (w : World) (g : Nat) (HA HB HC : Array Value) (W : World) : Prop where
  a : Row W w.heap.size 25 HA
  b : Row W (w.heap.size + 1) 25 HB
  c : Row W g 25 HC
  tab : Tab W
  below : Below w.heap.size w W
theorem HdH.next {w W W1 : World} {g : Nat} {HA HB HC : Array Value} (h : HdH w g HA HB HC W) (hb : Below W.heap.size W W1) : HdH w g HA HB HC W1 := ⟨h.a.next hb, h.b.next hb, h.c.next hb, h.tab.next hb, below_new h.below hb⟩
theorem getF_empty : getF ⟨#[]⟩ = none := by
  unfold getF parseF
  have h : rdN ⟨#[]⟩ = none := by unfold rdN; rfl
  rw [h]; rfl
attribute [local go_sem ↓ high] read_d read_g write_d write_g
set_option maxHeartbeats 16000000 in
theorem headed_any (HS : HeadSays) (w : World) (hT : Tab w) :
    Calls Tryd.prog 8 #[] w fun e w' => e = .returned (.bool true) ∧ Below w.heap.size w w' := by
  have n3 : num64 3 := by unfold num64; omega
  have n4 : num64 4 := by unfold num64; omega
  obtain ⟨HA, hHA⟩ : ∃ C, Hid (C = headV 3 zeroL) := ⟨_, Lib.hid rfl⟩
  obtain ⟨HB, hHB⟩ : ∃ C, Hid (C = headV 4 zeroL) := ⟨_, Lib.hid rfl⟩
  obtain ⟨HC, hHC⟩ : ∃ C, Hid (C = headV 4 oneL) := ⟨_, Lib.hid rfl⟩
  obtain ⟨SA, hSA⟩ : ∃ C, Hid (C = signedV 3 zeroL 0 ⟨#[]⟩ none 0 0) := ⟨_, Lib.hid rfl⟩
  obtain ⟨ZS, hZS⟩ : ∃ C, Hid (C = signedV 0 zeroL 0 ⟨#[]⟩ none 0 0) := ⟨_, Lib.hid rfl⟩
  have GA : Hid (∀ W g, Row W g 25 HA → (readD (.pointer (some ⟨g, 0, none⟩))).run Tryd.prog W = .ok (.agg HA) W) := Lib.hid fun W g h => by rw [hHA.out] at h ⊢; exact head_all h zeroL_is.1
  have GB : Hid (∀ W g, Row W g 25 HB → (readD (.pointer (some ⟨g, 0, none⟩))).run Tryd.prog W = .ok (.agg HB) W) := Lib.hid fun W g h => by rw [hHB.out] at h ⊢; exact head_all h zeroL_is.1
  have GC : Hid (∀ W g, Row W g 25 HC → (readD (.pointer (some ⟨g, 0, none⟩))).run Tryd.prog W = .ok (.agg HC) W) := Lib.hid fun W g h => by rw [hHC.out] at h ⊢; exact head_all h oneL_is.1
  have IN : Hid (∀ W, HeadIn W ⟨3, zeroL, 0, ⟨#[]⟩, []⟩ none 0) := Lib.hid fun W => ⟨⟨zeroL_is, fun l hl => by cases hl⟩, n3, (by show num64 0; unfold num64; omega), Nat.zero_le _, HL.nil _ _ _, Nat.le_refl _, Nat.zero_le _⟩
  have NOK : ¬ (⟨3, zeroL, 0, ⟨#[]⟩, []⟩ : Sh).ok := fun h => by have := h.2.2.2; simp at this
  have XP : Hid (∀ W, Tab W → Calls Tryd.prog 10 #[.agg SA] W fun e w' => e = .returned (.tuple #[.string ⟨#[]⟩, .int .i64 2]) ∧ Below W.heap.size W w') := Lib.hid fun W h => by
    have := HS.put ⟨3, zeroL, 0, ⟨#[]⟩, []⟩ none 0 W h (IN.out W)
    unfold putF at this
    rw [if_neg NOK] at this
    rw [hSA.out]; exact this
  have XG : Hid (∀ W, Tab W → Calls Tryd.prog 22 #[.string ⟨#[]⟩] W fun e w' => e = .returned (.tuple #[.agg ZS, .int .i64 10]) ∧ Below W.heap.size W w') := Lib.hid fun W h => by
    have := HS.get ⟨#[]⟩ W h (Nat.zero_le _)
    rw [getF_empty] at this
    rw [hZS.out]; exact this
  have BS : Hid (Tryd.prog.built 34 [(0, .agg HA)] = some SA) := Lib.hid (by rw [hHA.out, hSA.out]; exact built_signed1 3 zeroL zeroL_is.1)
  have XC : Hid (∀ W, Tab W → Calls Tryd.prog 16 #[.agg #[.int .u8 0, .int .u8 0, .int .u8 0, .int .u8 0, .int .u8 0, .int .u8 0, .int .u8 0, .int .u8 0, .int .u8 0, .int .u8 0, .int .u8 0, .int .u8 0, .int .u8 0, .int .u8 0, .int .u8 0, .int .u8 0, .int .u8 0, .int .u8 0, .int .u8 0, .int .u8 0, .int .u8 0, .int .u8 0, .int .u8 0, .int .u8 0, .int .u8 0, .int .u8 0, .int .u8 0, .int .u8 0, .int .u8 0, .int .u8 0, .int .u8 0, .int .u8 0], .agg SA] W fun e w' => e = .returned (.int .i64 2) ∧ Below W.heap.size W w') := Lib.hid fun W h => by
    have := HS.check zeroL ⟨3, zeroL, 0, ⟨#[]⟩, []⟩ none 0 W h zeroL_is (IN.out W)
    unfold chkF at this
    rw [if_neg NOK] at this
    rw [hSA.out, hash_0]; exact this
  have O1 : Hid (∀ W, Tab W → Calls Tryd.prog 18 #[.agg HA, .agg HB] W fun e w' => e = .returned (.int .i64 0) ∧ Below W.heap.size W w') := Lib.hid fun W h => by
    rw [hHA.out, hHB.out]; exact HS.order 3 4 zeroL zeroL W h n3 n4 zeroL_is zeroL_is
  have O2 : Hid (∀ W, Tab W → Calls Tryd.prog 18 #[.agg HB, .agg HC] W fun e w' => e = .returned (.int .i64 3) ∧ Below W.heap.size W w') := Lib.hid fun W h => by
    rw [hHB.out, hHC.out]; exact HS.order 4 4 zeroL oneL W h n4 n4 zeroL_is oneL_is
  have O3 : Hid (∀ W, Tab W → Calls Tryd.prog 18 #[.agg HB, .agg HB] W fun e w' => e = .returned (.int .i64 1) ∧ Below W.heap.size W w') := Lib.hid fun W h => by
    rw [hHB.out]; exact HS.order 4 4 zeroL zeroL W h n4 n4 zeroL_is zeroL_is
  have O4 : Hid (∀ W, Tab W → Calls Tryd.prog 18 #[.agg HB, .agg HA] W fun e w' => e = .returned (.int .i64 2) ∧ Below W.heap.size W w') := Lib.hid fun W h => by
    rw [hHA.out, hHB.out]; exact HS.order 4 3 zeroL zeroL W h n4 n3 zeroL_is zeroL_is
  have zA : Hid (HA.size = 33 ∧ HA.all (·.oneCell') = true) := Lib.hid (by rw [hHA.out]; exact ⟨headV_size _ _ zeroL_is.1, headV_one _ _⟩)
  have zB : Hid (HB.size = 33 ∧ HB.all (·.oneCell') = true) := Lib.hid (by rw [hHB.out]; exact ⟨headV_size _ _ zeroL_is.1, headV_one _ _⟩)
  have zC : Hid (HC.size = 33 ∧ HC.all (·.oneCell') = true) := Lib.hid (by rw [hHC.out]; exact ⟨headV_size _ _ oneL_is.1, headV_one _ _⟩)
  have zS : Hid (ZS.size = 36 ∧ ZS.all (·.oneCell') = true) := Lib.hid (by rw [hZS.out]; exact ⟨signedV_size _ _ _ _ _ _ _ zeroL_is.1, signedV_one _ _ _ _ _ _ _⟩)
  have HT := Lib.hid hT
  obtain ⟨wa, wb, s1, s2, ra, rb, hb0⟩ := made_heads w HA HB zA.out.1 zA.out.2 zB.out.1 zB.out.2
  rw [← zero_head, hHA.out, ← head_3] at s1
  rw [hHB.out, ← head_4] at s2
  clear hT n3 n4 NOK IN
  go_enter Tryd.func8, Tryd.ntmps8
  go_upto_region 2 with fail
  have RA := Lib.hid ra
  have RB := Lib.hid rb
  have B0 := Lib.hid hb0
  clear s1 s2 ra rb hb0
  obtain ⟨wc, s3, rc, hb1⟩ := made_head wb HC zC.out.1 zC.out.2
  rw [← zero_head, hHC.out, show oneL = 1 :: List.replicate 31 0 from rfl, ← head_5] at s3
  go_upto_region 3 with fail
  obtain ⟨gc, hg⟩ : ∃ g, g = wb.heap.size := ⟨_, rfl⟩
  rw [← hg] at rc ⊢
  have H0 : Hid (HdH w gc HA HB HC wc) := Lib.hid ⟨RA.out.next hb1, RB.out.next hb1, rc, HT.out.next (below_new B0.out hb1), below_new B0.out hb1⟩
  clear s3 rc hb1 hg RA RB B0
  have l1 := GA.out _ _ H0.out.a
  go_upto_region 4 with (first
    | (refine wpList_builtG1 _ (.agg HA) rfl rfl rfl BS.out ?_)
    | (go_at_call 10; (with_reducible refine (XP.out _ H0.out.tab).mono ?_); rintro e w1 ⟨rfl, hb⟩; have H1 := Lib.hid (H0.out.next hb); clear hb H0))
  clear l1
  go_upto_region 5 with (go_at_call 22; (with_reducible refine (XG.out _ H1.out.tab).mono ?_); rintro e w2 ⟨rfl, hb⟩; have H2 := Lib.hid (H1.out.next hb); clear hb H1; obtain ⟨w3, s4, hr4, hb4⟩ := made_signed w2 ZS zS.out.1 zS.out.2; rw [← signed_zero] at s4)
  have HZ := Lib.hid (H2.out.next hb4)
  clear s4 hr4 hb4 H2
  have la := GA.out _ _ HZ.out.a
  have lb := GB.out _ _ HZ.out.b
  have lc := GC.out _ _ HZ.out.c
  go_wp2_with (first
    | (go_at_call 18; (with_reducible (first | refine (O1.out _ HZ.out.tab).mono ?_ | refine (O2.out _ HZ.out.tab).mono ?_ | refine (O3.out _ HZ.out.tab).mono ?_ | refine (O4.out _ HZ.out.tab).mono ?_)); rintro e wz ⟨rfl, hb⟩; replace HZ := Lib.hid (HZ.out.next hb); clear hb la lb lc; have la := GA.out _ _ HZ.out.a; have lb := GB.out _ _ HZ.out.b; have lc := GC.out _ _ HZ.out.c)
    | (refine wpList_builtG1 _ (.agg HA) rfl rfl rfl BS.out ?_)
    | (go_at_call 16; (with_reducible refine (XC.out _ HZ.out.tab).mono ?_); rintro e wz ⟨rfl, hb⟩; replace HZ := Lib.hid (HZ.out.next hb); clear hb la lb lc))
  go_ret
  exact ⟨rfl, HZ.out.below⟩
end Go.Proofs.YtpndccoikhejgaaDoor
namespace Go.Proofs.YtpndccoikhejgaaDoor
open Go.RowKit Go.Great
set_option linter.unusedVariables false
set_option maxRecDepth 100000

theorem sizeO (n : Nat) (h : n = 37) : (Tryd.prog.info? 29).map (·.size) = some n := by rw [h]; kernel_rfl
def readRg (p : Value) : Sem Value := Instr.loadAt 29 p
theorem read_rg (p : Value) : Instr.loadAt 29 p = readRg p := rfl
theorem rough_all {w : World} {g : Nat} {t : TypeId} {s : Int} {r : List Int} {i m : Int} {u : ByteArray} {A : Option Addr} {n c : Nat} (h : Row w g t (roughV s r i u m A n c)) (hr : r.length = 32) : (readRg (.pointer (some ⟨g, 0, none⟩))).run Tryd.prog w = .ok (.agg (roughV s r i u m A n c)) w := by
  have e := run_loadAt_mid (P := Tryd.prog) w g 0 29 (roughV s r i u m A n c).toList _ (h.rangeAt 0 _ (fun j v hv => by rw [Nat.zero_add, ← Array.getElem?_toList]; exact hv)) Tryd.underlying29 rfl (sizeO _ (by rw [Array.length_toList]; exact roughV_size s r i u m A n c hr))
  rw [Array.toArray_toList] at e
  exact e
theorem headS_bounds (x : Sh) (hf : x.fits) (ho : x.ok) : 16384 < (headS x).size ∧ (headS x).size ≤ 20000 := by
  obtain ⟨sn, hsn⟩ : ∃ sn : Nat, x.size = (sn : Int) := ⟨x.size.toNat, by have := ho.1; omega⟩
  obtain ⟨kn, hkn⟩ : ∃ kn : Nat, x.index = (kn : Int) := ⟨x.index.toNat, by have := ho.2.1; omega⟩
  have hs1 : sn ≤ 4096 := by have := ho.1; omega
  have hk1 : kn ≤ 7 := by have := ho.2.1; omega
  have hz := ho.2.2.1
  have hp3 := ho.2.2.2
  have z1 : (numS sn).size ≤ 10 := numS_size sn (by omega)
  have z2 : (strOfNums x.root).size = 32 := by rw [strOfNums_size]; exact hf.1.1
  have z3 : (numS kn).size ≤ 10 := numS_size kn (by omega)
  have z4 : (textS x.sig).size ≤ 16394 ∧ 16384 ≤ (textS x.sig).size := by unfold textS; rw [ByteArray.size_append, hz]; have := numS_size 16384 (by decide); omega
  have z5 : (listS x.path).size ≤ 106 ∧ 32 ≤ (listS x.path).size := by
    rw [listS_is x.path (by omega), ByteArray.size_append, strOfNums_size, flat_length hf.2, hp3]
    have := numS_size 3 (by decide); omega
  unfold headS
  rw [hsn, hkn]
  simp only [ByteArray.size_append, Int.toNat_natCast]
  omega
/-- What a statement of one rough head holds. -/
structure KoH (w : World) (C : Array Value) (A : Option Addr) (xs : List (List Int)) (W : World) : Prop where
  row : Row W w.heap.size 29 C
  lst : HW W A xs
  tab : Tab W
  below : Below w.heap.size w W
theorem KoH.next {w W W1 : World} {C : Array Value} {A : Option Addr} {xs : List (List Int)} (h : KoH w C A xs W) (hb : Below W.heap.size W W1) : KoH w C A xs W1 := ⟨h.row.next hb, h.lst.next hb, h.tab.next hb, below_new h.below hb⟩
theorem KoH.start {w : World} (C : Array Value) {A : Option Addr} {xs : List (List Int)} (hA : HW w A xs) (hT : Tab w) : KoH w C A xs (w.alloc (.cells C 29)) :=
  have hb := (Below.refl w.heap.size w).alloc (Nat.le_refl _) (.cells C 29)
  ⟨Row.made _ _ _, hA.next hb, hT.next hb, hb⟩
theorem front_le {T : ByteArray} {N : Nat} (q a : Nat) (h : T.size ≤ N) : (T.extract a q).size ≤ N := by
  rw [ByteArray.size_extract]
  exact Nat.le_trans (Nat.sub_le _ _) (Nat.le_trans (Nat.min_le_right _ _) h)
theorem rem_nat (n m : Nat) : (n : Int).tmod (m : Int) = ((n % m : Nat) : Int) := by rw [Int.tmod_eq_emod_of_nonneg (by omega)]; exact (Int.natCast_emod n m).symm
theorem text_eq_no {a b : ByteArray} (h : ¬ a = b) : (a.toList == b.toList) = false := by
  simp only [beq_eq_false_iff_ne]
  exact fun e => h (text_of_list e)
theorem text_eq_yes {a b : ByteArray} (h : a = b) : (a.toList == b.toList) = true := by rw [h]; exact beq_self_eq_true _
theorem wpList_builtG0 {ops : Array Oper} {rest : List Oper} {o : Oper} {a : Act} {w : World} {Q : Exit → Act → World → Prop} {T : TypeId} {cells : Array Value} (hw : Region.wanted o (yielded ops a.tmps) = true) (ho : o.op = .build T #[]) (h : Tryd.prog.built T [] = some cells) (hk : wpList Tryd.prog ops Q rest (a.put o.dst (.agg cells)) w) : wpList Tryd.prog ops Q (o :: rest) a w :=
  wpList_builtG hw ho (by
    have e : ((#[] : Array (Nat × Operand)).map fun (i, x) => (i, a.eval x)).toList = [] := by simp
    rw [e]; exact h) hk
end Go.Proofs.YtpndccoikhejgaaDoor
namespace Go.Proofs.YtpndccoikhejgaaDoor
open Go.ChangeShapes Go.WideShapes Go.ChangeAt Go.RowKit
set_option linter.unusedVariables false
set_option maxRecDepth 100000

theorem laidOut : laidOutB Tryd.prog = true := by kernel_rfl
theorem own : ownKnob Tryd.prog.godebug = none := by kernel_rfl
theorem gStart : Tryd.prog.globalNamed "speculum/sha.start" = some 0 := by kernel_rfl
theorem gRounds : Tryd.prog.globalNamed "speculum/sha.rounds" = some 1 := by kernel_rfl
theorem tStart : (Tryd.prog.globals[0]?).map (·.type) = some 93 := by kernel_rfl
theorem tRounds : (Tryd.prog.globals[1]?).map (·.type) = some 96 := by kernel_rfl
theorem cW : Tryd.prog.cellsOf 91 = 1 := by kernel_rfl
theorem c8 : Tryd.prog.cellsOf 93 = 8 := by kernel_rfl
theorem c64 : Tryd.prog.cellsOf 96 = 64 := by kernel_rfl
theorem cHash : Tryd.prog.cellsOf 23 = 32 := by kernel_rfl
theorem cByte : Tryd.prog.cellsOf 5 = 1 := by kernel_rfl
def laid2 : List (String × DataW Unit) := [("speculum/sha.start", Rows.laid_speculum_sha_start), ("speculum/sha.rounds", Rows.laid_speculum_sha_rounds)]
theorem door_met (os : Os) (args : Array Value) : laidMetH Tryd.prog laid2 ((World.doorLaid Tryd.prog 400 os).forCall (fun _ _ => 0) ⟨#[], args, []⟩).memory :=
  laidMetH_of_parts3 (fuel := 8) (laidMet_of_run' 8 (by kernel_rfl) (by kernel_rfl)) (by kernel_rfl) (by kernel_rfl)
theorem tab_of_reads {W : World} {name : String} {zs : List Int} {d : DataW Unit} {g : Nat} {t : TypeId} {n : Nat} (hv : Lib.VarReads Tryd.prog W name d) (hd : d = Lib.tabData .u32 zs)
    (hg : Tryd.prog.globalNamed name = some g) (hty : (Tryd.prog.globals[g]?).map (·.type) = some t) (ht : Tryd.prog.underlying t = some (.array n 91)) (hct : Tryd.prog.cellsOf t = n) : Lib.TabIs Tryd.prog W name .u32 zs := by
  obtain ⟨g', t', cs, fuel, p, hg', ht', hvar, hr⟩ := hv
  obtain rfl := Option.some.inj (hg.symm.trans hg')
  obtain rfl := Option.some.inj (hty.symm.trans ht')
  subst hd
  unfold Lib.TabIs
  rw [hvar, ← Lib.cells_of_tab ht Tryd.underlying91 cW hct hr]
theorem of_laid {W : World} (h : laidMetH Tryd.prog laid2 W) : Tab W := by
  rw [MakeChecks.laidMetH_plain _ _ _ (by kernel_rfl)] at h
  have v1 := Lib.laidMet.reads h (show ("speculum/sha.start", Rows.laid_speculum_sha_start) ∈ laid2 by simp [laid2])
  have v2 := Lib.laidMet.reads h (show ("speculum/sha.rounds", Rows.laid_speculum_sha_rounds) ∈ laid2 by simp [laid2])
  have t1 := tab_of_reads (zs := Hs.list) v1 rfl gStart tStart Tryd.underlying93 c8
  have t2 := tab_of_reads (zs := Ks) v2 rfl gRounds tRounds Tryd.underlying96 c64
  exact ⟨fun i hi => t2.cell gRounds i hi, fun i hi => t1.cell gStart i hi⟩
theorem of_one (l : List Value) (i : Nat) (v : Value) (h : (l.drop i).take 1 = [v]) : l[i]? = some v := by
  have := congrArg (fun x => x[0]?) h
  simpa [List.getElem?_take, List.getElem?_drop] using this
def numOf : Option Value → Int
  | some (.int _ k) => k
  | _ => 0
/-- A hash, opened. -/
theorem open_hash {H : Type} {enc : TypeId × Value → H} {W : World} {base b0 : Nat} {sp : Nat → Bool} {v : Value} {d : DataW H} {ps : List MemPlace}
    (hval : Value.okWide Tryd.prog W .any b0 23 v) (h : DataW.Trod enc Tryd.prog W base sp true 23 v d ps) :
    ∃ l : List Int, v = .agg (nums .u8 l) ∧ l.length = 32 ∧ bytes l := by
  obtain ⟨cs, rfl, hsz⟩ : ∃ cs, v = .agg cs ∧ cs.size = Tryd.prog.cellsOf 23 := by
    have := hval
    simp [Value.okWide, Tryd.underlying23] at this
    obtain ⟨cs, h1, h2, _⟩ := this
    exact ⟨cs, h1, h2⟩
  rw [cHash] at hsz
  obtain ⟨fuel, hf⟩ := h
  obtain ⟨xs, m, _, _, _, hl, hx⟩ := DataW.trod_array Tryd.underlying23 hf
  have key : ∀ i, i < 32 → ∃ k : Int, cs[i]? = some (.int .u8 k) ∧ 0 ≤ k ∧ k < 256 := fun i hi => by
    have e0 := hx i hi
    rw [List.getElem?_eq_getElem (show i < xs.length by omega)] at e0
    obtain ⟨k, hk, _, wk⟩ := DataW.trod_int Tryd.underlying5 e0
    have b := bounds_u8 wk
    simp only [cByte, Value.cells, Nat.mul_one] at hk
    have h1 := of_one cs.toList i _ hk
    exact ⟨k, by simpa using h1, b.1, by omega⟩
  refine ⟨(List.range 32).map fun i => numOf cs[i]?, ?_, by simp, ?_⟩
  · congr 1
    apply Array.ext_getElem?
    intro i
    by_cases hi : i < 32
    · obtain ⟨k, hk, _⟩ := key i hi
      rw [nums_get .u8 _ i (by simpa using hi), hk]
      have e : ((List.range 32).map fun i => numOf cs[i]?).getD i 0 = k := by simp [List.getD, hi, hk, numOf]
      rw [e]
    · rw [Array.getElem?_eq_none (by omega), Array.getElem?_eq_none (by rw [nums_size]; simp; omega)]
  · intro x hxm
    obtain ⟨i, hi, rfl⟩ := List.mem_map.1 hxm
    obtain ⟨k, hk, b1, b2⟩ := key i (by simpa using hi)
    rw [hk]
    exact ⟨b1, b2⟩
end Go.Proofs.YtpndccoikhejgaaDoor
namespace Go.Proofs.YtpndccoikhejgaaDoor
open Go.ChangeShapes Go.WideShapes Go.ChangeAt Go.RowKit
set_option linter.unusedVariables false
set_option maxRecDepth 100000

/-- A hash's cells, opened. -/
theorem hash_cells {H : Type} {enc : TypeId × Value → H} {W : World} {base : Nat} {sp : Nat → Bool} {fuel : Nat} {cs : List Value} {x : DataW H × List MemPlace}
    (h : DataW.trod enc Tryd.prog W base sp true fuel 23 cs = some x) (hl : cs.length = 32) :
    ∃ l : List Int, l.length = 32 ∧ (∀ y ∈ l, 0 ≤ y ∧ y < 256) ∧ ∀ j, j < 32 → cs[j]? = some (.int .u8 (l.getD j 0)) := by
  obtain ⟨xs, m, _, _, _, hxl, hx⟩ := DataW.trod_array Tryd.underlying23 h
  have key : ∀ i, i < 32 → ∃ k : Int, cs[i]? = some (.int .u8 k) ∧ 0 ≤ k ∧ k < 256 := fun i hi => by
    have e0 := hx i hi
    rw [List.getElem?_eq_getElem (show i < xs.length by omega)] at e0
    obtain ⟨k, hk, _, wk⟩ := DataW.trod_int Tryd.underlying5 e0
    have b := bounds_u8 wk
    simp only [cByte, Nat.mul_one] at hk
    exact ⟨k, of_one cs i _ hk, b.1, by omega⟩
  refine ⟨(List.range 32).map fun i => numOf cs[i]?, by simp, ?_, fun j hj => ?_⟩
  · intro y hy
    obtain ⟨i, hi, rfl⟩ := List.mem_map.1 hy
    obtain ⟨k, hk, b1, b2⟩ := key i (by simpa using hi)
    rw [hk]
    exact ⟨b1, b2⟩
  · obtain ⟨k, hk, _⟩ := key j hj
    have e : ((List.range 32).map fun i => numOf cs[i]?).getD j 0 = k := by simp [List.getD, hj, hk, numOf]
    rw [e, hk]
/-- A list of hashes, opened. -/
theorem open_list {H : Type} {enc : TypeId × Value → H} {W : World} {base b0 : Nat} {sp : Nat → Bool} {v : Value} {d : DataW H} {ps : List MemPlace}
    (hval : Value.okWide Tryd.prog W .any b0 27 v) (h : DataW.Trod enc Tryd.prog W base sp true 27 v d ps) :
    ∃ A c ls, v = .slice A ls.length c ∧ hashes ls ∧ HL W W.heap.size A ls ∧ ls.length ≤ c ∧ c ≤ maxLen := by
  obtain ⟨A, len, cap, rfl⟩ := okWide_slice Tryd.underlying27 hval
  obtain ⟨fuel, hf⟩ := h
  rcases DataW.trod_slice Tryd.underlying27 hf with ⟨hcs, hx⟩ | ⟨a, len', cap', elems, rest, n, _, hcs, hx, hb, hl, hm, hlen, hel, _⟩
  · simp [Value.cells] at hcs
    obtain ⟨rfl, rfl, rfl⟩ := hcs
    exact ⟨none, 0, [], rfl, fun l h => by (cases h), HL.nil _ _ _, Nat.le_refl _, by simp⟩
  · simp [Value.cells] at hcs
    obtain ⟨rfl, rfl, rfl⟩ := hcs
    have each : ∀ i, i < len → ∃ l : List Int, l.length = 32 ∧ (∀ y ∈ l, 0 ≤ y ∧ y < 256) ∧ ∀ j, j < 32 → W.cell? (a.add (i * 32 + j)) = some (.int .u8 (l.getD j 0)) := fun i hi => by
      have e0 := hel i hi
      rw [List.getElem?_eq_getElem (show i < elems.length by omega), Option.bind_eq_some_iff, cHash] at e0
      obtain ⟨cs, hc, ht⟩ := e0
      obtain ⟨_, hcl, hcc⟩ := World.cells?_some hc
      obtain ⟨l, h1, h2, h3⟩ := hash_cells ht hcl
      refine ⟨l, h1, h2, fun j hj => ?_⟩
      rw [← add_of_add, hcc j hj]
      exact h3 j hj
    have hex : ∃ f : Nat → List Int, ∀ i, i < len → (f i).length = 32 ∧ (∀ y ∈ f i, 0 ≤ y ∧ y < 256) ∧ ∀ j, j < 32 → W.cell? (a.add (i * 32 + j)) = some (.int .u8 ((f i).getD j 0)) :=
      ⟨fun i => if h : i < len then (each i h).choose else [], fun i hi => by simp only [dif_pos hi]; exact (each i hi).choose_spec⟩
    obtain ⟨f, hf⟩ := hex
    have hll : ((List.range len).map f).length = len := by simp
    refine ⟨some a, cap, (List.range len).map f, by rw [hll], fun l hl' => ?_, fun i hi => ?_, by rw [hll]; omega, by omega⟩
    · obtain ⟨i, hi, rfl⟩ := List.mem_map.1 hl'
      have := hf i (by simpa using hi)
      exact ⟨this.1, this.2.1⟩
    · rw [hll] at hi
      have hfi := hf i hi
      have e : ((List.range len).map f).getD i [] = f i := by simp [List.getD, hi]
      refine ⟨a, rfl, ?_, fun j hj => ?_⟩
      · have := block_lt_of_cell (hfi.2.2 0 (by omega))
        rwa [block_of_add] at this
      · rw [e]; exact hfi.2.2 j hj
end Go.Proofs.YtpndccoikhejgaaDoor
namespace Go.Proofs.YtpndccoikhejgaaDoor
open Go.ChangeShapes Go.WideShapes Go.ChangeAt Go.RowKit
set_option linter.unusedVariables false
set_option maxRecDepth 100000

/-- An array of numbers, opened. -/
theorem open_nums {ty elem : TypeId} {k : IntKind} {n : Nat} (hu : Tryd.prog.underlying ty = some (.array n elem)) (he : Tryd.prog.underlying elem = some (.int k)) (hc : Tryd.prog.cellsOf ty = n) (hce : Tryd.prog.cellsOf elem = 1)
    {H : Type} {enc : TypeId × Value → H} {W : World} {base b0 : Nat} {sp : Nat → Bool} {v : Value} {d : DataW H} {ps : List MemPlace}
    (hval : Value.okWide Tryd.prog W .any b0 ty v) (h : DataW.Trod enc Tryd.prog W base sp true ty v d ps) :
    ∃ l : List Int, v = .agg (nums k l) ∧ l.length = n ∧ ∀ x ∈ l, (Lit.int k x).wf = true := by
  obtain ⟨cs, rfl, hsz⟩ : ∃ cs, v = .agg cs ∧ cs.size = Tryd.prog.cellsOf ty := by
    have := hval
    simp [Value.okWide, hu] at this
    obtain ⟨cs, h1, h2, _⟩ := this
    exact ⟨cs, h1, h2⟩
  rw [hc] at hsz
  obtain ⟨fuel, hf⟩ := h
  obtain ⟨xs, m, _, _, _, hl, hx⟩ := DataW.trod_array hu hf
  have key : ∀ i, i < n → ∃ y : Int, cs[i]? = some (.int k y) ∧ (Lit.int k y).wf = true := fun i hi => by
    have e0 := hx i hi
    rw [List.getElem?_eq_getElem (show i < xs.length by omega)] at e0
    obtain ⟨y, hk, _, wk⟩ := DataW.trod_int he e0
    simp only [hce, Value.cells, Nat.mul_one] at hk
    have h1 := of_one cs.toList i _ hk
    exact ⟨y, by simpa using h1, wk⟩
  refine ⟨(List.range n).map fun i => numOf cs[i]?, ?_, by simp, ?_⟩
  · congr 1
    apply Array.ext_getElem?
    intro i
    by_cases hi : i < n
    · obtain ⟨y, hk, _⟩ := key i hi
      rw [nums_get k _ i (by simpa using hi), hk]
      have e : ((List.range n).map fun i => numOf cs[i]?).getD i 0 = y := by simp [List.getD, hi, hk, numOf]
      rw [e]
    · rw [Array.getElem?_eq_none (by omega), Array.getElem?_eq_none (by rw [nums_size]; simp; omega)]
  · intro x hxm
    obtain ⟨i, hi, rfl⟩ := List.mem_map.1 hxm
    obtain ⟨y, hk, b1⟩ := key i (by simpa using hi)
    rw [hk]
    exact b1
theorem of_three {l : List Int} (h : l.length = 3) : ∃ a b c, l = [a, b, c] := by
  match l, h with
  | [a, b, c], _ => exact ⟨a, b, c, rfl⟩
theorem of_six {l : List Int} (h : l.length = 6) : ∃ a b c d e f, l = [a, b, c, d, e, f] := by
  match l, h with
  | [a, b, c, d, e, f], _ => exact ⟨a, b, c, d, e, f, rfl⟩
end Go.Proofs.YtpndccoikhejgaaDoor
namespace Go.Proofs.YtpndccoikhejgaaDoor
open Go.ChangeShapes Go.WideShapes Go.ChangeAt Go.RowKit
set_option linter.unusedVariables false
set_option maxRecDepth 100000

theorem cRough : Tryd.prog.cellsOf 29 = 37 := by kernel_rfl
theorem cHeadR : Tryd.prog.cellsOf 25 = 33 := by kernel_rfl
theorem cIntR : Tryd.prog.cellsOf 3 = 1 := by kernel_rfl
theorem cI8R : Tryd.prog.cellsOf 26 = 1 := by kernel_rfl
theorem cStrR : Tryd.prog.cellsOf 9 = 1 := by kernel_rfl
theorem cListR : Tryd.prog.cellsOf 27 = 1 := by kernel_rfl
/-- A list's one cell, opened. -/
theorem list_cellR {H : Type} {enc : TypeId × Value → H} {W : World} {base fuel : Nat} {sp : Nat → Bool} {cs : List Value} {x : DataW H × List MemPlace}
    (hf : DataW.trod enc Tryd.prog W base sp true fuel 27 cs = some x) :
    ∃ A c ls, cs = [.slice A ls.length c] ∧ hashes ls ∧ HL W W.heap.size A ls ∧ ls.length ≤ c ∧ c ≤ maxLen := by
  rcases DataW.trod_slice Tryd.underlying27 hf with ⟨hcs, hx⟩ | ⟨a, len, cap, elems, rest, n, _, hcs, hx, hb, hl, hm, hlen, hel, _⟩
  · exact ⟨none, 0, [], hcs, fun l h => by (cases h), HL.nil _ _ _, Nat.le_refl _, by simp⟩
  · have each : ∀ i, i < len → ∃ l : List Int, l.length = 32 ∧ (∀ y ∈ l, 0 ≤ y ∧ y < 256) ∧ ∀ j, j < 32 → W.cell? (a.add (i * 32 + j)) = some (.int .u8 (l.getD j 0)) := fun i hi => by
      have e0 := hel i hi
      rw [List.getElem?_eq_getElem (show i < elems.length by omega), Option.bind_eq_some_iff, cHash] at e0
      obtain ⟨cs, hc, ht⟩ := e0
      obtain ⟨_, hcl, hcc⟩ := World.cells?_some hc
      obtain ⟨l, h1, h2, h3⟩ := hash_cells ht hcl
      refine ⟨l, h1, h2, fun j hj => ?_⟩
      rw [← add_of_add, hcc j hj]
      exact h3 j hj
    have hex : ∃ f : Nat → List Int, ∀ i, i < len → (f i).length = 32 ∧ (∀ y ∈ f i, 0 ≤ y ∧ y < 256) ∧ ∀ j, j < 32 → W.cell? (a.add (i * 32 + j)) = some (.int .u8 ((f i).getD j 0)) :=
      ⟨fun i => if h : i < len then (each i h).choose else [], fun i hi => by simp only [dif_pos hi]; exact (each i hi).choose_spec⟩
    obtain ⟨f, hf⟩ := hex
    have hll : ((List.range len).map f).length = len := by simp
    refine ⟨some a, cap, (List.range len).map f, by rw [hll]; exact hcs, fun l hl' => ?_, fun i hi => ?_, by rw [hll]; omega, by omega⟩
    · obtain ⟨i, hi, rfl⟩ := List.mem_map.1 hl'
      have := hf i (by simpa using hi)
      exact ⟨this.1, this.2.1⟩
    · rw [hll] at hi
      have hfi := hf i hi
      have e : ((List.range len).map f).getD i [] = f i := by simp [List.getD, hi]
      refine ⟨a, rfl, ?_, fun j hj => ?_⟩
      · have := block_lt_of_cell (hfi.2.2 0 (by omega))
        rwa [block_of_add] at this
      · rw [e]; exact hfi.2.2 j hj
/-- A head's cells, opened. -/
theorem head_cellsR {H : Type} {enc : TypeId × Value → H} {W : World} {base fuel : Nat} {sp : Nat → Bool} {cs : List Value} {x : DataW H × List MemPlace}
    (hf : DataW.trod enc Tryd.prog W base sp true fuel 25 cs = some x) (hz : cs.length = 33) :
    ∃ (s : Int) (r : List Int), num64 s ∧ r.length = 32 ∧ bytes r ∧ ∀ k, k < 33 → cs[k]? = (headV s r)[k]? := by
  obtain ⟨xs, m, _, _, _, hl, hx⟩ := DataW.trod_struct Tryd.underlying25 hf
  have hl2 : xs.length = 2 := hl
  have e0 : DataW.trod enc Tryd.prog W base sp true m 3 ((cs.drop 0).take (Tryd.prog.cellsOf 3)) = xs[0]? := hx 0 _ rfl
  have e1 : DataW.trod enc Tryd.prog W base sp true m 23 ((cs.drop 1).take (Tryd.prog.cellsOf 23)) = xs[1]? := hx 1 _ rfl
  rw [List.getElem?_eq_getElem (show 0 < xs.length by omega)] at e0
  rw [List.getElem?_eq_getElem (show 1 < xs.length by omega)] at e1
  rw [cIntR] at e0
  rw [cHash] at e1
  obtain ⟨s, hs, _, ws⟩ := DataW.trod_int Tryd.underlying3 e0
  obtain ⟨r, h1, h2, h3⟩ := hash_cells e1 (by rw [List.length_take, List.length_drop, hz]; decide)
  have bs := bounds_i64 ws
  refine ⟨s, r, by unfold num64; omega, h1, h2, fun k hk => ?_⟩
  have f0 := of_one cs 0 _ hs
  by_cases k0 : k = 0
  · subst k0; rw [f0, headV_get0]
  · obtain ⟨j, rfl⟩ : ∃ j, k = 1 + j := ⟨k - 1, by omega⟩
    rw [headV_get s r h1 j (by omega), ← h3 j (by omega), List.getElem?_take, if_pos (by omega), List.getElem?_drop]
/-- A head, opened. -/
theorem open_head {H : Type} {enc : TypeId × Value → H} {W : World} {base b0 : Nat} {sp : Nat → Bool} {v : Value} {d : DataW H} {ps : List MemPlace}
    (hval : Value.okWide Tryd.prog W .any b0 25 v) (h : DataW.Trod enc Tryd.prog W base sp true 25 v d ps) :
    ∃ (s : Int) (r : List Int), v = .agg (headV s r) ∧ num64 s ∧ r.length = 32 ∧ bytes r := by
  obtain ⟨cs, rfl, hsz⟩ := okWide_struct Tryd.underlying25 hval
  rw [cHeadR] at hsz
  obtain ⟨fuel, hf⟩ := h
  obtain ⟨s, r, h1, h2, h3, h4⟩ := head_cellsR (cs := cs.toList) hf (by rw [Array.length_toList]; exact hsz)
  refine ⟨s, r, ?_, h1, h2, h3⟩
  refine congrArg Value.agg ?_
  apply Array.ext_getElem?
  intro k
  by_cases hk : k < 33
  · rw [← h4 k hk, Array.getElem?_toList]
  · rw [Array.getElem?_eq_none (by omega), Array.getElem?_eq_none (by rw [headV_size s r h2]; omega)]
/-- A rough head, opened. -/
theorem open_rough {H : Type} {enc : TypeId × Value → H} {W : World} {base b0 : Nat} {sp : Nat → Bool} {v : Value} {d : DataW H} {ps : List MemPlace}
    (hval : Value.okWide Tryd.prog W .any b0 29 v) (h : DataW.Trod enc Tryd.prog W base sp true 29 v d ps) :
    ∃ (s : Int) (r : List Int) (i : Int) (t : ByteArray) (m : Int) (A : Option Addr) (c : Nat) (hs : List (List Int)), v = .agg (roughV s r i t m A hs.length c) ∧ num64 s ∧ (r.length = 32 ∧ bytes r) ∧ num64 i ∧ t.size ≤ maxLen ∧ (-128 ≤ m ∧ m ≤ 127) ∧ hashes hs ∧ HL W W.heap.size A hs ∧ hs.length ≤ c ∧ c ≤ maxLen := by
  obtain ⟨cs, rfl, hsz⟩ := okWide_struct Tryd.underlying29 hval
  rw [cRough] at hsz
  obtain ⟨fuel, hf⟩ := h
  obtain ⟨xs, m, _, _, _, hl, hx⟩ := DataW.trod_struct Tryd.underlying29 hf
  have hl5 : xs.length = 5 := hl
  have e0 : DataW.trod enc Tryd.prog W base sp true m 25 ((cs.toList.drop 0).take (Tryd.prog.cellsOf 25)) = xs[0]? := hx 0 _ rfl
  have e1 : DataW.trod enc Tryd.prog W base sp true m 3 ((cs.toList.drop 33).take (Tryd.prog.cellsOf 3)) = xs[1]? := hx 1 _ rfl
  have e2 : DataW.trod enc Tryd.prog W base sp true m 9 ((cs.toList.drop 34).take (Tryd.prog.cellsOf 9)) = xs[2]? := hx 2 _ rfl
  have e3 : DataW.trod enc Tryd.prog W base sp true m 26 ((cs.toList.drop 35).take (Tryd.prog.cellsOf 26)) = xs[3]? := hx 3 _ rfl
  have e4 : DataW.trod enc Tryd.prog W base sp true m 27 ((cs.toList.drop 36).take (Tryd.prog.cellsOf 27)) = xs[4]? := hx 4 _ rfl
  rw [List.getElem?_eq_getElem (show 0 < xs.length by omega), cHeadR] at e0
  rw [List.getElem?_eq_getElem (show 1 < xs.length by omega), cIntR] at e1
  rw [List.getElem?_eq_getElem (show 2 < xs.length by omega), cStrR] at e2
  rw [List.getElem?_eq_getElem (show 3 < xs.length by omega), cI8R] at e3
  rw [List.getElem?_eq_getElem (show 4 < xs.length by omega), cListR] at e4
  obtain ⟨s, r, a1, a2, a3, a4⟩ := head_cellsR e0 (by rw [List.length_take, List.length_drop, Array.length_toList, hsz]; decide)
  obtain ⟨i, hi, _, wi⟩ := DataW.trod_int Tryd.underlying3 e1
  obtain ⟨t, ht, _, zt⟩ := DataW.trod_string Tryd.underlying9 e2
  obtain ⟨y, hy, _, wy⟩ := DataW.trod_int Tryd.underlying26 e3
  obtain ⟨A, c, hs, hA, h1, h2, h3, h4⟩ := list_cellR e4
  have bi := bounds_i64 wi
  have by_ := bounds_i8 wy
  refine ⟨s, r, i, t, y, A, c, hs, ?_, a1, ⟨a2, a3⟩, by unfold num64; omega, zt, by_, h1, h2, h3, h4⟩
  refine congrArg Value.agg ?_
  apply Array.ext_getElem?
  intro k
  have f1 := of_one cs.toList 33 _ hi
  have f2 := of_one cs.toList 34 _ ht
  have f3 := of_one cs.toList 35 _ hy
  have f4 := of_one cs.toList 36 _ hA
  rw [Array.getElem?_toList] at f1 f2 f3 f4
  by_cases hk : k < 33
  · have := a4 k hk
    rw [List.getElem?_take, if_pos hk, List.getElem?_drop, Nat.zero_add, Array.getElem?_toList] at this
    rw [this, roughV_low s r i t y A hs.length c a2 k hk]
  · by_cases hk2 : k < 37
    · obtain ⟨j, rfl⟩ : ∃ j, k = 33 + j := ⟨k - 33, by omega⟩
      rw [roughV_high s r i t y A hs.length c a2 j]
      match j with
      | 0 => rw [f1]; rfl
      | 1 => rw [f2]; rfl
      | 2 => rw [f3]; rfl
      | 3 => rw [f4]; rfl
      | j + 4 => omega
    · rw [Array.getElem?_eq_none (by omega), Array.getElem?_eq_none (by rw [roughV_size s r i t y A hs.length c a2]; omega)]
end Go.Proofs.YtpndccoikhejgaaDoor
namespace Go.Proofs.YtpndccoikhejgaaDoor
open Go.RowKit
set_option linter.unusedVariables false
set_option maxRecDepth 100000

/-- A number brought within an int. -/
def clampI (n : Nat) : Int := if n ≤ 9223372036854775807 then (n : Int) else 9223372036854775807
theorem clampI_le (n : Nat) : 0 ≤ clampI n ∧ clampI n ≤ 9223372036854775807 := by unfold clampI; split <;> omega
theorem clampI_small (n : Nat) (m : Int) (hm : m < 9223372036854775807) (h : clampI n ≤ m) : clampI n = (n : Int) := by unfold clampI at h ⊢; split <;> (rename_i h1; first | rfl | (rw [if_neg h1] at h; omega))
theorem clampI_is (n : Nat) (m : Int) (hm : m < 9223372036854775807) : clampI n ≤ m ↔ (n : Int) ≤ m := by unfold clampI; split <;> omega
theorem rdN_empty : rdN ⟨#[]⟩ = none := by unfold rdN; rfl
theorem rdH_empty : rdH ⟨#[]⟩ = none := by unfold rdH; rfl
theorem rdT_empty : rdT ⟨#[]⟩ = none := by unfold rdT; rfl
theorem rdL_empty : rdL ⟨#[]⟩ = none := by unfold rdL; rfl
theorem numO_empty : numO ⟨#[]⟩ = false := by unfold numO; rw [rdN_empty]; rfl
theorem hashO_empty : hashO ⟨#[]⟩ = false := by unfold hashO; rw [rdH_empty]; rfl
theorem cutO_empty : cutO ⟨#[]⟩ = false := by unfold cutO; rw [rdT_empty]; rfl
theorem unhsO_empty : unhsO ⟨#[]⟩ = false := by
  have h := rdL_is ⟨#[]⟩
  rw [rdL_empty] at h
  cases h1 : unhsO ⟨#[]⟩
  · rfl
  · rw [h1] at h; cases h
theorem numB_no {s : ByteArray} (h : ¬ numO s = true) : numB s = ⟨#[]⟩ := by
  unfold numO at h; unfold numB
  cases h1 : rdN s
  · rfl
  · rw [h1] at h; exact absurd rfl h
theorem hashB_no {s : ByteArray} (h : ¬ hashO s = true) : hashB s = ⟨#[]⟩ := by
  unfold hashO at h; unfold hashB
  cases h1 : rdH s
  · rfl
  · rw [h1] at h; exact absurd rfl h
theorem cutB_no {s : ByteArray} (h : ¬ cutO s = true) : cutB s = ⟨#[]⟩ := by
  unfold cutO at h; unfold cutB
  cases h1 : rdT s
  · rfl
  · rw [h1] at h; exact absurd rfl h
/-- Of nothing nothing is read: whether the last part is read tells of all. -/
theorem last_all (s : ByteArray) (h : unhsO (rest4 s) = true) : allO s := by
  have e4 : cutO (rest3 s) = true := Classical.byContradiction fun hn => by
    rw [show rest4 s = cutB (rest3 s) from rfl, cutB_no hn, unhsO_empty] at h; cases h
  have e3 : numO (rest2 s) = true := Classical.byContradiction fun hn => by
    rw [show rest3 s = numB (rest2 s) from rfl, numB_no hn, cutO_empty] at e4; cases e4
  have e2 : hashO (rest1 s) = true := Classical.byContradiction fun hn => by
    rw [show rest2 s = hashB (rest1 s) from rfl, hashB_no hn, numO_empty] at e3; cases e3
  have e1 : numO s = true := Classical.byContradiction fun hn => by
    rw [show rest1 s = numB s from rfl, numB_no hn, hashO_empty] at e2; cases e2
  exact ⟨e1, e2, e3, e4, h⟩
/-- The head that the program's read tells. -/
def toldG (s : ByteArray) : Sh := ⟨clampI (numA s), hashA (rest1 s), clampI (numA (rest2 s)), cutA (rest3 s), unhsL (rest4 s)⟩
theorem toldG_fits (s : ByteArray) : (toldG s).fits := ⟨hashA_is _, unhsL_hashes _⟩
theorem toldG_ok (s : ByteArray) : (toldG s).ok ↔ (toldF s).ok := by
  have h1 := clampI_is (numA s) 4096 (by omega)
  have h2 := clampI_is (numA (rest2 s)) 7 (by omega)
  have h3 := clampI_le (numA s)
  have h4 := clampI_le (numA (rest2 s))
  constructor
  · rintro ⟨⟨_, a⟩, ⟨_, b⟩, c, d⟩
    exact ⟨⟨by show (0 : Int) ≤ (numA s : Int); omega, h1.1 a⟩, ⟨by show (0 : Int) ≤ (numA (rest2 s) : Int); omega, h2.1 b⟩, c, d⟩
  · rintro ⟨⟨_, a⟩, ⟨_, b⟩, c, d⟩
    exact ⟨⟨h3.1, h1.2 a⟩, ⟨h4.1, h2.2 b⟩, c, d⟩
theorem toldG_is (s : ByteArray) (h : (toldG s).ok) : toldG s = toldF s :=
  Sh.ext' (clampI_small _ 4096 (by omega) h.1.2) rfl (clampI_small _ 7 (by omega) h.2.1.2) rfl rfl
/-- Get, as the program does it. -/
theorem getG_yes (s : ByteArray) (h : unhsO (rest4 s) = true) (hr : unhsT (rest4 s) = ⟨#[]⟩) (ho : (toldG s).ok) : getF s = some (toldG s) := by
  unfold getF
  rw [parse_yes s (last_all s h)]
  simp only
  rw [if_pos ⟨by rw [hr]; rfl, (toldG_ok s).1 ho⟩, toldG_is s ho]
theorem getG_no (s : ByteArray) (h : ¬ unhsO (rest4 s) = true) : getF s = none := get_no s (fun ha => h ha.2.2.2.2)
theorem getG_rest (s : ByteArray) (hr : ¬ unhsT (rest4 s) = ⟨#[]⟩) : getF s = none := by
  unfold getF
  by_cases ha : allO s
  · rw [parse_yes s ha]
    simp only
    rw [if_neg (fun hc => hr (empty_of_size hc.1))]
  · rw [parse_no s ha]
theorem getG_bad (s : ByteArray) (ho : ¬ (toldG s).ok) : getF s = none := get_bad s (fun h => ho ((toldG_ok s).2 h))
end Go.Proofs.YtpndccoikhejgaaDoor
