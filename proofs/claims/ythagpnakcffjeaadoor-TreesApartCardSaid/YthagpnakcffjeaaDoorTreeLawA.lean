/-
  The walk of the statement TreesApart, for 1 to 60 leaves: it returns true; what it makes is new memory, nothing that was there changes. Conditions: the two tables as they were laid, a list of hashes in memory.
-/
import Derived.Test.YthagpnakcffjeaaDoorTreeApart
namespace Go.Proofs.YthagpnakcffjeaaDoor
open Go.RowKit
set_option linter.unusedVariables false

/-- The list, its copy, the hash, and a root. -/
def Ap8 (w : World) (ad : Addr) (gm g10 : Nat) (ls ms : List (List Int)) (h : List Int) (CR : Array Value) (wr : World) : Prop := ApH w ad gm ls ms h wr ∧ Row wr g10 24 CR
theorem Ap8.next {w wr w1 : World} {ad : Addr} {gm g10 : Nat} {ls ms : List (List Int)} {h : List Int} {CR : Array Value} (H : Ap8 w ad gm g10 ls ms h CR wr) (hb : Below wr.heap.size wr w1) : Ap8 w ad gm g10 ls ms h CR w1 := ⟨H.1.next hb, H.2.next hb⟩
theorem Ap8.drew {w wr : World} {ad : Addr} {gm g10 : Nat} {ls ms : List (List Int)} {h : List Int} {CR : Array Value} (H : Ap8 w ad gm g10 ls ms h CR wr) : Ap8 w ad gm g10 ls ms h CR wr.drew := ⟨H.1.drew, H.2.drew⟩
theorem wpList_store_add {P : Program} {ops : Array Oper} {rest : List Oper} {op : Oper} {a : Act} {w : World} {Q : Exit → Act → World → Prop} (hgd : op.guard = none) (ty : TypeId) (x y : Operand) (ho : op.op = .store ty x y)
    (b o : Nat) (cells : Array Value) (hx : a.eval x = .pointer (some ((⟨b, 0, none⟩ : Addr).add o))) (hy : a.eval y = .agg cells)
    (ht : w.there b o cells.size) (hi : (P.info? ty).map (·.size) = some cells.size) (h1 : cells.all (·.oneCell') = true)
    (h : wpList P ops Q rest (a.put op.dst undef) (w.setCells b o cells.toList)) : wpList P ops Q (op :: rest) a w :=
  wpList_store_mid hgd ty x y ho b o cells (by rw [hx, add_flat]) hy ht hi h1 h
theorem leafL_is (s : ByteArray) : (leafL s).length = 32 ∧ bytes (leafL s) := ⟨sumL_length (leafS s), sumL_bytes (leafS s)⟩
theorem nodeL_is (a b : List Int) : (nodeL a b).length = 32 ∧ bytes (nodeL a b) := ⟨sumL_length (nodeS a b), sumL_bytes (nodeS a b)⟩
theorem eq_facts (x y : List Int) (X Y : Array Value) (hX : Hid (X = nums .u8 x)) (hY : Hid (Y = nums .u8 y)) (hx : x.length = 32 ∧ bytes x) (hy : y.length = 32 ∧ bytes y) (b : Bool) (hb : Hid (b = decide (x = y))) :
    (∀ W, (eqAt (.agg X) (.agg Y)).run Tryd.prog W = .ok (.bool b) W) ∧ (∀ W, (neqAt (.agg X) (.agg Y)).run Tryd.prog W = .ok (.bool (!b)) W) ∧ (∀ W, (eqAt (.agg Y) (.agg X)).run Tryd.prog W = .ok (.bool b) W) := by
  rw [hX.out, hY.out, hb.out]
  refine ⟨fun W => eqAt_hash x y hx.1 hy.1 hx.2 hy.2 W, fun W => neqAt_hash x y hx.1 hy.1 hx.2 hy.2 W, fun W => ?_⟩
  rw [eqAt_hash y x hy.1 hx.1 hy.2 hx.2 W, decide_eq_decide.2 (show (y = x) ↔ (x = y) from ⟨fun e => e.symm, fun e => e.symm⟩)]
theorem get_conv {o : Oper} {a : Act} {x : Operand} {src dst : TypeId} {v s : Value} {w : World} (ho : o.op = .convert src dst x) (hx : a.eval x = v) (h : (convert src dst v).run Tryd.prog w = .ok s w) : (execOp a.eval o).run Tryd.prog w = .ok (.value s) w := by
  unfold execOp
  simp only [ho, hx, Sem.run_bind, Sem.run_pure, h, Result.andThen_ok]
/-- The list, its copy, the hash, and three roots. -/
def Ap12 (w : World) (ad : Addr) (gm g11 : Nat) (ls ms : List (List Int)) (h : List Int) (CR CM : Array Value) (wr : World) : Prop := ApH w ad gm ls ms h wr ∧ Row wr g11 24 CR ∧ Row wr (g11 + 1) 24 CM
theorem Ap12.next {w wr w1 : World} {ad : Addr} {gm g11 : Nat} {ls ms : List (List Int)} {h : List Int} {CR CM : Array Value} (H : Ap12 w ad gm g11 ls ms h CR CM wr) (hb : Below wr.heap.size wr w1) : Ap12 w ad gm g11 ls ms h CR CM w1 := ⟨H.1.next hb, H.2.1.next hb, H.2.2.next hb⟩
theorem Ap12.made {w wr : World} {ad : Addr} {gm : Nat} {ls ms : List (List Int)} {h : List Int} {CR CM Z : Array Value} (H : ApH w ad gm ls ms h wr) :
    Ap12 w ad gm wr.heap.size ls ms h CR CM ((((wr.alloc (.cells Z 24)).alloc (.cells Z 24)).setRow wr.heap.size CR).setRow (wr.heap.size + 1) CM) := by
  refine ⟨H.next (below_setRow (below_setRow (((Below.refl _ _).alloc (Nat.le_refl _) _).alloc (by simp) _) (Nat.le_refl _)) (by omega)), ?_, ?_⟩
  · exact (((Row.made wr 24 Z).alloc _).whole CR).wfar (by omega) _
  · exact ((Row.made2 wr _ 24 Z).wfar (by omega) _).whole CM
def Ap13 (w : World) (ad : Addr) (gm g11 g13 : Nat) (ls ms : List (List Int)) (h : List Int) (CR CM CI : Array Value) (wr : World) : Prop := Ap12 w ad gm g11 ls ms h CR CM wr ∧ Row wr g13 24 CI
theorem Ap13.drew {w wr : World} {ad : Addr} {gm g11 g13 : Nat} {ls ms : List (List Int)} {h : List Int} {CR CM CI : Array Value} (H : Ap13 w ad gm g11 g13 ls ms h CR CM CI wr) : Ap13 w ad gm g11 g13 ls ms h CR CM CI wr.drew := ⟨⟨H.1.1.drew, H.1.2.1.drew, H.1.2.2.drew⟩, H.2.drew⟩
attribute [local go_sem ↓ high] read_at eq_at neq_at
set_option maxHeartbeats 40000000 in
set_option maxRecDepth 100000 in
theorem apartlaw_short (ls : List (List Int)) (hh : hashes ls) (A : Option Addr) (c : Nat) (wh : Int) (h : List Int) (w : World) (hT : Tab w) (hA : HL w w.heap.size A ls) (hn1 : 1 ≤ ls.length) (hn60 : ls.length ≤ 60) (hc : ls.length ≤ c) (hcm : c ≤ 9223372036854775807)
    (hw : 0 ≤ wh ∧ wh ≤ 255) (hl : h.length = 32) (hbb : bytes h) :
    Calls Tryd.prog 9 #[.slice A ls.length c, .int .u8 wh, .agg (nums .u8 h)] w fun e w' => e = .returned (.bool true) ∧ Below w.heap.size w w' := by
  obtain ⟨ad, rfl⟩ := hA.some 0 (by omega)
  obtain ⟨n, hn⟩ : ∃ n, Hid (n = ls.length) := ⟨_, Lib.hid rfl⟩
  rw [← hn.out] at hn1 hn60 hc ⊢
  obtain ⟨k, hk⟩ : ∃ k : Nat, Hid (wh.tmod (n : Int) = (k : Int) ∧ k < n) := ⟨(wh % (n : Int)).toNat, Lib.hid (by
    have h1 := Int.emod_nonneg wh (b := (n : Int)) (by omega)
    have h2 := Int.emod_lt_of_pos wh (b := (n : Int)) (by omega)
    exact ⟨by rw [Int.tmod_eq_emod_of_nonneg (by omega)]; omega, by omega⟩)⟩
  obtain ⟨m, hm⟩ : ∃ m : Nat, Hid (m = n - 1) := ⟨_, Lib.hid rfl⟩
  have hmn : m + 1 = n := by rw [hm.out]; omega
  obtain ⟨ms, hms⟩ : ∃ ms, Hid (ms = ls.set k h) := ⟨_, Lib.hid rfl⟩
  obtain ⟨is, his⟩ : ∃ is, Hid (is = ls.take m) := ⟨_, Lib.hid rfl⟩
  obtain ⟨lk, hlk⟩ : ∃ lk, Hid (lk = ls.getD k []) := ⟨_, Lib.hid rfl⟩
  have hkn : k < ls.length := by rw [← hn.out]; exact hk.out.2
  have lkh : lk.length = 32 ∧ bytes lk := by rw [hlk.out]; exact hashes_at hh k hkn
  have hhm : hashes ms := by rw [hms.out]; exact set_hashes hh k h ⟨hl, hbb⟩
  have hhi : hashes is := by rw [his.out]; exact hashes_take hh _
  have lm : Hid (ms.length = n) := Lib.hid (by rw [hms.out, List.length_set, hn.out])
  have li : Hid (is.length = m) := Lib.hid (by rw [his.out, List.length_take, ← hn.out]; omega)
  obtain ⟨HK, hHK⟩ : ∃ C, Hid (C = nums .u8 lk) := ⟨_, Lib.hid rfl⟩
  obtain ⟨HH, hHH⟩ : ∃ C, Hid (C = nums .u8 h) := ⟨_, Lib.hid rfl⟩
  obtain ⟨CR, hCR⟩ : ∃ C, Hid (C = nums .u8 (rootL ls)) := ⟨_, Lib.hid rfl⟩
  obtain ⟨CM, hCM⟩ : ∃ C, Hid (C = nums .u8 (rootL ms)) := ⟨_, Lib.hid rfl⟩
  obtain ⟨CI, hCI⟩ : ∃ C, Hid (C = nums .u8 (rootL is)) := ⟨_, Lib.hid rfl⟩
  obtain ⟨S, hS⟩ : ∃ S, Hid (S = strOfNums h) := ⟨_, Lib.hid rfl⟩
  obtain ⟨T, hTT⟩ : ∃ T, Hid (T = strOfNums lk) := ⟨_, Lib.hid rfl⟩
  have zS : S.size = 32 := by rw [hS.out, strOfNums_size, hl]
  have zT : T.size = 32 := by rw [hTT.out, strOfNums_size, lkh.1]
  have a1 := add_run S ⟨#[120]⟩ (by rw [zS]; show 32 + 1 ≤ _; omega)
  have a2 := add_run T S (by rw [zS, zT]; omega)
  obtain ⟨U, hU⟩ : ∃ U : ByteArray, Hid (U = S ++ ⟨#[120]⟩) := ⟨_, Lib.hid rfl⟩
  obtain ⟨V, hV⟩ : ∃ V : ByteArray, Hid (V = T ++ S) := ⟨_, Lib.hid rfl⟩
  obtain ⟨LA, hLA⟩ : ∃ C, Hid (C = nums .u8 (leafL S)) := ⟨_, Lib.hid rfl⟩
  obtain ⟨LB, hLB⟩ : ∃ C, Hid (C = nums .u8 (leafL U)) := ⟨_, Lib.hid rfl⟩
  obtain ⟨LC, hLC⟩ : ∃ C, Hid (C = nums .u8 (leafL V)) := ⟨_, Lib.hid rfl⟩
  obtain ⟨LD, hLD⟩ : ∃ C, Hid (C = nums .u8 (nodeL lk h)) := ⟨_, Lib.hid rfl⟩
  obtain ⟨b0, hb0⟩ : ∃ b, Hid (b = decide (lk = h)) := ⟨_, Lib.hid rfl⟩
  obtain ⟨e1, he1⟩ : ∃ b, Hid (b = decide (rootL ls = rootL ms)) := ⟨_, Lib.hid rfl⟩
  obtain ⟨e2, he2⟩ : ∃ b, Hid (b = decide (rootL ls = rootL is)) := ⟨_, Lib.hid rfl⟩
  obtain ⟨e3, he3⟩ : ∃ b, Hid (b = decide (leafL S = leafL U)) := ⟨_, Lib.hid rfl⟩
  obtain ⟨e4, he4⟩ : ∃ b, Hid (b = decide (leafL V = nodeL lk h)) := ⟨_, Lib.hid rfl⟩
  obtain ⟨ln, hln⟩ : ∃ b, Hid (b = decide (1 < n)) := ⟨_, Lib.hid rfl⟩
  have B1 : Hid (b0 = true → e1 = true) := Lib.hid fun hb => by
    rw [hb0.out] at hb
    have e := of_decide_eq_true hb
    rw [he1.out]
    refine decide_eq_true ?_
    rw [hms.out, ← e, hlk.out, List.getD_eq_getElem?_getD, List.getElem?_eq_getElem hkn, Option.getD_some, List.set_getElem_self]
  obtain ⟨q0, q0n, _⟩ := eq_facts lk h HK HH hHK hHH lkh ⟨hl, hbb⟩ b0 hb0
  obtain ⟨q1, _, _⟩ := eq_facts (rootL ls) (rootL ms) CR CM hCR hCM (rootL_is ls hh) (rootL_is ms hhm) e1 he1
  obtain ⟨q2, _, q2s⟩ := eq_facts (rootL ls) (rootL is) CR CI hCR hCI (rootL_is ls hh) (rootL_is is hhi) e2 he2
  obtain ⟨q3, q3n, _⟩ := eq_facts (leafL S) (leafL U) LA LB hLA hLB (leafL_is S) (leafL_is U) e3 he3
  obtain ⟨q4, q4n, _⟩ := eq_facts (leafL V) (nodeL lk h) LC LD hLC hLD (leafL_is V) (nodeL_is lk h) e4 he4
  have RR1 : Hid (∀ W gm, ApH w ad gm ls ms h W → Calls Tryd.prog 25 #[.slice (some ad) n c] W fun ev w' => ev = .returned (.agg CR) ∧ Below W.heap.size W w') := Lib.hid fun W gm H => by
    have := refRoot_any n ls (some ad) c W (by rw [← hn.out]; exact Nat.le_refl _) hh H.l1 (by rw [← hn.out]; exact hc) hcm
    rwa [← hn.out, ← hCR.out] at this
  have RR2 : Hid (∀ W gm, ApH w ad gm ls ms h W → ∀ cm, n ≤ cm → cm ≤ 9223372036854775807 → Calls Tryd.prog 25 #[.slice (some ⟨gm, 0, none⟩) n cm] W fun ev w' => ev = .returned (.agg CM) ∧ Below W.heap.size W w') := Lib.hid fun W gm H cm h1 h2 => by
    have := refRoot_any n ms (some ⟨gm, 0, none⟩) cm W (by rw [lm.out]; exact Nat.le_refl _) hhm H.l2 (by rw [lm.out]; exact h1) h2
    rwa [lm.out, ← hCM.out] at this
  have RR3 : Hid (∀ W gm, ApH w ad gm ls ms h W → Calls Tryd.prog 25 #[.slice (some ad) m c] W fun ev w' => ev = .returned (.agg CI) ∧ Below W.heap.size W w') := Lib.hid fun W gm H => by
    have := refRoot_any n is (some ad) c W (by rw [li.out]; omega) hhi (by rw [his.out]; exact H.l1.take _) (by rw [li.out]; omega) hcm
    rwa [li.out, ← hCI.out] at this
  have PR1 : Hid (∀ W gm, ApH w ad gm ls ms h W → Calls Tryd.prog 24 #[.slice (some ad) n c] W fun ev w' => ev = .returned (.agg CR) ∧ Below W.heap.size W w') := Lib.hid fun W gm H => by
    have := root_any ls hh (some ad) c W H.l1 H.tab (by rw [← hn.out]; omega)
    rwa [← hn.out, ← hCR.out] at this
  have PR2 : Hid (∀ W gm, ApH w ad gm ls ms h W → ∀ cm, Calls Tryd.prog 24 #[.slice (some ⟨gm, 0, none⟩) n cm] W fun ev w' => ev = .returned (.agg CM) ∧ Below W.heap.size W w') := Lib.hid fun W gm H cm => by
    have := root_any ms hhm (some ⟨gm, 0, none⟩) cm W H.l2 H.tab (by rw [lm.out]; omega)
    rwa [lm.out, ← hCM.out] at this
  have PR3 : Hid (∀ W gm, ApH w ad gm ls ms h W → Calls Tryd.prog 24 #[.slice (some ad) m c] W fun ev w' => ev = .returned (.agg CI) ∧ Below W.heap.size W w') := Lib.hid fun W gm H => by
    have := root_any is hhi (some ad) c W (by rw [his.out]; exact H.l1.take _) H.tab (by rw [li.out]; omega)
    rwa [li.out, ← hCI.out] at this
  have FA : Hid (∀ W, Calls Tryd.prog 19 #[.string S] W fun ev w' => ev = .returned (.agg LA) ∧ Below W.heap.size W w') := Lib.hid fun W => by rw [hLA.out]; exact refLeaf_any S (by omega) W
  have FB : Hid (∀ W, Calls Tryd.prog 19 #[.string (S ++ ⟨#[120]⟩)] W fun ev w' => ev = .returned (.agg LB) ∧ Below W.heap.size W w') := Lib.hid fun W => by rw [hLB.out, ← hU.out]; exact refLeaf_any U (by rw [hU.out, ByteArray.size_append, zS]; show 32 + 1 ≤ _; omega) W
  have FC : Hid (∀ W, Calls Tryd.prog 19 #[.string (T ++ S)] W fun ev w' => ev = .returned (.agg LC) ∧ Below W.heap.size W w') := Lib.hid fun W => by rw [hLC.out, ← hV.out]; exact refLeaf_any V (by rw [hV.out, ByteArray.size_append, zS, zT]; omega) W
  have FD : Hid (∀ W, Calls Tryd.prog 21 #[.agg HK, .agg HH] W fun ev w' => ev = .returned (.agg LD) ∧ Below W.heap.size W w') := Lib.hid fun W => by rw [hLD.out, hHK.out, hHH.out]; exact refNode_any lk h lkh.1 hl W
  have GA : Hid (∀ W, Tab W → Calls Tryd.prog 18 #[.string S] W fun ev w' => ev = .returned (.agg LA) ∧ Below W.heap.size W w') := Lib.hid fun W h => by rw [hLA.out]; exact leaf_any S (by omega) W h
  have GB : Hid (∀ W, Tab W → Calls Tryd.prog 18 #[.string (S ++ ⟨#[120]⟩)] W fun ev w' => ev = .returned (.agg LB) ∧ Below W.heap.size W w') := Lib.hid fun W h => by rw [hLB.out, ← hU.out]; exact leaf_any U (by rw [hU.out, ByteArray.size_append, zS]; show 32 + 1 ≤ _; omega) W h
  have GC : Hid (∀ W, Tab W → Calls Tryd.prog 18 #[.string (T ++ S)] W fun ev w' => ev = .returned (.agg LC) ∧ Below W.heap.size W w') := Lib.hid fun W h => by rw [hLC.out, ← hV.out]; exact leaf_any V (by rw [hV.out, ByteArray.size_append, zS, zT]; omega) W h
  have GD : Hid (∀ W, Tab W → Calls Tryd.prog 20 #[.agg HK, .agg HH] W fun ev w' => ev = .returned (.agg LD) ∧ Below W.heap.size W w') := Lib.hid fun W h' => by rw [hLD.out, hHK.out, hHH.out]; exact node_any lk h lkh.1 hl W h'
  have R1 : Hid (∀ W gm, ApH w ad gm ls ms h W → (readAt (.pointer (some (ad.add (k * 32))))).run Tryd.prog W = .ok (.agg HK) W) := Lib.hid fun W gm H => by rw [hHK.out, hlk.out]; exact H.l1.read hh k hkn
  have zH : Hid (HH.size = 32) := Lib.hid (by rw [hHH.out, nums_size, hl])
  have oH : Hid (HH.all (·.oneCell') = true) := Lib.hid (by rw [hHH.out]; exact nums_one _ _)
  have zR : Hid (CR.size = 32) := Lib.hid (by rw [hCR.out, nums_size]; exact (rootL_is ls hh).1)
  have oR : Hid (CR.all (·.oneCell') = true) := Lib.hid (by rw [hCR.out]; exact nums_one _ _)
  have zM : Hid (CM.size = 32) := Lib.hid (by rw [hCM.out, nums_size]; exact (rootL_is ms hhm).1)
  have oM : Hid (CM.all (·.oneCell') = true) := Lib.hid (by rw [hCM.out]; exact nums_one _ _)
  have zI : Hid (CI.size = 32) := Lib.hid (by rw [hCI.out, nums_size]; exact (rootL_is is hhi).1)
  have oI : Hid (CI.all (·.oneCell') = true) := Lib.hid (by rw [hCI.out]; exact nums_one _ _)
  have R2 : Hid (∀ W gm, ApH w ad gm ls ms h W → (readAt (.pointer (some ⟨w.heap.size, 0, none⟩))).run Tryd.prog W = .ok (.agg HH) W) := Lib.hid fun W gm H => by
    have := H.rh.read (by rw [nums_size, hl])
    rwa [← hHH.out] at this
  have CT : Hid (∀ W gm, ApH w ad gm ls ms h W → (convert 32 9 (.slice (some (ad.add (k * 32))) 32 32)).run Tryd.prog W = .ok (.string T) W) := Lib.hid fun W gm H => by
    obtain ⟨ad', e, _, hcell⟩ := H.l1 k hkn
    cases e
    rw [hTT.out]
    exact conv_flat W _ lk lkh.1 (fun j hj => by rw [add_of_add, hlk.out]; exact hcell j hj)
  have HT := Lib.hid hT
  have HAH := Lib.hid hA
  have HM := Lib.hid (And.intro hh (And.intro hl hkn))
  have t1 : wh.tmod (n : Int) = (k : Int) := hk.out.1
  have hkb : k < n := hk.out.2
  have hd0 : ((n : Int) == 0) = false := by simp; omega
  have hd1 : ¬ ((n : Int) = 0) := by omega
  have hd60 : decide (60 < (n : Int)) = false := decide_eq_false (by omega)
  have k0 : (0 : Int) ≤ (k : Int) := by omega
  have k1 : (k : Int) < (n : Int) := by omega
  have n1 : (n : Int) - 1 = (m : Int) := by omega
  have c1 : (m : Int) ≤ (c : Int) := by omega
  have c0 : (0 : Int) ≤ (m : Int) := by omega
  obtain ⟨i0, hi, hz0, hz1, hz2⟩ := info_parts infoHash
  clear hmn
  clear hT hA hh hl hbb lkh hhm hhi hkn zS zT
  go_enter Tryd.func9, Tryd.ntmps9
  go_upto_region 1 with fail
  refine world_gen (fun wx => Row wx w.heap.size 24 (nums .u8 h) ∧ Below w.heap.size w wx) ⟨Row.made _ _ _, (Below.refl _ _).alloc (Nat.le_refl _) _⟩ (fun wx H0 => ?_)
  have H0 := Lib.hid H0
  have hlt0 : w.heap.size + 1 ≤ wx.heap.size := H0.out.1.lt
  go_upto_region 4 with fail
  go_wp2_with (at_builtin; refine wpList_append_own _ rfl (.const (.slice none 0 0)) (.tmp 28) 38 rfl (w.heap.size + 1) 24 i0 _ 32 32 Tryd.underlying38 hi hz0 hz1 hz2 (by simp [Value.cells, nums]) (by decide) (.slice none 0 0) 0 [] rfl ⟨rfl, .inl ⟨rfl, rfl⟩⟩ ad n c (cellsL ls) rfl ?cc0 ?cc1 ?cc2 (by unfold maxLen; omega) (by omega) hlt0 ?_)
  case cc0 => unfold cellsL; rw [List.length_map, flat_length HM.out.1, ← hn.out]; omega
  case cc1 =>
    intro j u hj
    have hjl : j < 32 * n := by
      rcases Nat.lt_or_ge j (32 * n) with h' | h'
      · exact h'
      · rw [List.getElem?_eq_none (by unfold cellsL; rw [List.length_map, flat_length HM.out.1, ← hn.out]; exact h')] at hj; cases hj
    have e := cellsL_get HM.out.1 (j / 32) (j % 32) (by rw [← hn.out]; omega) (by omega)
    rw [show j / 32 * 32 + j % 32 = j by omega, hj] at e
    obtain ⟨ad', e1, _, hcell⟩ := (HAH.out.next H0.out.2 (Nat.le_refl _)) (j / 32) (by rw [← hn.out]; omega)
    cases e1
    have := hcell (j % 32) (by omega)
    rw [show j / 32 * 32 + j % 32 = j by omega] at this
    rw [this, e]
  case cc2 =>
    intro u hu
    obtain ⟨z, _, rfl⟩ := List.mem_map.1 hu
    rfl
  intro v' w4 hown hgrow _
  have hown2 : w4.ownsRow (w.heap.size + 1) 24 32 v' n (cellsL ls) := by simpa using hown
  obtain ⟨g, cm, rfl, hcm1, hcm2⟩ : ∃ g cm, v' = .slice (some ⟨g, 0, none⟩) n cm ∧ n ≤ cm ∧ cm ≤ 9223372036854775807 := by
    rcases hown2.2 with ⟨_, h0⟩ | ⟨g, cm, cur, hv, _, _, h3, h4, _⟩
    · omega
    · exact ⟨g, cm, hv, h3, by unfold maxLen at h4; exact h4⟩
  have hb4 : Below wx.heap.size wx w4 := (Below.refl _ _).grown hgrow (Nat.le_refl _) (fun g e => by simp [Value.ownBlock] at e)
  have HP : Hid (ApH w ad g ls ms h (w4.setCells g (k * 32) HH.toList)) := Lib.hid (by
    rw [hHH.out, hms.out]
    have hb5 := below_new H0.out.2 hb4
    refine ApH.store (cap := cm) HM.out.1 HM.out.2.1 k HM.out.2.2 (HAH.out.next hb5 (Nat.le_refl _)) ?_ (H0.out.1.next hb4) HT.out hb5
    rw [← hn.out]
    exact hown2)
  have s1 : (readAt (.pointer (some ⟨w.heap.size, 0, none⟩))).run Tryd.prog w4 = .ok (.agg HH) w4 := by
    have := (H0.out.1.next hb4).read (by rw [nums_size, HM.out.2.1])
    rwa [← hHH.out] at this
  have ht : w4.there g (k * 32) HH.size := by rw [zH.out]; exact (own_there hown2 k hkb).1
  have h6 := sizeH HH.size zH.out
  clear hown hgrow hown2 hb4
  have k2 : (k : Int) < (cm : Int) := by omega
  go_upto_region 6 with (first
    | (refine wpList_store_mid rfl 24 _ _ rfl g (k * 32) HH rfl rfl ht h6 oH.out ?_)
    | (refine wpList_store_add rfl 24 _ _ rfl g (k * 32) HH rfl rfl ht h6 oH.out ?_))
  refine world_gen (fun wy => ApH w ad g ls ms h wy) HP.out (fun wy HY => ?_)
  have HY := Lib.hid HY
  clear HP s1 ht h6 H0 hlt0
  have hcv : (convert 32 9 (.slice (some ⟨w.heap.size, 0, none⟩) 32 32)).run Tryd.prog wy = .ok (.string S) wy := by
    rw [hS.out]; exact conv_row HY.out.rh HM.out.2.1
  go_upto_region 8 with (first
    | (go_at_call 25; (with_reducible refine (RR1.out _ _ HY.out).mono ?_); rintro e w5 ⟨rfl, hb⟩; have HZ := Lib.hid (HY.out.next hb); clear hb)
    | (refine wpList_store_fresh rfl 24 _ _ rfl CR rfl rfl 24 _ (sizeH _ zR.out) (by rw [zR.out]; rfl) oR.out ?_; intro w6 hS6 hb6; have H8 : Hid (Ap8 w ad g w5.heap.size ls ms h CR w6) := Lib.hid ⟨HZ.out.next hb6, hS6⟩; clear hS6 hb6))
  clear HY HZ hcv
  have hL : decide (1 < (n : Int)) = ln := by rw [hln.out]; exact decide_eq_decide.2 (by omega)
  have hwn1 : IntKind.i64.wrap ((n : Int) - 1) = (m : Int) := by rw [IntKind.wrap_i64]; omega
  have hwm : IntKind.i64.wrap (m : Int) = (m : Int) := by rw [IntKind.wrap_i64]; omega
  simp only [Act.put]
  go_cut [0, 5, 6, 7, 8, 9, 10, 89] (fun s0 s5 s6 s7 s8 s9 s10 s89 wx => s0 = .slice (some ad) n c ∧ s5 = .pointer (some ⟨w.heap.size, 0, none⟩) ∧ s6 = .bool false ∧ s7 = .int .i64 (k : Int) ∧ s8 = .slice (some ⟨g, 0, none⟩) n cm ∧ s9 = .string S ∧ s10 = .pointer (some ⟨w5.heap.size, 0, none⟩) ∧ ∃ r : Bool, s89 = .bool r ∧ Hid (r = false → (b0 = true ∨ e1 = false) ∧ (ln = false ∨ e2 = false) ∧ e3 = false ∧ e4 = false) ∧ Hid (Ap8 w ad g w5.heap.size ls ms h CR wx))
  case first =>
    clear HT HAH HM PR1 PR2 PR3 GA GB GC GD RR1
    cases b0
    case false =>
      cases e1
      case true =>
        refine wp_region_sched (Ap8 w ad g w5.heap.size ls ms h CR) [(false, 0), (false, 1), (false, 2), (false, 3), (false, 4), (false, 5), (false, 6), (false, 7), (false, 8), (true, 9), (false, 10), (false, 11), (false, 12), (false, 13), (false, 14), (false, 15), (false, 16), (false, 17), (false, 18), (false, 19), (false, 20), (false, 21), (false, 22), (false, 23), (false, 24), (false, 25), (false, 26), (false, 27), (false, 28), (false, 29), (false, 30), (false, 31), (false, 32), (false, 33), (false, 34), (false, 35), (false, 36), (false, 37), (false, 38), (false, 39), (false, 40), (false, 41), (false, 42), (false, 43), (false, 44), (false, 45), (false, 46), (false, 47), (false, 48), (false, 49), (false, 50), (false, 51)] (by kernel_rfl) rfl (by kernel_rfl) (by kernel_rfl) (by intro c a d v w h; cases d <;> exact h) H8.out.drew (fun Q' hQ => ?_)
        have HS := Lib.hid H8.out.drew
        have HQ := Lib.hid hQ
        clear H8 hQ
        iterate 3 (
          refine wpSched_get rfl (by rfl) (fun K hK => ?_)
          refine ⟨?_, fun w' hS' => ?_, ?_⟩
          rotate_left
          · go_simp
            try (with_reducible rfl)
          try go_simp
          refine hK _ ?_
          clear hK K)
        refine wpSched_get rfl (by rfl) (fun K hK => ?_)
        refine ⟨_, fun w' hS' => get_load rfl rfl (R1.out _ _ hS'.1), ?_⟩
        try go_simp
        refine hK _ ?_
        clear hK K
        refine wpSched_get rfl (by rfl) (fun K hK => ?_)
        refine ⟨_, fun w' hS' => get_load rfl rfl (R2.out _ _ hS'.1), ?_⟩
        try go_simp
        refine hK _ ?_
        clear hK K
        refine wpSched_get rfl (by rfl) (fun K hK => ?_)
        refine ⟨_, fun w' hS' => get_neqH rfl rfl rfl (q0n _), ?_⟩
        try go_simp
        refine hK _ ?_
        clear hK K
        refine wpSched_get rfl (by rfl) (fun K hK => ?_)
        refine ⟨?_, fun w' hS' => ?_, ?_⟩
        rotate_left
        · go_simp
          try (with_reducible rfl)
        try go_simp
        refine hK _ ?_
        clear hK K
        refine wpSched_get rfl (by rfl) (fun K hK => ?_)
        refine ⟨_, fun w' hS' => get_load rfl rfl (hS'.2.read zR.out), ?_⟩
        try go_simp
        refine hK _ ?_
        clear hK K
        refine wpSched_get rfl (by rfl) (fun K hK => ?_)
        refine ⟨?_, fun w' hS' => ?_, ?_⟩
        rotate_left
        · go_simp
          try (with_reducible rfl)
        try go_simp
        refine hK _ ?_
        clear hK K
        refine wpSched_call rfl (by rfl) (fun K hK => ?_)
        go_simp
        go_at_call 25
        refine (RR2.out _ _ HS.out.1 cm hcm1 hcm2).mono ?_
        rintro e w9 ⟨rfl, hb⟩
        replace HS := Lib.hid (HS.out.next hb)
        clear hb
        refine hK _ _ HS.out ?_
        clear hK K
        refine wpSched_get rfl (by rfl) (fun K hK => ?_)
        refine ⟨_, fun w' hS' => get_eqH rfl rfl rfl (q1 _), ?_⟩
        try go_simp
        refine hK _ ?_
        clear hK K
        iterate 2 (
          refine wpSched_get rfl (by rfl) (fun K hK => ?_)
          refine ⟨?_, fun w' hS' => ?_, ?_⟩
          rotate_left
          · go_simp
            try (with_reducible rfl)
          try go_simp
          refine hK _ ?_
          clear hK K)
        iterate 13 (
          refine wpSched_skip rfl (by rfl) (fun K hK => ?_)
          try go_simp
          refine hK _ ?_
          clear hK K)
        iterate 2 (
          refine wpSched_get rfl (by rfl) (fun K hK => ?_)
          refine ⟨?_, fun w' hS' => ?_, ?_⟩
          rotate_left
          · go_simp
            try (with_reducible rfl)
          try go_simp
          refine hK _ ?_
          clear hK K)
        iterate 6 (
          refine wpSched_skip rfl (by rfl) (fun K hK => ?_)
          try go_simp
          refine hK _ ?_
          clear hK K)
        iterate 2 (
          refine wpSched_get rfl (by rfl) (fun K hK => ?_)
          refine ⟨?_, fun w' hS' => ?_, ?_⟩
          rotate_left
          · go_simp
            try (with_reducible rfl)
          try go_simp
          refine hK _ ?_
          clear hK K)
        iterate 15 (
          refine wpSched_skip rfl (by rfl) (fun K hK => ?_)
          try go_simp
          refine hK _ ?_
          clear hK K)
        refine wpSched_get rfl (by rfl) (fun K hK => ?_)
        refine ⟨?_, fun w' hS' => ?_, ?_⟩
        rotate_left
        · go_simp
          try (with_reducible rfl)
        try go_simp
        refine hK _ ?_
        clear hK K
        refine wpSched_done ?_
        refine HQ.out _ _ ?_
        go_wp2_with fail
        go_meet
        exact ⟨rfl, rfl, rfl, rfl, rfl, rfl, rfl, _, rfl, Lib.hid (fun hr => by cases hr), HS⟩
      case false =>
        cases ln
        case false =>
          cases e3
          case false =>
            refine wp_region_sched (Ap8 w ad g w5.heap.size ls ms h CR) [(false, 0), (false, 1), (false, 2), (false, 3), (false, 4), (false, 5), (false, 6), (false, 7), (false, 8), (true, 9), (false, 10), (false, 11), (false, 12), (false, 13), (false, 14), (false, 15), (false, 16), (false, 17), (false, 18), (false, 19), (false, 20), (false, 21), (false, 22), (false, 23), (false, 24), (false, 25), (false, 26), (false, 27), (false, 28), (false, 30), (false, 31), (true, 29), (true, 32), (false, 33), (false, 34), (false, 35), (false, 36), (false, 37), (false, 38), (false, 39), (false, 40), (false, 41), (false, 42), (false, 44), (false, 45), (false, 46), (false, 47), (false, 48), (true, 43), (true, 49), (false, 50), (false, 51)] (by kernel_rfl) rfl (by kernel_rfl) (by kernel_rfl) (by intro c a d v w h; cases d <;> exact h) H8.out.drew (fun Q' hQ => ?_)
            have HS := Lib.hid H8.out.drew
            have HQ := Lib.hid hQ
            clear H8 hQ
            iterate 3 (
              refine wpSched_get rfl (by rfl) (fun K hK => ?_)
              refine ⟨?_, fun w' hS' => ?_, ?_⟩
              rotate_left
              · go_simp
                try (with_reducible rfl)
              try go_simp
              refine hK _ ?_
              clear hK K)
            refine wpSched_get rfl (by rfl) (fun K hK => ?_)
            refine ⟨_, fun w' hS' => get_load rfl rfl (R1.out _ _ hS'.1), ?_⟩
            try go_simp
            refine hK _ ?_
            clear hK K
            refine wpSched_get rfl (by rfl) (fun K hK => ?_)
            refine ⟨_, fun w' hS' => get_load rfl rfl (R2.out _ _ hS'.1), ?_⟩
            try go_simp
            refine hK _ ?_
            clear hK K
            refine wpSched_get rfl (by rfl) (fun K hK => ?_)
            refine ⟨_, fun w' hS' => get_neqH rfl rfl rfl (q0n _), ?_⟩
            try go_simp
            refine hK _ ?_
            clear hK K
            refine wpSched_get rfl (by rfl) (fun K hK => ?_)
            refine ⟨?_, fun w' hS' => ?_, ?_⟩
            rotate_left
            · go_simp
              try (with_reducible rfl)
            try go_simp
            refine hK _ ?_
            clear hK K
            refine wpSched_get rfl (by rfl) (fun K hK => ?_)
            refine ⟨_, fun w' hS' => get_load rfl rfl (hS'.2.read zR.out), ?_⟩
            try go_simp
            refine hK _ ?_
            clear hK K
            refine wpSched_get rfl (by rfl) (fun K hK => ?_)
            refine ⟨?_, fun w' hS' => ?_, ?_⟩
            rotate_left
            · go_simp
              try (with_reducible rfl)
            try go_simp
            refine hK _ ?_
            clear hK K
            refine wpSched_call rfl (by rfl) (fun K hK => ?_)
            go_simp
            go_at_call 25
            refine (RR2.out _ _ HS.out.1 cm hcm1 hcm2).mono ?_
            rintro e w9 ⟨rfl, hb⟩
            replace HS := Lib.hid (HS.out.next hb)
            clear hb
            refine hK _ _ HS.out ?_
            clear hK K
            refine wpSched_get rfl (by rfl) (fun K hK => ?_)
            refine ⟨_, fun w' hS' => get_eqH rfl rfl rfl (q1 _), ?_⟩
            try go_simp
            refine hK _ ?_
            clear hK K
            iterate 6 (
              refine wpSched_get rfl (by rfl) (fun K hK => ?_)
              refine ⟨?_, fun w' hS' => ?_, ?_⟩
              rotate_left
              · go_simp
                try (with_reducible rfl)
              try go_simp
              refine hK _ ?_
              clear hK K)
            iterate 8 (
              refine wpSched_skip rfl (by rfl) (fun K hK => ?_)
              try go_simp
              refine hK _ ?_
              clear hK K)
            iterate 6 (
              refine wpSched_get rfl (by rfl) (fun K hK => ?_)
              refine ⟨?_, fun w' hS' => ?_, ?_⟩
              rotate_left
              · go_simp
                try (with_reducible rfl)
              try go_simp
              refine hK _ ?_
              clear hK K)
            refine wpSched_call rfl (by rfl) (fun K hK => ?_)
            go_simp
            go_at_call 19
            refine (FA.out _).mono ?_
            rintro e w9 ⟨rfl, hb⟩
            replace HS := Lib.hid (HS.out.next hb)
            clear hb
            refine hK _ _ HS.out ?_
            clear hK K
            refine wpSched_call rfl (by rfl) (fun K hK => ?_)
            go_simp
            go_at_call 19
            refine (FB.out _).mono ?_
            rintro e w9 ⟨rfl, hb⟩
            replace HS := Lib.hid (HS.out.next hb)
            clear hb
            refine hK _ _ HS.out ?_
            clear hK K
            refine wpSched_get rfl (by rfl) (fun K hK => ?_)
            refine ⟨_, fun w' hS' => get_eqH rfl rfl rfl (q3 _), ?_⟩
            try go_simp
            refine hK _ ?_
            clear hK K
            iterate 6 (
              refine wpSched_get rfl (by rfl) (fun K hK => ?_)
              refine ⟨?_, fun w' hS' => ?_, ?_⟩
              rotate_left
              · go_simp
                try (with_reducible rfl)
              try go_simp
              refine hK _ ?_
              clear hK K)
            refine wpSched_get rfl (by rfl) (fun K hK => ?_)
            refine ⟨_, fun w' hS' => get_conv rfl rfl (CT.out _ _ hS'.1), ?_⟩
            try go_simp
            refine hK _ ?_
            clear hK K
            iterate 5 (
              refine wpSched_get rfl (by rfl) (fun K hK => ?_)
              refine ⟨?_, fun w' hS' => ?_, ?_⟩
              rotate_left
              · go_simp
                try (with_reducible rfl)
              try go_simp
              refine hK _ ?_
              clear hK K)
            refine wpSched_get rfl (by rfl) (fun K hK => ?_)
            refine ⟨_, fun w' hS' => get_load rfl rfl (R1.out _ _ hS'.1), ?_⟩
            try go_simp
            refine hK _ ?_
            clear hK K
            refine wpSched_get rfl (by rfl) (fun K hK => ?_)
            refine ⟨_, fun w' hS' => get_load rfl rfl (R2.out _ _ hS'.1), ?_⟩
            try go_simp
            refine hK _ ?_
            clear hK K
            refine wpSched_call rfl (by rfl) (fun K hK => ?_)
            go_simp
            go_at_call 19
            refine (FC.out _).mono ?_
            rintro e w9 ⟨rfl, hb⟩
            replace HS := Lib.hid (HS.out.next hb)
            clear hb
            refine hK _ _ HS.out ?_
            clear hK K
            refine wpSched_call rfl (by rfl) (fun K hK => ?_)
            go_simp
            go_at_call 21
            refine (FD.out _).mono ?_
            rintro e w9 ⟨rfl, hb⟩
            replace HS := Lib.hid (HS.out.next hb)
            clear hb
            refine hK _ _ HS.out ?_
            clear hK K
            refine wpSched_get rfl (by rfl) (fun K hK => ?_)
            refine ⟨_, fun w' hS' => get_eqH rfl rfl rfl (q4 _), ?_⟩
            try go_simp
            refine hK _ ?_
            clear hK K
            refine wpSched_get rfl (by rfl) (fun K hK => ?_)
            refine ⟨?_, fun w' hS' => ?_, ?_⟩
            rotate_left
            · go_simp
              try (with_reducible rfl)
            try go_simp
            refine hK _ ?_
            clear hK K
            refine wpSched_done ?_
            refine HQ.out _ _ ?_
            go_wp2_with fail
            go_meet
            exact ⟨rfl, rfl, rfl, rfl, rfl, rfl, rfl, _, rfl, Lib.hid (by intro hr; simp_all), HS⟩
          case true =>
            refine wp_region_sched (Ap8 w ad g w5.heap.size ls ms h CR) [(false, 0), (false, 1), (false, 2), (false, 3), (false, 4), (false, 5), (false, 6), (false, 7), (false, 8), (true, 9), (false, 10), (false, 11), (false, 12), (false, 13), (false, 14), (false, 15), (false, 16), (false, 17), (false, 18), (false, 19), (false, 20), (false, 21), (false, 22), (false, 23), (false, 24), (false, 25), (false, 26), (false, 27), (false, 28), (false, 30), (false, 31), (true, 29), (true, 32), (false, 33), (false, 34), (false, 35), (false, 36), (false, 37), (false, 38), (false, 39), (false, 40), (false, 41), (false, 42), (false, 43), (false, 44), (false, 45), (false, 46), (false, 47), (false, 48), (false, 49), (false, 50), (false, 51)] (by kernel_rfl) rfl (by kernel_rfl) (by kernel_rfl) (by intro c a d v w h; cases d <;> exact h) H8.out.drew (fun Q' hQ => ?_)
            have HS := Lib.hid H8.out.drew
            have HQ := Lib.hid hQ
            clear H8 hQ
            iterate 3 (
              refine wpSched_get rfl (by rfl) (fun K hK => ?_)
              refine ⟨?_, fun w' hS' => ?_, ?_⟩
              rotate_left
              · go_simp
                try (with_reducible rfl)
              try go_simp
              refine hK _ ?_
              clear hK K)
            refine wpSched_get rfl (by rfl) (fun K hK => ?_)
            refine ⟨_, fun w' hS' => get_load rfl rfl (R1.out _ _ hS'.1), ?_⟩
            try go_simp
            refine hK _ ?_
            clear hK K
            refine wpSched_get rfl (by rfl) (fun K hK => ?_)
            refine ⟨_, fun w' hS' => get_load rfl rfl (R2.out _ _ hS'.1), ?_⟩
            try go_simp
            refine hK _ ?_
            clear hK K
            refine wpSched_get rfl (by rfl) (fun K hK => ?_)
            refine ⟨_, fun w' hS' => get_neqH rfl rfl rfl (q0n _), ?_⟩
            try go_simp
            refine hK _ ?_
            clear hK K
            refine wpSched_get rfl (by rfl) (fun K hK => ?_)
            refine ⟨?_, fun w' hS' => ?_, ?_⟩
            rotate_left
            · go_simp
              try (with_reducible rfl)
            try go_simp
            refine hK _ ?_
            clear hK K
            refine wpSched_get rfl (by rfl) (fun K hK => ?_)
            refine ⟨_, fun w' hS' => get_load rfl rfl (hS'.2.read zR.out), ?_⟩
            try go_simp
            refine hK _ ?_
            clear hK K
            refine wpSched_get rfl (by rfl) (fun K hK => ?_)
            refine ⟨?_, fun w' hS' => ?_, ?_⟩
            rotate_left
            · go_simp
              try (with_reducible rfl)
            try go_simp
            refine hK _ ?_
            clear hK K
            refine wpSched_call rfl (by rfl) (fun K hK => ?_)
            go_simp
            go_at_call 25
            refine (RR2.out _ _ HS.out.1 cm hcm1 hcm2).mono ?_
            rintro e w9 ⟨rfl, hb⟩
            replace HS := Lib.hid (HS.out.next hb)
            clear hb
            refine hK _ _ HS.out ?_
            clear hK K
            refine wpSched_get rfl (by rfl) (fun K hK => ?_)
            refine ⟨_, fun w' hS' => get_eqH rfl rfl rfl (q1 _), ?_⟩
            try go_simp
            refine hK _ ?_
            clear hK K
            iterate 6 (
              refine wpSched_get rfl (by rfl) (fun K hK => ?_)
              refine ⟨?_, fun w' hS' => ?_, ?_⟩
              rotate_left
              · go_simp
                try (with_reducible rfl)
              try go_simp
              refine hK _ ?_
              clear hK K)
            iterate 8 (
              refine wpSched_skip rfl (by rfl) (fun K hK => ?_)
              try go_simp
              refine hK _ ?_
              clear hK K)
            iterate 6 (
              refine wpSched_get rfl (by rfl) (fun K hK => ?_)
              refine ⟨?_, fun w' hS' => ?_, ?_⟩
              rotate_left
              · go_simp
                try (with_reducible rfl)
              try go_simp
              refine hK _ ?_
              clear hK K)
            refine wpSched_call rfl (by rfl) (fun K hK => ?_)
            go_simp
            go_at_call 19
            refine (FA.out _).mono ?_
            rintro e w9 ⟨rfl, hb⟩
            replace HS := Lib.hid (HS.out.next hb)
            clear hb
            refine hK _ _ HS.out ?_
            clear hK K
            refine wpSched_call rfl (by rfl) (fun K hK => ?_)
            go_simp
            go_at_call 19
            refine (FB.out _).mono ?_
            rintro e w9 ⟨rfl, hb⟩
            replace HS := Lib.hid (HS.out.next hb)
            clear hb
            refine hK _ _ HS.out ?_
            clear hK K
            refine wpSched_get rfl (by rfl) (fun K hK => ?_)
            refine ⟨_, fun w' hS' => get_eqH rfl rfl rfl (q3 _), ?_⟩
            try go_simp
            refine hK _ ?_
            clear hK K
            iterate 2 (
              refine wpSched_get rfl (by rfl) (fun K hK => ?_)
              refine ⟨?_, fun w' hS' => ?_, ?_⟩
              rotate_left
              · go_simp
                try (with_reducible rfl)
              try go_simp
              refine hK _ ?_
              clear hK K)
            iterate 15 (
              refine wpSched_skip rfl (by rfl) (fun K hK => ?_)
              try go_simp
              refine hK _ ?_
              clear hK K)
            refine wpSched_get rfl (by rfl) (fun K hK => ?_)
            refine ⟨?_, fun w' hS' => ?_, ?_⟩
            rotate_left
            · go_simp
              try (with_reducible rfl)
            try go_simp
            refine hK _ ?_
            clear hK K
            refine wpSched_done ?_
            refine HQ.out _ _ ?_
            go_wp2_with fail
            go_meet
            exact ⟨rfl, rfl, rfl, rfl, rfl, rfl, rfl, _, rfl, Lib.hid (fun hr => by cases hr), HS⟩
        case true =>
          cases e2
          case false =>
            cases e3
            case false =>
              refine wp_region_sched (Ap8 w ad g w5.heap.size ls ms h CR) [(false, 0), (false, 1), (false, 2), (false, 3), (false, 4), (false, 5), (false, 6), (false, 7), (false, 8), (true, 9), (false, 10), (false, 11), (false, 12), (false, 13), (false, 14), (false, 15), (false, 16), (false, 17), (false, 18), (false, 19), (false, 20), (false, 21), (false, 22), (true, 23), (false, 24), (false, 25), (false, 26), (false, 27), (false, 28), (false, 30), (false, 31), (true, 29), (true, 32), (false, 33), (false, 34), (false, 35), (false, 36), (false, 37), (false, 38), (false, 39), (false, 40), (false, 41), (false, 42), (false, 44), (false, 45), (false, 46), (false, 47), (false, 48), (true, 43), (true, 49), (false, 50), (false, 51)] (by kernel_rfl) rfl (by kernel_rfl) (by kernel_rfl) (by intro c a d v w h; cases d <;> exact h) H8.out.drew (fun Q' hQ => ?_)
              have HS := Lib.hid H8.out.drew
              have HQ := Lib.hid hQ
              clear H8 hQ
              iterate 3 (
                refine wpSched_get rfl (by rfl) (fun K hK => ?_)
                refine ⟨?_, fun w' hS' => ?_, ?_⟩
                rotate_left
                · go_simp
                  try (with_reducible rfl)
                try go_simp
                refine hK _ ?_
                clear hK K)
              refine wpSched_get rfl (by rfl) (fun K hK => ?_)
              refine ⟨_, fun w' hS' => get_load rfl rfl (R1.out _ _ hS'.1), ?_⟩
              try go_simp
              refine hK _ ?_
              clear hK K
              refine wpSched_get rfl (by rfl) (fun K hK => ?_)
              refine ⟨_, fun w' hS' => get_load rfl rfl (R2.out _ _ hS'.1), ?_⟩
              try go_simp
              refine hK _ ?_
              clear hK K
              refine wpSched_get rfl (by rfl) (fun K hK => ?_)
              refine ⟨_, fun w' hS' => get_neqH rfl rfl rfl (q0n _), ?_⟩
              try go_simp
              refine hK _ ?_
              clear hK K
              refine wpSched_get rfl (by rfl) (fun K hK => ?_)
              refine ⟨?_, fun w' hS' => ?_, ?_⟩
              rotate_left
              · go_simp
                try (with_reducible rfl)
              try go_simp
              refine hK _ ?_
              clear hK K
              refine wpSched_get rfl (by rfl) (fun K hK => ?_)
              refine ⟨_, fun w' hS' => get_load rfl rfl (hS'.2.read zR.out), ?_⟩
              try go_simp
              refine hK _ ?_
              clear hK K
              refine wpSched_get rfl (by rfl) (fun K hK => ?_)
              refine ⟨?_, fun w' hS' => ?_, ?_⟩
              rotate_left
              · go_simp
                try (with_reducible rfl)
              try go_simp
              refine hK _ ?_
              clear hK K
              refine wpSched_call rfl (by rfl) (fun K hK => ?_)
              go_simp
              go_at_call 25
              refine (RR2.out _ _ HS.out.1 cm hcm1 hcm2).mono ?_
              rintro e w9 ⟨rfl, hb⟩
              replace HS := Lib.hid (HS.out.next hb)
              clear hb
              refine hK _ _ HS.out ?_
              clear hK K
              refine wpSched_get rfl (by rfl) (fun K hK => ?_)
              refine ⟨_, fun w' hS' => get_eqH rfl rfl rfl (q1 _), ?_⟩
              try go_simp
              refine hK _ ?_
              clear hK K
              iterate 6 (
                refine wpSched_get rfl (by rfl) (fun K hK => ?_)
                refine ⟨?_, fun w' hS' => ?_, ?_⟩
                rotate_left
                · go_simp
                  try (with_reducible rfl)
                try go_simp
                refine hK _ ?_
                clear hK K)
              refine wpSched_get rfl (by rfl) (fun K hK => ?_)
              refine ⟨_, fun w' hS' => get_load rfl rfl (hS'.2.read zR.out), ?_⟩
              try go_simp
              refine hK _ ?_
              clear hK K
              iterate 5 (
                refine wpSched_get rfl (by rfl) (fun K hK => ?_)
                refine ⟨?_, fun w' hS' => ?_, ?_⟩
                rotate_left
                · go_simp
                  try (with_reducible rfl)
                try go_simp
                refine hK _ ?_
                clear hK K)
              refine wpSched_call rfl (by rfl) (fun K hK => ?_)
              go_simp
              go_at_call 25
              refine (RR3.out _ _ HS.out.1).mono ?_
              rintro e w9 ⟨rfl, hb⟩
              replace HS := Lib.hid (HS.out.next hb)
              clear hb
              refine hK _ _ HS.out ?_
              clear hK K
              refine wpSched_get rfl (by rfl) (fun K hK => ?_)
              refine ⟨_, fun w' hS' => get_eqH rfl rfl rfl (q2 _), ?_⟩
              try go_simp
              refine hK _ ?_
              clear hK K
              iterate 6 (
                refine wpSched_get rfl (by rfl) (fun K hK => ?_)
                refine ⟨?_, fun w' hS' => ?_, ?_⟩
                rotate_left
                · go_simp
                  try (with_reducible rfl)
                try go_simp
                refine hK _ ?_
                clear hK K)
              refine wpSched_call rfl (by rfl) (fun K hK => ?_)
              go_simp
              go_at_call 19
              refine (FA.out _).mono ?_
              rintro e w9 ⟨rfl, hb⟩
              replace HS := Lib.hid (HS.out.next hb)
              clear hb
              refine hK _ _ HS.out ?_
              clear hK K
              refine wpSched_call rfl (by rfl) (fun K hK => ?_)
              go_simp
              go_at_call 19
              refine (FB.out _).mono ?_
              rintro e w9 ⟨rfl, hb⟩
              replace HS := Lib.hid (HS.out.next hb)
              clear hb
              refine hK _ _ HS.out ?_
              clear hK K
              refine wpSched_get rfl (by rfl) (fun K hK => ?_)
              refine ⟨_, fun w' hS' => get_eqH rfl rfl rfl (q3 _), ?_⟩
              try go_simp
              refine hK _ ?_
              clear hK K
              iterate 6 (
                refine wpSched_get rfl (by rfl) (fun K hK => ?_)
                refine ⟨?_, fun w' hS' => ?_, ?_⟩
                rotate_left
                · go_simp
                  try (with_reducible rfl)
                try go_simp
                refine hK _ ?_
                clear hK K)
              refine wpSched_get rfl (by rfl) (fun K hK => ?_)
              refine ⟨_, fun w' hS' => get_conv rfl rfl (CT.out _ _ hS'.1), ?_⟩
              try go_simp
              refine hK _ ?_
              clear hK K
              iterate 5 (
                refine wpSched_get rfl (by rfl) (fun K hK => ?_)
                refine ⟨?_, fun w' hS' => ?_, ?_⟩
                rotate_left
                · go_simp
                  try (with_reducible rfl)
                try go_simp
                refine hK _ ?_
                clear hK K)
              refine wpSched_get rfl (by rfl) (fun K hK => ?_)
              refine ⟨_, fun w' hS' => get_load rfl rfl (R1.out _ _ hS'.1), ?_⟩
              try go_simp
              refine hK _ ?_
              clear hK K
              refine wpSched_get rfl (by rfl) (fun K hK => ?_)
              refine ⟨_, fun w' hS' => get_load rfl rfl (R2.out _ _ hS'.1), ?_⟩
              try go_simp
              refine hK _ ?_
              clear hK K
              refine wpSched_call rfl (by rfl) (fun K hK => ?_)
              go_simp
              go_at_call 19
              refine (FC.out _).mono ?_
              rintro e w9 ⟨rfl, hb⟩
              replace HS := Lib.hid (HS.out.next hb)
              clear hb
              refine hK _ _ HS.out ?_
              clear hK K
              refine wpSched_call rfl (by rfl) (fun K hK => ?_)
              go_simp
              go_at_call 21
              refine (FD.out _).mono ?_
              rintro e w9 ⟨rfl, hb⟩
              replace HS := Lib.hid (HS.out.next hb)
              clear hb
              refine hK _ _ HS.out ?_
              clear hK K
              refine wpSched_get rfl (by rfl) (fun K hK => ?_)
              refine ⟨_, fun w' hS' => get_eqH rfl rfl rfl (q4 _), ?_⟩
              try go_simp
              refine hK _ ?_
              clear hK K
              refine wpSched_get rfl (by rfl) (fun K hK => ?_)
              refine ⟨?_, fun w' hS' => ?_, ?_⟩
              rotate_left
              · go_simp
                try (with_reducible rfl)
              try go_simp
              refine hK _ ?_
              clear hK K
              refine wpSched_done ?_
              refine HQ.out _ _ ?_
              go_wp2_with fail
              go_meet
              exact ⟨rfl, rfl, rfl, rfl, rfl, rfl, rfl, _, rfl, Lib.hid (by intro hr; simp_all), HS⟩
            case true =>
              refine wp_region_sched (Ap8 w ad g w5.heap.size ls ms h CR) [(false, 0), (false, 1), (false, 2), (false, 3), (false, 4), (false, 5), (false, 6), (false, 7), (false, 8), (true, 9), (false, 10), (false, 11), (false, 12), (false, 13), (false, 14), (false, 15), (false, 16), (false, 17), (false, 18), (false, 19), (false, 20), (false, 21), (false, 22), (true, 23), (false, 24), (false, 25), (false, 26), (false, 27), (false, 28), (false, 30), (false, 31), (true, 29), (true, 32), (false, 33), (false, 34), (false, 35), (false, 36), (false, 37), (false, 38), (false, 39), (false, 40), (false, 41), (false, 42), (false, 43), (false, 44), (false, 45), (false, 46), (false, 47), (false, 48), (false, 49), (false, 50), (false, 51)] (by kernel_rfl) rfl (by kernel_rfl) (by kernel_rfl) (by intro c a d v w h; cases d <;> exact h) H8.out.drew (fun Q' hQ => ?_)
              have HS := Lib.hid H8.out.drew
              have HQ := Lib.hid hQ
              clear H8 hQ
              iterate 3 (
                refine wpSched_get rfl (by rfl) (fun K hK => ?_)
                refine ⟨?_, fun w' hS' => ?_, ?_⟩
                rotate_left
                · go_simp
                  try (with_reducible rfl)
                try go_simp
                refine hK _ ?_
                clear hK K)
              refine wpSched_get rfl (by rfl) (fun K hK => ?_)
              refine ⟨_, fun w' hS' => get_load rfl rfl (R1.out _ _ hS'.1), ?_⟩
              try go_simp
              refine hK _ ?_
              clear hK K
              refine wpSched_get rfl (by rfl) (fun K hK => ?_)
              refine ⟨_, fun w' hS' => get_load rfl rfl (R2.out _ _ hS'.1), ?_⟩
              try go_simp
              refine hK _ ?_
              clear hK K
              refine wpSched_get rfl (by rfl) (fun K hK => ?_)
              refine ⟨_, fun w' hS' => get_neqH rfl rfl rfl (q0n _), ?_⟩
              try go_simp
              refine hK _ ?_
              clear hK K
              refine wpSched_get rfl (by rfl) (fun K hK => ?_)
              refine ⟨?_, fun w' hS' => ?_, ?_⟩
              rotate_left
              · go_simp
                try (with_reducible rfl)
              try go_simp
              refine hK _ ?_
              clear hK K
              refine wpSched_get rfl (by rfl) (fun K hK => ?_)
              refine ⟨_, fun w' hS' => get_load rfl rfl (hS'.2.read zR.out), ?_⟩
              try go_simp
              refine hK _ ?_
              clear hK K
              refine wpSched_get rfl (by rfl) (fun K hK => ?_)
              refine ⟨?_, fun w' hS' => ?_, ?_⟩
              rotate_left
              · go_simp
                try (with_reducible rfl)
              try go_simp
              refine hK _ ?_
              clear hK K
              refine wpSched_call rfl (by rfl) (fun K hK => ?_)
              go_simp
              go_at_call 25
              refine (RR2.out _ _ HS.out.1 cm hcm1 hcm2).mono ?_
              rintro e w9 ⟨rfl, hb⟩
              replace HS := Lib.hid (HS.out.next hb)
              clear hb
              refine hK _ _ HS.out ?_
              clear hK K
              refine wpSched_get rfl (by rfl) (fun K hK => ?_)
              refine ⟨_, fun w' hS' => get_eqH rfl rfl rfl (q1 _), ?_⟩
              try go_simp
              refine hK _ ?_
              clear hK K
              iterate 6 (
                refine wpSched_get rfl (by rfl) (fun K hK => ?_)
                refine ⟨?_, fun w' hS' => ?_, ?_⟩
                rotate_left
                · go_simp
                  try (with_reducible rfl)
                try go_simp
                refine hK _ ?_
                clear hK K)
              refine wpSched_get rfl (by rfl) (fun K hK => ?_)
              refine ⟨_, fun w' hS' => get_load rfl rfl (hS'.2.read zR.out), ?_⟩
              try go_simp
              refine hK _ ?_
              clear hK K
              iterate 5 (
                refine wpSched_get rfl (by rfl) (fun K hK => ?_)
                refine ⟨?_, fun w' hS' => ?_, ?_⟩
                rotate_left
                · go_simp
                  try (with_reducible rfl)
                try go_simp
                refine hK _ ?_
                clear hK K)
              refine wpSched_call rfl (by rfl) (fun K hK => ?_)
              go_simp
              go_at_call 25
              refine (RR3.out _ _ HS.out.1).mono ?_
              rintro e w9 ⟨rfl, hb⟩
              replace HS := Lib.hid (HS.out.next hb)
              clear hb
              refine hK _ _ HS.out ?_
              clear hK K
              refine wpSched_get rfl (by rfl) (fun K hK => ?_)
              refine ⟨_, fun w' hS' => get_eqH rfl rfl rfl (q2 _), ?_⟩
              try go_simp
              refine hK _ ?_
              clear hK K
              iterate 6 (
                refine wpSched_get rfl (by rfl) (fun K hK => ?_)
                refine ⟨?_, fun w' hS' => ?_, ?_⟩
                rotate_left
                · go_simp
                  try (with_reducible rfl)
                try go_simp
                refine hK _ ?_
                clear hK K)
              refine wpSched_call rfl (by rfl) (fun K hK => ?_)
              go_simp
              go_at_call 19
              refine (FA.out _).mono ?_
              rintro e w9 ⟨rfl, hb⟩
              replace HS := Lib.hid (HS.out.next hb)
              clear hb
              refine hK _ _ HS.out ?_
              clear hK K
              refine wpSched_call rfl (by rfl) (fun K hK => ?_)
              go_simp
              go_at_call 19
              refine (FB.out _).mono ?_
              rintro e w9 ⟨rfl, hb⟩
              replace HS := Lib.hid (HS.out.next hb)
              clear hb
              refine hK _ _ HS.out ?_
              clear hK K
              refine wpSched_get rfl (by rfl) (fun K hK => ?_)
              refine ⟨_, fun w' hS' => get_eqH rfl rfl rfl (q3 _), ?_⟩
              try go_simp
              refine hK _ ?_
              clear hK K
              iterate 2 (
                refine wpSched_get rfl (by rfl) (fun K hK => ?_)
                refine ⟨?_, fun w' hS' => ?_, ?_⟩
                rotate_left
                · go_simp
                  try (with_reducible rfl)
                try go_simp
                refine hK _ ?_
                clear hK K)
              iterate 15 (
                refine wpSched_skip rfl (by rfl) (fun K hK => ?_)
                try go_simp
                refine hK _ ?_
                clear hK K)
              refine wpSched_get rfl (by rfl) (fun K hK => ?_)
              refine ⟨?_, fun w' hS' => ?_, ?_⟩
              rotate_left
              · go_simp
                try (with_reducible rfl)
              try go_simp
              refine hK _ ?_
              clear hK K
              refine wpSched_done ?_
              refine HQ.out _ _ ?_
              go_wp2_with fail
              go_meet
              exact ⟨rfl, rfl, rfl, rfl, rfl, rfl, rfl, _, rfl, Lib.hid (fun hr => by cases hr), HS⟩
          case true =>
            refine wp_region_sched (Ap8 w ad g w5.heap.size ls ms h CR) [(false, 0), (false, 1), (false, 2), (false, 3), (false, 4), (false, 5), (false, 6), (false, 7), (false, 8), (true, 9), (false, 10), (false, 11), (false, 12), (false, 13), (false, 14), (false, 15), (false, 16), (false, 17), (false, 18), (false, 19), (false, 20), (false, 21), (false, 22), (true, 23), (false, 24), (false, 25), (false, 26), (false, 27), (false, 28), (false, 29), (false, 30), (false, 31), (false, 32), (false, 33), (false, 34), (false, 35), (false, 36), (false, 37), (false, 38), (false, 39), (false, 40), (false, 41), (false, 42), (false, 43), (false, 44), (false, 45), (false, 46), (false, 47), (false, 48), (false, 49), (false, 50), (false, 51)] (by kernel_rfl) rfl (by kernel_rfl) (by kernel_rfl) (by intro c a d v w h; cases d <;> exact h) H8.out.drew (fun Q' hQ => ?_)
            have HS := Lib.hid H8.out.drew
            have HQ := Lib.hid hQ
            clear H8 hQ
            iterate 3 (
              refine wpSched_get rfl (by rfl) (fun K hK => ?_)
              refine ⟨?_, fun w' hS' => ?_, ?_⟩
              rotate_left
              · go_simp
                try (with_reducible rfl)
              try go_simp
              refine hK _ ?_
              clear hK K)
            refine wpSched_get rfl (by rfl) (fun K hK => ?_)
            refine ⟨_, fun w' hS' => get_load rfl rfl (R1.out _ _ hS'.1), ?_⟩
            try go_simp
            refine hK _ ?_
            clear hK K
            refine wpSched_get rfl (by rfl) (fun K hK => ?_)
            refine ⟨_, fun w' hS' => get_load rfl rfl (R2.out _ _ hS'.1), ?_⟩
            try go_simp
            refine hK _ ?_
            clear hK K
            refine wpSched_get rfl (by rfl) (fun K hK => ?_)
            refine ⟨_, fun w' hS' => get_neqH rfl rfl rfl (q0n _), ?_⟩
            try go_simp
            refine hK _ ?_
            clear hK K
            refine wpSched_get rfl (by rfl) (fun K hK => ?_)
            refine ⟨?_, fun w' hS' => ?_, ?_⟩
            rotate_left
            · go_simp
              try (with_reducible rfl)
            try go_simp
            refine hK _ ?_
            clear hK K
            refine wpSched_get rfl (by rfl) (fun K hK => ?_)
            refine ⟨_, fun w' hS' => get_load rfl rfl (hS'.2.read zR.out), ?_⟩
            try go_simp
            refine hK _ ?_
            clear hK K
            refine wpSched_get rfl (by rfl) (fun K hK => ?_)
            refine ⟨?_, fun w' hS' => ?_, ?_⟩
            rotate_left
            · go_simp
              try (with_reducible rfl)
            try go_simp
            refine hK _ ?_
            clear hK K
            refine wpSched_call rfl (by rfl) (fun K hK => ?_)
            go_simp
            go_at_call 25
            refine (RR2.out _ _ HS.out.1 cm hcm1 hcm2).mono ?_
            rintro e w9 ⟨rfl, hb⟩
            replace HS := Lib.hid (HS.out.next hb)
            clear hb
            refine hK _ _ HS.out ?_
            clear hK K
            refine wpSched_get rfl (by rfl) (fun K hK => ?_)
            refine ⟨_, fun w' hS' => get_eqH rfl rfl rfl (q1 _), ?_⟩
            try go_simp
            refine hK _ ?_
            clear hK K
            iterate 6 (
              refine wpSched_get rfl (by rfl) (fun K hK => ?_)
              refine ⟨?_, fun w' hS' => ?_, ?_⟩
              rotate_left
              · go_simp
                try (with_reducible rfl)
              try go_simp
              refine hK _ ?_
              clear hK K)
            refine wpSched_get rfl (by rfl) (fun K hK => ?_)
            refine ⟨_, fun w' hS' => get_load rfl rfl (hS'.2.read zR.out), ?_⟩
            try go_simp
            refine hK _ ?_
            clear hK K
            iterate 5 (
              refine wpSched_get rfl (by rfl) (fun K hK => ?_)
              refine ⟨?_, fun w' hS' => ?_, ?_⟩
              rotate_left
              · go_simp
                try (with_reducible rfl)
              try go_simp
              refine hK _ ?_
              clear hK K)
            refine wpSched_call rfl (by rfl) (fun K hK => ?_)
            go_simp
            go_at_call 25
            refine (RR3.out _ _ HS.out.1).mono ?_
            rintro e w9 ⟨rfl, hb⟩
            replace HS := Lib.hid (HS.out.next hb)
            clear hb
            refine hK _ _ HS.out ?_
            clear hK K
            refine wpSched_get rfl (by rfl) (fun K hK => ?_)
            refine ⟨_, fun w' hS' => get_eqH rfl rfl rfl (q2 _), ?_⟩
            try go_simp
            refine hK _ ?_
            clear hK K
            iterate 3 (
              refine wpSched_get rfl (by rfl) (fun K hK => ?_)
              refine ⟨?_, fun w' hS' => ?_, ?_⟩
              rotate_left
              · go_simp
                try (with_reducible rfl)
              try go_simp
              refine hK _ ?_
              clear hK K)
            iterate 6 (
              refine wpSched_skip rfl (by rfl) (fun K hK => ?_)
              try go_simp
              refine hK _ ?_
              clear hK K)
            iterate 2 (
              refine wpSched_get rfl (by rfl) (fun K hK => ?_)
              refine ⟨?_, fun w' hS' => ?_, ?_⟩
              rotate_left
              · go_simp
                try (with_reducible rfl)
              try go_simp
              refine hK _ ?_
              clear hK K)
            iterate 15 (
              refine wpSched_skip rfl (by rfl) (fun K hK => ?_)
              try go_simp
              refine hK _ ?_
              clear hK K)
            refine wpSched_get rfl (by rfl) (fun K hK => ?_)
            refine ⟨?_, fun w' hS' => ?_, ?_⟩
            rotate_left
            · go_simp
              try (with_reducible rfl)
            try go_simp
            refine hK _ ?_
            clear hK K
            refine wpSched_done ?_
            refine HQ.out _ _ ?_
            go_wp2_with fail
            go_meet
            exact ⟨rfl, rfl, rfl, rfl, rfl, rfl, rfl, _, rfl, Lib.hid (fun hr => by cases hr), HS⟩
    case true =>
      cases ln
      case false =>
        cases e3
        case false =>
          refine wp_region_sched (Ap8 w ad g w5.heap.size ls ms h CR) [(false, 0), (false, 1), (false, 2), (false, 3), (false, 4), (false, 5), (false, 6), (false, 7), (false, 8), (false, 9), (false, 10), (false, 11), (false, 12), (false, 13), (false, 14), (false, 15), (false, 16), (false, 17), (false, 18), (false, 19), (false, 20), (false, 21), (false, 22), (false, 23), (false, 24), (false, 25), (false, 26), (false, 27), (false, 28), (false, 30), (false, 31), (true, 29), (true, 32), (false, 33), (false, 34), (false, 35), (false, 36), (false, 37), (false, 38), (false, 39), (false, 40), (false, 41), (false, 42), (false, 44), (false, 45), (false, 46), (false, 47), (false, 48), (true, 43), (true, 49), (false, 50), (false, 51)] (by kernel_rfl) rfl (by kernel_rfl) (by kernel_rfl) (by intro c a d v w h; cases d <;> exact h) H8.out.drew (fun Q' hQ => ?_)
          have HS := Lib.hid H8.out.drew
          have HQ := Lib.hid hQ
          clear H8 hQ
          iterate 3 (
            refine wpSched_get rfl (by rfl) (fun K hK => ?_)
            refine ⟨?_, fun w' hS' => ?_, ?_⟩
            rotate_left
            · go_simp
              try (with_reducible rfl)
            try go_simp
            refine hK _ ?_
            clear hK K)
          refine wpSched_get rfl (by rfl) (fun K hK => ?_)
          refine ⟨_, fun w' hS' => get_load rfl rfl (R1.out _ _ hS'.1), ?_⟩
          try go_simp
          refine hK _ ?_
          clear hK K
          refine wpSched_get rfl (by rfl) (fun K hK => ?_)
          refine ⟨_, fun w' hS' => get_load rfl rfl (R2.out _ _ hS'.1), ?_⟩
          try go_simp
          refine hK _ ?_
          clear hK K
          refine wpSched_get rfl (by rfl) (fun K hK => ?_)
          refine ⟨_, fun w' hS' => get_neqH rfl rfl rfl (q0n _), ?_⟩
          try go_simp
          refine hK _ ?_
          clear hK K
          refine wpSched_get rfl (by rfl) (fun K hK => ?_)
          refine ⟨?_, fun w' hS' => ?_, ?_⟩
          rotate_left
          · go_simp
            try (with_reducible rfl)
          try go_simp
          refine hK _ ?_
          clear hK K
          iterate 4 (
            refine wpSched_skip rfl (by rfl) (fun K hK => ?_)
            try go_simp
            refine hK _ ?_
            clear hK K)
          iterate 6 (
            refine wpSched_get rfl (by rfl) (fun K hK => ?_)
            refine ⟨?_, fun w' hS' => ?_, ?_⟩
            rotate_left
            · go_simp
              try (with_reducible rfl)
            try go_simp
            refine hK _ ?_
            clear hK K)
          iterate 8 (
            refine wpSched_skip rfl (by rfl) (fun K hK => ?_)
            try go_simp
            refine hK _ ?_
            clear hK K)
          iterate 6 (
            refine wpSched_get rfl (by rfl) (fun K hK => ?_)
            refine ⟨?_, fun w' hS' => ?_, ?_⟩
            rotate_left
            · go_simp
              try (with_reducible rfl)
            try go_simp
            refine hK _ ?_
            clear hK K)
          refine wpSched_call rfl (by rfl) (fun K hK => ?_)
          go_simp
          go_at_call 19
          refine (FA.out _).mono ?_
          rintro e w9 ⟨rfl, hb⟩
          replace HS := Lib.hid (HS.out.next hb)
          clear hb
          refine hK _ _ HS.out ?_
          clear hK K
          refine wpSched_call rfl (by rfl) (fun K hK => ?_)
          go_simp
          go_at_call 19
          refine (FB.out _).mono ?_
          rintro e w9 ⟨rfl, hb⟩
          replace HS := Lib.hid (HS.out.next hb)
          clear hb
          refine hK _ _ HS.out ?_
          clear hK K
          refine wpSched_get rfl (by rfl) (fun K hK => ?_)
          refine ⟨_, fun w' hS' => get_eqH rfl rfl rfl (q3 _), ?_⟩
          try go_simp
          refine hK _ ?_
          clear hK K
          iterate 6 (
            refine wpSched_get rfl (by rfl) (fun K hK => ?_)
            refine ⟨?_, fun w' hS' => ?_, ?_⟩
            rotate_left
            · go_simp
              try (with_reducible rfl)
            try go_simp
            refine hK _ ?_
            clear hK K)
          refine wpSched_get rfl (by rfl) (fun K hK => ?_)
          refine ⟨_, fun w' hS' => get_conv rfl rfl (CT.out _ _ hS'.1), ?_⟩
          try go_simp
          refine hK _ ?_
          clear hK K
          iterate 5 (
            refine wpSched_get rfl (by rfl) (fun K hK => ?_)
            refine ⟨?_, fun w' hS' => ?_, ?_⟩
            rotate_left
            · go_simp
              try (with_reducible rfl)
            try go_simp
            refine hK _ ?_
            clear hK K)
          refine wpSched_get rfl (by rfl) (fun K hK => ?_)
          refine ⟨_, fun w' hS' => get_load rfl rfl (R1.out _ _ hS'.1), ?_⟩
          try go_simp
          refine hK _ ?_
          clear hK K
          refine wpSched_get rfl (by rfl) (fun K hK => ?_)
          refine ⟨_, fun w' hS' => get_load rfl rfl (R2.out _ _ hS'.1), ?_⟩
          try go_simp
          refine hK _ ?_
          clear hK K
          refine wpSched_call rfl (by rfl) (fun K hK => ?_)
          go_simp
          go_at_call 19
          refine (FC.out _).mono ?_
          rintro e w9 ⟨rfl, hb⟩
          replace HS := Lib.hid (HS.out.next hb)
          clear hb
          refine hK _ _ HS.out ?_
          clear hK K
          refine wpSched_call rfl (by rfl) (fun K hK => ?_)
          go_simp
          go_at_call 21
          refine (FD.out _).mono ?_
          rintro e w9 ⟨rfl, hb⟩
          replace HS := Lib.hid (HS.out.next hb)
          clear hb
          refine hK _ _ HS.out ?_
          clear hK K
          refine wpSched_get rfl (by rfl) (fun K hK => ?_)
          refine ⟨_, fun w' hS' => get_eqH rfl rfl rfl (q4 _), ?_⟩
          try go_simp
          refine hK _ ?_
          clear hK K
          refine wpSched_get rfl (by rfl) (fun K hK => ?_)
          refine ⟨?_, fun w' hS' => ?_, ?_⟩
          rotate_left
          · go_simp
            try (with_reducible rfl)
          try go_simp
          refine hK _ ?_
          clear hK K
          refine wpSched_done ?_
          refine HQ.out _ _ ?_
          go_wp2_with fail
          go_meet
          exact ⟨rfl, rfl, rfl, rfl, rfl, rfl, rfl, _, rfl, Lib.hid (by intro hr; simp_all), HS⟩
        case true =>
          refine wp_region_sched (Ap8 w ad g w5.heap.size ls ms h CR) [(false, 0), (false, 1), (false, 2), (false, 3), (false, 4), (false, 5), (false, 6), (false, 7), (false, 8), (false, 9), (false, 10), (false, 11), (false, 12), (false, 13), (false, 14), (false, 15), (false, 16), (false, 17), (false, 18), (false, 19), (false, 20), (false, 21), (false, 22), (false, 23), (false, 24), (false, 25), (false, 26), (false, 27), (false, 28), (false, 30), (false, 31), (true, 29), (true, 32), (false, 33), (false, 34), (false, 35), (false, 36), (false, 37), (false, 38), (false, 39), (false, 40), (false, 41), (false, 42), (false, 43), (false, 44), (false, 45), (false, 46), (false, 47), (false, 48), (false, 49), (false, 50), (false, 51)] (by kernel_rfl) rfl (by kernel_rfl) (by kernel_rfl) (by intro c a d v w h; cases d <;> exact h) H8.out.drew (fun Q' hQ => ?_)
          have HS := Lib.hid H8.out.drew
          have HQ := Lib.hid hQ
          clear H8 hQ
          iterate 3 (
            refine wpSched_get rfl (by rfl) (fun K hK => ?_)
            refine ⟨?_, fun w' hS' => ?_, ?_⟩
            rotate_left
            · go_simp
              try (with_reducible rfl)
            try go_simp
            refine hK _ ?_
            clear hK K)
          refine wpSched_get rfl (by rfl) (fun K hK => ?_)
          refine ⟨_, fun w' hS' => get_load rfl rfl (R1.out _ _ hS'.1), ?_⟩
          try go_simp
          refine hK _ ?_
          clear hK K
          refine wpSched_get rfl (by rfl) (fun K hK => ?_)
          refine ⟨_, fun w' hS' => get_load rfl rfl (R2.out _ _ hS'.1), ?_⟩
          try go_simp
          refine hK _ ?_
          clear hK K
          refine wpSched_get rfl (by rfl) (fun K hK => ?_)
          refine ⟨_, fun w' hS' => get_neqH rfl rfl rfl (q0n _), ?_⟩
          try go_simp
          refine hK _ ?_
          clear hK K
          refine wpSched_get rfl (by rfl) (fun K hK => ?_)
          refine ⟨?_, fun w' hS' => ?_, ?_⟩
          rotate_left
          · go_simp
            try (with_reducible rfl)
          try go_simp
          refine hK _ ?_
          clear hK K
          iterate 4 (
            refine wpSched_skip rfl (by rfl) (fun K hK => ?_)
            try go_simp
            refine hK _ ?_
            clear hK K)
          iterate 6 (
            refine wpSched_get rfl (by rfl) (fun K hK => ?_)
            refine ⟨?_, fun w' hS' => ?_, ?_⟩
            rotate_left
            · go_simp
              try (with_reducible rfl)
            try go_simp
            refine hK _ ?_
            clear hK K)
          iterate 8 (
            refine wpSched_skip rfl (by rfl) (fun K hK => ?_)
            try go_simp
            refine hK _ ?_
            clear hK K)
          iterate 6 (
            refine wpSched_get rfl (by rfl) (fun K hK => ?_)
            refine ⟨?_, fun w' hS' => ?_, ?_⟩
            rotate_left
            · go_simp
              try (with_reducible rfl)
            try go_simp
            refine hK _ ?_
            clear hK K)
          refine wpSched_call rfl (by rfl) (fun K hK => ?_)
          go_simp
          go_at_call 19
          refine (FA.out _).mono ?_
          rintro e w9 ⟨rfl, hb⟩
          replace HS := Lib.hid (HS.out.next hb)
          clear hb
          refine hK _ _ HS.out ?_
          clear hK K
          refine wpSched_call rfl (by rfl) (fun K hK => ?_)
          go_simp
          go_at_call 19
          refine (FB.out _).mono ?_
          rintro e w9 ⟨rfl, hb⟩
          replace HS := Lib.hid (HS.out.next hb)
          clear hb
          refine hK _ _ HS.out ?_
          clear hK K
          refine wpSched_get rfl (by rfl) (fun K hK => ?_)
          refine ⟨_, fun w' hS' => get_eqH rfl rfl rfl (q3 _), ?_⟩
          try go_simp
          refine hK _ ?_
          clear hK K
          iterate 2 (
            refine wpSched_get rfl (by rfl) (fun K hK => ?_)
            refine ⟨?_, fun w' hS' => ?_, ?_⟩
            rotate_left
            · go_simp
              try (with_reducible rfl)
            try go_simp
            refine hK _ ?_
            clear hK K)
          iterate 15 (
            refine wpSched_skip rfl (by rfl) (fun K hK => ?_)
            try go_simp
            refine hK _ ?_
            clear hK K)
          refine wpSched_get rfl (by rfl) (fun K hK => ?_)
          refine ⟨?_, fun w' hS' => ?_, ?_⟩
          rotate_left
          · go_simp
            try (with_reducible rfl)
          try go_simp
          refine hK _ ?_
          clear hK K
          refine wpSched_done ?_
          refine HQ.out _ _ ?_
          go_wp2_with fail
          go_meet
          exact ⟨rfl, rfl, rfl, rfl, rfl, rfl, rfl, _, rfl, Lib.hid (fun hr => by cases hr), HS⟩
      case true =>
        cases e2
        case false =>
          cases e3
          case false =>
            refine wp_region_sched (Ap8 w ad g w5.heap.size ls ms h CR) [(false, 0), (false, 1), (false, 2), (false, 3), (false, 4), (false, 5), (false, 6), (false, 7), (false, 8), (false, 9), (false, 10), (false, 11), (false, 12), (false, 13), (false, 14), (false, 15), (false, 16), (false, 17), (false, 18), (false, 19), (false, 20), (false, 21), (false, 22), (true, 23), (false, 24), (false, 25), (false, 26), (false, 27), (false, 28), (false, 30), (false, 31), (true, 29), (true, 32), (false, 33), (false, 34), (false, 35), (false, 36), (false, 37), (false, 38), (false, 39), (false, 40), (false, 41), (false, 42), (false, 44), (false, 45), (false, 46), (false, 47), (false, 48), (true, 43), (true, 49), (false, 50), (false, 51)] (by kernel_rfl) rfl (by kernel_rfl) (by kernel_rfl) (by intro c a d v w h; cases d <;> exact h) H8.out.drew (fun Q' hQ => ?_)
            have HS := Lib.hid H8.out.drew
            have HQ := Lib.hid hQ
            clear H8 hQ
            iterate 3 (
              refine wpSched_get rfl (by rfl) (fun K hK => ?_)
              refine ⟨?_, fun w' hS' => ?_, ?_⟩
              rotate_left
              · go_simp
                try (with_reducible rfl)
              try go_simp
              refine hK _ ?_
              clear hK K)
            refine wpSched_get rfl (by rfl) (fun K hK => ?_)
            refine ⟨_, fun w' hS' => get_load rfl rfl (R1.out _ _ hS'.1), ?_⟩
            try go_simp
            refine hK _ ?_
            clear hK K
            refine wpSched_get rfl (by rfl) (fun K hK => ?_)
            refine ⟨_, fun w' hS' => get_load rfl rfl (R2.out _ _ hS'.1), ?_⟩
            try go_simp
            refine hK _ ?_
            clear hK K
            refine wpSched_get rfl (by rfl) (fun K hK => ?_)
            refine ⟨_, fun w' hS' => get_neqH rfl rfl rfl (q0n _), ?_⟩
            try go_simp
            refine hK _ ?_
            clear hK K
            refine wpSched_get rfl (by rfl) (fun K hK => ?_)
            refine ⟨?_, fun w' hS' => ?_, ?_⟩
            rotate_left
            · go_simp
              try (with_reducible rfl)
            try go_simp
            refine hK _ ?_
            clear hK K
            iterate 4 (
              refine wpSched_skip rfl (by rfl) (fun K hK => ?_)
              try go_simp
              refine hK _ ?_
              clear hK K)
            iterate 6 (
              refine wpSched_get rfl (by rfl) (fun K hK => ?_)
              refine ⟨?_, fun w' hS' => ?_, ?_⟩
              rotate_left
              · go_simp
                try (with_reducible rfl)
              try go_simp
              refine hK _ ?_
              clear hK K)
            refine wpSched_get rfl (by rfl) (fun K hK => ?_)
            refine ⟨_, fun w' hS' => get_load rfl rfl (hS'.2.read zR.out), ?_⟩
            try go_simp
            refine hK _ ?_
            clear hK K
            iterate 5 (
              refine wpSched_get rfl (by rfl) (fun K hK => ?_)
              refine ⟨?_, fun w' hS' => ?_, ?_⟩
              rotate_left
              · go_simp
                try (with_reducible rfl)
              try go_simp
              refine hK _ ?_
              clear hK K)
            refine wpSched_call rfl (by rfl) (fun K hK => ?_)
            go_simp
            go_at_call 25
            refine (RR3.out _ _ HS.out.1).mono ?_
            rintro e w9 ⟨rfl, hb⟩
            replace HS := Lib.hid (HS.out.next hb)
            clear hb
            refine hK _ _ HS.out ?_
            clear hK K
            refine wpSched_get rfl (by rfl) (fun K hK => ?_)
            refine ⟨_, fun w' hS' => get_eqH rfl rfl rfl (q2 _), ?_⟩
            try go_simp
            refine hK _ ?_
            clear hK K
            iterate 6 (
              refine wpSched_get rfl (by rfl) (fun K hK => ?_)
              refine ⟨?_, fun w' hS' => ?_, ?_⟩
              rotate_left
              · go_simp
                try (with_reducible rfl)
              try go_simp
              refine hK _ ?_
              clear hK K)
            refine wpSched_call rfl (by rfl) (fun K hK => ?_)
            go_simp
            go_at_call 19
            refine (FA.out _).mono ?_
            rintro e w9 ⟨rfl, hb⟩
            replace HS := Lib.hid (HS.out.next hb)
            clear hb
            refine hK _ _ HS.out ?_
            clear hK K
            refine wpSched_call rfl (by rfl) (fun K hK => ?_)
            go_simp
            go_at_call 19
            refine (FB.out _).mono ?_
            rintro e w9 ⟨rfl, hb⟩
            replace HS := Lib.hid (HS.out.next hb)
            clear hb
            refine hK _ _ HS.out ?_
            clear hK K
            refine wpSched_get rfl (by rfl) (fun K hK => ?_)
            refine ⟨_, fun w' hS' => get_eqH rfl rfl rfl (q3 _), ?_⟩
            try go_simp
            refine hK _ ?_
            clear hK K
            iterate 6 (
              refine wpSched_get rfl (by rfl) (fun K hK => ?_)
              refine ⟨?_, fun w' hS' => ?_, ?_⟩
              rotate_left
              · go_simp
                try (with_reducible rfl)
              try go_simp
              refine hK _ ?_
              clear hK K)
            refine wpSched_get rfl (by rfl) (fun K hK => ?_)
            refine ⟨_, fun w' hS' => get_conv rfl rfl (CT.out _ _ hS'.1), ?_⟩
            try go_simp
            refine hK _ ?_
            clear hK K
            iterate 5 (
              refine wpSched_get rfl (by rfl) (fun K hK => ?_)
              refine ⟨?_, fun w' hS' => ?_, ?_⟩
              rotate_left
              · go_simp
                try (with_reducible rfl)
              try go_simp
              refine hK _ ?_
              clear hK K)
            refine wpSched_get rfl (by rfl) (fun K hK => ?_)
            refine ⟨_, fun w' hS' => get_load rfl rfl (R1.out _ _ hS'.1), ?_⟩
            try go_simp
            refine hK _ ?_
            clear hK K
            refine wpSched_get rfl (by rfl) (fun K hK => ?_)
            refine ⟨_, fun w' hS' => get_load rfl rfl (R2.out _ _ hS'.1), ?_⟩
            try go_simp
            refine hK _ ?_
            clear hK K
            refine wpSched_call rfl (by rfl) (fun K hK => ?_)
            go_simp
            go_at_call 19
            refine (FC.out _).mono ?_
            rintro e w9 ⟨rfl, hb⟩
            replace HS := Lib.hid (HS.out.next hb)
            clear hb
            refine hK _ _ HS.out ?_
            clear hK K
            refine wpSched_call rfl (by rfl) (fun K hK => ?_)
            go_simp
            go_at_call 21
            refine (FD.out _).mono ?_
            rintro e w9 ⟨rfl, hb⟩
            replace HS := Lib.hid (HS.out.next hb)
            clear hb
            refine hK _ _ HS.out ?_
            clear hK K
            refine wpSched_get rfl (by rfl) (fun K hK => ?_)
            refine ⟨_, fun w' hS' => get_eqH rfl rfl rfl (q4 _), ?_⟩
            try go_simp
            refine hK _ ?_
            clear hK K
            refine wpSched_get rfl (by rfl) (fun K hK => ?_)
            refine ⟨?_, fun w' hS' => ?_, ?_⟩
            rotate_left
            · go_simp
              try (with_reducible rfl)
            try go_simp
            refine hK _ ?_
            clear hK K
            refine wpSched_done ?_
            refine HQ.out _ _ ?_
            go_wp2_with fail
            go_meet
            exact ⟨rfl, rfl, rfl, rfl, rfl, rfl, rfl, _, rfl, Lib.hid (by intro hr; simp_all), HS⟩
          case true =>
            refine wp_region_sched (Ap8 w ad g w5.heap.size ls ms h CR) [(false, 0), (false, 1), (false, 2), (false, 3), (false, 4), (false, 5), (false, 6), (false, 7), (false, 8), (false, 9), (false, 10), (false, 11), (false, 12), (false, 13), (false, 14), (false, 15), (false, 16), (false, 17), (false, 18), (false, 19), (false, 20), (false, 21), (false, 22), (true, 23), (false, 24), (false, 25), (false, 26), (false, 27), (false, 28), (false, 30), (false, 31), (true, 29), (true, 32), (false, 33), (false, 34), (false, 35), (false, 36), (false, 37), (false, 38), (false, 39), (false, 40), (false, 41), (false, 42), (false, 43), (false, 44), (false, 45), (false, 46), (false, 47), (false, 48), (false, 49), (false, 50), (false, 51)] (by kernel_rfl) rfl (by kernel_rfl) (by kernel_rfl) (by intro c a d v w h; cases d <;> exact h) H8.out.drew (fun Q' hQ => ?_)
            have HS := Lib.hid H8.out.drew
            have HQ := Lib.hid hQ
            clear H8 hQ
            iterate 3 (
              refine wpSched_get rfl (by rfl) (fun K hK => ?_)
              refine ⟨?_, fun w' hS' => ?_, ?_⟩
              rotate_left
              · go_simp
                try (with_reducible rfl)
              try go_simp
              refine hK _ ?_
              clear hK K)
            refine wpSched_get rfl (by rfl) (fun K hK => ?_)
            refine ⟨_, fun w' hS' => get_load rfl rfl (R1.out _ _ hS'.1), ?_⟩
            try go_simp
            refine hK _ ?_
            clear hK K
            refine wpSched_get rfl (by rfl) (fun K hK => ?_)
            refine ⟨_, fun w' hS' => get_load rfl rfl (R2.out _ _ hS'.1), ?_⟩
            try go_simp
            refine hK _ ?_
            clear hK K
            refine wpSched_get rfl (by rfl) (fun K hK => ?_)
            refine ⟨_, fun w' hS' => get_neqH rfl rfl rfl (q0n _), ?_⟩
            try go_simp
            refine hK _ ?_
            clear hK K
            refine wpSched_get rfl (by rfl) (fun K hK => ?_)
            refine ⟨?_, fun w' hS' => ?_, ?_⟩
            rotate_left
            · go_simp
              try (with_reducible rfl)
            try go_simp
            refine hK _ ?_
            clear hK K
            iterate 4 (
              refine wpSched_skip rfl (by rfl) (fun K hK => ?_)
              try go_simp
              refine hK _ ?_
              clear hK K)
            iterate 6 (
              refine wpSched_get rfl (by rfl) (fun K hK => ?_)
              refine ⟨?_, fun w' hS' => ?_, ?_⟩
              rotate_left
              · go_simp
                try (with_reducible rfl)
              try go_simp
              refine hK _ ?_
              clear hK K)
            refine wpSched_get rfl (by rfl) (fun K hK => ?_)
            refine ⟨_, fun w' hS' => get_load rfl rfl (hS'.2.read zR.out), ?_⟩
            try go_simp
            refine hK _ ?_
            clear hK K
            iterate 5 (
              refine wpSched_get rfl (by rfl) (fun K hK => ?_)
              refine ⟨?_, fun w' hS' => ?_, ?_⟩
              rotate_left
              · go_simp
                try (with_reducible rfl)
              try go_simp
              refine hK _ ?_
              clear hK K)
            refine wpSched_call rfl (by rfl) (fun K hK => ?_)
            go_simp
            go_at_call 25
            refine (RR3.out _ _ HS.out.1).mono ?_
            rintro e w9 ⟨rfl, hb⟩
            replace HS := Lib.hid (HS.out.next hb)
            clear hb
            refine hK _ _ HS.out ?_
            clear hK K
            refine wpSched_get rfl (by rfl) (fun K hK => ?_)
            refine ⟨_, fun w' hS' => get_eqH rfl rfl rfl (q2 _), ?_⟩
            try go_simp
            refine hK _ ?_
            clear hK K
            iterate 6 (
              refine wpSched_get rfl (by rfl) (fun K hK => ?_)
              refine ⟨?_, fun w' hS' => ?_, ?_⟩
              rotate_left
              · go_simp
                try (with_reducible rfl)
              try go_simp
              refine hK _ ?_
              clear hK K)
            refine wpSched_call rfl (by rfl) (fun K hK => ?_)
            go_simp
            go_at_call 19
            refine (FA.out _).mono ?_
            rintro e w9 ⟨rfl, hb⟩
            replace HS := Lib.hid (HS.out.next hb)
            clear hb
            refine hK _ _ HS.out ?_
            clear hK K
            refine wpSched_call rfl (by rfl) (fun K hK => ?_)
            go_simp
            go_at_call 19
            refine (FB.out _).mono ?_
            rintro e w9 ⟨rfl, hb⟩
            replace HS := Lib.hid (HS.out.next hb)
            clear hb
            refine hK _ _ HS.out ?_
            clear hK K
            refine wpSched_get rfl (by rfl) (fun K hK => ?_)
            refine ⟨_, fun w' hS' => get_eqH rfl rfl rfl (q3 _), ?_⟩
            try go_simp
            refine hK _ ?_
            clear hK K
            iterate 2 (
              refine wpSched_get rfl (by rfl) (fun K hK => ?_)
              refine ⟨?_, fun w' hS' => ?_, ?_⟩
              rotate_left
              · go_simp
                try (with_reducible rfl)
              try go_simp
              refine hK _ ?_
              clear hK K)
            iterate 15 (
              refine wpSched_skip rfl (by rfl) (fun K hK => ?_)
              try go_simp
              refine hK _ ?_
              clear hK K)
            refine wpSched_get rfl (by rfl) (fun K hK => ?_)
            refine ⟨?_, fun w' hS' => ?_, ?_⟩
            rotate_left
            · go_simp
              try (with_reducible rfl)
            try go_simp
            refine hK _ ?_
            clear hK K
            refine wpSched_done ?_
            refine HQ.out _ _ ?_
            go_wp2_with fail
            go_meet
            exact ⟨rfl, rfl, rfl, rfl, rfl, rfl, rfl, _, rfl, Lib.hid (fun hr => by cases hr), HS⟩
        case true =>
          refine wp_region_sched (Ap8 w ad g w5.heap.size ls ms h CR) [(false, 0), (false, 1), (false, 2), (false, 3), (false, 4), (false, 5), (false, 6), (false, 7), (false, 8), (false, 9), (false, 10), (false, 11), (false, 12), (false, 13), (false, 14), (false, 15), (false, 16), (false, 17), (false, 18), (false, 19), (false, 20), (false, 21), (false, 22), (true, 23), (false, 24), (false, 25), (false, 26), (false, 27), (false, 28), (false, 29), (false, 30), (false, 31), (false, 32), (false, 33), (false, 34), (false, 35), (false, 36), (false, 37), (false, 38), (false, 39), (false, 40), (false, 41), (false, 42), (false, 43), (false, 44), (false, 45), (false, 46), (false, 47), (false, 48), (false, 49), (false, 50), (false, 51)] (by kernel_rfl) rfl (by kernel_rfl) (by kernel_rfl) (by intro c a d v w h; cases d <;> exact h) H8.out.drew (fun Q' hQ => ?_)
          have HS := Lib.hid H8.out.drew
          have HQ := Lib.hid hQ
          clear H8 hQ
          iterate 3 (
            refine wpSched_get rfl (by rfl) (fun K hK => ?_)
            refine ⟨?_, fun w' hS' => ?_, ?_⟩
            rotate_left
            · go_simp
              try (with_reducible rfl)
            try go_simp
            refine hK _ ?_
            clear hK K)
          refine wpSched_get rfl (by rfl) (fun K hK => ?_)
          refine ⟨_, fun w' hS' => get_load rfl rfl (R1.out _ _ hS'.1), ?_⟩
          try go_simp
          refine hK _ ?_
          clear hK K
          refine wpSched_get rfl (by rfl) (fun K hK => ?_)
          refine ⟨_, fun w' hS' => get_load rfl rfl (R2.out _ _ hS'.1), ?_⟩
          try go_simp
          refine hK _ ?_
          clear hK K
          refine wpSched_get rfl (by rfl) (fun K hK => ?_)
          refine ⟨_, fun w' hS' => get_neqH rfl rfl rfl (q0n _), ?_⟩
          try go_simp
          refine hK _ ?_
          clear hK K
          refine wpSched_get rfl (by rfl) (fun K hK => ?_)
          refine ⟨?_, fun w' hS' => ?_, ?_⟩
          rotate_left
          · go_simp
            try (with_reducible rfl)
          try go_simp
          refine hK _ ?_
          clear hK K
          iterate 4 (
            refine wpSched_skip rfl (by rfl) (fun K hK => ?_)
            try go_simp
            refine hK _ ?_
            clear hK K)
          iterate 6 (
            refine wpSched_get rfl (by rfl) (fun K hK => ?_)
            refine ⟨?_, fun w' hS' => ?_, ?_⟩
            rotate_left
            · go_simp
              try (with_reducible rfl)
            try go_simp
            refine hK _ ?_
            clear hK K)
          refine wpSched_get rfl (by rfl) (fun K hK => ?_)
          refine ⟨_, fun w' hS' => get_load rfl rfl (hS'.2.read zR.out), ?_⟩
          try go_simp
          refine hK _ ?_
          clear hK K
          iterate 5 (
            refine wpSched_get rfl (by rfl) (fun K hK => ?_)
            refine ⟨?_, fun w' hS' => ?_, ?_⟩
            rotate_left
            · go_simp
              try (with_reducible rfl)
            try go_simp
            refine hK _ ?_
            clear hK K)
          refine wpSched_call rfl (by rfl) (fun K hK => ?_)
          go_simp
          go_at_call 25
          refine (RR3.out _ _ HS.out.1).mono ?_
          rintro e w9 ⟨rfl, hb⟩
          replace HS := Lib.hid (HS.out.next hb)
          clear hb
          refine hK _ _ HS.out ?_
          clear hK K
          refine wpSched_get rfl (by rfl) (fun K hK => ?_)
          refine ⟨_, fun w' hS' => get_eqH rfl rfl rfl (q2 _), ?_⟩
          try go_simp
          refine hK _ ?_
          clear hK K
          iterate 3 (
            refine wpSched_get rfl (by rfl) (fun K hK => ?_)
            refine ⟨?_, fun w' hS' => ?_, ?_⟩
            rotate_left
            · go_simp
              try (with_reducible rfl)
            try go_simp
            refine hK _ ?_
            clear hK K)
          iterate 6 (
            refine wpSched_skip rfl (by rfl) (fun K hK => ?_)
            try go_simp
            refine hK _ ?_
            clear hK K)
          iterate 2 (
            refine wpSched_get rfl (by rfl) (fun K hK => ?_)
            refine ⟨?_, fun w' hS' => ?_, ?_⟩
            rotate_left
            · go_simp
              try (with_reducible rfl)
            try go_simp
            refine hK _ ?_
            clear hK K)
          iterate 15 (
            refine wpSched_skip rfl (by rfl) (fun K hK => ?_)
            try go_simp
            refine hK _ ?_
            clear hK K)
          refine wpSched_get rfl (by rfl) (fun K hK => ?_)
          refine ⟨?_, fun w' hS' => ?_, ?_⟩
          rotate_left
          · go_simp
            try (with_reducible rfl)
          try go_simp
          refine hK _ ?_
          clear hK K
          refine wpSched_done ?_
          refine HQ.out _ _ ?_
          go_wp2_with fail
          go_meet
          exact ⟨rfl, rfl, rfl, rfl, rfl, rfl, rfl, _, rfl, Lib.hid (fun hr => by cases hr), HS⟩
  case rest =>
  obtain ⟨rfl, rfl, rfl, rfl, rfl, rfl, rfl, r, rfl, HF, H8⟩ := hcut
  cases r
  case true =>
    have hTc : Tab wc := H8.out.1.tab
    go_wp2_with (go_at_call 17; (with_reducible refine (grown_any _ hTc).mono ?_); rintro e w7 ⟨rfl, hb⟩)
    go_ret
    exact ⟨rfl, below_new H8.out.1.below hb⟩
  case false =>
    obtain ⟨f1, f2, rfl, rfl⟩ := HF.out rfl
    have HE : e1 = b0 := by
      have := B1.out
      cases b0 <;> cases e1 <;> simp_all
    subst HE
    have HY := Lib.hid H8.out.1
    clear HF H8 RR2 RR3 FA FB FC FD
    go_upto_region 10 with fail
    refine world_gen (fun wx => ApH w ad g ls ms h wx) HY.out (fun wd HY => ?_)
    have HY := Lib.hid HY
    go_upto_region 11 with (first
      | (go_at_call 24; (with_reducible refine (PR1.out _ _ HY.out).mono ?_); rintro e w8 ⟨rfl, hb⟩; have HY1 := Lib.hid (HY.out.next hb); clear hb)
      | (go_at_call 24; (with_reducible refine (PR2.out _ _ HY1.out cm).mono ?_); rintro e w9 ⟨rfl, hb⟩; have HY2 := Lib.hid (HY1.out.next hb); clear hb)
      | (refine wpList_store_row rfl 24 _ _ rfl w9.heap.size CR rfl rfl 24 _ ((Row.made w9 24 (nums .u8 (List.replicate 32 0))).alloc _) (sizeH _ zR.out) (by rw [zR.out]; rfl) oR.out ?_)
      | (refine wpList_store_row rfl 24 _ _ rfl (w9.heap.size + 1) CM rfl rfl 24 _ ((Row.made2 w9 _ 24 (nums .u8 (List.replicate 32 0))).wfar (by omega) _) (sizeH _ zM.out) (by rw [zM.out]; rfl) oM.out ?_))
    obtain ⟨g11, hg11⟩ : ∃ g11, Hid (g11 = w9.heap.size) := ⟨_, Lib.hid rfl⟩
    refine world_gen (fun wx => Ap12 w ad g w9.heap.size ls ms h CR CM wx) (Ap12.made HY2.out) (fun we H12 => ?_)
    rw [← hg11.out] at H12 ⊢
    have H12 := Lib.hid H12
    clear HY HY1 HY2 hg11
    have HYY := Lib.hid H12.out.1
    go_upto_region 12 with (first
      | (go_at_call 24; (with_reducible refine (PR3.out _ _ HYY.out).mono ?_); rintro e wf ⟨rfl, hb⟩; have H12b := Lib.hid (H12.out.next hb); clear hb)
      | (refine wpList_store_fresh rfl 24 _ _ rfl CI rfl rfl 24 _ (sizeH _ zI.out) (by rw [zI.out]; rfl) oI.out ?_; intro wg hS6 hb6; have H13 : Hid (Ap13 w ad g g11 wf.heap.size ls ms h CR CM CI wg) := Lib.hid ⟨H12b.out.next hb6, hS6⟩; clear hS6 hb6))
    obtain ⟨g13, hg13⟩ : ∃ g13, Hid (g13 = wf.heap.size) := ⟨_, Lib.hid rfl⟩
    rw [← hg13.out] at H13 ⊢
    clear H12 H12b HYY hg13 PR1 PR2 PR3
    try simp only [Act.put]
    cases e2
    case false =>
      refine wp_region_sched (Ap13 w ad g g11 g13 ls ms h CR CM CI) [(false, 0), (false, 1), (false, 2), (false, 3), (false, 4), (false, 5), (false, 6), (false, 7), (false, 8), (false, 9), (false, 10), (false, 11), (false, 12), (false, 13), (false, 14), (false, 15), (false, 16), (false, 17), (false, 18), (false, 19)] (by kernel_rfl) rfl (by kernel_rfl) (by kernel_rfl) (by intro c a d v w h; cases d <;> exact h) H13.out.drew (fun Q' hQ => ?_)
      have HG := Lib.hid H13.out.drew.1.1
      have HQ := Lib.hid hQ
      clear H13 hQ
      refine wpSched_get rfl (by rfl) (fun K hK => ?_)
      refine ⟨_, fun w' hS' => get_load rfl rfl (hS'.1.2.1.read zR.out), ?_⟩
      try go_simp
      refine hK _ ?_
      clear hK K
      refine wpSched_get rfl (by rfl) (fun K hK => ?_)
      refine ⟨_, fun w' hS' => get_load rfl rfl (hS'.1.2.2.read zM.out), ?_⟩
      try go_simp
      refine hK _ ?_
      clear hK K
      refine wpSched_get rfl (by rfl) (fun K hK => ?_)
      refine ⟨_, fun w' hS' => get_eqH rfl rfl rfl (q1 _), ?_⟩
      try go_simp
      refine hK _ ?_
      clear hK K
      iterate 3 (
        refine wpSched_get rfl (by rfl) (fun K hK => ?_)
        refine ⟨?_, fun w' hS' => ?_, ?_⟩
        rotate_left
        · go_simp
          try (with_reducible rfl)
        try go_simp
        refine hK _ ?_
        clear hK K)
      refine wpSched_get rfl (by rfl) (fun K hK => ?_)
      refine ⟨_, fun w' hS' => get_load rfl rfl (R1.out _ _ hS'.1.1), ?_⟩
      try go_simp
      refine hK _ ?_
      clear hK K
      refine wpSched_get rfl (by rfl) (fun K hK => ?_)
      refine ⟨_, fun w' hS' => get_load rfl rfl (R2.out _ _ hS'.1.1), ?_⟩
      try go_simp
      refine hK _ ?_
      clear hK K
      refine wpSched_get rfl (by rfl) (fun K hK => ?_)
      refine ⟨_, fun w' hS' => get_eqH rfl rfl rfl (q0 _), ?_⟩
      try go_simp
      refine hK _ ?_
      clear hK K
      iterate 2 (
        refine wpSched_get rfl (by rfl) (fun K hK => ?_)
        refine ⟨?_, fun w' hS' => ?_, ?_⟩
        rotate_left
        · go_simp
          try (with_reducible rfl)
        try go_simp
        refine hK _ ?_
        clear hK K)
      refine wpSched_get rfl (by rfl) (fun K hK => ?_)
      refine ⟨_, fun w' hS' => get_load rfl rfl (hS'.2.read zI.out), ?_⟩
      try go_simp
      refine hK _ ?_
      clear hK K
      refine wpSched_get rfl (by rfl) (fun K hK => ?_)
      refine ⟨_, fun w' hS' => get_load rfl rfl (hS'.1.2.1.read zR.out), ?_⟩
      try go_simp
      refine hK _ ?_
      clear hK K
      refine wpSched_get rfl (by rfl) (fun K hK => ?_)
      refine ⟨_, fun w' hS' => get_eqH rfl rfl rfl (q2s _), ?_⟩
      try go_simp
      refine hK _ ?_
      clear hK K
      refine wpSched_get rfl (by rfl) (fun K hK => ?_)
      refine ⟨?_, fun w' hS' => ?_, ?_⟩
      rotate_left
      · go_simp
        try (with_reducible rfl)
      try go_simp
      refine hK _ ?_
      clear hK K
      iterate 3 (
        refine wpSched_skip rfl (by rfl) (fun K hK => ?_)
        try go_simp
        refine hK _ ?_
        clear hK K)
      iterate 2 (
        refine wpSched_get rfl (by rfl) (fun K hK => ?_)
        refine ⟨?_, fun w' hS' => ?_, ?_⟩
        rotate_left
        · go_simp
          try (with_reducible rfl)
        try go_simp
        refine hK _ ?_
        clear hK K)
      refine wpSched_done ?_
      refine HQ.out _ _ ?_
      go_upto_region 14 with fail
      refine wp_region_sched (ApH w ad g ls ms h) [(false, 0), (false, 2), (false, 3), (true, 1), (true, 4), (false, 5), (false, 6), (false, 7), (false, 8), (false, 9), (false, 10), (false, 11), (false, 12), (false, 13), (false, 15), (false, 16), (false, 17), (false, 18), (false, 19), (true, 14), (true, 20), (false, 21), (false, 22), (false, 23), (true, 24), (false, 25), (false, 26)] (by kernel_rfl) rfl (by kernel_rfl) (by kernel_rfl) (by intro c a d v w h; cases d <;> exact h) HG.out.drew (fun Q' hQ => ?_)
      have HS := Lib.hid HG.out.drew
      have HQ := Lib.hid hQ
      clear HG hQ
      iterate 3 (
        refine wpSched_get rfl (by rfl) (fun K hK => ?_)
        refine ⟨?_, fun w' hS' => ?_, ?_⟩
        rotate_left
        · go_simp
          try (with_reducible rfl)
        try go_simp
        refine hK _ ?_
        clear hK K)
      refine wpSched_call rfl (by rfl) (fun K hK => ?_)
      go_simp
      go_at_call 18
      refine (GA.out _ HS.out.tab).mono ?_
      rintro e w9 ⟨rfl, hb⟩
      replace HS := Lib.hid (HS.out.next hb)
      clear hb
      refine hK _ _ HS.out ?_
      clear hK K
      refine wpSched_call rfl (by rfl) (fun K hK => ?_)
      go_simp
      go_at_call 18
      refine (GB.out _ HS.out.tab).mono ?_
      rintro e w9 ⟨rfl, hb⟩
      replace HS := Lib.hid (HS.out.next hb)
      clear hb
      refine hK _ _ HS.out ?_
      clear hK K
      refine wpSched_get rfl (by rfl) (fun K hK => ?_)
      refine ⟨_, fun w' hS' => get_neqH rfl rfl rfl (q3n _), ?_⟩
      try go_simp
      refine hK _ ?_
      clear hK K
      iterate 5 (
        refine wpSched_get rfl (by rfl) (fun K hK => ?_)
        refine ⟨?_, fun w' hS' => ?_, ?_⟩
        rotate_left
        · go_simp
          try (with_reducible rfl)
        try go_simp
        refine hK _ ?_
        clear hK K)
      refine wpSched_get rfl (by rfl) (fun K hK => ?_)
      refine ⟨_, fun w' hS' => get_conv rfl rfl (CT.out _ _ hS'), ?_⟩
      try go_simp
      refine hK _ ?_
      clear hK K
      iterate 5 (
        refine wpSched_get rfl (by rfl) (fun K hK => ?_)
        refine ⟨?_, fun w' hS' => ?_, ?_⟩
        rotate_left
        · go_simp
          try (with_reducible rfl)
        try go_simp
        refine hK _ ?_
        clear hK K)
      refine wpSched_get rfl (by rfl) (fun K hK => ?_)
      refine ⟨_, fun w' hS' => get_load rfl rfl (R1.out _ _ hS'), ?_⟩
      try go_simp
      refine hK _ ?_
      clear hK K
      refine wpSched_get rfl (by rfl) (fun K hK => ?_)
      refine ⟨_, fun w' hS' => get_load rfl rfl (R2.out _ _ hS'), ?_⟩
      try go_simp
      refine hK _ ?_
      clear hK K
      refine wpSched_call rfl (by rfl) (fun K hK => ?_)
      go_simp
      go_at_call 18
      refine (GC.out _ HS.out.tab).mono ?_
      rintro e w9 ⟨rfl, hb⟩
      replace HS := Lib.hid (HS.out.next hb)
      clear hb
      refine hK _ _ HS.out ?_
      clear hK K
      refine wpSched_call rfl (by rfl) (fun K hK => ?_)
      go_simp
      go_at_call 20
      refine (GD.out _ HS.out.tab).mono ?_
      rintro e w9 ⟨rfl, hb⟩
      replace HS := Lib.hid (HS.out.next hb)
      clear hb
      refine hK _ _ HS.out ?_
      clear hK K
      refine wpSched_get rfl (by rfl) (fun K hK => ?_)
      refine ⟨_, fun w' hS' => get_neqH rfl rfl rfl (q4n _), ?_⟩
      try go_simp
      refine hK _ ?_
      clear hK K
      iterate 2 (
        refine wpSched_get rfl (by rfl) (fun K hK => ?_)
        refine ⟨?_, fun w' hS' => ?_, ?_⟩
        rotate_left
        · go_simp
          try (with_reducible rfl)
        try go_simp
        refine hK _ ?_
        clear hK K)
      refine wpSched_call rfl (by rfl) (fun K hK => ?_)
      go_simp
      go_at_call 17
      refine (grown_any _ HS.out.tab).mono ?_
      rintro e w9 ⟨rfl, hb⟩
      replace HS := Lib.hid (HS.out.next hb)
      clear hb
      refine hK _ _ HS.out ?_
      clear hK K
      iterate 2 (
        refine wpSched_get rfl (by rfl) (fun K hK => ?_)
        refine ⟨?_, fun w' hS' => ?_, ?_⟩
        rotate_left
        · go_simp
          try (with_reducible rfl)
        try go_simp
        refine hK _ ?_
        clear hK K)
      refine wpSched_done ?_
      refine HQ.out _ _ ?_
      go_wp2
      go_ret
      exact ⟨rfl, HS.out.below⟩
    case true =>
      obtain rfl : ln = false := by simpa using f2
      refine wp_region_sched (Ap13 w ad g g11 g13 ls ms h CR CM CI) [(false, 0), (false, 1), (false, 2), (false, 3), (false, 4), (false, 5), (false, 6), (false, 7), (false, 8), (false, 9), (false, 10), (false, 11), (false, 12), (false, 13), (false, 14), (false, 15), (false, 16), (false, 17), (false, 18), (false, 19)] (by kernel_rfl) rfl (by kernel_rfl) (by kernel_rfl) (by intro c a d v w h; cases d <;> exact h) H13.out.drew (fun Q' hQ => ?_)
      have HG := Lib.hid H13.out.drew.1.1
      have HQ := Lib.hid hQ
      clear H13 hQ
      refine wpSched_get rfl (by rfl) (fun K hK => ?_)
      refine ⟨_, fun w' hS' => get_load rfl rfl (hS'.1.2.1.read zR.out), ?_⟩
      try go_simp
      refine hK _ ?_
      clear hK K
      refine wpSched_get rfl (by rfl) (fun K hK => ?_)
      refine ⟨_, fun w' hS' => get_load rfl rfl (hS'.1.2.2.read zM.out), ?_⟩
      try go_simp
      refine hK _ ?_
      clear hK K
      refine wpSched_get rfl (by rfl) (fun K hK => ?_)
      refine ⟨_, fun w' hS' => get_eqH rfl rfl rfl (q1 _), ?_⟩
      try go_simp
      refine hK _ ?_
      clear hK K
      iterate 3 (
        refine wpSched_get rfl (by rfl) (fun K hK => ?_)
        refine ⟨?_, fun w' hS' => ?_, ?_⟩
        rotate_left
        · go_simp
          try (with_reducible rfl)
        try go_simp
        refine hK _ ?_
        clear hK K)
      refine wpSched_get rfl (by rfl) (fun K hK => ?_)
      refine ⟨_, fun w' hS' => get_load rfl rfl (R1.out _ _ hS'.1.1), ?_⟩
      try go_simp
      refine hK _ ?_
      clear hK K
      refine wpSched_get rfl (by rfl) (fun K hK => ?_)
      refine ⟨_, fun w' hS' => get_load rfl rfl (R2.out _ _ hS'.1.1), ?_⟩
      try go_simp
      refine hK _ ?_
      clear hK K
      refine wpSched_get rfl (by rfl) (fun K hK => ?_)
      refine ⟨_, fun w' hS' => get_eqH rfl rfl rfl (q0 _), ?_⟩
      try go_simp
      refine hK _ ?_
      clear hK K
      iterate 2 (
        refine wpSched_get rfl (by rfl) (fun K hK => ?_)
        refine ⟨?_, fun w' hS' => ?_, ?_⟩
        rotate_left
        · go_simp
          try (with_reducible rfl)
        try go_simp
        refine hK _ ?_
        clear hK K)
      refine wpSched_get rfl (by rfl) (fun K hK => ?_)
      refine ⟨_, fun w' hS' => get_load rfl rfl (hS'.2.read zI.out), ?_⟩
      try go_simp
      refine hK _ ?_
      clear hK K
      refine wpSched_get rfl (by rfl) (fun K hK => ?_)
      refine ⟨_, fun w' hS' => get_load rfl rfl (hS'.1.2.1.read zR.out), ?_⟩
      try go_simp
      refine hK _ ?_
      clear hK K
      refine wpSched_get rfl (by rfl) (fun K hK => ?_)
      refine ⟨_, fun w' hS' => get_eqH rfl rfl rfl (q2s _), ?_⟩
      try go_simp
      refine hK _ ?_
      clear hK K
      iterate 6 (
        refine wpSched_get rfl (by rfl) (fun K hK => ?_)
        refine ⟨?_, fun w' hS' => ?_, ?_⟩
        rotate_left
        · go_simp
          try (with_reducible rfl)
        try go_simp
        refine hK _ ?_
        clear hK K)
      refine wpSched_done ?_
      refine HQ.out _ _ ?_
      go_upto_region 14 with fail
      refine wp_region_sched (ApH w ad g ls ms h) [(false, 0), (false, 2), (false, 3), (true, 1), (true, 4), (false, 5), (false, 6), (false, 7), (false, 8), (false, 9), (false, 10), (false, 11), (false, 12), (false, 13), (false, 15), (false, 16), (false, 17), (false, 18), (false, 19), (true, 14), (true, 20), (false, 21), (false, 22), (false, 23), (true, 24), (false, 25), (false, 26)] (by kernel_rfl) rfl (by kernel_rfl) (by kernel_rfl) (by intro c a d v w h; cases d <;> exact h) HG.out.drew (fun Q' hQ => ?_)
      have HS := Lib.hid HG.out.drew
      have HQ := Lib.hid hQ
      clear HG hQ
      iterate 3 (
        refine wpSched_get rfl (by rfl) (fun K hK => ?_)
        refine ⟨?_, fun w' hS' => ?_, ?_⟩
        rotate_left
        · go_simp
          try (with_reducible rfl)
        try go_simp
        refine hK _ ?_
        clear hK K)
      refine wpSched_call rfl (by rfl) (fun K hK => ?_)
      go_simp
      go_at_call 18
      refine (GA.out _ HS.out.tab).mono ?_
      rintro e w9 ⟨rfl, hb⟩
      replace HS := Lib.hid (HS.out.next hb)
      clear hb
      refine hK _ _ HS.out ?_
      clear hK K
      refine wpSched_call rfl (by rfl) (fun K hK => ?_)
      go_simp
      go_at_call 18
      refine (GB.out _ HS.out.tab).mono ?_
      rintro e w9 ⟨rfl, hb⟩
      replace HS := Lib.hid (HS.out.next hb)
      clear hb
      refine hK _ _ HS.out ?_
      clear hK K
      refine wpSched_get rfl (by rfl) (fun K hK => ?_)
      refine ⟨_, fun w' hS' => get_neqH rfl rfl rfl (q3n _), ?_⟩
      try go_simp
      refine hK _ ?_
      clear hK K
      iterate 5 (
        refine wpSched_get rfl (by rfl) (fun K hK => ?_)
        refine ⟨?_, fun w' hS' => ?_, ?_⟩
        rotate_left
        · go_simp
          try (with_reducible rfl)
        try go_simp
        refine hK _ ?_
        clear hK K)
      refine wpSched_get rfl (by rfl) (fun K hK => ?_)
      refine ⟨_, fun w' hS' => get_conv rfl rfl (CT.out _ _ hS'), ?_⟩
      try go_simp
      refine hK _ ?_
      clear hK K
      iterate 5 (
        refine wpSched_get rfl (by rfl) (fun K hK => ?_)
        refine ⟨?_, fun w' hS' => ?_, ?_⟩
        rotate_left
        · go_simp
          try (with_reducible rfl)
        try go_simp
        refine hK _ ?_
        clear hK K)
      refine wpSched_get rfl (by rfl) (fun K hK => ?_)
      refine ⟨_, fun w' hS' => get_load rfl rfl (R1.out _ _ hS'), ?_⟩
      try go_simp
      refine hK _ ?_
      clear hK K
      refine wpSched_get rfl (by rfl) (fun K hK => ?_)
      refine ⟨_, fun w' hS' => get_load rfl rfl (R2.out _ _ hS'), ?_⟩
      try go_simp
      refine hK _ ?_
      clear hK K
      refine wpSched_call rfl (by rfl) (fun K hK => ?_)
      go_simp
      go_at_call 18
      refine (GC.out _ HS.out.tab).mono ?_
      rintro e w9 ⟨rfl, hb⟩
      replace HS := Lib.hid (HS.out.next hb)
      clear hb
      refine hK _ _ HS.out ?_
      clear hK K
      refine wpSched_call rfl (by rfl) (fun K hK => ?_)
      go_simp
      go_at_call 20
      refine (GD.out _ HS.out.tab).mono ?_
      rintro e w9 ⟨rfl, hb⟩
      replace HS := Lib.hid (HS.out.next hb)
      clear hb
      refine hK _ _ HS.out ?_
      clear hK K
      refine wpSched_get rfl (by rfl) (fun K hK => ?_)
      refine ⟨_, fun w' hS' => get_neqH rfl rfl rfl (q4n _), ?_⟩
      try go_simp
      refine hK _ ?_
      clear hK K
      iterate 2 (
        refine wpSched_get rfl (by rfl) (fun K hK => ?_)
        refine ⟨?_, fun w' hS' => ?_, ?_⟩
        rotate_left
        · go_simp
          try (with_reducible rfl)
        try go_simp
        refine hK _ ?_
        clear hK K)
      refine wpSched_call rfl (by rfl) (fun K hK => ?_)
      go_simp
      go_at_call 17
      refine (grown_any _ HS.out.tab).mono ?_
      rintro e w9 ⟨rfl, hb⟩
      replace HS := Lib.hid (HS.out.next hb)
      clear hb
      refine hK _ _ HS.out ?_
      clear hK K
      iterate 2 (
        refine wpSched_get rfl (by rfl) (fun K hK => ?_)
        refine ⟨?_, fun w' hS' => ?_, ?_⟩
        rotate_left
        · go_simp
          try (with_reducible rfl)
        try go_simp
        refine hK _ ?_
        clear hK K)
      refine wpSched_done ?_
      refine HQ.out _ _ ?_
      go_wp2
      go_ret
      exact ⟨rfl, HS.out.below⟩
end Go.Proofs.YthagpnakcffjeaaDoor
