/-
  Several texts in one (a claim has room for 60 files): PathClimb, PathCheck.
-/
import Derived.Test.YtpndccoikhejgaaDoorPk07
import Derived.Test.YtpndccoikhejgaaDoorPk04
import Derived.Test.YtpndccoikhejgaaDoorPk11
import Derived.Deep.LoopGhost
namespace Go.Proofs.YtpndccoikhejgaaDoor
open Go.RowKit Go.Great
set_option linter.unusedVariables false
set_option maxRecDepth 100000

/-- What climb holds: the hash, its result, the path. -/
structure ClimbH (w wr : World) (C : Array Value) (A : Option Addr) (p : List (List Int)) : Prop where
  h : Row wr w.heap.size 23 C
  out : Row wr (w.heap.size + 1) 23 (nums .u8 (List.replicate 32 0))
  hl : HL wr w.heap.size A p
  tab0 : Tab w
  below : Below w.heap.size w wr
theorem ClimbH.next {w wr w1 : World} {C : Array Value} {A : Option Addr} {p : List (List Int)} (h : ClimbH w wr C A p) (hb : Below wr.heap.size wr w1) : ClimbH w w1 C A p :=
  ⟨h.h.next hb, h.out.next hb, h.hl.next hb h.below.size, h.tab0, below_new h.below hb⟩
theorem ClimbH.tab {w wr : World} {C : Array Value} {A : Option Addr} {p : List (List Int)} (h : ClimbH w wr C A p) : Tab wr := h.tab0.next h.below
theorem ClimbH.start {w : World} {C : Array Value} {A : Option Addr} {p : List (List Int)} (h3 : HL w w.heap.size A p) (h4 : Tab w) :
    ClimbH w ((w.alloc (.cells C 23)).alloc (.cells (nums .u8 (List.replicate 32 0)) 23)) C A p := by
  have hb : Below w.heap.size w ((w.alloc (.cells C 23)).alloc (.cells (nums .u8 (List.replicate 32 0)) 23)) := ((Below.refl _ _).alloc (Nat.le_refl _) _).alloc (by simp) _
  exact ⟨(Row.made _ _ _).alloc _, Row.made2 _ _ _ _, h3.next hb (Nat.le_refl _), h4, hb⟩
theorem ClimbH.put {w wr : World} {C : Array Value} {A : Option Addr} {p : List (List Int)} (h : ClimbH w wr C A p) (D : Array Value) : ClimbH w (wr.setRow w.heap.size D) D A p :=
  have hb : Below w.heap.size wr (wr.setRow w.heap.size D) := below_setRow (Below.refl _ _ |>.mono h.below.size) (Nat.le_refl _)
  ⟨h.h.whole D, h.out.wfar (by omega) _, h.hl.next hb (Nat.le_refl _), h.tab0, below_setRow h.below (Nat.le_refl _)⟩
theorem getD_head {p : List (List Int)} {k : Nat} (h : k < p.length) : p.drop k = p.getD k [] :: p.drop (k + 1) := by
  rw [List.drop_eq_getElem_cons h, List.getD_eq_getElem?_getD, List.getElem?_eq_getElem h]; rfl
/-- What is handed back: a hash, and whether they come to anything. -/
def GivesC (w : World) (r : Option (List Int)) (e : Ending) (w' : World) : Prop :=
  (∃ Z : List Int, e = .returned (.tuple #[.agg (nums .u8 Z), .bool r.isSome]) ∧ (Z.length = 32 ∧ bytes Z) ∧ ∀ y, r = some y → Z = y) ∧ Below w.heap.size w w'
attribute [local go_sem ↓ high] read_at write_at
set_option maxHeartbeats 8000000 in
theorem climb_any (h : List Int) (h32 : h.length = 32 ∧ bytes h) (i n : Nat) (hi : i < n) (hn : n ≤ 9223372036854775807) (p : List (List Int)) (hp : hashes p) (A : Option Addr) (c : Nat) (w : World) (hA : HL w w.heap.size A p) (hT : Tab w) (hpm : p.length ≤ 9223372036854775807) :
    Calls Tryd.prog 84 #[.agg (nums .u8 h), .int .i64 (i : Int), .int .i64 (n : Int), .slice A p.length c] w (GivesC w (comeL h i (n - 1) p)) := by
  obtain ⟨q, hq⟩ : ∃ q, Hid (q = p.length) := ⟨_, Lib.hid rfl⟩
  have hqm : q ≤ 9223372036854775807 := by rw [hq.out]; exact hpm
  obtain ⟨C, hC⟩ : ∃ C, Hid (C = nums .u8 h) := ⟨_, Lib.hid rfl⟩
  obtain ⟨l, hl⟩ : ∃ l : Nat, Hid (l = n - 1) := ⟨_, Lib.hid rfl⟩
  have e0 : (n : Int) - 1 = (l : Int) := by rw [hl.out]; omega
  have hil : i ≤ l := by rw [hl.out]; omega
  have hlm : l ≤ 9223372036854775807 := by rw [hl.out]; omega
  obtain ⟨R, hR⟩ : ∃ R, Hid (R = comeL h i l p) := ⟨_, Lib.hid rfl⟩
  have zZ : Hid ((nums .u8 (List.replicate 32 0)).size = 32) := Lib.hid (by rw [nums_size]; simp)
  have oZ : Hid ((nums .u8 (List.replicate 32 0)).all (·.oneCell') = true) := Lib.hid (nums_one _ _)
  have hZ := sizeH _ zZ.out
  rw [← hl.out, ← hR.out, ← hq.out, ← hC.out]
  have H0 := Lib.hid (ClimbH.start (C := C) hA hT)
  have HI : Hid (∃ h' : List Int, (h'.length = 32 ∧ bytes h') ∧ C = nums .u8 h' ∧ comeL h' i l (p.drop 0) = R) := Lib.hid ⟨h, h32, hC.out, hR.out.symm⟩
  have HP := Lib.hid hp
  clear hA hT hp hpm h32 hi hn
  go_enter Tryd.func84, Tryd.ntmps84
  go_wp2
  go_step3
  refine world_gen (fun wx => ClimbH w wx C A p) H0.out (fun wx HX => ?_)
  have HX := Lib.hid HX
  clear H0
  go_wp2
  go_step3
  go_wp2
  go_loopg [1, 10, 11, 20] q (fun g s1 s10 s11 s20 wr => ∃ (k i' l' : Nat) (C' : Array Value), k + g = q ∧ s1 = .int .i64 (i' : Int) ∧ s10 = .int .i64 (l' : Int) ∧ s11 = .int .i64 ((q : Int) - (k : Int)) ∧ s20 = .int .i64 (k : Int) ∧ i' ≤ l' ∧ l' ≤ 9223372036854775807 ∧ Hid (∃ h' : List Int, (h'.length = 32 ∧ bytes h') ∧ C' = nums .u8 h' ∧ comeL h' i' l' (p.drop k) = R) ∧ Hid (ClimbH w wr C' A p))
  case atStart => exact ⟨0, i, l, C, by omega, rfl, rfl, by simp, rfl, hil, hlm, HI, HX⟩
  case round =>
    obtain ⟨k, i', l', C', hkg, rfl, rfl, rfl, rfl, hil', hlm', HI, HC⟩ := hrel
    have hkq : k ≤ q := by omega
    cases gk with
    | zero =>
      have hk0 : ¬ ((k : Int) < (q : Int)) := by omega
      have e1 : (q : Int) - (k : Int) = 0 := by omega
      have HD : Hid (p.drop k = []) := Lib.hid (List.drop_of_length_le (by rw [← hq.out]; omega))
      by_cases h0 : l' = 0
      · subst h0
        obtain ⟨h', hh', hC', hR'⟩ : ∃ h' : List Int, (h'.length = 32 ∧ bytes h') ∧ Hid (C' = nums .u8 h') ∧ Hid (R = some h') := by
          obtain ⟨h', a1, a2, a3⟩ := HI.out
          rw [HD.out, comeL_done] at a3
          exact ⟨h', a1, Lib.hid a2, Lib.hid a3.symm⟩
        have HH' := Lib.hid hh'
        have zC : Hid (C'.size = 32) := Lib.hid (by rw [hC'.out, nums_size]; exact hh'.1)
        have oC : Hid (C'.all (·.oneCell') = true) := Lib.hid (by rw [hC'.out]; exact nums_one _ _)
        have s5 := HC.out.h.read zC.out
        have s6 := HC.out.out.write zZ.out zC.out oC.out
        clear hh'
        go_wp2
        try rw [Exit.noGoto_ret]
        refine bodyPost_ret (results_row2 rfl _ _ (w.heap.size + 1) 23 _ (0, 0) _ rfl (HC.out.out.whole C') Tryd.underlying23 rfl (sizeH _ zC.out) _ rfl) rfl ?_
        rw [hR'.out]
        exact ⟨⟨h', by rw [hC'.out]; rfl, HH'.out, fun y hy => Option.some.inj hy⟩, below_setRow HC.out.below (by omega)⟩
      · have h1 : (0 : Int) < (l' : Int) := by omega
        have hR' : Hid (R = none) := Lib.hid (by
          obtain ⟨h', a1, a2, a3⟩ := HI.out
          rw [← a3, HD.out]; exact comeL_few h' i' l' h0 hil')
        go_wp2_with (refine wpList_store_row rfl 23 _ _ rfl (w.heap.size + 1) (nums .u8 (List.replicate 32 0)) rfl rfl 23 _ HC.out.out hZ (by rw [zZ.out]) oZ.out ?_)
        try rw [Exit.noGoto_ret]
        refine bodyPost_ret (results_row2 rfl _ _ (w.heap.size + 1) 23 _ (0, 0) _ rfl (HC.out.out.whole (nums .u8 (List.replicate 32 0))) Tryd.underlying23 rfl (sizeH _ zZ.out) _ rfl) rfl ?_
        rw [hR'.out]
        exact ⟨⟨zero32, rfl, ⟨rfl, zero32_bytes⟩, fun y hy => nomatch hy⟩, below_setRow HC.out.below (by omega)⟩
    | succ g =>
      have hk1 : (k : Int) < (q : Int) := by omega
      have hkl : k < p.length := by rw [← hq.out]; omega
      obtain ⟨ad, rfl⟩ := HC.out.hl.some k hkl
      obtain ⟨x, hx⟩ : ∃ x, Hid (x = p.getD k []) := ⟨_, Lib.hid rfl⟩
      obtain ⟨X, hX⟩ : ∃ X, Hid (X = nums .u8 x) := ⟨_, Lib.hid rfl⟩
      have hx32 : x.length = 32 ∧ bytes x := by rw [hx.out]; exact hashes_at HP.out k hkl
      have HX32 := Lib.hid hx32
      have zX : Hid (X.size = 32) := Lib.hid (by rw [hX.out, nums_size]; exact hx32.1)
      have oX : Hid (X.all (·.oneCell') = true) := Lib.hid (by rw [hX.out]; exact nums_one _ _)
      have HD : Hid (p.drop k = x :: p.drop (k + 1)) := Lib.hid (by rw [hx.out]; exact getD_head hkl)
      have s1 : (readAt (.pointer (some (ad.add (k * 32))))).run Tryd.prog wr = .ok (.agg X) wr := by rw [hX.out, hx.out]; exact HC.out.hl.read HP.out k hkl
      obtain ⟨w2, s2, hr2, hb2, hz2⟩ := made_write wr X zX.out oX.out
      have HR2 := Lib.hid hr2
      have HC2 := Lib.hid (HC.out.next hb2)
      have HG2 := Lib.hid HC.out.below.size
      clear hr2 hb2 hz2 hx32 hkl
      obtain ⟨h', hh', hC', HJ⟩ : ∃ h' : List Int, (h'.length = 32 ∧ bytes h') ∧ Hid (C' = nums .u8 h') ∧ Hid (comeL h' i' l' (p.drop k) = R) := by
        obtain ⟨h', a1, a2, a3⟩ := HI.out
        exact ⟨h', a1, Lib.hid a2, Lib.hid a3⟩
      have HH' := Lib.hid hh'
      have zC : Hid (C'.size = 32) := Lib.hid (by rw [hC'.out, nums_size]; exact hh'.1)
      clear hh' HI
      go_wp2
      clear s1 s2
      have HTy := Lib.hid HC2.out.tab
      have HCy := HC2
      go_loopg [1, 10] l' (fun g2 s1 s10 wy => ∃ (i2 l2 : Nat), l2 ≤ g2 ∧ s1 = .int .i64 (i2 : Int) ∧ s10 = .int .i64 (l2 : Int) ∧ i2 ≤ l2 ∧ l2 ≤ 9223372036854775807 ∧ Hid (comeL h' i2 l2 (p.drop k) = R) ∧ w2 = wy)
      case atStart => exact ⟨i', l', Nat.le_refl _, rfl, rfl, hil', hlm', HJ, rfl⟩
      case round =>
        obtain ⟨i2, l2, hlg, rfl, rfl, hil2, hlm2, HJ2, rfl⟩ := hrel
        by_cases hs : i2 = l2 ∧ i2 % 2 = 0
        · obtain ⟨hs1, hs2⟩ := hs
          have d1 : ((i2 : Int) % 2 == 0) = true := by rw [show (i2 : Int) % 2 = 0 by omega]; rfl
          have d2 : ((i2 : Int).tmod 2 == 0) = true := by rw [Int.tmod_eq_emod_of_nonneg (by omega)]; exact d1
          have HS := Lib.hid hs2
          clear hs2
          subst hs1
          have d3 : ((i2 : Int) == (i2 : Int)) = true := by simp
          by_cases hl0 : i2 = 0
          · have hR' : Hid (R = none) := Lib.hid (by rw [← HJ2.out, HD.out, hl0]; exact comeL_left h' 0 x _)
            have e2 : (0 : Int) < (q : Int) - (k : Int) := by omega
            have d4 : ((i2 : Int) == 0) = true := by rw [hl0]; rfl
            have e3 : ¬ (0 : Int) < (i2 : Int) := by omega
            clear hl0
            go_wp2_with (refine wpList_store_row rfl 23 _ _ rfl (w.heap.size + 1) (nums .u8 (List.replicate 32 0)) rfl rfl 23 _ HCy.out.out hZ (by rw [zZ.out]) oZ.out ?_)
            try rw [Exit.noGoto_ret]
            refine bodyPost_ret (results_row2 rfl _ _ (w.heap.size + 1) 23 _ (0, 0) _ rfl (HCy.out.out.whole (nums .u8 (List.replicate 32 0))) Tryd.underlying23 rfl (sizeH _ zZ.out) _ rfl) rfl ?_
            rw [hR'.out]
            exact ⟨⟨zero32, rfl, ⟨rfl, zero32_bytes⟩, fun y hy => nomatch hy⟩, below_setRow HCy.out.below (by omega)⟩
          · have HN : Hid (comeL h' (i2 / 2) (i2 / 2) (p.drop k) = R) := Lib.hid (by rw [← comeL_skip h' i2 i2 _ hl0 ⟨rfl, HS.out⟩]; exact HJ2.out)
            have d4 : ((i2 : Int) == 0) = false := by simpa using hl0
            go_wp2
            go_roundg (i2 / 2)
            case measure => omega
            case rel => exact ⟨i2 / 2, i2 / 2, Nat.le_refl _, by go_num, by go_num, Nat.le_refl _, by omega, HN, rfl⟩
        · have hl0 : ¬ l2 = 0 := by intro e; exact hs ⟨by omega, by omega⟩
          have HS := Lib.hid hs
          by_cases hp2 : i2 % 2 = 0
          · have hne : ¬ i2 = l2 := fun e => hs ⟨e, hp2⟩
            have d3 : ((i2 : Int) == (l2 : Int)) = false := by simp; omega
            obtain ⟨Y, hY⟩ : ∃ Y, Hid (Y = nums .u8 (nodeL h' x)) := ⟨_, Lib.hid rfl⟩
            have zY : Hid (Y.size = 32) := Lib.hid (by rw [hY.out, nums_size]; exact (nodeL_is _ _).1)
            have oY : Hid (Y.all (·.oneCell') = true) := Lib.hid (by rw [hY.out]; exact nums_one _ _)
            have HN : Hid (∃ h3 : List Int, (h3.length = 32 ∧ bytes h3) ∧ Y = nums .u8 h3 ∧ comeL h3 (i2 / 2) (l2 / 2) (p.drop (k + 1)) = R) := Lib.hid
              ⟨_, nodeL_is _ _, hY.out, by rw [← HJ2.out, HD.out, comeL_even h' i2 l2 x _ hl0 hs hp2]⟩
            have X1 : Hid (∀ W, Tab W → Calls Tryd.prog 77 #[.agg C', .agg X] W fun ev w' => ev = .returned (.agg Y) ∧ Below W.heap.size W w') := Lib.hid fun W hW => by
              rw [hX.out, hC'.out, hY.out]; exact node_any _ _ HH'.out.1 HX32.out.1 W hW
            have d1 : ((i2 : Int) % 2 == 0) = true := by rw [show (i2 : Int) % 2 = 0 by omega]; rfl
            have d2 : ((i2 : Int).tmod 2 == 0) = true := by rw [Int.tmod_eq_emod_of_nonneg (by omega)]; exact d1
            have s5 := HCy.out.h.read zC.out
            have s7 := HR2.out.read zX.out
            clear hs hp2
            go_wp2_with (go_at_call 77; (with_reducible refine (X1.out _ HTy.out).mono ?_); rintro e w4 ⟨rfl, hb4⟩; have HC4 := Lib.hid (HC2.out.next hb4); clear hb4; have s3 := HC4.out.h.write zC.out zY.out oY.out)
            go_roundg g
            case measure => omega
            case rel => exact ⟨k + 1, i2 / 2, l2 / 2, Y, by omega, by go_num, by go_num, by go_num, by go_num, by omega, by omega, HN, Lib.hid (HC4.out.put Y)⟩
          · by_cases hne : i2 = l2
            · have d3 : ((i2 : Int) == (l2 : Int)) = true := by simp [hne]
              obtain ⟨Y, hY⟩ : ∃ Y, Hid (Y = nums .u8 (nodeL x h')) := ⟨_, Lib.hid rfl⟩
              have zY : Hid (Y.size = 32) := Lib.hid (by rw [hY.out, nums_size]; exact (nodeL_is _ _).1)
              have oY : Hid (Y.all (·.oneCell') = true) := Lib.hid (by rw [hY.out]; exact nums_one _ _)
              have HN : Hid (∃ h3 : List Int, (h3.length = 32 ∧ bytes h3) ∧ Y = nums .u8 h3 ∧ comeL h3 (i2 / 2) (l2 / 2) (p.drop (k + 1)) = R) := Lib.hid
                ⟨_, nodeL_is _ _, hY.out, by rw [← HJ2.out, HD.out, comeL_odd h' i2 l2 x _ hl0 (by omega)]⟩
              have X1 : Hid (∀ W, Tab W → Calls Tryd.prog 77 #[.agg X, .agg C'] W fun ev w' => ev = .returned (.agg Y) ∧ Below W.heap.size W w') := Lib.hid fun W hW => by
                rw [hX.out, hC'.out, hY.out]; exact node_any _ _ HX32.out.1 HH'.out.1 W hW
              have d1 : ((i2 : Int) % 2 == 0) = false := by rw [show (i2 : Int) % 2 = 1 by omega]; rfl
              have d2 : ((i2 : Int).tmod 2 == 0) = false := by rw [Int.tmod_eq_emod_of_nonneg (by omega)]; exact d1
              have s5 := HCy.out.h.read zC.out
              have s7 := HR2.out.read zX.out
              clear hs hp2
              go_wp2_with (go_at_call 77; (with_reducible refine (X1.out _ HTy.out).mono ?_); rintro e w4 ⟨rfl, hb4⟩; have HC4 := Lib.hid (HC2.out.next hb4); clear hb4; have s3 := HC4.out.h.write zC.out zY.out oY.out)
              go_roundg g
              case measure => omega
              case rel => exact ⟨k + 1, i2 / 2, l2 / 2, Y, by omega, by go_num, by go_num, by go_num, by go_num, by omega, by omega, HN, Lib.hid (HC4.out.put Y)⟩
            · have d3 : ((i2 : Int) == (l2 : Int)) = false := by simp; omega
              obtain ⟨Y, hY⟩ : ∃ Y, Hid (Y = nums .u8 (nodeL x h')) := ⟨_, Lib.hid rfl⟩
              have zY : Hid (Y.size = 32) := Lib.hid (by rw [hY.out, nums_size]; exact (nodeL_is _ _).1)
              have oY : Hid (Y.all (·.oneCell') = true) := Lib.hid (by rw [hY.out]; exact nums_one _ _)
              have HN : Hid (∃ h3 : List Int, (h3.length = 32 ∧ bytes h3) ∧ Y = nums .u8 h3 ∧ comeL h3 (i2 / 2) (l2 / 2) (p.drop (k + 1)) = R) := Lib.hid
                ⟨_, nodeL_is _ _, hY.out, by rw [← HJ2.out, HD.out, comeL_odd h' i2 l2 x _ hl0 (by omega)]⟩
              have X1 : Hid (∀ W, Tab W → Calls Tryd.prog 77 #[.agg X, .agg C'] W fun ev w' => ev = .returned (.agg Y) ∧ Below W.heap.size W w') := Lib.hid fun W hW => by
                rw [hX.out, hC'.out, hY.out]; exact node_any _ _ HX32.out.1 HH'.out.1 W hW
              have d1 : ((i2 : Int) % 2 == 0) = false := by rw [show (i2 : Int) % 2 = 1 by omega]; rfl
              have d2 : ((i2 : Int).tmod 2 == 0) = false := by rw [Int.tmod_eq_emod_of_nonneg (by omega)]; exact d1
              have s5 := HCy.out.h.read zC.out
              have s7 := HR2.out.read zX.out
              clear hs hp2
              go_wp2_with (go_at_call 77; (with_reducible refine (X1.out _ HTy.out).mono ?_); rintro e w4 ⟨rfl, hb4⟩; have HC4 := Lib.hid (HC2.out.next hb4); clear hb4; have s3 := HC4.out.h.write zC.out zY.out oY.out)
              go_roundg g
              case measure => omega
              case rel => exact ⟨k + 1, i2 / 2, l2 / 2, Y, by omega, by go_num, by go_num, by go_num, by go_num, by omega, by omega, HN, Lib.hid (HC4.out.put Y)⟩
end Go.Proofs.YtpndccoikhejgaaDoor
namespace Go.Proofs.YtpndccoikhejgaaDoor
open Go.RowKit Go.Great
set_option linter.unusedVariables false
set_option maxRecDepth 100000

/-- What Check holds: the leaf, the root. -/
structure CheckH (w wr : World) (C D : Array Value) : Prop where
  h : Row wr w.heap.size 23 C
  rt : Row wr (w.heap.size + 1) 23 D
  below : Below w.heap.size w wr
theorem CheckH.next {w wr w1 : World} {C D : Array Value} (h : CheckH w wr C D) (hb : Below wr.heap.size wr w1) : CheckH w w1 C D := ⟨h.h.next hb, h.rt.next hb, below_new h.below hb⟩
theorem CheckH.start (w : World) (C D : Array Value) : CheckH w ((w.alloc (.cells C 23)).alloc (.cells D 23)) C D :=
  ⟨(Row.made _ _ _).alloc _, Row.made2 _ _ _ _, ((Below.refl _ _).alloc (Nat.le_refl _) _).alloc (by simp) _⟩
attribute [local go_sem ↓ high] read_at write_at neq_at
set_option maxHeartbeats 8000000 in
theorem check_any (leaf root : List Int) (hl32 : leaf.length = 32 ∧ bytes leaf) (hr32 : root.length = 32 ∧ bytes root) (i n : Int) (hi64 : -9223372036854775808 ≤ i ∧ i ≤ 9223372036854775807) (hn64 : -9223372036854775808 ≤ n ∧ n ≤ 9223372036854775807)
    (p : List (List Int)) (hp : hashes p) (A : Option Addr) (c : Nat) (w : World) (hA : HL w w.heap.size A p) (hT : Tab w) (hc : p.length ≤ c) (hcm : c ≤ 9223372036854775807) :
    Calls Tryd.prog 63 #[.agg (nums .u8 leaf), .int .i64 i, .int .i64 n, .slice A p.length c, .agg (nums .u8 root)] w fun e w' => e = .returned (.int .i64 (checkF leaf i n p root)) ∧ Below w.heap.size w w' := by
  obtain ⟨q, hq⟩ : ∃ q, Hid (q = p.length) := ⟨_, Lib.hid rfl⟩
  obtain ⟨C, hC⟩ : ∃ C, Hid (C = nums .u8 leaf) := ⟨_, Lib.hid rfl⟩
  obtain ⟨D, hD⟩ : ∃ D, Hid (D = nums .u8 root) := ⟨_, Lib.hid rfl⟩
  have zC : Hid (C.size = 32) := Lib.hid (by rw [hC.out, nums_size]; exact hl32.1)
  have zD : Hid (D.size = 32) := Lib.hid (by rw [hD.out, nums_size]; exact hr32.1)
  have H0 := Lib.hid (CheckH.start w C D)
  have HA := Lib.hid hA
  have HT := Lib.hid hT
  rw [← hq.out, ← hC.out, ← hD.out]
  clear hA hT
  by_cases h1 : n < 1
  · have d1 : decide (n < 1) = true := decide_eq_true h1
    have HF : Hid (checkF leaf i n p root = 2) := Lib.hid (checkF_arg (.inl h1))
    rw [HF.out]
    go_enter Tryd.func63, Tryd.ntmps63
    go_upto_region 1 with fail
    refine world_gen (fun wx => CheckH w wx C D) H0.out (fun wx HX => ?_)
    have HX := Lib.hid HX
    go_wp2
    go_ret
    exact ⟨rfl, HX.out.below⟩
  have d1 : decide (n < 1) = false := decide_eq_false h1
  by_cases h2 : 4096 < n
  · have d2 : decide (4096 < n) = true := decide_eq_true h2
    have HF : Hid (checkF leaf i n p root = 2) := Lib.hid (checkF_arg (.inr (.inl h2)))
    rw [HF.out]
    go_enter Tryd.func63, Tryd.ntmps63
    go_upto_region 1 with fail
    refine world_gen (fun wx => CheckH w wx C D) H0.out (fun wx HX => ?_)
    have HX := Lib.hid HX
    go_wp2
    go_ret
    exact ⟨rfl, HX.out.below⟩
  have d2 : decide (4096 < n) = false := decide_eq_false h2
  by_cases h3 : i < 0
  · have d3 : decide (i < 0) = true := decide_eq_true h3
    have HF : Hid (checkF leaf i n p root = 2) := Lib.hid (checkF_arg (.inr (.inr (.inl h3))))
    rw [HF.out]
    go_enter Tryd.func63, Tryd.ntmps63
    go_upto_region 1 with fail
    refine world_gen (fun wx => CheckH w wx C D) H0.out (fun wx HX => ?_)
    have HX := Lib.hid HX
    go_wp2
    go_ret
    exact ⟨rfl, HX.out.below⟩
  have d3 : decide (i < 0) = false := decide_eq_false h3
  by_cases h4 : n ≤ i
  · have d4 : decide (n ≤ i) = true := decide_eq_true h4
    have HF : Hid (checkF leaf i n p root = 2) := Lib.hid (checkF_arg (.inr (.inr (.inr h4))))
    rw [HF.out]
    go_enter Tryd.func63, Tryd.ntmps63
    go_upto_region 1 with fail
    refine world_gen (fun wx => CheckH w wx C D) H0.out (fun wx HX => ?_)
    have HX := Lib.hid HX
    go_wp2
    go_ret
    exact ⟨rfl, HX.out.below⟩
  obtain ⟨I, rfl⟩ : ∃ I : Nat, i = I := ⟨i.toNat, by omega⟩
  obtain ⟨N, rfl⟩ : ∃ N : Nat, n = N := ⟨n.toNat, by omega⟩
  have d4 : decide ((N : Int) ≤ (I : Int)) = false := decide_eq_false h4
  have hIN : I < N := by omega
  have d5 : decide (N ≤ I) = false := decide_eq_false (by omega)
  have d6 : (I : Int) < (N : Int) := by omega
  have d7 : ¬ ((N : Int) ≤ (I : Int)) := h4
  have HIN := Lib.hid hIN
  obtain ⟨R, hR⟩ : ∃ R, Hid (R = comeL leaf I (N - 1) p) := ⟨_, Lib.hid rfl⟩
  have X1 : Hid (∀ W, Below w.heap.size w W → Calls Tryd.prog 84 #[.agg C, .int .i64 (I : Int), .int .i64 (N : Int), .slice A q c] W (GivesC W R)) := Lib.hid fun W hW => by
    have := (climb_any leaf hl32 I N hIN (by omega) p hp A c W (HA.out.from hW) (HT.out.next hW) (by omega))
    rw [← hC.out, ← hq.out, ← hR.out] at this
    exact this
  have HF : Hid (checkF leaf (I : Int) (N : Int) p root = if R = some root then 0 else 80) := Lib.hid (by rw [hR.out]; exact checkF_in hIN (by omega))
  obtain ⟨E, hE⟩ : ∃ E, Hid (E = checkF leaf (I : Int) (N : Int) p root) := ⟨_, Lib.hid rfl⟩
  rw [← hE.out]
  have HR32 := Lib.hid hr32
  clear hp hl32 hr32 h1 h2 h3 h4 hIN
  go_enter Tryd.func63, Tryd.ntmps63
  go_upto_region 1 with fail
  refine world_gen (fun wx => CheckH w wx C D) H0.out (fun wx HX => ?_)
  have HX := Lib.hid HX
  have s5 := HX.out.h.read zC.out
  have HBX := Lib.hid HX.out.below
  cases hRR : R with
  | none =>
    rw [hRR] at X1 HF
    have HE : Hid (E = 80) := Lib.hid (by rw [hE.out, HF.out, if_neg (by intro h; cases h)])
    clear hR
    go_wp2_with (go_at_call 84; (with_reducible refine (X1.out _ HBX.out).mono ?_); rintro e w6 ⟨⟨Z, rfl, hz, hy⟩, hb⟩; obtain ⟨Y, hY⟩ : ∃ Y, Hid (Y = nums .u8 Z) := ⟨_, Lib.hid rfl⟩; rw [← hY.out]; have zY : Hid (Y.size = 32) := Lib.hid (by rw [hY.out, nums_size]; exact hz.1); have oY : Hid (Y.all (·.oneCell') = true) := Lib.hid (by rw [hY.out]; exact nums_one _ _); obtain ⟨w7, s7, hr7, hb7, hz7⟩ := made_write w6 Y zY.out oY.out; have HC7 := Lib.hid ((HX.out.next hb).next hb7); clear hr7 hb7 hz7 hb s5 hz hy)
    go_ret
    exact ⟨by rw [HE.out]; rfl, HC7.out.below⟩
  | some y =>
    rw [hRR] at X1 HF
    clear hR
    by_cases he : y = root
    · subst he
      have HE : Hid (E = 0) := Lib.hid (by rw [hE.out, HF.out, if_pos rfl])
      have q1 : Hid (∀ (Z : List Int), (Z.length = 32 ∧ bytes Z) → Z = y → ∀ W, (neqAt (.agg (nums .u8 Z)) (.agg D)).run Tryd.prog W = .ok (.bool false) W) := Lib.hid fun Z hz hzy W => by
        rw [hD.out, neqAt_hash Z y hz.1 HR32.out.1 hz.2 HR32.out.2 W, decide_eq_true hzy]; rfl
      go_wp2_with (go_at_call 84; (with_reducible refine (X1.out _ HBX.out).mono ?_); rintro e w6 ⟨⟨Z, rfl, hz, hy⟩, hb⟩; have q2 := q1.out Z hz (hy y rfl); obtain ⟨Y, hY⟩ : ∃ Y, Hid (Y = nums .u8 Z) := ⟨_, Lib.hid rfl⟩; rw [← hY.out] at q2 ⊢; have zY : Hid (Y.size = 32) := Lib.hid (by rw [hY.out, nums_size]; exact hz.1); have oY : Hid (Y.all (·.oneCell') = true) := Lib.hid (by rw [hY.out]; exact nums_one _ _); obtain ⟨w7, s7, hr7, hb7, hz7⟩ := made_write w6 Y zY.out oY.out; have HC7 := Lib.hid ((HX.out.next hb).next hb7); have s8 := hr7.read zY.out; have s9 := HC7.out.rt.read zD.out; clear hr7 hb7 hz7 hb s5 hz hy)
      go_ret
      exact ⟨by rw [HE.out]; rfl, HC7.out.below⟩
    · have q1 : Hid (∀ (Z : List Int), (Z.length = 32 ∧ bytes Z) → Z = y → ∀ W, (neqAt (.agg (nums .u8 Z)) (.agg D)).run Tryd.prog W = .ok (.bool true) W) := Lib.hid fun Z hz hzy W => by
        rw [hD.out, neqAt_hash Z root hz.1 HR32.out.1 hz.2 HR32.out.2 W, decide_eq_false (by rw [hzy]; exact he)]; rfl
      have HE : Hid (E = 80) := Lib.hid (by rw [hE.out, HF.out, if_neg (fun h => he (Option.some.inj h))])
      clear he
      go_wp2_with (go_at_call 84; (with_reducible refine (X1.out _ HBX.out).mono ?_); rintro e w6 ⟨⟨Z, rfl, hz, hy⟩, hb⟩; have q2 := q1.out Z hz (hy y rfl); obtain ⟨Y, hY⟩ : ∃ Y, Hid (Y = nums .u8 Z) := ⟨_, Lib.hid rfl⟩; rw [← hY.out] at q2 ⊢; have zY : Hid (Y.size = 32) := Lib.hid (by rw [hY.out, nums_size]; exact hz.1); have oY : Hid (Y.all (·.oneCell') = true) := Lib.hid (by rw [hY.out]; exact nums_one _ _); obtain ⟨w7, s7, hr7, hb7, hz7⟩ := made_write w6 Y zY.out oY.out; have HC7 := Lib.hid ((HX.out.next hb).next hb7); have s8 := hr7.read zY.out; have s9 := HC7.out.rt.read zD.out; clear hr7 hb7 hz7 hb s5 hz hy)
      go_ret
      exact ⟨by rw [HE.out]; rfl, HC7.out.below⟩
end Go.Proofs.YtpndccoikhejgaaDoor
