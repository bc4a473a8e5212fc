/-
  The walk of the statement CodecForm, where a number and no text stands ahead.
-/
import Derived.Test.YtcafjmaimohljaaLawForm
namespace Go.Proofs.Ytcafjmaimohljaa
open Go.RowKit
set_option linter.unusedVariables false

attribute [local go_sem ↓ high] read_at eq_at in
set_option maxHeartbeats 40000000 in
set_option maxRecDepth 100000 in
theorem form_1000 (s : ByteArray) (w : World) (hs : s.size ≤ 2500) (rn : Int) (rt ca cb ub ht N T U L : ByteArray) (C : Array Value) (m : Nat) (ls : List (List Int)) (F : FormIn s true false false false rn rt ca cb ub ht N T U L C m ls) :
    Calls Try.prog 7 #[.string s] w fun e w' => e = .returned (.bool true) ∧ Below w.heap.size w w' := by
  have X1 := Lib.hid F.x1
  have X2 := Lib.hid F.x2
  have X3 := Lib.hid F.x3
  have X4 := Lib.hid F.x4
  have Y1 := Lib.hid (F.y1 rfl)
  have a1 := F.a1 rfl
  obtain ⟨rfl, rfl⟩ := F.z2 rfl
  obtain ⟨rfl, QZ0⟩ := F.z3 rfl
  have QZ : ∀ W, (eqAt (.agg C) (.agg #[.int .u8 0, .int .u8 0, .int .u8 0, .int .u8 0, .int .u8 0, .int .u8 0, .int .u8 0, .int .u8 0, .int .u8 0, .int .u8 0, .int .u8 0, .int .u8 0, .int .u8 0, .int .u8 0, .int .u8 0, .int .u8 0, .int .u8 0, .int .u8 0, .int .u8 0, .int .u8 0, .int .u8 0, .int .u8 0, .int .u8 0, .int .u8 0, .int .u8 0, .int .u8 0, .int .u8 0, .int .u8 0, .int .u8 0, .int .u8 0, .int .u8 0, .int .u8 0])).run Try.prog W = .ok (.bool true) W := QZ0
  clear QZ0
  obtain ⟨rfl, rfl⟩ := F.z4 rfl
  have iC := Lib.hid F.iC
  have zC := Lib.hid F.zC
  have oC := Lib.hid F.oC
  have d1 : decide (2500 < (s.size : Int)) = false := decide_eq_false (by omega)
  have HB := Lib.hid (Below.refl w.heap.size w)
  clear F
  go_enter Try.func7, Try.ntmps7
  go_upto_region 7 with (first
    | (go_at_call 17; (with_reducible refine (X1.out _).mono ?_); rintro e w1 ⟨rfl, hb⟩; have HB := Lib.hid (below_new HB.out hb); clear hb)
    | (go_at_call 19; (with_reducible refine (X2.out _).mono ?_); rintro e w3 ⟨rfl, hb⟩; have HB := Lib.hid (below_new HB.out hb); clear hb)
    | (go_at_call 21; (with_reducible refine (X3.out _).mono ?_); rintro e w5 ⟨rfl, hb⟩; have HB := Lib.hid (below_new HB.out hb); clear hb)
    | (refine wpList_store_fresh rfl 27 (.tmp 9) (.tmp 34) rfl C rfl rfl 27 _ iC.out (by rw [zC.out]; rfl) oC.out ?_; intro w7 hS hb; have HB := Lib.hid (below_new HB.out hb); have R1 := Lib.hid hS; clear hb hS)
    | (go_at_call 23; (with_reducible refine (X4.out _).mono ?_); rintro e w9 ⟨A, c, rfl, hL, hb⟩; have HB := Lib.hid (below_new HB.out hb); have R1 := Lib.hid (R1.out.next hb); have s1 := R1.out.read zC.out; have L1 := Lib.hid hL; clear hb hL))
  go_cut [84] (fun s84 wx => s84 = .bool false ∧ Hid (Row wx w5.heap.size 27 C ∧ Below w.heap.size w wx))
  case first =>
    go_wp2_with (first
      | (go_at_call 11; (with_reducible refine (Y1.out _).mono ?_); rintro e v1 ⟨rfl, hb⟩; have HB := Lib.hid (below_new HB.out hb); have L1 := Lib.hid ((L1.out.next hb (Nat.le_refl _)).more hb.size); have R1 := Lib.hid (R1.out.next hb); clear hb s1; have s1 := R1.out.read zC.out))
    go_meet
    exact ⟨rfl, Lib.hid ⟨R1.out, HB.out⟩⟩
  case rest =>
    obtain ⟨rfl, HX⟩ := hcut
    clear HB R1 s1 L1
    have s1 := HX.out.1.read zC.out
    have HB := Lib.hid HX.out.2
    go_wp2_with (go_at_call 8; (with_reducible refine (coded_any _).mono ?_); rintro e w12 ⟨rfl, hb⟩; have HB := Lib.hid (below_new HB.out hb); clear hb)
    go_ret
    exact ⟨rfl, HB.out⟩
attribute [local go_sem ↓ high] read_at eq_at in
set_option maxHeartbeats 40000000 in
set_option maxRecDepth 100000 in
theorem form_1001 (s : ByteArray) (w : World) (hs : s.size ≤ 2500) (rn : Int) (rt ca cb ub ht N T U L : ByteArray) (C : Array Value) (m : Nat) (ls : List (List Int)) (F : FormIn s true false false true rn rt ca cb ub ht N T U L C m ls) :
    Calls Try.prog 7 #[.string s] w fun e w' => e = .returned (.bool true) ∧ Below w.heap.size w w' := by
  have X1 := Lib.hid F.x1
  have X2 := Lib.hid F.x2
  have X3 := Lib.hid F.x3
  have X4 := Lib.hid F.x4
  have Y1 := Lib.hid (F.y1 rfl)
  have a1 := F.a1 rfl
  obtain ⟨rfl, rfl⟩ := F.z2 rfl
  obtain ⟨rfl, QZ0⟩ := F.z3 rfl
  have QZ : ∀ W, (eqAt (.agg C) (.agg #[.int .u8 0, .int .u8 0, .int .u8 0, .int .u8 0, .int .u8 0, .int .u8 0, .int .u8 0, .int .u8 0, .int .u8 0, .int .u8 0, .int .u8 0, .int .u8 0, .int .u8 0, .int .u8 0, .int .u8 0, .int .u8 0, .int .u8 0, .int .u8 0, .int .u8 0, .int .u8 0, .int .u8 0, .int .u8 0, .int .u8 0, .int .u8 0, .int .u8 0, .int .u8 0, .int .u8 0, .int .u8 0, .int .u8 0, .int .u8 0, .int .u8 0, .int .u8 0])).run Try.prog W = .ok (.bool true) W := QZ0
  clear QZ0
  have Y4 := Lib.hid (F.y4 rfl)
  have a4 := F.a4 rfl
  have iC := Lib.hid F.iC
  have zC := Lib.hid F.zC
  have oC := Lib.hid F.oC
  have d1 : decide (2500 < (s.size : Int)) = false := decide_eq_false (by omega)
  have HB := Lib.hid (Below.refl w.heap.size w)
  clear F
  go_enter Try.func7, Try.ntmps7
  go_upto_region 7 with (first
    | (go_at_call 17; (with_reducible refine (X1.out _).mono ?_); rintro e w1 ⟨rfl, hb⟩; have HB := Lib.hid (below_new HB.out hb); clear hb)
    | (go_at_call 19; (with_reducible refine (X2.out _).mono ?_); rintro e w3 ⟨rfl, hb⟩; have HB := Lib.hid (below_new HB.out hb); clear hb)
    | (go_at_call 21; (with_reducible refine (X3.out _).mono ?_); rintro e w5 ⟨rfl, hb⟩; have HB := Lib.hid (below_new HB.out hb); clear hb)
    | (refine wpList_store_fresh rfl 27 (.tmp 9) (.tmp 34) rfl C rfl rfl 27 _ iC.out (by rw [zC.out]; rfl) oC.out ?_; intro w7 hS hb; have HB := Lib.hid (below_new HB.out hb); have R1 := Lib.hid hS; clear hb hS)
    | (go_at_call 23; (with_reducible refine (X4.out _).mono ?_); rintro e w9 ⟨A, c, rfl, hL, hb⟩; have HB := Lib.hid (below_new HB.out hb); have R1 := Lib.hid (R1.out.next hb); have s1 := R1.out.read zC.out; have L1 := Lib.hid hL; clear hb hL))
  go_cut [84] (fun s84 wx => s84 = .bool false ∧ Hid (Row wx w5.heap.size 27 C ∧ Below w.heap.size w wx))
  case first =>
    go_wp2_with (first
      | (go_at_call 11; (with_reducible refine (Y1.out _).mono ?_); rintro e v1 ⟨rfl, hb⟩; have HB := Lib.hid (below_new HB.out hb); have L1 := Lib.hid ((L1.out.next hb (Nat.le_refl _)).more hb.size); have R1 := Lib.hid (R1.out.next hb); clear hb s1; have s1 := R1.out.read zC.out)
      | (go_at_call 15; (with_reducible refine (Y4.out _ _ _ L1.out).mono ?_); rintro e v4 ⟨rfl, hb⟩; have HB := Lib.hid (below_new HB.out hb); have L1 := Lib.hid ((L1.out.next hb (Nat.le_refl _)).more hb.size); have R1 := Lib.hid (R1.out.next hb); clear hb s1; have s1 := R1.out.read zC.out))
    go_meet
    exact ⟨rfl, Lib.hid ⟨R1.out, HB.out⟩⟩
  case rest =>
    obtain ⟨rfl, HX⟩ := hcut
    clear HB R1 s1 L1
    have s1 := HX.out.1.read zC.out
    have HB := Lib.hid HX.out.2
    go_wp2_with (go_at_call 8; (with_reducible refine (coded_any _).mono ?_); rintro e w12 ⟨rfl, hb⟩; have HB := Lib.hid (below_new HB.out hb); clear hb)
    go_ret
    exact ⟨rfl, HB.out⟩
attribute [local go_sem ↓ high] read_at eq_at in
set_option maxHeartbeats 40000000 in
set_option maxRecDepth 100000 in
theorem form_1010 (s : ByteArray) (w : World) (hs : s.size ≤ 2500) (rn : Int) (rt ca cb ub ht N T U L : ByteArray) (C : Array Value) (m : Nat) (ls : List (List Int)) (F : FormIn s true false true false rn rt ca cb ub ht N T U L C m ls) :
    Calls Try.prog 7 #[.string s] w fun e w' => e = .returned (.bool true) ∧ Below w.heap.size w w' := by
  have X1 := Lib.hid F.x1
  have X2 := Lib.hid F.x2
  have X3 := Lib.hid F.x3
  have X4 := Lib.hid F.x4
  have Y1 := Lib.hid (F.y1 rfl)
  have a1 := F.a1 rfl
  obtain ⟨rfl, rfl⟩ := F.z2 rfl
  have Y3 := Lib.hid (F.y3 rfl)
  have a3 := F.a3 rfl
  obtain ⟨rfl, rfl⟩ := F.z4 rfl
  have iC := Lib.hid F.iC
  have zC := Lib.hid F.zC
  have oC := Lib.hid F.oC
  have d1 : decide (2500 < (s.size : Int)) = false := decide_eq_false (by omega)
  have HB := Lib.hid (Below.refl w.heap.size w)
  clear F
  go_enter Try.func7, Try.ntmps7
  go_upto_region 7 with (first
    | (go_at_call 17; (with_reducible refine (X1.out _).mono ?_); rintro e w1 ⟨rfl, hb⟩; have HB := Lib.hid (below_new HB.out hb); clear hb)
    | (go_at_call 19; (with_reducible refine (X2.out _).mono ?_); rintro e w3 ⟨rfl, hb⟩; have HB := Lib.hid (below_new HB.out hb); clear hb)
    | (go_at_call 21; (with_reducible refine (X3.out _).mono ?_); rintro e w5 ⟨rfl, hb⟩; have HB := Lib.hid (below_new HB.out hb); clear hb)
    | (refine wpList_store_fresh rfl 27 (.tmp 9) (.tmp 34) rfl C rfl rfl 27 _ iC.out (by rw [zC.out]; rfl) oC.out ?_; intro w7 hS hb; have HB := Lib.hid (below_new HB.out hb); have R1 := Lib.hid hS; clear hb hS)
    | (go_at_call 23; (with_reducible refine (X4.out _).mono ?_); rintro e w9 ⟨A, c, rfl, hL, hb⟩; have HB := Lib.hid (below_new HB.out hb); have R1 := Lib.hid (R1.out.next hb); have s1 := R1.out.read zC.out; have L1 := Lib.hid hL; clear hb hL))
  go_cut [84] (fun s84 wx => s84 = .bool false ∧ Hid (Row wx w5.heap.size 27 C ∧ Below w.heap.size w wx))
  case first =>
    go_wp2_with (first
      | (go_at_call 11; (with_reducible refine (Y1.out _).mono ?_); rintro e v1 ⟨rfl, hb⟩; have HB := Lib.hid (below_new HB.out hb); have L1 := Lib.hid ((L1.out.next hb (Nat.le_refl _)).more hb.size); have R1 := Lib.hid (R1.out.next hb); clear hb s1; have s1 := R1.out.read zC.out)
      | (go_at_call 9; (with_reducible refine (Y3.out _).mono ?_); rintro e v3 ⟨rfl, hb⟩; have HB := Lib.hid (below_new HB.out hb); have L1 := Lib.hid ((L1.out.next hb (Nat.le_refl _)).more hb.size); have R1 := Lib.hid (R1.out.next hb); clear hb s1; have s1 := R1.out.read zC.out))
    go_meet
    exact ⟨rfl, Lib.hid ⟨R1.out, HB.out⟩⟩
  case rest =>
    obtain ⟨rfl, HX⟩ := hcut
    clear HB R1 s1 L1
    have s1 := HX.out.1.read zC.out
    have HB := Lib.hid HX.out.2
    go_wp2_with (go_at_call 8; (with_reducible refine (coded_any _).mono ?_); rintro e w12 ⟨rfl, hb⟩; have HB := Lib.hid (below_new HB.out hb); clear hb)
    go_ret
    exact ⟨rfl, HB.out⟩
attribute [local go_sem ↓ high] read_at eq_at in
set_option maxHeartbeats 40000000 in
set_option maxRecDepth 100000 in
theorem form_1011 (s : ByteArray) (w : World) (hs : s.size ≤ 2500) (rn : Int) (rt ca cb ub ht N T U L : ByteArray) (C : Array Value) (m : Nat) (ls : List (List Int)) (F : FormIn s true false true true rn rt ca cb ub ht N T U L C m ls) :
    Calls Try.prog 7 #[.string s] w fun e w' => e = .returned (.bool true) ∧ Below w.heap.size w w' := by
  have X1 := Lib.hid F.x1
  have X2 := Lib.hid F.x2
  have X3 := Lib.hid F.x3
  have X4 := Lib.hid F.x4
  have Y1 := Lib.hid (F.y1 rfl)
  have a1 := F.a1 rfl
  obtain ⟨rfl, rfl⟩ := F.z2 rfl
  have Y3 := Lib.hid (F.y3 rfl)
  have a3 := F.a3 rfl
  have Y4 := Lib.hid (F.y4 rfl)
  have a4 := F.a4 rfl
  have iC := Lib.hid F.iC
  have zC := Lib.hid F.zC
  have oC := Lib.hid F.oC
  have d1 : decide (2500 < (s.size : Int)) = false := decide_eq_false (by omega)
  have HB := Lib.hid (Below.refl w.heap.size w)
  clear F
  go_enter Try.func7, Try.ntmps7
  go_upto_region 7 with (first
    | (go_at_call 17; (with_reducible refine (X1.out _).mono ?_); rintro e w1 ⟨rfl, hb⟩; have HB := Lib.hid (below_new HB.out hb); clear hb)
    | (go_at_call 19; (with_reducible refine (X2.out _).mono ?_); rintro e w3 ⟨rfl, hb⟩; have HB := Lib.hid (below_new HB.out hb); clear hb)
    | (go_at_call 21; (with_reducible refine (X3.out _).mono ?_); rintro e w5 ⟨rfl, hb⟩; have HB := Lib.hid (below_new HB.out hb); clear hb)
    | (refine wpList_store_fresh rfl 27 (.tmp 9) (.tmp 34) rfl C rfl rfl 27 _ iC.out (by rw [zC.out]; rfl) oC.out ?_; intro w7 hS hb; have HB := Lib.hid (below_new HB.out hb); have R1 := Lib.hid hS; clear hb hS)
    | (go_at_call 23; (with_reducible refine (X4.out _).mono ?_); rintro e w9 ⟨A, c, rfl, hL, hb⟩; have HB := Lib.hid (below_new HB.out hb); have R1 := Lib.hid (R1.out.next hb); have s1 := R1.out.read zC.out; have L1 := Lib.hid hL; clear hb hL))
  go_cut [84] (fun s84 wx => s84 = .bool false ∧ Hid (Row wx w5.heap.size 27 C ∧ Below w.heap.size w wx))
  case first =>
    go_wp2_with (first
      | (go_at_call 11; (with_reducible refine (Y1.out _).mono ?_); rintro e v1 ⟨rfl, hb⟩; have HB := Lib.hid (below_new HB.out hb); have L1 := Lib.hid ((L1.out.next hb (Nat.le_refl _)).more hb.size); have R1 := Lib.hid (R1.out.next hb); clear hb s1; have s1 := R1.out.read zC.out)
      | (go_at_call 9; (with_reducible refine (Y3.out _).mono ?_); rintro e v3 ⟨rfl, hb⟩; have HB := Lib.hid (below_new HB.out hb); have L1 := Lib.hid ((L1.out.next hb (Nat.le_refl _)).more hb.size); have R1 := Lib.hid (R1.out.next hb); clear hb s1; have s1 := R1.out.read zC.out)
      | (go_at_call 15; (with_reducible refine (Y4.out _ _ _ L1.out).mono ?_); rintro e v4 ⟨rfl, hb⟩; have HB := Lib.hid (below_new HB.out hb); have L1 := Lib.hid ((L1.out.next hb (Nat.le_refl _)).more hb.size); have R1 := Lib.hid (R1.out.next hb); clear hb s1; have s1 := R1.out.read zC.out))
    go_meet
    exact ⟨rfl, Lib.hid ⟨R1.out, HB.out⟩⟩
  case rest =>
    obtain ⟨rfl, HX⟩ := hcut
    clear HB R1 s1 L1
    have s1 := HX.out.1.read zC.out
    have HB := Lib.hid HX.out.2
    go_wp2_with (go_at_call 8; (with_reducible refine (coded_any _).mono ?_); rintro e w12 ⟨rfl, hb⟩; have HB := Lib.hid (below_new HB.out hb); clear hb)
    go_ret
    exact ⟨rfl, HB.out⟩
end Go.Proofs.Ytcafjmaimohljaa
