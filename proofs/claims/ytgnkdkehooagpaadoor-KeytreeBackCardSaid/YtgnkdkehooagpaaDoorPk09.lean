/-
  Several texts in one (a claim has room for 60 files): LampSmall, ByteMem, RefKey, UnhashB.
-/
import Derived.Test.YtgnkdkehooagpaaDoorPk08
import Derived.Test.YtgnkdkehooagpaaDoorPk05
import Derived.Test.YtgnkdkehooagpaaDoorPk04
import Derived.Test.YtgnkdkehooagpaaDoorPk02
import Derived.Test.YtgnkdkehooagpaaDoorPk07
import Derived.Laws.ResultCell
import Derived.Deep.RegionLaw
import Derived.Deep.DeepCutAuto
namespace Go.Proofs.YtgnkdkehooagpaaDoor
open Go.RowKit Go.Great
set_option linter.unusedVariables false
set_option maxRecDepth 100000

/-- What stands ahead in all that a key's secrets are made of. -/
def keyT (seed : ByteArray) (index : Int) : ByteArray := ⟨#[2]⟩ ++ textS seed ++ putS index 4
theorem keyT_size (seed : ByteArray) (index : Int) (h : seed.size ≤ 100000) : (keyT seed index).size ≤ 100019 := by
  have h1 := textS_size seed (by omega)
  have h2 := putS_size index 4
  unfold keyT
  rw [ByteArray.size_append, ByteArray.size_append]
  show 1 + (textS seed).size + _ ≤ _
  omega
/-- A secret, by its place among a key's. -/
def secN (seed : ByteArray) (index : Int) (n : Nat) : List Int := sumL (keyT seed index ++ putS n 2)
theorem secN_is (seed : ByteArray) (index : Int) (n : Nat) : (secN seed index n).length = 32 ∧ bytes (secN seed index n) := ⟨sumL_length _, sumL_bytes _⟩
theorem secN_at (seed : ByteArray) (index i b : Nat) : secN seed index (2 * i + b) = secL seed index i b := rfl
theorem secN_pub (seed : ByteArray) (index n : Nat) : pubH (secN seed index n) = pubAt seed index n := by
  unfold pubAt
  rw [← secN_at, show 2 * (n / 2) + n % 2 = n by omega]
/-- A block for an argument, and one for the result. -/
def ArgH (w wr : World) (A : Array Value) : Prop := Row wr w.heap.size 23 A ∧ Row wr (w.heap.size + 1) 23 (nums .u8 (List.replicate 32 0)) ∧ Below w.heap.size w wr
theorem ArgH.start (w : World) (A : Array Value) : ArgH w ((w.alloc (.cells A 23)).alloc (.cells (nums .u8 (List.replicate 32 0)) 23)) A :=
  ⟨(Row.made _ _ _).alloc _, Row.made2 _ _ _ _, ((Below.refl _ _).alloc (Nat.le_refl _) _).alloc (by simp) _⟩
theorem ArgH.next {w wr w1 : World} {A : Array Value} (h : ArgH w wr A) (hb : Below wr.heap.size wr w1) : ArgH w w1 A := ⟨h.1.next hb, h.2.1.next hb, below_new h.2.2 hb⟩
set_option maxHeartbeats 1000000 in
theorem isKey_any (x : Int) (w : World) : Calls Tryd.prog 35 #[.int .i64 x] w fun e w' => e = .returned (.bool (decide (0 ≤ x ∧ x ≤ 2147483647))) ∧ w = w' := by
  by_cases h1 : 0 ≤ x
  · have d1 : decide (0 ≤ x) = true := decide_eq_true h1
    by_cases h2 : x ≤ 2147483647
    · have d2 : decide (x ≤ 2147483647) = true := decide_eq_true h2
      have d3 : decide (0 ≤ x ∧ x ≤ 2147483647) = true := decide_eq_true ⟨h1, h2⟩
      rw [d3]
      go_enter Tryd.func35, Tryd.ntmps35
      go_wp2
      go_ret
      exact ⟨rfl, rfl⟩
    · have d2 : decide (x ≤ 2147483647) = false := decide_eq_false h2
      have d3 : decide (0 ≤ x ∧ x ≤ 2147483647) = false := decide_eq_false (fun h => h2 h.2)
      rw [d3]
      go_enter Tryd.func35, Tryd.ntmps35
      go_wp2
      go_ret
      exact ⟨rfl, rfl⟩
  · have d1 : decide (0 ≤ x) = false := decide_eq_false h1
    have d3 : decide (0 ≤ x ∧ x ≤ 2147483647) = false := decide_eq_false (fun h => h1 h.1)
    rw [d3]
    go_enter Tryd.func35, Tryd.ntmps35
    go_wp2
    go_ret
    exact ⟨rfl, rfl⟩
theorem isKey_yes (x : Int) (h : 0 ≤ x ∧ x ≤ 2147483647) (w : World) : Calls Tryd.prog 35 #[.int .i64 x] w fun e w' => e = .returned (.bool true) ∧ w = w' := by
  have := isKey_any x w
  rwa [decide_eq_true h] at this
theorem isKey_no (x : Int) (h : x < 0 ∨ 2147483647 < x) (w : World) : Calls Tryd.prog 35 #[.int .i64 x] w fun e w' => e = .returned (.bool false) ∧ w = w' := by
  have := isKey_any x w
  rwa [decide_eq_false (by omega)] at this
set_option maxHeartbeats 1000000 in
theorem keyText_any (seed : ByteArray) (hs : seed.size ≤ 100000) (index : Int) (hi : 0 ≤ index ∧ index ≤ 2147483647) (w : World) :
    Calls Tryd.prog 36 #[.string seed, .int .i64 index] w fun e w' => e = .returned (.string (keyT seed index)) ∧ Below w.heap.size w w' := by
  obtain ⟨T, hT⟩ : ∃ T, Hid (T = textS seed) := ⟨_, Lib.hid rfl⟩
  obtain ⟨P, hP⟩ : ∃ P, Hid (P = putS index 4) := ⟨_, Lib.hid rfl⟩
  obtain ⟨A1, hA1⟩ : ∃ A, Hid (A = ⟨#[2]⟩ ++ T) := ⟨_, Lib.hid rfl⟩
  obtain ⟨A2, hA2⟩ : ∃ A, Hid (A = A1 ++ P) := ⟨_, Lib.hid rfl⟩
  have hK : keyT seed index = A2 := by rw [hA2.out, hA1.out, hT.out, hP.out]; rfl
  have st := textS_size seed (by omega)
  have sp := putS_size index 4
  rw [← hT.out] at st
  rw [← hP.out] at sp
  have sA : A1.size ≤ 100011 := by rw [hA1.out, ByteArray.size_append]; show 1 + T.size ≤ _; omega
  have a1 : ∀ W, (Op.stringOp .add ⟨#[2]⟩ T).run Tryd.prog W = .ok (.string A1) W := fun W => by rw [hA1.out]; exact join_text _ _ (by show 1 + T.size ≤ _; omega) W
  have a2 : ∀ W, (Op.stringOp .add A1 P).run Tryd.prog W = .ok (.string A2) W := fun W => by rw [hA2.out]; exact join_text _ _ (by omega) W
  have X1 : Hid (∀ W, Calls Tryd.prog 57 #[.string seed] W fun e w' => e = .returned (.string T) ∧ Below W.heap.size W w') := Lib.hid fun W => by rw [hT.out]; exact text_any seed (by omega) W
  have X2 : Hid (∀ W, Calls Tryd.prog 56 #[.int .u64 index, .int .i64 4] W fun e w' => e = .returned (.string P) ∧ Below W.heap.size W w') := Lib.hid fun W => by rw [hP.out]; exact put_any index 4 W (by omega)
  have hw : IntKind.u64.wrap index = index := by rw [IntKind.wrap_u64]; omega
  rw [hK]
  clear hK st sp sA hs
  go_enter Tryd.func36, Tryd.ntmps36
  go_wp2_with (first
    | (go_at_call 57; (with_reducible refine (X1.out _).mono ?_); rintro e w1 ⟨rfl, hb⟩; have HB := Lib.hid hb; clear hb)
    | (go_at_call 56; (with_reducible refine (X2.out _).mono ?_); rintro e w2 ⟨rfl, hb⟩; have HC := Lib.hid (below_new HB.out hb); clear hb))
  go_ret
  exact ⟨rfl, HC.out⟩
attribute [local go_sem ↓ high] read_at write_at
set_option maxHeartbeats 1000000 in
theorem secret_any (key : ByteArray) (hk : key.size ≤ 200000) (n : Nat) (hn : n < 9223372036854775808) (w : World) (hT : Tab w) :
    Calls Tryd.prog 38 #[.string key, .int .i64 (n : Int)] w fun e w' => e = .returned (.agg (nums .u8 (sumL (key ++ putS n 2)))) ∧ Below w.heap.size w w' := by
  have H0 := Lib.hid (OutH.start w)
  have zZ : Hid ((nums .u8 (List.replicate 32 0)).size = 32) := Lib.hid (by rw [nums_size]; simp)
  obtain ⟨P, hP⟩ : ∃ P, Hid (P = putS n 2) := ⟨_, Lib.hid rfl⟩
  obtain ⟨A, hA⟩ : ∃ A, Hid (A = key ++ P) := ⟨_, Lib.hid rfl⟩
  obtain ⟨C, hC⟩ : ∃ C, Hid (C = nums .u8 (sumL A)) := ⟨_, Lib.hid rfl⟩
  have zC : Hid (C.size = 32) := Lib.hid (by rw [hC.out, nums_size]; exact sumL_length _)
  have oC : Hid (C.all (·.oneCell') = true) := Lib.hid (by rw [hC.out]; exact nums_one _ _)
  have sp := putS_size n 2
  rw [← hP.out] at sp
  have a1 : ∀ W, (Op.stringOp .add key P).run Tryd.prog W = .ok (.string A) W := fun W => by rw [hA.out]; exact join_text _ _ (by omega) W
  have X1 : Hid (∀ W, Calls Tryd.prog 56 #[.int .u64 (n : Int), .int .i64 2] W fun e w' => e = .returned (.string P) ∧ Below W.heap.size W w') := Lib.hid fun W => by rw [hP.out]; exact put_any n 2 W (by omega)
  have X2 : Hid (∀ W, Tab W → Calls Tryd.prog 34 #[.string A] W fun e w' => e = .returned (.agg C) ∧ Below W.heap.size W w') := Lib.hid fun W h => by
    rw [hC.out]; exact sum_any A (by rw [hA.out, ByteArray.size_append]; omega) W h
  have hw : IntKind.u64.wrap (n : Int) = (n : Int) := by rw [IntKind.wrap_u64]; omega
  have HT := Lib.hid hT
  rw [← hP.out, ← hA.out, ← hC.out]
  clear sp hk hT
  go_enter Tryd.func38, Tryd.ntmps38
  go_upto_region 1 with fail
  refine world_gen (fun X => OutH w X) H0.out (fun X HX => ?_)
  have HX := Lib.hid HX
  go_wp2_with (first
    | (go_at_call 56; (with_reducible refine (X1.out _).mono ?_); rintro e w1 ⟨rfl, hb⟩; have HX := Lib.hid (HX.out.next hb); clear hb)
    | (go_at_call 34; have hq := HT.out.next HX.out.2; (with_reducible refine (X2.out _ hq).mono ?_); rintro e w1 ⟨rfl, hb⟩; have HX := Lib.hid (HX.out.next hb); clear hb hq; have s6 := HX.out.1.write zZ.out zC.out oC.out))
  refine bodyPost_ret (results_cell_row rfl _ _ w.heap.size 23 _ (0, 0) _ rfl (HX.out.1.whole _) Tryd.underlying23 rfl (sizeH _ zC.out)) rfl ⟨rfl, below_setRow HX.out.2 (Nat.le_refl _)⟩
set_option maxHeartbeats 1000000 in
theorem hashOf_any (x : List Int) (hx : x.length = 32) (w : World) (hT : Tab w) :
    Calls Tryd.prog 37 #[.agg (nums .u8 x)] w fun e w' => e = .returned (.agg (nums .u8 (pubH x))) ∧ Below w.heap.size w w' := by
  obtain ⟨X, hX⟩ : ∃ X, Hid (X = nums .u8 x) := ⟨_, Lib.hid rfl⟩
  obtain ⟨C, hC⟩ : ∃ C, Hid (C = nums .u8 (pubH x)) := ⟨_, Lib.hid rfl⟩
  obtain ⟨S, hS⟩ : ∃ S, Hid (S = strOfNums x) := ⟨_, Lib.hid rfl⟩
  obtain ⟨A, hA⟩ : ∃ A, Hid (A = ⟨#[3]⟩ ++ S) := ⟨_, Lib.hid rfl⟩
  have zX : Hid (X.size = 32) := Lib.hid (by rw [hX.out, nums_size]; exact hx)
  have zZ : Hid ((nums .u8 (List.replicate 32 0)).size = 32) := Lib.hid (by rw [nums_size]; simp)
  have zC : Hid (C.size = 32) := Lib.hid (by rw [hC.out, nums_size]; exact (pubH_is _).1)
  have oC : Hid (C.all (·.oneCell') = true) := Lib.hid (by rw [hC.out]; exact nums_one _ _)
  have zS : S.size = 32 := by rw [hS.out, strOfNums_size]; exact hx
  have a1 : ∀ W, (Op.stringOp .add ⟨#[3]⟩ S).run Tryd.prog W = .ok (.string A) W := fun W => by rw [hA.out]; exact join_text _ _ (by show 1 + S.size ≤ _; omega) W
  have X1 : Hid (∀ W, Calls Tryd.prog 58 #[.agg X] W fun e w' => e = .returned (.string S) ∧ Below W.heap.size W w') := Lib.hid fun W => by rw [hX.out, hS.out]; exact hash_any x hx W
  have X2 : Hid (∀ W, Tab W → Calls Tryd.prog 34 #[.string A] W fun e w' => e = .returned (.agg C) ∧ Below W.heap.size W w') := Lib.hid fun W h => by
    have := sum_any A (by rw [hA.out, ByteArray.size_append]; show 1 + S.size ≤ _; omega) W h
    rw [hA.out, hS.out] at this
    rw [hC.out, hA.out, hS.out]; exact this
  have H0 := Lib.hid (ArgH.start w X)
  have HT := Lib.hid hT
  rw [← hX.out, ← hC.out]
  clear zS hT hx
  go_enter Tryd.func37, Tryd.ntmps37
  go_upto_region 1 with fail
  refine world_gen (fun Y => ArgH w Y X) H0.out (fun Y HY => ?_)
  have HQ := Lib.hid HY
  have s1 := HQ.out.1.read zX.out
  go_wp2_with (first
    | (go_at_call 58; (with_reducible refine (X1.out _).mono ?_); rintro e w1 ⟨rfl, hb⟩; have HQ := Lib.hid (HQ.out.next hb); clear hb s1)
    | (go_at_call 34; have hq := HT.out.next HQ.out.2.2; (with_reducible refine (X2.out _ hq).mono ?_); rintro e w2 ⟨rfl, hb⟩; have HQ := Lib.hid (HQ.out.next hb); clear hb hq; have s3 := HQ.out.2.1.write zZ.out zC.out oC.out))
  refine bodyPost_ret (results_cell_row rfl _ _ (w.heap.size + 1) 23 _ (0, 0) _ rfl (HQ.out.2.1.whole _) Tryd.underlying23 rfl (sizeH _ zC.out)) rfl ⟨rfl, below_setRow HQ.out.2.2 (by omega)⟩
set_option maxHeartbeats 1000000 in
theorem at_any (d : List Int) (hd : d.length = 32) (i : Nat) (hi : i ≤ 255) (w : World) :
    Calls Tryd.prog 47 #[.agg (nums .u8 d), .int .i64 (i : Int)] w fun e w' => e = .returned (.int .i64 ((2 * i + bitN d i : Nat) : Int)) ∧ Below w.heap.size w w' := by
  obtain ⟨D, hD⟩ : ∃ X, Hid (X = nums .u8 d) := ⟨_, Lib.hid rfl⟩
  obtain ⟨S, hS⟩ : ∃ S, Hid (S = strOfNums d) := ⟨_, Lib.hid rfl⟩
  obtain ⟨b, hb⟩ : ∃ b, Hid (b = bitN d i) := ⟨_, Lib.hid rfl⟩
  have hb1 : b ≤ 1 := by rw [hb.out]; exact bitN_le d i
  obtain ⟨n, hn⟩ : ∃ n, n = 2 * i + b := ⟨_, rfl⟩
  have zD : Hid (D.size = 32) := Lib.hid (by rw [hD.out, nums_size]; exact hd)
  have X1 : Hid (∀ W, Calls Tryd.prog 58 #[.agg D] W fun e w' => e = .returned (.string S) ∧ Below W.heap.size W w') := Lib.hid fun W => by rw [hD.out, hS.out]; exact hash_any d hd W
  have X2 : Hid (∀ W, Calls Tryd.prog 64 #[.string S, .int .i64 (i : Int)] W fun e w' => e = .returned (.int .i64 (b : Int)) ∧ W = w') := Lib.hid fun W => by
    have := bit_any S (i : Int) W (by rw [hS.out, strOfNums_size, hd]; decide) (by omega)
    rwa [hS.out, bitN_is, ← hS.out, ← hb.out] at this
  have H0 : Hid (Row (w.alloc (.cells D 23)) w.heap.size 23 D ∧ Below w.heap.size w (w.alloc (.cells D 23))) := Lib.hid ⟨Row.made _ _ _, (Below.refl _ _).alloc (Nat.le_refl _) _⟩
  have hw1 : IntKind.i64.wrap (2 * (i : Int)) = 2 * (i : Int) := by rw [IntKind.wrap_i64]; omega
  have hw2 : IntKind.i64.wrap (2 * (i : Int) + (b : Int)) = (n : Int) := by rw [IntKind.wrap_i64]; omega
  rw [← hD.out, ← hb.out, ← hn]
  clear hd hi hb hb1 hn
  go_enter Tryd.func47, Tryd.ntmps47
  go_upto_region 1 with fail
  refine world_gen (fun X => Row X w.heap.size 23 D ∧ Below w.heap.size w X) H0.out (fun X HX => ?_)
  have HX := Lib.hid HX
  have s1 := HX.out.1.read zD.out
  go_wp2_with (first
    | (go_at_call 58; (with_reducible refine (X1.out _).mono ?_); rintro e w1 ⟨rfl, hb⟩; have HB := Lib.hid (below_new HX.out.2 hb); clear hb s1)
    | (go_at_call 64; (with_reducible refine (X2.out _).mono ?_); rintro e w2 ⟨rfl, rfl⟩))
  go_ret
  exact ⟨rfl, HB.out⟩
theorem xor_bit (k b : Nat) (hk : k ≤ 255) (hb : b ≤ 1) : bits .xor .i64 ((2 * k + b : Nat) : Int) 1 = ((2 * k + 1 - b : Nat) : Int) := by
  have oa : (BitVec.ofInt 64 ((2 * k + b : Nat) : Int)).toNat = 2 * k + b := by
    rw [BitVec.toNat_ofInt]; show (((2 * k + b : Nat) : Int) % 18446744073709551616).toNat = _; omega
  have ob : (BitVec.ofInt 64 (1 : Int)).toNat = 1 := by decide
  have hx : (2 * k + b) ^^^ 1 = 2 * k + 1 - b := by
    have h1 : ((2 * k + b) ^^^ 1) / 2 = (2 * k + b) / 2 ^^^ 1 / 2 := Nat.xor_div_two
    have h2 : ((2 * k + b) ^^^ 1) % 2 ^ 1 = (2 * k + b) % 2 ^ 1 ^^^ 1 % 2 ^ 1 := Nat.xor_mod_two_pow
    rw [show 1 / 2 = 0 from rfl, Nat.xor_zero] at h1
    rw [show (2 * k + b) % 2 ^ 1 = b by omega] at h2
    rcases (show b = 0 ∨ b = 1 by omega) with rfl | rfl
    · rw [show 0 ^^^ 1 % 2 ^ 1 = 1 from rfl] at h2; omega
    · rw [show 1 ^^^ 1 % 2 ^ 1 = 0 from rfl] at h2; omega
  show IntKind.i64.wrap ((BitVec.ofInt 64 _ ^^^ BitVec.ofInt 64 1).toNat : Int) = _
  rw [BitVec.toNat_xor, oa, ob, hx, IntKind.wrap_i64]
  omega
set_option maxHeartbeats 1000000 in
theorem beside_any (k b : Nat) (hk : k ≤ 255) (hb : b ≤ 1) (w : World) :
    Calls Tryd.prog 48 #[.int .i64 ((2 * k + b : Nat) : Int)] w fun e w' => e = .returned (.int .i64 ((2 * k + 1 - b : Nat) : Int)) ∧ w = w' := by
  have hx := xor_bit k b hk hb
  obtain ⟨n, hn⟩ : ∃ n, n = 2 * k + b := ⟨_, rfl⟩
  obtain ⟨m, hm⟩ : ∃ m, m = 2 * k + 1 - b := ⟨_, rfl⟩
  rw [← hn, ← hm] at hx ⊢
  clear hn hm hk hb
  go_enter Tryd.func48, Tryd.ntmps48
  go_wp2
  go_ret
  exact ⟨rfl, rfl⟩
end Go.Proofs.YtgnkdkehooagpaaDoor
namespace Go.Proofs.YtgnkdkehooagpaaDoor
open Go.RowKit Go.Great
set_option linter.unusedVariables false
set_option maxRecDepth 100000

/-- Bytes as cells. -/
def cellsB (l : List Int) : List Value := l.map (Value.int .u8)
theorem cellsB_length (l : List Int) : (cellsB l).length = l.length := by simp [cellsB]
theorem cellsB_app (a b : List Int) : cellsB (a ++ b) = cellsB a ++ cellsB b := by simp [cellsB]
theorem cellsB_get (l : List Int) (j : Nat) (h : j < l.length) : (cellsB l)[j]? = some (.int .u8 (l.getD j 0)) := by
  unfold cellsB; rw [List.getElem?_map, List.getElem?_eq_getElem h, List.getD_eq_getElem?_getD, List.getElem?_eq_getElem h]; rfl
theorem cellsB_one (l : List Int) : ∀ u ∈ cellsB l, u.oneCell' = true := by
  intro u hu
  obtain ⟨x, _, rfl⟩ := List.mem_map.1 hu
  rfl
/-- Bytes that lie at an address. -/
def BytesAt (w : World) (ad : Addr) (l : List Int) : Prop := ∀ j, j < l.length → w.cell? (ad.add j) = some (.int .u8 (l.getD j 0))
theorem HL.bytes {w : World} {B : Nat} {ad : Addr} {ls : List (List Int)} (h : HL w B (.some ad) ls) (hs : hashes ls) (i : Nat) (hi : i < ls.length) : BytesAt w (ad.add (i * 32)) (ls.getD i []) := fun j hj => by
  rw [(hashes_at hs i hi).1] at hj
  obtain ⟨ad', e, _, hc⟩ := h i hi
  cases e
  rw [add_of_add]; exact hc j hj
theorem Row.bytes {w : World} {g : Nat} {t : TypeId} {l : List Int} (h : Row w g t (nums .u8 l)) : BytesAt w ⟨g, 0, none⟩ l := fun j hj => by rw [add_flat]; exact h.num hj
/-- Bytes are appended to one's own. -/
theorem wp_appendB {o : Oper} {a : Act} {w : World} {K : Act → World → Prop} {Q : Exit → Act → World → Prop} (s x : Operand) (ho : o.op = .call { callee := .builtin .append, args := #[s, x], argTypes := #[42, 42] })
    (B : Nat) (v : Value) (n : Nat) (bs us : List Int) (hsv : a.eval s = v) (hown : w.ownsRow B 5 1 v n (cellsB bs)) (ad : Addr) (m c : Nat) (hx : a.eval x = .slice (some ad) m c) (hm : us.length = m) (hU : BytesAt w ad us) (hsm : n + m ≤ 100000) (hB : B ≤ w.heap.size)
    (h : ∀ v' w', w'.ownsRow B 5 1 v' (n + m) (cellsB (bs ++ us)) → w.grownBy w' v.ownBlock → K (a.put o.dst v') w') : o.wp Tryd.prog a w K Q := by
  obtain ⟨i0, hi, hz0, hz1, hz2⟩ := info_parts info_byte
  subst hm
  refine wp_append_own _ s x 42 ho B 5 i0 _ 1 1 Tryd.underlying42 hi hz0 hz1 hz2 rfl (by decide) v n (cellsB bs) hsv hown ad us.length c (cellsB us) hx (by rw [cellsB_length, Nat.mul_one]) (fun j u hj => ?_) (cellsB_one us) (by unfold maxLen; omega) (by omega) hB (fun v' w' h1 h2 _ => h v' w' ?_ h2)
  · have hj2 : j < us.length := by
      rcases Nat.lt_or_ge j us.length with h' | h'
      · exact h'
      · rw [List.getElem?_eq_none (by rw [cellsB_length]; exact h')] at hj; cases hj
    rw [cellsB_get us j hj2] at hj
    cases hj
    exact hU j hj2
  · rw [cellsB_app]; exact h1
theorem wpList_appendB {ops : Array Oper} {rest : List Oper} {o : Oper} {a : Act} {w : World} {Q : Exit → Act → World → Prop} (hgd : o.guard = none) (s x : Operand) (ho : o.op = .call { callee := .builtin .append, args := #[s, x], argTypes := #[42, 42] })
    (B : Nat) (v : Value) (n : Nat) (bs us : List Int) (hsv : a.eval s = v) (hown : w.ownsRow B 5 1 v n (cellsB bs)) (ad : Addr) (m c : Nat) (hx : a.eval x = .slice (some ad) m c) (hm : us.length = m) (hU : BytesAt w ad us) (hsm : n + m ≤ 100000) (hB : B ≤ w.heap.size)
    (h : ∀ v' w', w'.ownsRow B 5 1 v' (n + m) (cellsB (bs ++ us)) → w.grownBy w' v.ownBlock → wpList Tryd.prog ops Q rest (a.put o.dst v') w') : wpList Tryd.prog ops Q (o :: rest) a w :=
  wpList_plain hgd fun _ hK => wp_appendB s x ho B v n bs us hsv hown ad m c hx hm hU hsm hB fun v' w' h1 h2 => hK _ _ (h v' w' h1 h2)
/-- One's own bytes as a text. -/
theorem convB {W : World} {B n : Nat} {v : Value} {bs : List Int} (h : W.ownsRow B 5 1 v n (cellsB bs)) (hn : 0 < n) : (convert 42 9 v).run Tryd.prog W = .ok (.string (strOfNums bs)) W := by
  have hl : bs.length = n := by have := h.1; rw [cellsB_length, Nat.mul_one] at this; exact this
  rcases h.2 with ⟨_, h0⟩ | ⟨g, cap, cur, rfl, _⟩
  · omega
  · refine run_convert_bytes_arg W 42 5 Tryd.underlying42 Tryd.underlying5 g 0 n cap bs hl (fun i hi => ?_) 9 Tryd.underlying9
    rw [Nat.zero_add]
    have := h.cells (g := g) rfl i _ (cellsB_get bs i (by omega))
    rwa [add_flat] at this
/-- One's own bytes where they lie. -/
theorem ownB_at {W : World} {B n : Nat} {v : Value} {bs : List Int} (h : W.ownsRow B 5 1 v n (cellsB bs)) (hn : 0 < n) : ∃ g cap, v = .slice (some ⟨g, 0, none⟩) n cap ∧ B ≤ g ∧ g < W.heap.size ∧ n ≤ cap ∧ BytesAt W ⟨g, 0, none⟩ bs := by
  rcases h.2 with ⟨_, h0⟩ | ⟨g, cap, cur, rfl, hB, hg, hc, _⟩
  · omega
  · refine ⟨g, cap, rfl, hB, (Array.getElem?_eq_some_iff.1 hg).1, hc, fun j hj => h.cells (g := g) rfl j _ (cellsB_get bs j hj)⟩
end Go.Proofs.YtgnkdkehooagpaaDoor
namespace Go.Proofs.YtgnkdkehooagpaaDoor
open Go.RowKit Go.Great
set_option linter.unusedVariables false
set_option maxRecDepth 100000

theorem str_cons (l : List Int) : strOfNums (4 :: l) = ⟨#[4]⟩ ++ strOfNums l := by
  have h := texts_app [4] l
  have e : strOfNums [4] = ⟨#[4]⟩ := rfl
  rw [e] at h
  rw [h]; rfl
/-- What Leaf holds: its result, and the bytes so far. -/
structure KeyH (w wr : World) (v : Value) (n : Nat) (bs : List Int) : Prop where
  out : Row wr w.heap.size 23 (nums .u8 (List.replicate 32 0))
  own : wr.ownsRow (w.heap.size + 1) 5 1 v n (cellsB bs)
  below : Below w.heap.size w wr
theorem KeyH.put {w wr w1 : World} {v v' : Value} {n m : Nat} {bs us : List Int} (h : KeyH w wr v n bs) (h1 : w1.ownsRow (w.heap.size + 1) 5 1 v' m (cellsB us)) (hg : wr.grownBy w1 v.ownBlock) : KeyH w w1 v' m us :=
  ⟨h.out.grown hg (fun e => by have := (h.own.lt _ e.symm).1; omega), h1, h.below.grown hg h.below.size (fun k hk => by have := (h.own.lt k hk).1; omega)⟩
theorem KeyH.start {w wx : World} (hr : Row wx w.heap.size 23 (nums .u8 (List.replicate 32 0))) (hb : Below w.heap.size w wx) : KeyH w (wx.alloc (.cells #[.int .u8 4] 5)) (.slice (some ⟨wx.heap.size, 0, none⟩) 1 1) 1 [4] :=
  have hs := hr.lt
  ⟨hr.alloc _, World.ownsRow_lit (base := w.heap.size + 1) (e := 5) (size := 1) wx #[.int .u8 4] 1 (by omega) (by decide) rfl, hb.alloc hb.size _⟩
attribute [local go_sem ↓ high] read_at write_at
set_option maxHeartbeats 8000000 in
theorem refKey_any (ls : List (List Int)) (hh : hashes ls) (A : Option Addr) (c : Nat) (w : World) (hA : HL w w.heap.size A ls) (hm : ls.length ≤ 9223372036854775807) :
    Calls Tryd.prog 20 #[.slice A ls.length c] w fun e w' => e = .returned (.agg (nums .u8 (keyF ls))) ∧ Below w.heap.size w w' := by
  obtain ⟨n, hn⟩ : ∃ n, Hid (n = ls.length) := ⟨_, Lib.hid rfl⟩
  have H0 := Lib.hid (OutH.start w)
  have zZ : Hid ((nums .u8 (List.replicate 32 0)).size = 32) := Lib.hid (by rw [nums_size]; simp)
  have oZ : Hid ((nums .u8 (List.replicate 32 0)).all (·.oneCell') = true) := Lib.hid (nums_one _ _)
  have hZ := sizeH _ zZ.out
  rw [← hn.out]
  by_cases h5 : n = 512
  · have d1 : ((n : Int) != 512) = false := by rw [h5]; rfl
    have hl : Hid (ls.length = 512) := Lib.hid (by rw [← hn.out]; exact h5)
    have HF : Hid (keyF ls = sumL (strOfNums (4 :: ls.flatten))) := Lib.hid (by rw [keyF_ok hl.out, str_cons]; rfl)
    obtain ⟨C, hC⟩ : ∃ C, Hid (C = nums .u8 (keyF ls)) := ⟨_, Lib.hid rfl⟩
    have zC : Hid (C.size = 32) := Lib.hid (by rw [hC.out, nums_size]; exact (keyF_is _).1)
    have oC : Hid (C.all (·.oneCell') = true) := Lib.hid (by rw [hC.out]; exact nums_one _ _)
    obtain ⟨S, hS⟩ : ∃ S, Hid (S = strOfNums (4 :: ls.flatten)) := ⟨_, Lib.hid rfl⟩
    have X1 : Hid (∀ W, Calls Tryd.prog 42 #[.string S] W fun e w' => e = .returned (.agg C) ∧ Below W.heap.size W w') := Lib.hid fun W => by
      rw [hC.out, HF.out, ← hS.out]
      exact refSum_any S (by rw [hS.out, strOfNums_size, List.length_cons, flat_size hh, hl.out]; decide) W
    obtain ⟨ad, rfl⟩ := hA.some 0 (by rw [hl.out]; decide)
    have HA := Lib.hid hA
    have HH := Lib.hid hh
    rw [← hC.out]
    rw [h5]
    clear hA hh hm hn h5 d1
    go_enter Tryd.func20, Tryd.ntmps20
    go_upto_region 1 with fail
    refine world_gen (fun X => OutH w X) H0.out (fun X HX => ?_)
    have HK := Lib.hid (KeyH.start HX.1 HX.2)
    clear HX
    go_wp2
    go_loopw [3, 4] (fun s3 s4 wr => ∃ (k : Nat) (v : Value), s4 = .int .i64 ((k : Nat) : Int) ∧ v = s3 ∧ k ≤ 512 ∧ Hid (KeyH w wr v (1 + 32 * k) (4 :: (ls.take k).flatten))) (fun _ s4 _ => (512 - intOf s4).toNat)
    case atStart => exact ⟨0, _, rfl, rfl, by omega, HK⟩
    case round =>
      clear HK
      obtain ⟨k, v, rfl, rfl, hk, HQ⟩ := hrel
      by_cases hlt : k < 512
      · have hkl : k < ls.length := by rw [hl.out]; exact hlt
        have hwk : IntKind.i64.wrap (k : Int) = (k : Int) := by rw [IntKind.wrap_i64]; omega
        have k0 : (0 : Int) ≤ (k : Int) := by omega
        have k1 : (k : Int) < 512 := by omega
        have HB : Hid (BytesAt wr (ad.add (k * 32)) (ls.getD k [])) := Lib.hid ((HA.out.next HQ.out.below (Nat.le_refl _)).bytes HH.out k hkl)
        have h32 : Hid ((ls.getD k []).length = 32) := Lib.hid (hashes_at HH.out k hkl).1
        have HN : Hid (4 :: (ls.take (k + 1)).flatten = (4 :: (ls.take k).flatten) ++ ls.getD k []) := Lib.hid (by
          rw [List.take_succ_eq_append_getElem hkl, List.flatten_append, List.getD_eq_getElem?_getD, List.getElem?_eq_getElem hkl]; simp)
        clear hkl
        go_wp2_with (at_builtin; refine wpList_appendB rfl (.tmp 14) (.tmp 18) rfl (w.heap.size + 1) _ _ _ _ rfl HQ.out.own (ad.add (k * 32)) 32 32 rfl h32.out HB.out (by omega) (by have := HQ.out.out.lt; omega) ?_)
        intro v' w1 hown hg
        have HQ2 : Hid (KeyH w w1 v' (1 + 32 * (k + 1)) (4 :: (ls.take (k + 1)).flatten)) := Lib.hid (by rw [HN.out, show 1 + 32 * (k + 1) = 1 + 32 * k + 32 by omega]; exact HQ.out.put hown hg)
        clear hown hg
        go_wp2
        go_roundw
        case rel => exact ⟨k + 1, _, by go_num, rfl, by omega, HQ2⟩
        case measure => simp [intOf]; omega
      · have hk9 : k = 512 := by omega
        have HQ2 : Hid (KeyH w wr v 16385 (4 :: ls.flatten)) := Lib.hid (by
          have := HQ.out
          rw [hk9, List.take_of_length_le (by rw [hl.out]; exact Nat.le_refl _)] at this
          exact this)
        clear HQ hk9
        have c1 : (convert 42 9 v).run Tryd.prog wr = .ok (.string S) wr := by rw [hS.out]; exact convB HQ2.out.own (by decide)
        go_wp2_with (go_at_call 42; (with_reducible refine (X1.out _).mono ?_); rintro e w1 ⟨rfl, hb⟩; have HR := Lib.hid (HQ2.out.out.next hb); have HB := Lib.hid (below_new HQ2.out.below hb); clear hb c1; have s6 := HR.out.write zZ.out zC.out oC.out)
        refine bodyPost_ret (results_cell_row rfl _ _ w.heap.size 23 _ (0, 0) _ rfl (HR.out.whole _) Tryd.underlying23 rfl (sizeH _ zC.out)) rfl ⟨rfl, below_setRow HB.out (Nat.le_refl _)⟩
  · have d1 : ((n : Int) != 512) = true := by simp; omega
    have HF : Hid (keyF ls = zeroL) := Lib.hid (keyF_no (by rw [← hn.out]; exact h5))
    clear hA hh hm h5
    go_enter Tryd.func20, Tryd.ntmps20
    go_upto_region 1 with fail
    refine world_gen (fun X => OutH w X) H0.out (fun X HX => ?_)
    have HX := Lib.hid HX
    go_wp2_with (refine wpList_store_row rfl 23 _ _ rfl w.heap.size (nums .u8 (List.replicate 32 0)) rfl rfl 23 _ HX.out.1 hZ (by rw [zZ.out]) oZ.out ?_)
    refine bodyPost_ret (results_cell_row rfl _ _ w.heap.size 23 _ (0, 0) _ rfl (HX.out.1.whole _) Tryd.underlying23 rfl hZ) rfl ⟨by rw [HF.out]; rfl, below_setRow HX.out.2 (Nat.le_refl _)⟩
end Go.Proofs.YtgnkdkehooagpaaDoor
namespace Go.Proofs.YtgnkdkehooagpaaDoor
open Go.RowKit
set_option linter.unusedVariables false

/-- The hash that stands ahead of a text, or none. -/
def unhV (s : ByteArray) : Value := if s.size < 32 then .tuple #[.agg (nums .u8 (List.replicate 32 0)), .string ⟨#[]⟩, .bool false]
  else .tuple #[.agg (nums .u8 ((textL s).take 32)), .string (s.extract 32 s.size), .bool true]
theorem unhV_no (s : ByteArray) (h : s.size < 32) : unhV s = .tuple #[.agg (nums .u8 (List.replicate 32 0)), .string ⟨#[]⟩, .bool false] := by unfold unhV; rw [if_pos h]
theorem unhV_yes (s : ByteArray) (h : ¬ s.size < 32) : unhV s = .tuple #[.agg (nums .u8 ((textL s).take 32)), .string (s.extract 32 s.size), .bool true] := by unfold unhV; rw [if_neg h]
/-- A text's first bytes, copied over a whole row. -/
theorem run_copy_front {P : Program} (w : World) (dT sT ty elem : TypeId) (g n dCap : Nat) (s : ByteArray) (cur : Array Value) (t : TypeId)
    (hu : P.underlying dT = some (.slice elem)) (hs : (P.info? elem).map (·.size) = some 1) (hg : Row w g t cur) (hle : n ≤ s.size) (hn : cur.size = n) :
    (Builtin.copy_ #[dT, sT] ty #[.slice (some ⟨g, 0, none⟩) n dCap, .string s]).run P w = .ok (goInt n) (w.setRow g (nums .u8 ((textL s).take n))) := by
  have hl : ((textL s).take n).length = n := by rw [List.length_take, textL_length]; omega
  have hone : ∀ v ∈ (nums .u8 ((textL s).take n)).toList, v.oneCell' = true := by
    intro v hv
    have := nums_one .u8 ((textL s).take n)
    rw [Array.all_eq_true_iff_forall_mem] at this
    exact this v (by simpa using hv)
  have hlen : (nums .u8 ((textL s).take n)).toList.length = n := by rw [Array.length_toList, nums_size, hl]
  have hst := run_storeCells_at P g 0 t (nums .u8 ((textL s).take n)).toList 0 cur w hg (by rw [hlen]; omega) hone
  have hmin : Nat.min s.size n = n := Nat.min_eq_right hle
  have htk : List.take n (List.map (fun b : UInt8 => Value.int IntKind.u8 (b.toNat : Int)) s.data.toList) = (nums .u8 ((textL s).take n)).toList := by
    unfold nums textL
    rw [List.map_take, List.map_map]
    simp only [Function.comp_def]
  rw [hlen] at hst
  simp only [Nat.add_zero] at hst
  cases hq : P.info? elem with
  | none => simp [hq] at hs
  | some i =>
    simp [Builtin.copy_, run_underlying hu, Builtin.lenOf, Builtin.firstCells, sizeOf, typeInfo, hq, hmin]
    rw [htk, hst]
    simp [Result.andThen]
    rw [List.drop_of_length_le (by simp; omega)]
    simp
theorem wpList_copy_front {P : Program} {w : World} {ops : Array Oper} {rest : List Oper} {o : Oper} {a : Act} {Q : Exit → Act → World → Prop} (hgd : o.guard = none) (d x : Operand) (dT sT : TypeId)
    (ho : o.op = .call { callee := .builtin .copy, args := #[d, x], argTypes := #[dT, sT] }) (elem : TypeId) (hu : P.underlying dT = some (.slice elem)) (hs : (P.info? elem).map (·.size) = some 1)
    (g n dCap : Nat) (hd : a.eval d = .slice (some ⟨g, 0, none⟩) n dCap) (s : ByteArray) (hx : a.eval x = .string s) (cur : Array Value) (t : TypeId) (hg : Row w g t cur) (hle : n ≤ s.size) (hn : cur.size = n)
    (h : wpList P ops Q rest (a.put o.dst (goInt n)) (w.setRow g (nums .u8 ((textL s).take n)))) : wpList P ops Q (o :: rest) a w := by
  refine wpList_plain hgd fun K hK => ?_
  have hrun := run_copy_front (P := P) w dT sT o.type elem g n dCap s cur t hu hs hg hle hn
  unfold Oper.wp
  simp [execOp, ho, resolve, invoke, builtin, hd, hx, hrun, Result.andThen]
  exact hK _ _ h
theorem results_row3b {P : Program} {fn : Func} {p u v : Tmp} {ty : TypeId} (h : fn.results = #[.cell p ty, .tmp u, .tmp v]) (tmps : Array Value) (w : World) (g : Nat) (t : TypeId) (cs : Array Value) (fr : Nat × Nat) (d : TypeDesc)
    (hp : tmps.getD p undef = .pointer (some ⟨g, 0, none⟩)) (hg : w.heap[g]? = some (.cells cs t fr)) (hu : P.underlying ty = some d) (hd : (match d with | .struct _ | .array _ _ => true | _ => false) = true) (hi : (P.info? ty).map (·.size) = some cs.size) :
    (results fn tmps).run P w = .ok (.tuple #[.agg cs, tmps.getD u undef, tmps.getD v undef]) w := by
  have hp' : tmps[p]?.getD undef = .pointer (some ⟨g, 0, none⟩) := by simpa using hp
  simp [results, h, hp', asAddr, run_loadVar_row w g t ty cs fr d hg hu hd hi]
theorem ret_unh {s : ByteArray} {v : Value} (h : unhV s = v) : Ending.returned v = .returned (unhV s) := by rw [h]
theorem byte1 : (Tryd.prog.info? 5).map (·.size) = some 1 := by kernel_rfl
attribute [local go_sem ↓ high] read_at write_at
set_option maxHeartbeats 1000000 in
set_option maxRecDepth 100000 in
theorem unhash_any (s : ByteArray) (hs : s.size ≤ maxLen) (w : World) :
    Calls Tryd.prog 50 #[.string s] w fun e w' => e = .returned (unhV s) ∧ Below w.heap.size w w' := by
  unfold maxLen at hs
  obtain ⟨Z, hZ⟩ : ∃ Z, Hid (Z = nums .u8 (List.replicate 32 0)) := ⟨_, Lib.hid rfl⟩
  have zZ : Hid (Z.size = 32) := Lib.hid (by rw [hZ.out, nums_size]; simp)
  have oZ : Hid (Z.all (·.oneCell') = true) := Lib.hid (by rw [hZ.out]; exact nums_one _ _)
  obtain ⟨C, hC⟩ : ∃ C, Hid (C = nums .u8 ((textL s).take 32)) := ⟨_, Lib.hid rfl⟩
  have oC : Hid (C.all (·.oneCell') = true) := Lib.hid (by rw [hC.out]; exact nums_one _ _)
  have H0 : Hid (Row (w.alloc (.cells (nums .u8 (List.replicate 32 0)) 23)) w.heap.size 23 (nums .u8 (List.replicate 32 0)) ∧ Below w.heap.size w (w.alloc (.cells (nums .u8 (List.replicate 32 0)) 23))) := Lib.hid ⟨Row.made _ _ _, (Below.refl _ _).alloc (Nat.le_refl _) _⟩
  go_enter Tryd.func50, Tryd.ntmps50
  go_upto_region 0 with fail
  go_cut [2, 3, 4] (fun s2 s3 s4 wx => s2 = .pointer (some ⟨w.heap.size, 0, none⟩) ∧ s3 = .string ⟨#[]⟩ ∧ s4 = .bool false ∧ Hid (Row wx w.heap.size 23 Z ∧ Below w.heap.size w wx))
  case first =>
    go_wp2_with fail
    go_meet
    exact ⟨rfl, rfl, rfl, by rw [hZ.out]; exact H0⟩
  case rest =>
  obtain ⟨rfl, rfl, rfl, HH⟩ := hcut
  clear H0
  have hrow := HH.out.1
  by_cases hlt : s.size < 32
  · have hV := Lib.hid (unhV_no s hlt)
    have hd : decide ((s.size : Int) < 32) = true := decide_eq_true (by omega)
    rw [← hZ.out] at hV
    have h6 : (Tryd.prog.info? 23).map (·.size) = some (nums .u8 (List.replicate 32 0)).size := by kernel_rfl
    have H6 := Lib.hid h6
    have h3 := nums_one .u8 (List.replicate 32 0)
    rw [hZ.out] at hrow hV
    have HB := Lib.hid HH.out.2
    clear h6 HH
    go_wp2_with (refine wpList_store_row rfl 23 _ _ rfl w.heap.size (nums .u8 (List.replicate 32 0)) rfl rfl 23 _ hrow H6.out rfl h3 ?_)
    refine bodyPost_ret (results_row3b (p := 2) (u := 3) (v := 4) rfl _ _ w.heap.size 23 _ (0, 0) _ rfl (hrow.whole _) Tryd.underlying23 rfl H6.out) rfl ⟨ret_unh hV.out, below_setRow HB.out (Nat.le_refl _)⟩
  · have hV := Lib.hid (unhV_yes s hlt)
    have hd : decide ((s.size : Int) < 32) = false := decide_eq_false (by omega)
    rw [← hC.out] at hV
    have h32 : 32 ≤ s.size := by omega
    have zC : Hid (C.size = 32) := Lib.hid (by rw [hC.out, nums_size, List.length_take, textL_length]; omega)
    have HB := Lib.hid HH.out.2
    clear HH
    go_upto_region 3 with fail
    go_cut [2, 4] (fun s2 s4 wx => s2 = .pointer (some ⟨w.heap.size, 0, none⟩) ∧ s4 = .bool false ∧ Hid (Row wx w.heap.size 23 C ∧ Below w.heap.size w wx))
    case first =>
      go_wp2_with (refine wpList_copy_front rfl _ _ _ _ rfl 5 Tryd.underlying42 byte1 w.heap.size 32 32 rfl s rfl Z 23 hrow h32 zZ.out ?_)
      go_meet
      exact ⟨rfl, rfl, Lib.hid ⟨by rw [hC.out]; exact hrow.whole _, below_setRow HB.out (Nat.le_refl _)⟩⟩
    case rest =>
    obtain ⟨rfl, rfl, HQ⟩ := hcut
    clear hrow HB
    have s1 := HQ.out.1.drew.read zC.out
    have s2 := HQ.out.1.drew.write zC.out zC.out oC.out
    go_wp2_with fail
    go_region
    all_goals
      go_wp2
      refine bodyPost_ret (results_row3b (p := 2) (u := 3) (v := 4) rfl _ _ w.heap.size 23 _ (0, 0) _ rfl (HQ.out.1.drew.whole _) Tryd.underlying23 rfl (sizeH _ zC.out)) rfl ⟨ret_unh hV.out, below_setRow HQ.out.2.drew (Nat.le_refl _)⟩
end Go.Proofs.YtgnkdkehooagpaaDoor
