/-
  The walks of what stands in lamport beside its five functions (layer 8): whether a number is a key's, what stands ahead of its secrets, a secret, its hash, and where a secret stands. Conditions: the two tables as they were laid, where a sum is made; a seed of at most 100000 bytes. What they make is new memory; nothing that was there changes.
-/
import Derived.Test.YtllabnhgiojmmaaDoorLampSays
import Derived.Test.YtllabnhgiojmmaaDoorBitOnly
import Derived.Test.YtllabnhgiojmmaaDoorHash
import Derived.Test.YtllabnhgiojmmaaDoorPut
namespace Go.Proofs.YtllabnhgiojmmaaDoor
open Go.RowKit Go.Great
set_option linter.unusedVariables false
set_option maxRecDepth 100000

/-- What stands ahead in all that a key's secrets are made of. -/
def keyT (seed : ByteArray) (index : Int) : ByteArray := ⟨#[2]⟩ ++ textS seed ++ putS index 4
theorem keyT_size (seed : ByteArray) (index : Int) (h : seed.size ≤ 100000) : (keyT seed index).size ≤ 100019 := by
  have h1 := textS_size seed (by omega)
  have h2 := putS_size index 4
  unfold keyT
  rw [ByteArray.size_append, ByteArray.size_append]
  show 1 + (textS seed).size + _ ≤ _
  omega
/-- A secret, by its place among a key's. -/
def secN (seed : ByteArray) (index : Int) (n : Nat) : List Int := sumL (keyT seed index ++ putS n 2)
theorem secN_is (seed : ByteArray) (index : Int) (n : Nat) : (secN seed index n).length = 32 ∧ bytes (secN seed index n) := ⟨sumL_length _, sumL_bytes _⟩
theorem secN_at (seed : ByteArray) (index i b : Nat) : secN seed index (2 * i + b) = secL seed index i b := rfl
theorem secN_pub (seed : ByteArray) (index n : Nat) : pubH (secN seed index n) = pubAt seed index n := by
  unfold pubAt
  rw [← secN_at, show 2 * (n / 2) + n % 2 = n by omega]
/-- A block for an argument, and one for the result. -/
def ArgH (w wr : World) (A : Array Value) : Prop := Row wr w.heap.size 24 A ∧ Row wr (w.heap.size + 1) 24 (nums .u8 (List.replicate 32 0)) ∧ Below w.heap.size w wr
theorem ArgH.start (w : World) (A : Array Value) : ArgH w ((w.alloc (.cells A 24)).alloc (.cells (nums .u8 (List.replicate 32 0)) 24)) A :=
  ⟨(Row.made _ _ _).alloc _, Row.made2 _ _ _ _, ((Below.refl _ _).alloc (Nat.le_refl _) _).alloc (by simp) _⟩
theorem ArgH.next {w wr w1 : World} {A : Array Value} (h : ArgH w wr A) (hb : Below wr.heap.size wr w1) : ArgH w w1 A := ⟨h.1.next hb, h.2.1.next hb, below_new h.2.2 hb⟩
set_option maxHeartbeats 1000000 in
theorem isKey_any (x : Int) (w : World) : Calls Tryd.prog 20 #[.int .i64 x] w fun e w' => e = .returned (.bool (decide (0 ≤ x ∧ x ≤ 2147483647))) ∧ w = w' := by
  by_cases h1 : 0 ≤ x
  · have d1 : decide (0 ≤ x) = true := decide_eq_true h1
    by_cases h2 : x ≤ 2147483647
    · have d2 : decide (x ≤ 2147483647) = true := decide_eq_true h2
      have d3 : decide (0 ≤ x ∧ x ≤ 2147483647) = true := decide_eq_true ⟨h1, h2⟩
      rw [d3]
      go_enter Tryd.func20, Tryd.ntmps20
      go_wp2
      go_ret
      exact ⟨rfl, rfl⟩
    · have d2 : decide (x ≤ 2147483647) = false := decide_eq_false h2
      have d3 : decide (0 ≤ x ∧ x ≤ 2147483647) = false := decide_eq_false (fun h => h2 h.2)
      rw [d3]
      go_enter Tryd.func20, Tryd.ntmps20
      go_wp2
      go_ret
      exact ⟨rfl, rfl⟩
  · have d1 : decide (0 ≤ x) = false := decide_eq_false h1
    have d3 : decide (0 ≤ x ∧ x ≤ 2147483647) = false := decide_eq_false (fun h => h1 h.1)
    rw [d3]
    go_enter Tryd.func20, Tryd.ntmps20
    go_wp2
    go_ret
    exact ⟨rfl, rfl⟩
theorem isKey_yes (x : Int) (h : 0 ≤ x ∧ x ≤ 2147483647) (w : World) : Calls Tryd.prog 20 #[.int .i64 x] w fun e w' => e = .returned (.bool true) ∧ w = w' := by
  have := isKey_any x w
  rwa [decide_eq_true h] at this
theorem isKey_no (x : Int) (h : x < 0 ∨ 2147483647 < x) (w : World) : Calls Tryd.prog 20 #[.int .i64 x] w fun e w' => e = .returned (.bool false) ∧ w = w' := by
  have := isKey_any x w
  rwa [decide_eq_false (by omega)] at this
set_option maxHeartbeats 1000000 in
theorem keyText_any (seed : ByteArray) (hs : seed.size ≤ 100000) (index : Int) (hi : 0 ≤ index ∧ index ≤ 2147483647) (w : World) :
    Calls Tryd.prog 21 #[.string seed, .int .i64 index] w fun e w' => e = .returned (.string (keyT seed index)) ∧ Below w.heap.size w w' := by
  obtain ⟨T, hT⟩ : ∃ T, Hid (T = textS seed) := ⟨_, Lib.hid rfl⟩
  obtain ⟨P, hP⟩ : ∃ P, Hid (P = putS index 4) := ⟨_, Lib.hid rfl⟩
  obtain ⟨A1, hA1⟩ : ∃ A, Hid (A = ⟨#[2]⟩ ++ T) := ⟨_, Lib.hid rfl⟩
  obtain ⟨A2, hA2⟩ : ∃ A, Hid (A = A1 ++ P) := ⟨_, Lib.hid rfl⟩
  have hK : keyT seed index = A2 := by rw [hA2.out, hA1.out, hT.out, hP.out]; rfl
  have st := textS_size seed (by omega)
  have sp := putS_size index 4
  rw [← hT.out] at st
  rw [← hP.out] at sp
  have sA : A1.size ≤ 100011 := by rw [hA1.out, ByteArray.size_append]; show 1 + T.size ≤ _; omega
  have a1 : ∀ W, (Op.stringOp .add ⟨#[2]⟩ T).run Tryd.prog W = .ok (.string A1) W := fun W => by rw [hA1.out]; exact join_text _ _ (by show 1 + T.size ≤ _; omega) W
  have a2 : ∀ W, (Op.stringOp .add A1 P).run Tryd.prog W = .ok (.string A2) W := fun W => by rw [hA2.out]; exact join_text _ _ (by omega) W
  have X1 : Hid (∀ W, Calls Tryd.prog 33 #[.string seed] W fun e w' => e = .returned (.string T) ∧ Below W.heap.size W w') := Lib.hid fun W => by rw [hT.out]; exact text_any seed (by omega) W
  have X2 : Hid (∀ W, Calls Tryd.prog 34 #[.int .u64 index, .int .i64 4] W fun e w' => e = .returned (.string P) ∧ Below W.heap.size W w') := Lib.hid fun W => by rw [hP.out]; exact put_any index 4 W (by omega)
  have hw : IntKind.u64.wrap index = index := by rw [IntKind.wrap_u64]; omega
  rw [hK]
  clear hK st sp sA hs
  go_enter Tryd.func21, Tryd.ntmps21
  go_wp2_with (first
    | (go_at_call 33; (with_reducible refine (X1.out _).mono ?_); rintro e w1 ⟨rfl, hb⟩; have HB := Lib.hid hb; clear hb)
    | (go_at_call 34; (with_reducible refine (X2.out _).mono ?_); rintro e w2 ⟨rfl, hb⟩; have HC := Lib.hid (below_new HB.out hb); clear hb))
  go_ret
  exact ⟨rfl, HC.out⟩
attribute [local go_sem ↓ high] read_at write_at
set_option maxHeartbeats 1000000 in
theorem secret_any (key : ByteArray) (hk : key.size ≤ 200000) (n : Nat) (hn : n < 9223372036854775808) (w : World) (hT : Tab w) :
    Calls Tryd.prog 22 #[.string key, .int .i64 (n : Int)] w fun e w' => e = .returned (.agg (nums .u8 (sumL (key ++ putS n 2)))) ∧ Below w.heap.size w w' := by
  have H0 := Lib.hid (OutH.start w)
  have zZ : Hid ((nums .u8 (List.replicate 32 0)).size = 32) := Lib.hid (by rw [nums_size]; simp)
  obtain ⟨P, hP⟩ : ∃ P, Hid (P = putS n 2) := ⟨_, Lib.hid rfl⟩
  obtain ⟨A, hA⟩ : ∃ A, Hid (A = key ++ P) := ⟨_, Lib.hid rfl⟩
  obtain ⟨C, hC⟩ : ∃ C, Hid (C = nums .u8 (sumL A)) := ⟨_, Lib.hid rfl⟩
  have zC : Hid (C.size = 32) := Lib.hid (by rw [hC.out, nums_size]; exact sumL_length _)
  have oC : Hid (C.all (·.oneCell') = true) := Lib.hid (by rw [hC.out]; exact nums_one _ _)
  have sp := putS_size n 2
  rw [← hP.out] at sp
  have a1 : ∀ W, (Op.stringOp .add key P).run Tryd.prog W = .ok (.string A) W := fun W => by rw [hA.out]; exact join_text _ _ (by omega) W
  have X1 : Hid (∀ W, Calls Tryd.prog 34 #[.int .u64 (n : Int), .int .i64 2] W fun e w' => e = .returned (.string P) ∧ Below W.heap.size W w') := Lib.hid fun W => by rw [hP.out]; exact put_any n 2 W (by omega)
  have X2 : Hid (∀ W, Tab W → Calls Tryd.prog 32 #[.string A] W fun e w' => e = .returned (.agg C) ∧ Below W.heap.size W w') := Lib.hid fun W h => by
    rw [hC.out]; exact sum_any A (by rw [hA.out, ByteArray.size_append]; omega) W h
  have hw : IntKind.u64.wrap (n : Int) = (n : Int) := by rw [IntKind.wrap_u64]; omega
  have HT := Lib.hid hT
  rw [← hP.out, ← hA.out, ← hC.out]
  clear sp hk hT
  go_enter Tryd.func22, Tryd.ntmps22
  go_upto_region 1 with fail
  refine world_gen (fun X => OutH w X) H0.out (fun X HX => ?_)
  have HX := Lib.hid HX
  go_wp2_with (first
    | (go_at_call 34; (with_reducible refine (X1.out _).mono ?_); rintro e w1 ⟨rfl, hb⟩; have HX := Lib.hid (HX.out.next hb); clear hb)
    | (go_at_call 32; have hq := HT.out.next HX.out.2; (with_reducible refine (X2.out _ hq).mono ?_); rintro e w1 ⟨rfl, hb⟩; have HX := Lib.hid (HX.out.next hb); clear hb hq; have s6 := HX.out.1.write zZ.out zC.out oC.out))
  refine bodyPost_ret (results_cell_row rfl _ _ w.heap.size 24 _ (0, 0) _ rfl (HX.out.1.whole _) Tryd.underlying24 rfl (sizeH _ zC.out)) rfl ⟨rfl, below_setRow HX.out.2 (Nat.le_refl _)⟩
set_option maxHeartbeats 1000000 in
theorem hashOf_any (x : List Int) (hx : x.length = 32) (w : World) (hT : Tab w) :
    Calls Tryd.prog 24 #[.agg (nums .u8 x)] w fun e w' => e = .returned (.agg (nums .u8 (pubH x))) ∧ Below w.heap.size w w' := by
  obtain ⟨X, hX⟩ : ∃ X, Hid (X = nums .u8 x) := ⟨_, Lib.hid rfl⟩
  obtain ⟨C, hC⟩ : ∃ C, Hid (C = nums .u8 (pubH x)) := ⟨_, Lib.hid rfl⟩
  obtain ⟨S, hS⟩ : ∃ S, Hid (S = strOfNums x) := ⟨_, Lib.hid rfl⟩
  obtain ⟨A, hA⟩ : ∃ A, Hid (A = ⟨#[3]⟩ ++ S) := ⟨_, Lib.hid rfl⟩
  have zX : Hid (X.size = 32) := Lib.hid (by rw [hX.out, nums_size]; exact hx)
  have zZ : Hid ((nums .u8 (List.replicate 32 0)).size = 32) := Lib.hid (by rw [nums_size]; simp)
  have zC : Hid (C.size = 32) := Lib.hid (by rw [hC.out, nums_size]; exact (pubH_is _).1)
  have oC : Hid (C.all (·.oneCell') = true) := Lib.hid (by rw [hC.out]; exact nums_one _ _)
  have zS : S.size = 32 := by rw [hS.out, strOfNums_size]; exact hx
  have a1 : ∀ W, (Op.stringOp .add ⟨#[3]⟩ S).run Tryd.prog W = .ok (.string A) W := fun W => by rw [hA.out]; exact join_text _ _ (by show 1 + S.size ≤ _; omega) W
  have X1 : Hid (∀ W, Calls Tryd.prog 36 #[.agg X] W fun e w' => e = .returned (.string S) ∧ Below W.heap.size W w') := Lib.hid fun W => by rw [hX.out, hS.out]; exact hash_any x hx W
  have X2 : Hid (∀ W, Tab W → Calls Tryd.prog 32 #[.string A] W fun e w' => e = .returned (.agg C) ∧ Below W.heap.size W w') := Lib.hid fun W h => by
    have := sum_any A (by rw [hA.out, ByteArray.size_append]; show 1 + S.size ≤ _; omega) W h
    rw [hA.out, hS.out] at this
    rw [hC.out, hA.out, hS.out]; exact this
  have H0 := Lib.hid (ArgH.start w X)
  have HT := Lib.hid hT
  rw [← hX.out, ← hC.out]
  clear zS hT hx
  go_enter Tryd.func24, Tryd.ntmps24
  go_upto_region 1 with fail
  refine world_gen (fun Y => ArgH w Y X) H0.out (fun Y HY => ?_)
  have HQ := Lib.hid HY
  have s1 := HQ.out.1.read zX.out
  go_wp2_with (first
    | (go_at_call 36; (with_reducible refine (X1.out _).mono ?_); rintro e w1 ⟨rfl, hb⟩; have HQ := Lib.hid (HQ.out.next hb); clear hb s1)
    | (go_at_call 32; have hq := HT.out.next HQ.out.2.2; (with_reducible refine (X2.out _ hq).mono ?_); rintro e w2 ⟨rfl, hb⟩; have HQ := Lib.hid (HQ.out.next hb); clear hb hq; have s3 := HQ.out.2.1.write zZ.out zC.out oC.out))
  refine bodyPost_ret (results_cell_row rfl _ _ (w.heap.size + 1) 24 _ (0, 0) _ rfl (HQ.out.2.1.whole _) Tryd.underlying24 rfl (sizeH _ zC.out)) rfl ⟨rfl, below_setRow HQ.out.2.2 (by omega)⟩
set_option maxHeartbeats 1000000 in
theorem at_any (d : List Int) (hd : d.length = 32) (i : Nat) (hi : i ≤ 255) (w : World) :
    Calls Tryd.prog 23 #[.agg (nums .u8 d), .int .i64 (i : Int)] w fun e w' => e = .returned (.int .i64 ((2 * i + bitN d i : Nat) : Int)) ∧ Below w.heap.size w w' := by
  obtain ⟨D, hD⟩ : ∃ X, Hid (X = nums .u8 d) := ⟨_, Lib.hid rfl⟩
  obtain ⟨S, hS⟩ : ∃ S, Hid (S = strOfNums d) := ⟨_, Lib.hid rfl⟩
  obtain ⟨b, hb⟩ : ∃ b, Hid (b = bitN d i) := ⟨_, Lib.hid rfl⟩
  have hb1 : b ≤ 1 := by rw [hb.out]; exact bitN_le d i
  obtain ⟨n, hn⟩ : ∃ n, n = 2 * i + b := ⟨_, rfl⟩
  have zD : Hid (D.size = 32) := Lib.hid (by rw [hD.out, nums_size]; exact hd)
  have X1 : Hid (∀ W, Calls Tryd.prog 36 #[.agg D] W fun e w' => e = .returned (.string S) ∧ Below W.heap.size W w') := Lib.hid fun W => by rw [hD.out, hS.out]; exact hash_any d hd W
  have X2 : Hid (∀ W, Calls Tryd.prog 35 #[.string S, .int .i64 (i : Int)] W fun e w' => e = .returned (.int .i64 (b : Int)) ∧ W = w') := Lib.hid fun W => by
    have := bit_any S (i : Int) W (by rw [hS.out, strOfNums_size, hd]; decide) (by omega)
    rwa [hS.out, bitN_is, ← hS.out, ← hb.out] at this
  have H0 : Hid (Row (w.alloc (.cells D 24)) w.heap.size 24 D ∧ Below w.heap.size w (w.alloc (.cells D 24))) := Lib.hid ⟨Row.made _ _ _, (Below.refl _ _).alloc (Nat.le_refl _) _⟩
  have hw1 : IntKind.i64.wrap (2 * (i : Int)) = 2 * (i : Int) := by rw [IntKind.wrap_i64]; omega
  have hw2 : IntKind.i64.wrap (2 * (i : Int) + (b : Int)) = (n : Int) := by rw [IntKind.wrap_i64]; omega
  rw [← hD.out, ← hb.out, ← hn]
  clear hd hi hb hb1 hn
  go_enter Tryd.func23, Tryd.ntmps23
  go_upto_region 1 with fail
  refine world_gen (fun X => Row X w.heap.size 24 D ∧ Below w.heap.size w X) H0.out (fun X HX => ?_)
  have HX := Lib.hid HX
  have s1 := HX.out.1.read zD.out
  go_wp2_with (first
    | (go_at_call 36; (with_reducible refine (X1.out _).mono ?_); rintro e w1 ⟨rfl, hb⟩; have HB := Lib.hid (below_new HX.out.2 hb); clear hb s1)
    | (go_at_call 35; (with_reducible refine (X2.out _).mono ?_); rintro e w2 ⟨rfl, rfl⟩))
  go_ret
  exact ⟨rfl, HB.out⟩
theorem xor_bit (k b : Nat) (hk : k ≤ 255) (hb : b ≤ 1) : bits .xor .i64 ((2 * k + b : Nat) : Int) 1 = ((2 * k + 1 - b : Nat) : Int) := by
  have oa : (BitVec.ofInt 64 ((2 * k + b : Nat) : Int)).toNat = 2 * k + b := by
    rw [BitVec.toNat_ofInt]; show (((2 * k + b : Nat) : Int) % 18446744073709551616).toNat = _; omega
  have ob : (BitVec.ofInt 64 (1 : Int)).toNat = 1 := by decide
  have hx : (2 * k + b) ^^^ 1 = 2 * k + 1 - b := by
    have h1 : ((2 * k + b) ^^^ 1) / 2 = (2 * k + b) / 2 ^^^ 1 / 2 := Nat.xor_div_two
    have h2 : ((2 * k + b) ^^^ 1) % 2 ^ 1 = (2 * k + b) % 2 ^ 1 ^^^ 1 % 2 ^ 1 := Nat.xor_mod_two_pow
    rw [show 1 / 2 = 0 from rfl, Nat.xor_zero] at h1
    rw [show (2 * k + b) % 2 ^ 1 = b by omega] at h2
    rcases (show b = 0 ∨ b = 1 by omega) with rfl | rfl
    · rw [show 0 ^^^ 1 % 2 ^ 1 = 1 from rfl] at h2; omega
    · rw [show 1 ^^^ 1 % 2 ^ 1 = 0 from rfl] at h2; omega
  show IntKind.i64.wrap ((BitVec.ofInt 64 _ ^^^ BitVec.ofInt 64 1).toNat : Int) = _
  rw [BitVec.toNat_xor, oa, ob, hx, IntKind.wrap_i64]
  omega
set_option maxHeartbeats 1000000 in
theorem beside_any (k b : Nat) (hk : k ≤ 255) (hb : b ≤ 1) (w : World) :
    Calls Tryd.prog 25 #[.int .i64 ((2 * k + b : Nat) : Int)] w fun e w' => e = .returned (.int .i64 ((2 * k + 1 - b : Nat) : Int)) ∧ w = w' := by
  have hx := xor_bit k b hk hb
  obtain ⟨n, hn⟩ : ∃ n, n = 2 * k + b := ⟨_, rfl⟩
  obtain ⟨m, hm⟩ : ∃ m, m = 2 * k + 1 - b := ⟨_, rfl⟩
  rw [← hn, ← hm] at hx ⊢
  clear hn hm hk hb
  go_enter Tryd.func25, Tryd.ntmps25
  go_wp2
  go_ret
  exact ⟨rfl, rfl⟩
end Go.Proofs.YtllabnhgiojmmaaDoor
