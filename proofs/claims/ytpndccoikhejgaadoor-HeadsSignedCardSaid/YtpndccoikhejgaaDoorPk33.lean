/-
  Several texts in one (a claim has room for 60 files): LampSmall, LampPublic, ByteMark, LampKey.
-/
import Derived.Test.YtpndccoikhejgaaDoorPk14
import Derived.Test.YtpndccoikhejgaaDoorPk06
import Derived.Test.YtpndccoikhejgaaDoorPk04
import Derived.Test.YtpndccoikhejgaaDoorPk02
import Derived.Test.YtpndccoikhejgaaDoorPk16
import Derived.Lib.SlBytesConst
namespace Go.Proofs.YtpndccoikhejgaaDoor
open Go.RowKit Go.Great
set_option linter.unusedVariables false
set_option maxRecDepth 100000

/-- What stands ahead in all that a key's secrets are made of. -/
def keyT (seed : ByteArray) (index : Int) : ByteArray := ⟨#[2]⟩ ++ textS seed ++ putS index 4
theorem keyT_size (seed : ByteArray) (index : Int) (h : seed.size ≤ 100000) : (keyT seed index).size ≤ 100019 := by
  have h1 := textS_size seed (by omega)
  have h2 := putS_size index 4
  unfold keyT
  rw [ByteArray.size_append, ByteArray.size_append]
  show 1 + (textS seed).size + _ ≤ _
  omega
/-- A secret, by its place among a key's. -/
def secN (seed : ByteArray) (index : Int) (n : Nat) : List Int := sumL (keyT seed index ++ putS n 2)
theorem secN_is (seed : ByteArray) (index : Int) (n : Nat) : (secN seed index n).length = 32 ∧ bytes (secN seed index n) := ⟨sumL_length _, sumL_bytes _⟩
theorem secN_at (seed : ByteArray) (index i b : Nat) : secN seed index (2 * i + b) = secL seed index i b := rfl
theorem secN_pub (seed : ByteArray) (index n : Nat) : pubH (secN seed index n) = pubAt seed index n := by
  unfold pubAt
  rw [← secN_at, show 2 * (n / 2) + n % 2 = n by omega]
/-- A block for an argument, and one for the result. -/
def ArgH (w wr : World) (A : Array Value) : Prop := Row wr w.heap.size 23 A ∧ Row wr (w.heap.size + 1) 23 (nums .u8 (List.replicate 32 0)) ∧ Below w.heap.size w wr
theorem ArgH.start (w : World) (A : Array Value) : ArgH w ((w.alloc (.cells A 23)).alloc (.cells (nums .u8 (List.replicate 32 0)) 23)) A :=
  ⟨(Row.made _ _ _).alloc _, Row.made2 _ _ _ _, ((Below.refl _ _).alloc (Nat.le_refl _) _).alloc (by simp) _⟩
theorem ArgH.next {w wr w1 : World} {A : Array Value} (h : ArgH w wr A) (hb : Below wr.heap.size wr w1) : ArgH w w1 A := ⟨h.1.next hb, h.2.1.next hb, below_new h.2.2 hb⟩
set_option maxHeartbeats 1000000 in
theorem isKey_any (x : Int) (w : World) : Calls Tryd.prog 71 #[.int .i64 x] w fun e w' => e = .returned (.bool (decide (0 ≤ x ∧ x ≤ 2147483647))) ∧ w = w' := by
  by_cases h1 : 0 ≤ x
  · have d1 : decide (0 ≤ x) = true := decide_eq_true h1
    by_cases h2 : x ≤ 2147483647
    · have d2 : decide (x ≤ 2147483647) = true := decide_eq_true h2
      have d3 : decide (0 ≤ x ∧ x ≤ 2147483647) = true := decide_eq_true ⟨h1, h2⟩
      rw [d3]
      go_enter Tryd.func71, Tryd.ntmps71
      go_wp2
      go_ret
      exact ⟨rfl, rfl⟩
    · have d2 : decide (x ≤ 2147483647) = false := decide_eq_false h2
      have d3 : decide (0 ≤ x ∧ x ≤ 2147483647) = false := decide_eq_false (fun h => h2 h.2)
      rw [d3]
      go_enter Tryd.func71, Tryd.ntmps71
      go_wp2
      go_ret
      exact ⟨rfl, rfl⟩
  · have d1 : decide (0 ≤ x) = false := decide_eq_false h1
    have d3 : decide (0 ≤ x ∧ x ≤ 2147483647) = false := decide_eq_false (fun h => h1 h.1)
    rw [d3]
    go_enter Tryd.func71, Tryd.ntmps71
    go_wp2
    go_ret
    exact ⟨rfl, rfl⟩
theorem isKey_yes (x : Int) (h : 0 ≤ x ∧ x ≤ 2147483647) (w : World) : Calls Tryd.prog 71 #[.int .i64 x] w fun e w' => e = .returned (.bool true) ∧ w = w' := by
  have := isKey_any x w
  rwa [decide_eq_true h] at this
theorem isKey_no (x : Int) (h : x < 0 ∨ 2147483647 < x) (w : World) : Calls Tryd.prog 71 #[.int .i64 x] w fun e w' => e = .returned (.bool false) ∧ w = w' := by
  have := isKey_any x w
  rwa [decide_eq_false (by omega)] at this
set_option maxHeartbeats 1000000 in
theorem keyText_any (seed : ByteArray) (hs : seed.size ≤ 100000) (index : Int) (hi : 0 ≤ index ∧ index ≤ 2147483647) (w : World) :
    Calls Tryd.prog 72 #[.string seed, .int .i64 index] w fun e w' => e = .returned (.string (keyT seed index)) ∧ Below w.heap.size w w' := by
  obtain ⟨T, hT⟩ : ∃ T, Hid (T = textS seed) := ⟨_, Lib.hid rfl⟩
  obtain ⟨P, hP⟩ : ∃ P, Hid (P = putS index 4) := ⟨_, Lib.hid rfl⟩
  obtain ⟨A1, hA1⟩ : ∃ A, Hid (A = ⟨#[2]⟩ ++ T) := ⟨_, Lib.hid rfl⟩
  obtain ⟨A2, hA2⟩ : ∃ A, Hid (A = A1 ++ P) := ⟨_, Lib.hid rfl⟩
  have hK : keyT seed index = A2 := by rw [hA2.out, hA1.out, hT.out, hP.out]; rfl
  have st := textS_size seed (by omega)
  have sp := putS_size index 4
  rw [← hT.out] at st
  rw [← hP.out] at sp
  have sA : A1.size ≤ 100011 := by rw [hA1.out, ByteArray.size_append]; show 1 + T.size ≤ _; omega
  have a1 : ∀ W, (Op.stringOp .add ⟨#[2]⟩ T).run Tryd.prog W = .ok (.string A1) W := fun W => by rw [hA1.out]; exact join_text _ _ (by show 1 + T.size ≤ _; omega) W
  have a2 : ∀ W, (Op.stringOp .add A1 P).run Tryd.prog W = .ok (.string A2) W := fun W => by rw [hA2.out]; exact join_text _ _ (by omega) W
  have X1 : Hid (∀ W, Calls Tryd.prog 30 #[.string seed] W fun e w' => e = .returned (.string T) ∧ Below W.heap.size W w') := Lib.hid fun W => by rw [hT.out]; exact text_any seed (by omega) W
  have X2 : Hid (∀ W, Calls Tryd.prog 37 #[.int .u64 index, .int .i64 4] W fun e w' => e = .returned (.string P) ∧ Below W.heap.size W w') := Lib.hid fun W => by rw [hP.out]; exact put_any index 4 W (by omega)
  have hw : IntKind.u64.wrap index = index := by rw [IntKind.wrap_u64]; omega
  rw [hK]
  clear hK st sp sA hs
  go_enter Tryd.func72, Tryd.ntmps72
  go_wp2_with (first
    | (go_at_call 30; (with_reducible refine (X1.out _).mono ?_); rintro e w1 ⟨rfl, hb⟩; have HB := Lib.hid hb; clear hb)
    | (go_at_call 37; (with_reducible refine (X2.out _).mono ?_); rintro e w2 ⟨rfl, hb⟩; have HC := Lib.hid (below_new HB.out hb); clear hb))
  go_ret
  exact ⟨rfl, HC.out⟩
attribute [local go_sem ↓ high] read_at write_at
set_option maxHeartbeats 1000000 in
theorem secret_any (key : ByteArray) (hk : key.size ≤ 200000) (n : Nat) (hn : n < 9223372036854775808) (w : World) (hT : Tab w) :
    Calls Tryd.prog 74 #[.string key, .int .i64 (n : Int)] w fun e w' => e = .returned (.agg (nums .u8 (sumL (key ++ putS n 2)))) ∧ Below w.heap.size w w' := by
  have H0 := Lib.hid (OutH.start w)
  have zZ : Hid ((nums .u8 (List.replicate 32 0)).size = 32) := Lib.hid (by rw [nums_size]; simp)
  obtain ⟨P, hP⟩ : ∃ P, Hid (P = putS n 2) := ⟨_, Lib.hid rfl⟩
  obtain ⟨A, hA⟩ : ∃ A, Hid (A = key ++ P) := ⟨_, Lib.hid rfl⟩
  obtain ⟨C, hC⟩ : ∃ C, Hid (C = nums .u8 (sumL A)) := ⟨_, Lib.hid rfl⟩
  have zC : Hid (C.size = 32) := Lib.hid (by rw [hC.out, nums_size]; exact sumL_length _)
  have oC : Hid (C.all (·.oneCell') = true) := Lib.hid (by rw [hC.out]; exact nums_one _ _)
  have sp := putS_size n 2
  rw [← hP.out] at sp
  have a1 : ∀ W, (Op.stringOp .add key P).run Tryd.prog W = .ok (.string A) W := fun W => by rw [hA.out]; exact join_text _ _ (by omega) W
  have X1 : Hid (∀ W, Calls Tryd.prog 37 #[.int .u64 (n : Int), .int .i64 2] W fun e w' => e = .returned (.string P) ∧ Below W.heap.size W w') := Lib.hid fun W => by rw [hP.out]; exact put_any n 2 W (by omega)
  have X2 : Hid (∀ W, Tab W → Calls Tryd.prog 36 #[.string A] W fun e w' => e = .returned (.agg C) ∧ Below W.heap.size W w') := Lib.hid fun W h => by
    rw [hC.out]; exact sum_any A (by rw [hA.out, ByteArray.size_append]; omega) W h
  have hw : IntKind.u64.wrap (n : Int) = (n : Int) := by rw [IntKind.wrap_u64]; omega
  have HT := Lib.hid hT
  rw [← hP.out, ← hA.out, ← hC.out]
  clear sp hk hT
  go_enter Tryd.func74, Tryd.ntmps74
  go_upto_region 1 with fail
  refine world_gen (fun X => OutH w X) H0.out (fun X HX => ?_)
  have HX := Lib.hid HX
  go_wp2_with (first
    | (go_at_call 37; (with_reducible refine (X1.out _).mono ?_); rintro e w1 ⟨rfl, hb⟩; have HX := Lib.hid (HX.out.next hb); clear hb)
    | (go_at_call 36; have hq := HT.out.next HX.out.2; (with_reducible refine (X2.out _ hq).mono ?_); rintro e w1 ⟨rfl, hb⟩; have HX := Lib.hid (HX.out.next hb); clear hb hq; have s6 := HX.out.1.write zZ.out zC.out oC.out))
  refine bodyPost_ret (results_cell_row rfl _ _ w.heap.size 23 _ (0, 0) _ rfl (HX.out.1.whole _) Tryd.underlying23 rfl (sizeH _ zC.out)) rfl ⟨rfl, below_setRow HX.out.2 (Nat.le_refl _)⟩
set_option maxHeartbeats 1000000 in
theorem hashOf_any (x : List Int) (hx : x.length = 32) (w : World) (hT : Tab w) :
    Calls Tryd.prog 73 #[.agg (nums .u8 x)] w fun e w' => e = .returned (.agg (nums .u8 (pubH x))) ∧ Below w.heap.size w w' := by
  obtain ⟨X, hX⟩ : ∃ X, Hid (X = nums .u8 x) := ⟨_, Lib.hid rfl⟩
  obtain ⟨C, hC⟩ : ∃ C, Hid (C = nums .u8 (pubH x)) := ⟨_, Lib.hid rfl⟩
  obtain ⟨S, hS⟩ : ∃ S, Hid (S = strOfNums x) := ⟨_, Lib.hid rfl⟩
  obtain ⟨A, hA⟩ : ∃ A, Hid (A = ⟨#[3]⟩ ++ S) := ⟨_, Lib.hid rfl⟩
  have zX : Hid (X.size = 32) := Lib.hid (by rw [hX.out, nums_size]; exact hx)
  have zZ : Hid ((nums .u8 (List.replicate 32 0)).size = 32) := Lib.hid (by rw [nums_size]; simp)
  have zC : Hid (C.size = 32) := Lib.hid (by rw [hC.out, nums_size]; exact (pubH_is _).1)
  have oC : Hid (C.all (·.oneCell') = true) := Lib.hid (by rw [hC.out]; exact nums_one _ _)
  have zS : S.size = 32 := by rw [hS.out, strOfNums_size]; exact hx
  have a1 : ∀ W, (Op.stringOp .add ⟨#[3]⟩ S).run Tryd.prog W = .ok (.string A) W := fun W => by rw [hA.out]; exact join_text _ _ (by show 1 + S.size ≤ _; omega) W
  have X1 : Hid (∀ W, Calls Tryd.prog 29 #[.agg X] W fun e w' => e = .returned (.string S) ∧ Below W.heap.size W w') := Lib.hid fun W => by rw [hX.out, hS.out]; exact hash_any x hx W
  have X2 : Hid (∀ W, Tab W → Calls Tryd.prog 36 #[.string A] W fun e w' => e = .returned (.agg C) ∧ Below W.heap.size W w') := Lib.hid fun W h => by
    have := sum_any A (by rw [hA.out, ByteArray.size_append]; show 1 + S.size ≤ _; omega) W h
    rw [hA.out, hS.out] at this
    rw [hC.out, hA.out, hS.out]; exact this
  have H0 := Lib.hid (ArgH.start w X)
  have HT := Lib.hid hT
  rw [← hX.out, ← hC.out]
  clear zS hT hx
  go_enter Tryd.func73, Tryd.ntmps73
  go_upto_region 1 with fail
  refine world_gen (fun Y => ArgH w Y X) H0.out (fun Y HY => ?_)
  have HQ := Lib.hid HY
  have s1 := HQ.out.1.read zX.out
  go_wp2_with (first
    | (go_at_call 29; (with_reducible refine (X1.out _).mono ?_); rintro e w1 ⟨rfl, hb⟩; have HQ := Lib.hid (HQ.out.next hb); clear hb s1)
    | (go_at_call 36; have hq := HT.out.next HQ.out.2.2; (with_reducible refine (X2.out _ hq).mono ?_); rintro e w2 ⟨rfl, hb⟩; have HQ := Lib.hid (HQ.out.next hb); clear hb hq; have s3 := HQ.out.2.1.write zZ.out zC.out oC.out))
  refine bodyPost_ret (results_cell_row rfl _ _ (w.heap.size + 1) 23 _ (0, 0) _ rfl (HQ.out.2.1.whole _) Tryd.underlying23 rfl (sizeH _ zC.out)) rfl ⟨rfl, below_setRow HQ.out.2.2 (by omega)⟩
set_option maxHeartbeats 1000000 in
theorem at_any (d : List Int) (hd : d.length = 32) (i : Nat) (hi : i ≤ 255) (w : World) :
    Calls Tryd.prog 79 #[.agg (nums .u8 d), .int .i64 (i : Int)] w fun e w' => e = .returned (.int .i64 ((2 * i + bitN d i : Nat) : Int)) ∧ Below w.heap.size w w' := by
  obtain ⟨D, hD⟩ : ∃ X, Hid (X = nums .u8 d) := ⟨_, Lib.hid rfl⟩
  obtain ⟨S, hS⟩ : ∃ S, Hid (S = strOfNums d) := ⟨_, Lib.hid rfl⟩
  obtain ⟨b, hb⟩ : ∃ b, Hid (b = bitN d i) := ⟨_, Lib.hid rfl⟩
  have hb1 : b ≤ 1 := by rw [hb.out]; exact bitN_le d i
  obtain ⟨n, hn⟩ : ∃ n, n = 2 * i + b := ⟨_, rfl⟩
  have zD : Hid (D.size = 32) := Lib.hid (by rw [hD.out, nums_size]; exact hd)
  have X1 : Hid (∀ W, Calls Tryd.prog 29 #[.agg D] W fun e w' => e = .returned (.string S) ∧ Below W.heap.size W w') := Lib.hid fun W => by rw [hD.out, hS.out]; exact hash_any d hd W
  have X2 : Hid (∀ W, Calls Tryd.prog 89 #[.string S, .int .i64 (i : Int)] W fun e w' => e = .returned (.int .i64 (b : Int)) ∧ W = w') := Lib.hid fun W => by
    have := bit_any S (i : Int) W (by rw [hS.out, strOfNums_size, hd]; decide) (by omega)
    rwa [hS.out, bitN_is, ← hS.out, ← hb.out] at this
  have H0 : Hid (Row (w.alloc (.cells D 23)) w.heap.size 23 D ∧ Below w.heap.size w (w.alloc (.cells D 23))) := Lib.hid ⟨Row.made _ _ _, (Below.refl _ _).alloc (Nat.le_refl _) _⟩
  have hw1 : IntKind.i64.wrap (2 * (i : Int)) = 2 * (i : Int) := by rw [IntKind.wrap_i64]; omega
  have hw2 : IntKind.i64.wrap (2 * (i : Int) + (b : Int)) = (n : Int) := by rw [IntKind.wrap_i64]; omega
  rw [← hD.out, ← hb.out, ← hn]
  clear hd hi hb hb1 hn
  go_enter Tryd.func79, Tryd.ntmps79
  go_upto_region 1 with fail
  refine world_gen (fun X => Row X w.heap.size 23 D ∧ Below w.heap.size w X) H0.out (fun X HX => ?_)
  have HX := Lib.hid HX
  have s1 := HX.out.1.read zD.out
  go_wp2_with (first
    | (go_at_call 29; (with_reducible refine (X1.out _).mono ?_); rintro e w1 ⟨rfl, hb⟩; have HB := Lib.hid (below_new HX.out.2 hb); clear hb s1)
    | (go_at_call 89; (with_reducible refine (X2.out _).mono ?_); rintro e w2 ⟨rfl, rfl⟩))
  go_ret
  exact ⟨rfl, HB.out⟩
theorem xor_bit (k b : Nat) (hk : k ≤ 255) (hb : b ≤ 1) : bits .xor .i64 ((2 * k + b : Nat) : Int) 1 = ((2 * k + 1 - b : Nat) : Int) := by
  have oa : (BitVec.ofInt 64 ((2 * k + b : Nat) : Int)).toNat = 2 * k + b := by
    rw [BitVec.toNat_ofInt]; show (((2 * k + b : Nat) : Int) % 18446744073709551616).toNat = _; omega
  have ob : (BitVec.ofInt 64 (1 : Int)).toNat = 1 := by decide
  have hx : (2 * k + b) ^^^ 1 = 2 * k + 1 - b := by
    have h1 : ((2 * k + b) ^^^ 1) / 2 = (2 * k + b) / 2 ^^^ 1 / 2 := Nat.xor_div_two
    have h2 : ((2 * k + b) ^^^ 1) % 2 ^ 1 = (2 * k + b) % 2 ^ 1 ^^^ 1 % 2 ^ 1 := Nat.xor_mod_two_pow
    rw [show 1 / 2 = 0 from rfl, Nat.xor_zero] at h1
    rw [show (2 * k + b) % 2 ^ 1 = b by omega] at h2
    rcases (show b = 0 ∨ b = 1 by omega) with rfl | rfl
    · rw [show 0 ^^^ 1 % 2 ^ 1 = 1 from rfl] at h2; omega
    · rw [show 1 ^^^ 1 % 2 ^ 1 = 0 from rfl] at h2; omega
  show IntKind.i64.wrap ((BitVec.ofInt 64 _ ^^^ BitVec.ofInt 64 1).toNat : Int) = _
  rw [BitVec.toNat_xor, oa, ob, hx, IntKind.wrap_i64]
  omega
set_option maxHeartbeats 1000000 in
theorem beside_any (k b : Nat) (hk : k ≤ 255) (hb : b ≤ 1) (w : World) :
    Calls Tryd.prog 80 #[.int .i64 ((2 * k + b : Nat) : Int)] w fun e w' => e = .returned (.int .i64 ((2 * k + 1 - b : Nat) : Int)) ∧ w = w' := by
  have hx := xor_bit k b hk hb
  obtain ⟨n, hn⟩ : ∃ n, n = 2 * k + b := ⟨_, rfl⟩
  obtain ⟨m, hm⟩ : ∃ m, m = 2 * k + 1 - b := ⟨_, rfl⟩
  rw [← hn, ← hm] at hx ⊢
  clear hn hm hk hb
  go_enter Tryd.func80, Tryd.ntmps80
  go_wp2
  go_ret
  exact ⟨rfl, rfl⟩
end Go.Proofs.YtpndccoikhejgaaDoor
namespace Go.Proofs.YtpndccoikhejgaaDoor
open Go.RowKit Go.Great
set_option linter.unusedVariables false
set_option maxRecDepth 100000

/-- The public hashes so far: the first k, zero behind them. -/
def pubM (seed : ByteArray) (index k : Nat) : List (List Int) := (List.range 512).map fun j => if j < k then pubAt seed index j else zeroL
theorem pubM_length (seed : ByteArray) (index k : Nat) : (pubM seed index k).length = 512 := by simp [pubM]
theorem pubM_get (seed : ByteArray) (index k j : Nat) (h : j < 512) : (pubM seed index k).getD j [] = if j < k then pubAt seed index j else zeroL := by simp [pubM, List.getD, h]
theorem pubM_done (seed : ByteArray) (index : Nat) : pubM seed index 512 = pubN seed index 512 := by
  unfold pubM pubN
  refine List.map_congr_left (fun j hj => ?_)
  have hj : j < 512 := by simpa using hj
  rw [if_pos hj]
theorem pubM_step (seed : ByteArray) (index k : Nat) : (pubM seed index k).set k (pubAt seed index k) = pubM seed index (k + 1) := by
  refine list_getD_ext (by simp [pubM_length]) (fun j hj => ?_)
  have hj : j < 512 := by simpa [pubM_length] using hj
  rw [setL_getD _ _ _ _ (by rw [pubM_length]; exact hj), pubM_get _ _ _ _ hj, pubM_get _ _ _ _ hj]
  by_cases h1 : j = k
  · rw [if_pos h1, if_pos (by omega), h1]
  · rw [if_neg h1]
    by_cases h2 : j < k
    · rw [if_pos h2, if_pos (by omega)]
    · rw [if_neg h2, if_neg (by omega)]
/-- What Public holds: its list. -/
structure PubH (w wr : World) (g : Nat) (ms : List (List Int)) : Prop where
  lst : HL wr (g + 1) (some ⟨g, 0, none⟩) ms
  room : ∀ k, k < 512 → wr.there g (k * 32) 32
  below : Below w.heap.size w wr
  lo : w.heap.size ≤ g
  size : g + 1 ≤ wr.heap.size
section
variable {w wr w1 : World} {g : Nat} {ms : List (List Int)}
theorem PubH.next (h : PubH w wr g ms) (hb : Below wr.heap.size wr w1) : PubH w w1 g ms :=
  ⟨h.lst.next hb h.size, fun k hk => there_next (h.room k hk) hb (by have := h.size; omega), below_new h.below hb, h.lo, Nat.le_trans h.size hb.size⟩
theorem PubH.put (h : PubH w wr g ms) (k : Nat) (hk : k < 512) (hm : ms.length = 512) (x : List Int) (hx : x.length = 32) : PubH w (wr.setCells g (k * 32) (nums .u8 x).toList) g (ms.set k x) :=
  have hb : Below g wr (wr.setCells g (k * 32) (nums .u8 x).toList) := below_setCells_w (Nat.le_refl _) _ _ _
  ⟨h.lst.set k (by rw [hm]; exact hk) x hx (h.room k hk), fun j hj => World.there_setCells (h.room j hj) _ _ _, h.below.trans (hb.mono h.lo), h.lo, by rw [size_setCells]; exact h.size⟩
theorem PubH.list (h : PubH w wr g ms) : HL wr wr.heap.size (some ⟨g, 0, none⟩) ms := h.lst.more h.size
end
theorem PubH.start {w wx w1 : World} {seed : ByteArray} {index : Nat} (h3 : Below w.heap.size w wx)
    (h4 : w1.ownsRow wx.heap.size 23 32 (.slice (some ⟨wx.heap.size, 0, none⟩) 512 512) 512 (madeCells (Value.agg (nums .u8 (List.replicate 32 0))).cells (512 * 32)).toList) (h5 : wx.grownBy w1 none) : PubH w w1 wx.heap.size (pubM seed index 0) := by
  have hb : Below wx.heap.size wx w1 := (Below.refl _ _).grown h5 (Nat.le_refl _) (fun k hk => by cases hk)
  refine ⟨?_, fun k hk => own_room h4 k hk, below_new h3 hb, h3.size, by have : wx.heap.size < w1.heap.size := (h4.lt _ rfl).2; omega⟩
  intro i hi
  rw [pubM_length] at hi
  refine ⟨_, rfl, by show wx.heap.size < _; omega, fun j hj => ?_⟩
  rw [pubM_get _ _ _ _ hi, if_neg (by omega)]
  have e := h4.cells (g := wx.heap.size) rfl (i * 32 + j) (.int .u8 0) (zero_cell _ rfl _ _ (by omega))
  rw [e]
  unfold zeroL
  rw [List.getD_eq_getElem?_getD, List.getElem?_replicate, if_pos hj]; rfl
attribute [local go_sem ↓ high] read_at write_at
set_option maxHeartbeats 8000000 in
theorem lpublic_some (seed : ByteArray) (hs : seed.size ≤ 100000) (index : Nat) (hi : index ≤ 2147483647) (w : World) (hT : Tab w) :
    Calls Tryd.prog 51 #[.string seed, .int .i64 (index : Int)] w (GivesP w (pubN seed index 512)) := by
  obtain ⟨i0, hi0, hz0, hz1, hz2⟩ := info_parts infoHash
  have KY : Hid (∀ W, Calls Tryd.prog 71 #[.int .i64 (index : Int)] W fun e w' => e = .returned (.bool true) ∧ W = w') := Lib.hid fun W => isKey_yes _ (by omega) W
  obtain ⟨T, hTx⟩ : ∃ T, Hid (T = keyT seed index) := ⟨_, Lib.hid rfl⟩
  have X1 : Hid (∀ W, Calls Tryd.prog 72 #[.string seed, .int .i64 (index : Int)] W fun e w' => e = .returned (.string T) ∧ Below W.heap.size W w') := Lib.hid fun W => by
    rw [hTx.out]; exact keyText_any seed hs index (by omega) W
  have SE : Hid (∀ (W : World) (k : Nat), k < 512 → Tab W → Calls Tryd.prog 74 #[.string T, .int .i64 (k : Int)] W fun e w' => e = .returned (.agg (nums .u8 (secN seed index k))) ∧ Below W.heap.size W w') := Lib.hid fun W k hk h => by
    have := keyT_size seed index hs
    rw [hTx.out]; exact secret_any (keyT seed index) (by omega) k (by omega) W h
  have HT := Lib.hid hT
  clear hs hi hT
  go_enter Tryd.func51, Tryd.ntmps51
  go_upto_region 5 with (first
    | (go_at_call 71; (with_reducible refine (KY.out _).mono ?_); rintro e w1 ⟨rfl, rfl⟩)
    | (go_at_call 72; (with_reducible refine (X1.out _).mono ?_); rintro e w1 ⟨rfl, hb⟩; have HB := Lib.hid hb; clear hb)
    | (at_make; refine wpList_make_full _ rfl _ _ 27 rfl w1.heap.size 23 i0 _ 32 Tryd.underlying27 hi0 hz0 hz1 _ _ _ _ 512 rfl rfl rfl rfl (by rw [hz2]; decide) (by decide) (Nat.le_refl _) ?_; intro w2 hown hgr; have HK : Hid (PubH w w2 w1.heap.size (pubM seed index 0)) := Lib.hid (PubH.start HB.out hown hgr); clear hown hgr HB))
  obtain ⟨g, hg⟩ : ∃ g, g = w1.heap.size := ⟨_, rfl⟩
  rw [← hg] at HK ⊢
  clear hg
  go_wp2
  go_loopw [15] (fun s15 wr => ∃ (k : Nat), s15 = .int .i64 ((k : Nat) : Int) ∧ k ≤ 512 ∧ Hid (PubH w wr g (pubM seed index k))) (fun s15 _ => (512 - intOf s15).toNat)
  case atStart => exact ⟨0, rfl, by omega, HK⟩
  case round =>
    clear HK
    obtain ⟨k, rfl, hk, HQ⟩ := hrel
    by_cases hlt : k < 512
    · have hwk : IntKind.i64.wrap (k : Int) = (k : Int) := by rw [IntKind.wrap_i64]; omega
      have hlt2 : (k : Int) < 512 := by omega
      have hkb : Hid (k < 512) := Lib.hid hlt
      obtain ⟨X, hX⟩ : ∃ X, Hid (X = nums .u8 (secN seed index k)) := ⟨_, Lib.hid rfl⟩
      obtain ⟨y, hy⟩ : ∃ y, Hid (y = pubAt seed index k) := ⟨_, Lib.hid rfl⟩
      obtain ⟨C, hC⟩ : ∃ C, Hid (C = nums .u8 y) := ⟨_, Lib.hid rfl⟩
      have hy32 : Hid (y.length = 32) := Lib.hid (by rw [hy.out]; exact (pubH_is _).1)
      have zC : Hid (C.size = 32) := Lib.hid (by rw [hC.out, nums_size]; exact hy32.out)
      have oC : Hid (C.all (·.oneCell') = true) := Lib.hid (by rw [hC.out]; exact nums_one _ _)
      have X2 : Hid (∀ W, Tab W → Calls Tryd.prog 74 #[.string T, .int .i64 (k : Int)] W fun e w' => e = .returned (.agg X) ∧ Below W.heap.size W w') := Lib.hid fun W h => by
        rw [hX.out]; exact SE.out W k hkb.out h
      have X3 : Hid (∀ W, Tab W → Calls Tryd.prog 73 #[.agg X] W fun e w' => e = .returned (.agg C) ∧ Below W.heap.size W w') := Lib.hid fun W h => by
        have := hashOf_any (secN seed index k) (secN_is _ _ _).1 W h
        rw [secN_pub, ← hy.out] at this
        rw [hX.out, hC.out]; exact this
      have NM : Hid ((pubM seed index k).set k y = pubM seed index (k + 1)) := Lib.hid (by rw [hy.out]; exact pubM_step seed index k)
      have hz6 := sizeH _ zC.out
      clear hy
      go_upto_region 9 with (first
        | (go_at_call 74; (with_reducible refine (X2.out _ (HT.out.next HQ.out.below)).mono ?_); rintro e w1 ⟨rfl, hb⟩; have H1 := Lib.hid (HQ.out.next hb); clear hb)
        | (go_at_call 73; (with_reducible refine (X3.out _ (HT.out.next H1.out.below)).mono ?_); rintro e w3 ⟨rfl, hb⟩; have H3 := Lib.hid (H1.out.next hb); clear hb)
        | (refine wpList_store_mid rfl 23 _ _ rfl g (k * 32) C rfl rfl (by rw [zC.out]; exact H3.out.room k hkb.out) hz6 oC.out ?_))
      have H4 : Hid (PubH w (w3.setCells g (k * 32) C.toList) g (pubM seed index (k + 1))) := Lib.hid (by rw [← NM.out, hC.out]; exact H3.out.put k hkb.out (pubM_length _ _ _) y hy32.out)
      clear H1 H3 HQ
      go_wp2
      go_roundw
      case rel => exact ⟨k + 1, by go_num, by omega, H4⟩
      case measure => simp [intOf]; omega
    · have hk9 : k = 512 := by omega
      subst hk9
      have HE : Hid (PubH w wr g (pubN seed index 512)) := Lib.hid (by rw [← pubM_done]; exact HQ.out)
      clear HQ hlt
      go_wp2
      go_ret
      exact ⟨some ⟨g, 0, none⟩, 512, by rw [pubN_length]; rfl, by rw [pubN_length]; exact Nat.le_refl _, by decide, HE.out.list, HE.out.below⟩
set_option maxHeartbeats 1000000 in
theorem lpublic_any : PublicSays := by
  intro seed index w hT hs hx
  by_cases h : index < 0 ∨ 2147483647 < index
  · rw [pubF_no h]
    have KY : Hid (∀ W, Calls Tryd.prog 71 #[.int .i64 index] W fun e w' => e = .returned (.bool false) ∧ W = w') := Lib.hid fun W => isKey_no _ h W
    clear h hs hx
    go_enter Tryd.func51, Tryd.ntmps51
    go_wp2_with (go_at_call 71; (with_reducible refine (KY.out _).mono ?_); rintro e w1 ⟨rfl, rfl⟩)
    go_ret
    exact ⟨none, 0, rfl, Nat.le_refl _, by decide, HL.nil _ _ _, Below.refl _ _⟩
  · obtain ⟨I, rfl⟩ : ∃ I : Nat, index = I := ⟨index.toNat, by omega⟩
    rw [pubF_ok (by omega)]
    exact lpublic_some seed hs I (by omega) w hT
end Go.Proofs.YtpndccoikhejgaaDoor
namespace Go.Proofs.YtpndccoikhejgaaDoor
open Go.RowKit Go.Great
set_option linter.unusedVariables false
set_option maxRecDepth 100000

/-- One's own bytes, or the row of a constant text, that is full. -/
def MarkB (w : World) (B : Nat) (v : Value) (n : Nat) (bs : List Int) : Prop :=
  w.ownsRow B 5 1 v n (cellsB bs) ∨ ∃ g, v = .slice (some ⟨g, 0, none⟩) n n ∧ B ≤ g ∧ g < w.heap.size ∧ bs.length = n ∧ BytesAt w ⟨g, 0, none⟩ bs
theorem MarkB.next {w w1 : World} {B : Nat} {v : Value} {n : Nat} {bs : List Int} (h : MarkB w B v n bs) (hb : Below w.heap.size w w1) : MarkB w1 B v n bs := by
  rcases h with h | ⟨g, h1, h2, h3, h4, h5⟩
  · exact .inl (own_below h hb)
  · refine .inr ⟨g, h1, h2, Nat.lt_of_lt_of_le h3 hb.size, h4, fun j hj => ?_⟩
    have e : w1.heap[((⟨g, 0, none⟩ : Addr).add j).block]? = w.heap[((⟨g, 0, none⟩ : Addr).add j).block]? := by rw [add_flat]; exact hb.block g h3
    rw [World.cell?_of_block e]; exact h5 j hj
theorem MarkB.lt {w : World} {B : Nat} {v : Value} {n : Nat} {bs : List Int} (h : MarkB w B v n bs) : ∀ k, v.ownBlock = some k → B ≤ k ∧ k < w.heap.size := by
  rcases h with h | ⟨g, rfl, h2, h3, h4, h5⟩
  · exact h.lt
  · intro k hk
    simp [Value.ownBlock] at hk
    subst hk
    exact ⟨h2, h3⟩
/-- Such a row as it is made. -/
theorem MarkB.made (w : World) (B : Nat) (hB : B ≤ w.heap.size) (bs : List Int) (fz : Nat × Nat) : MarkB (w.alloc (.cells (nums .u8 bs) 5 fz)) B (.slice (some ⟨w.heap.size, 0, none⟩) bs.length bs.length) bs.length bs := by
  refine .inr ⟨w.heap.size, rfl, hB, by simp, rfl, fun j hj => ?_⟩
  rw [add_flat, cell_of_row _ w.heap.size j (nums .u8 bs) 5 fz (heap_alloc_new w _)]
  exact nums_get .u8 bs j hj
theorem conv_const (W : World) (n c : Nat) (C : Array Value) : (convert 48 48 (.slice (some ⟨W.heap.size, 0, none⟩) n c)).run Tryd.prog (W.alloc (.cells C 5)) = .ok (.slice (some ⟨W.heap.size, 0, none⟩) n c) (W.alloc (.cells C 5 (C.size, C.size + 1))) :=
  Lib.run_convert_bytes_const W 48 5 C n c Tryd.underlying48 Tryd.underlying5
theorem run_appendM {ty : TypeId} {w : World} (B : Nat) (v : Value) (n : Nat) (bs us : List Int) (hown : MarkB w B v n bs) (ad : Addr) (m c : Nat) (hm : us.length = m) (h0 : 0 < m) (hU : BytesAt w ad us) (hsm : n + m ≤ 100000) (hB : B ≤ w.heap.size) :
    ∃ v' w', (Builtin.append_ #[48, 48] ty #[v, .slice (some ad) m c]).run Tryd.prog w = .ok v' w' ∧ w'.ownsRow B 5 1 v' (n + m) (cellsB (bs ++ us)) ∧ w.grownBy w' v.ownBlock := by
  obtain ⟨i0, hi, hz0, hz1, hz2⟩ := info_parts info_byte
  subst hm
  have hnews : ∀ (l : List Int) (b : Addr), BytesAt w b l → ∀ j u, (cellsB l)[j]? = some u → w.cell? (b.add j) = some u := fun l b hl j u hj => by
    have hj2 : j < l.length := by
      rcases Nat.lt_or_ge j l.length with h' | h'
      · exact h'
      · rw [List.getElem?_eq_none (by rw [cellsB_length]; exact h')] at hj; cases hj
    rw [cellsB_get l j hj2] at hj
    cases hj
    exact hl j hj2
  rcases hown with hown | ⟨g, rfl, h2, h3, h4, h5⟩
  · obtain ⟨v', w', hr, h1, h2, _⟩ := run_append_own (P := Tryd.prog) w B 48 ty 5 i0 _ 1 1 Tryd.underlying48 hi hz0 hz1 hz2 rfl (by decide) v n (cellsB bs) hown ad us.length c (cellsB us) (by rw [cellsB_length, Nat.mul_one]) (hnews us ad hU) (cellsB_one us) (by unfold maxLen; omega) (by omega) hB
    exact ⟨v', w', hr, by rw [cellsB_app]; exact h1, h2⟩
  · subst h4
    have hr := run_append_grow (P := Tryd.prog) w 48 ty 5 i0 _ Tryd.underlying48 hi hz0 ⟨g, 0, none⟩ bs.length bs.length (cellsB bs) (by rw [cellsB_length, hz1, Nat.mul_one]) (hnews bs _ h5) ad us.length c (cellsB us) (by rw [cellsB_length, hz1, Nat.mul_one]) (hnews us ad hU) (by omega) (by omega) (by rw [hz2]; exact growslice_fits (by omega) (by omega))
    have hge := grownCap_ge w (bs.length + us.length) bs.length 5
    have hcm := grownCap_le_maxLen w (bs.length + us.length) bs.length 5 (by unfold maxLen; omega)
    refine ⟨_, _, hr, ⟨by rw [cellsB_length, List.length_append, Nat.mul_one], .inr ⟨w.heap.size, _, _, rfl, hB, heap_alloc_new w.drew _, hge, hcm, ?_, ?_⟩⟩, ⟨rfl, rfl, rfl, by simp, fun k hk _ => heap_alloc_old w.drew _ hk⟩⟩
    · have hz3 : (Value.int IntKind.u8 0).cells.size = 1 := rfl
      simp only [Array.size_append, List.size_toArray, size_zeroCells, hz3, cellsB_length, Nat.mul_one]
      omega
    · simp only [Array.toList_append, List.append_assoc]
      rw [← List.append_assoc, ← cellsB_app, Nat.mul_one, show bs.length + us.length = (cellsB (bs ++ us)).length by rw [cellsB_length, List.length_append]]
      exact List.take_left
theorem wpList_appendM {ops : Array Oper} {rest : List Oper} {o : Oper} {a : Act} {w : World} {Q : Exit → Act → World → Prop} (hgd : o.guard = none) (s x : Operand) (ho : o.op = .call { callee := .builtin .append, args := #[s, x], argTypes := #[48, 48] })
    (B : Nat) (v : Value) (n : Nat) (bs us : List Int) (hsv : a.eval s = v) (hown : MarkB w B v n bs) (ad : Addr) (m c : Nat) (hx : a.eval x = .slice (some ad) m c) (hm : us.length = m) (h0 : 0 < m) (hU : BytesAt w ad us) (hsm : n + m ≤ 100000) (hB : B ≤ w.heap.size)
    (h : ∀ v' w', w'.ownsRow B 5 1 v' (n + m) (cellsB (bs ++ us)) → w.grownBy w' v.ownBlock → wpList Tryd.prog ops Q rest (a.put o.dst v') w') : wpList Tryd.prog ops Q (o :: rest) a w := by
  refine wpList_plain hgd fun K hK => ?_
  obtain ⟨v', w', hr, h2, h3⟩ := run_appendM (ty := o.type) B v n bs us hown ad m c hm h0 hU hsm hB
  unfold Oper.wp execOp
  simp only [ho, resolve, invoke, builtin, Sem.run_bind, Sem.run_pure, Result.andThen_ok, List.map_toArray, List.map_cons, List.map_nil, hsv, hx, hr]
  exact hK _ _ (h v' w' h2 h3)
end Go.Proofs.YtpndccoikhejgaaDoor
namespace Go.Proofs.YtpndccoikhejgaaDoor
open Go.RowKit Go.Great
set_option linter.unusedVariables false
set_option maxRecDepth 100000

/-- What Leaf holds: its result, and the bytes so far. -/
structure KyH (w wr : World) (v : Value) (n : Nat) (bs : List Int) : Prop where
  out : Row wr w.heap.size 23 (nums .u8 (List.replicate 32 0))
  own : MarkB wr (w.heap.size + 1) v n bs
  below : Below w.heap.size w wr
theorem KyH.next {w wr w1 : World} {v : Value} {n : Nat} {bs : List Int} (h : KyH w wr v n bs) (hb : Below wr.heap.size wr w1) : KyH w w1 v n bs := ⟨h.out.next hb, h.own.next hb, below_new h.below hb⟩
theorem KyH.put {w wr w1 : World} {v v' : Value} {n m : Nat} {bs us : List Int} (h : KyH w wr v n bs) (h1 : w1.ownsRow (w.heap.size + 1) 5 1 v' m (cellsB us)) (hg : wr.grownBy w1 v.ownBlock) : KyH w w1 v' m us :=
  ⟨h.out.grown hg (fun e => by have := (h.own.lt _ e.symm).1; omega), .inl h1, h.below.grown hg h.below.size (fun k hk => by have := (h.own.lt k hk).1; omega)⟩
theorem KyH.start {w wx : World} (hr : Row wx w.heap.size 23 (nums .u8 (List.replicate 32 0))) (hb : Below w.heap.size w wx) (fz : Nat × Nat) : KyH w (wx.alloc (.cells (nums .u8 [4]) 5 fz)) (.slice (some ⟨wx.heap.size, 0, none⟩) 1 1) 1 [4] :=
  have hs := hr.lt
  ⟨hr.alloc _, MarkB.made wx _ (by omega) [4] fz, hb.alloc hb.size _⟩
attribute [local go_sem ↓ high] read_at write_at
set_option maxHeartbeats 8000000 in
theorem lkey_any : KeySays := by
  intro ls A c w hT hh hA hc hcm
  obtain ⟨n, hn⟩ : ∃ n, Hid (n = ls.length) := ⟨_, Lib.hid rfl⟩
  have H0 := Lib.hid (OutH.start w)
  have zZ : Hid ((nums .u8 (List.replicate 32 0)).size = 32) := Lib.hid (by rw [nums_size]; simp)
  have oZ : Hid ((nums .u8 (List.replicate 32 0)).all (·.oneCell') = true) := Lib.hid (nums_one _ _)
  have hZ := sizeH _ zZ.out
  have HT := Lib.hid hT
  have hm : n ≤ 9223372036854775807 := by rw [hn.out]; unfold maxLen at hcm; omega
  rw [← hn.out]
  by_cases h5 : n = 512
  · have d1 : ((n : Int) != 512) = false := by rw [h5]; rfl
    have hl : Hid (ls.length = 512) := Lib.hid (by rw [← hn.out]; exact h5)
    have HF : Hid (keyF ls = sumL (strOfNums (4 :: ls.flatten))) := Lib.hid (by rw [keyF_ok hl.out, str_cons]; rfl)
    obtain ⟨C, hC⟩ : ∃ C, Hid (C = nums .u8 (keyF ls)) := ⟨_, Lib.hid rfl⟩
    have zC : Hid (C.size = 32) := Lib.hid (by rw [hC.out, nums_size]; exact (keyF_is _).1)
    have oC : Hid (C.all (·.oneCell') = true) := Lib.hid (by rw [hC.out]; exact nums_one _ _)
    obtain ⟨S, hS⟩ : ∃ S, Hid (S = strOfNums (4 :: ls.flatten)) := ⟨_, Lib.hid rfl⟩
    have X1 : Hid (∀ W, Tab W → Calls Tryd.prog 36 #[.string S] W fun e w' => e = .returned (.agg C) ∧ Below W.heap.size W w') := Lib.hid fun W h => by
      rw [hC.out, HF.out, ← hS.out]
      exact sum_any S (by rw [hS.out, strOfNums_size, List.length_cons, flat_size hh, hl.out]; decide) W h
    obtain ⟨ad, rfl⟩ := hA.some 0 (by rw [hl.out]; decide)
    have HA := Lib.hid hA
    have HH := Lib.hid hh
    rw [← hC.out]
    rw [h5]
    clear hA hh hm hn h5 d1 hT hc hcm
    go_enter Tryd.func50, Tryd.ntmps50
    go_upto_region 1 with fail
    refine world_gen (fun X => OutH w X) H0.out (fun X HX => ?_)
    have HK := Lib.hid (KyH.start HX.1 HX.2 (1, 2))
    clear HX
    have c0 := fun W n c C => conv_const W n c C
    go_wp2
    go_loopw [3, 14] (fun s3 s14 wr => ∃ (k : Nat) (v : Value), s14 = .int .i64 ((k : Nat) : Int) ∧ v = s3 ∧ k ≤ 512 ∧ Hid (KyH w wr v (1 + 32 * k) (4 :: (ls.take k).flatten))) (fun _ s14 _ => (512 - intOf s14).toNat)
    case atStart => exact ⟨0, _, rfl, rfl, by omega, HK⟩
    case round =>
      clear HK
      obtain ⟨k, v, rfl, rfl, hk, HQ⟩ := hrel
      by_cases hlt : k < 512
      · have hkl : k < ls.length := by rw [hl.out]; exact hlt
        have hwk : IntKind.i64.wrap (k : Int) = (k : Int) := by rw [IntKind.wrap_i64]; omega
        have k0 : (0 : Int) ≤ (k : Int) := by omega
        have k1 : (k : Int) < 512 := by omega
        obtain ⟨x, hx⟩ : ∃ x, Hid (x = ls.getD k []) := ⟨_, Lib.hid rfl⟩
        obtain ⟨X, hX⟩ : ∃ X, Hid (X = nums .u8 x) := ⟨_, Lib.hid rfl⟩
        have h32 : Hid (x.length = 32) := Lib.hid (by rw [hx.out]; exact (hashes_at HH.out k hkl).1)
        have zX : Hid (X.size = 32) := Lib.hid (by rw [hX.out, nums_size]; exact h32.out)
        have oX : Hid (X.all (·.oneCell') = true) := Lib.hid (by rw [hX.out]; exact nums_one _ _)
        have l1 : (readAt (.pointer (some (ad.add (k * 32))))).run Tryd.prog wr = .ok (.agg X) wr := by
          rw [hX.out, hx.out]; exact (HA.out.next HQ.out.below (Nat.le_refl _)).read HH.out k hkl
        have HN : Hid (4 :: (ls.take (k + 1)).flatten = (4 :: (ls.take k).flatten) ++ x) := Lib.hid (by
          rw [hx.out, List.take_succ_eq_append_getElem hkl, List.flatten_append, List.getD_eq_getElem?_getD, List.getElem?_eq_getElem hkl]; simp)
        obtain ⟨w2, s2, hr2, hb2, hz2⟩ := made_write wr X zX.out oX.out
        have H2 := Lib.hid (HQ.out.next hb2)
        have HB : Hid (BytesAt w2 ⟨wr.heap.size, 0, none⟩ x) := Lib.hid (Row.bytes (by rw [← hX.out]; exact hr2))
        clear hkl hr2 hb2 hz2
        go_upto_region 7 with fail
        clear s2 l1
        go_wp2_with (at_builtin; refine wpList_appendM rfl (.tmp 18) (.tmp 19) rfl (w.heap.size + 1) _ _ _ _ rfl H2.out.own ⟨wr.heap.size, 0, none⟩ 32 32 rfl h32.out (by decide) HB.out (by omega) (by have := H2.out.out.lt; omega) ?_)
        intro v' w1 hown hg
        have HQ2 : Hid (KyH w w1 v' (1 + 32 * (k + 1)) (4 :: (ls.take (k + 1)).flatten)) := Lib.hid (by rw [HN.out, show 1 + 32 * (k + 1) = 1 + 32 * k + 32 by omega]; exact H2.out.put hown hg)
        clear hown hg
        go_wp2
        go_roundw
        case rel => exact ⟨k + 1, _, by go_num, rfl, by omega, HQ2⟩
        case measure => simp [intOf]; omega
      · have hk9 : k = 512 := by omega
        have HQ2 : Hid (KyH w wr v 16385 (4 :: ls.flatten)) := Lib.hid (by
          have := HQ.out
          rw [hk9, List.take_of_length_le (by rw [hl.out]; exact Nat.le_refl _)] at this
          exact this)
        clear HQ
        subst hk9
        have c1 : (convert 48 9 v).run Tryd.prog wr = .ok (.string S) wr := by
          rw [hS.out]
          rcases HQ2.out.own with h | ⟨g, h1, _, _, h4, h5⟩
          · exact convB h (by decide)
          · subst h1
            exact run_convert_bytes_arg wr 48 5 Tryd.underlying48 Tryd.underlying5 g 0 16385 16385 (4 :: ls.flatten) h4 (fun i hi => by have := h5 i (by omega); rw [add_flat] at this; rw [Nat.zero_add]; exact this) 9 Tryd.underlying9
        go_wp2_with (go_at_call 36; (with_reducible refine (X1.out _ (HT.out.next HQ2.out.below)).mono ?_); rintro e w1 ⟨rfl, hb⟩; have HR := Lib.hid (HQ2.out.out.next hb); have HB := Lib.hid (below_new HQ2.out.below hb); clear hb c1; have s6 := HR.out.write zZ.out zC.out oC.out)
        refine bodyPost_ret (results_cell_row rfl _ _ w.heap.size 23 _ (0, 0) _ rfl (HR.out.whole _) Tryd.underlying23 rfl (sizeH _ zC.out)) rfl ⟨rfl, below_setRow HB.out (Nat.le_refl _)⟩
  · have d1 : ((n : Int) != 512) = true := by simp; omega
    have HF : Hid (keyF ls = zeroL) := Lib.hid (keyF_no (by rw [← hn.out]; exact h5))
    clear hA hh hm h5 hT hc hcm
    go_enter Tryd.func50, Tryd.ntmps50
    go_upto_region 1 with fail
    refine world_gen (fun X => OutH w X) H0.out (fun X HX => ?_)
    have HX := Lib.hid HX
    go_wp2_with (refine wpList_store_row rfl 23 _ _ rfl w.heap.size (nums .u8 (List.replicate 32 0)) rfl rfl 23 _ HX.out.1 hZ (by rw [zZ.out]) oZ.out ?_)
    refine bodyPost_ret (results_cell_row rfl _ _ w.heap.size 23 _ (0, 0) _ rfl (HX.out.1.whole _) Tryd.underlying23 rfl hZ) rfl ⟨by rw [HF.out]; rfl, below_setRow HX.out.2 (Nat.le_refl _)⟩
end Go.Proofs.YtpndccoikhejgaaDoor
